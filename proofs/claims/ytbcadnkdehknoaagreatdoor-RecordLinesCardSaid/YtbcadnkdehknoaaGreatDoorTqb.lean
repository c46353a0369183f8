/-
  Layer 4: rows of strings of the call's own; strings.Join of one.
-/
import Derived.Test.YtbcadnkdehknoaaGreatDoorTqa
import Derived.Test.YtbcadnkdehknoaaGreatDoorTfu
namespace Go.Proofs.YtbcadnkdehknoaaGreatDoor
open Go Go.RowKit
set_option linter.unusedVariables false

def strs (xs : List (List UInt8)) : List Value := xs.map fun x => .string ⟨x.toArray⟩
theorem strs_length (xs : List (List UInt8)) : (strs xs).length = xs.length := by simp [strs]
theorem strs_append (xs ys : List (List UInt8)) : strs (xs ++ ys) = strs xs ++ strs ys := by simp [strs]
theorem strs_one (xs : List (List UInt8)) : ∀ u ∈ strs xs, u.oneCell' = true := by
  intro u hu
  obtain ⟨x, _, rfl⟩ := List.mem_map.1 hu
  rfl
theorem new_str (w : World) (E : TypeId) (x : List UInt8) : Rd (w.alloc (.cells #[.string ⟨x.toArray⟩] E)) (w.heap.size + 1) 1 (some ⟨w.heap.size, 0, none⟩) 1 (strs [x]) := by
  refine ⟨rfl, fun _ => ⟨_, rfl, by simp, fun j u hu => ?_⟩⟩
  have hr := heap_alloc_new w (.cells #[.string ⟨x.toArray⟩] E)
  have e : (⟨w.heap.size, 0, none⟩ : Addr).add j = ⟨w.heap.size, j, none⟩ := by unfold Addr.add; split <;> simp_all
  rw [e, cell_of_row _ _ j _ _ _ hr]
  have hv : strs [x] = [.string ⟨x.toArray⟩] := rfl
  rw [hv] at hu
  rw [← hu]
  simp
theorem join_any (b n c : Nat) (E : TypeId) (A : Option Addr) (xs : List (List UInt8)) (sep : List UInt8) (w : World) (h : w.ownsRow b E 1 (.slice A n c) n (strs xs)) (hx : n ≤ 1000000) (hl : (Lib.join xs sep).length ≤ 1000000) :
    Calls Tryz.prog 76 #[.slice A n c, .string ⟨sep.toArray⟩] w fun e w' => e = .returned (.string ⟨(Lib.join xs sep).toArray⟩) ∧ Below w.heap.size w w' := by
  have hn : xs.length = n := by have := h.1; rw [strs_length] at this; omega
  rcases Nat.eq_zero_or_pos n with h0 | h0
  · subst h0
    obtain rfl : xs = [] := List.eq_nil_of_length_eq_zero hn
    exact (Tryz.strings_Join_none A c ⟨sep.toArray⟩ w).mono fun e w' ⟨he, hw⟩ => ⟨he, hw ▸ Below.refl _ _⟩
  · have hcap := (own_cap h).1
    have hlies := (Rd.own h).lies h0
    obtain ⟨g, cap, hv, _, hlt⟩ := h.form h0
    have hA : A = some ⟨g, 0, none⟩ := by injection hv
    subst hA
    obtain ⟨ad, e, hb, hc⟩ := hlies
    injection e with e
    subst e
    have e2 : (xs.map fun x => (⟨x.toArray⟩ : ByteArray)).map (·.data.toList) = xs := by rw [List.map_map]; exact (List.map_congr_left fun x _ => rfl).trans (List.map_id _)
    have J := Tryz.strings_Join g 0 c (xs.map fun x => ⟨x.toArray⟩) ⟨sep.toArray⟩ w (fun j x hx => by
      have h1 := hc j (.string x) (by unfold strs; rw [List.getElem?_map] at hx ⊢; cases h : xs[j]? with
        | none => rw [h] at hx; cases hx
        | some y => rw [h] at hx; injection hx with hx; rw [← hx]; rfl)
      rw [← h1]
      congr 1
      unfold Addr.add
      split <;> simp_all) hlt (by rw [List.length_map]; omega) (by rw [List.length_map]; omega) (by show (Lib.join _ sep).length ≤ _; rw [e2]; omega)
    have J2 : Calls Tryz.prog 76 #[.slice (some ⟨g, 0, none⟩) (xs.map fun x => (⟨x.toArray⟩ : ByteArray)).length c, .string ⟨sep.toArray⟩] w fun e w' => e = .returned (.string ⟨(Lib.join ((xs.map fun x => (⟨x.toArray⟩ : ByteArray)).map (·.data.toList)) sep).toArray⟩) ∧ Below w.heap.size w w' := J
    rw [e2, List.length_map, hn] at J2
    exact J2

end Go.Proofs.YtbcadnkdehknoaaGreatDoor
