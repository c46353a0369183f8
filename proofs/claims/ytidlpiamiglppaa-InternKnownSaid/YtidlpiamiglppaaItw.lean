/-
  Layer 7: tables of names: add of the program.
-/
import Derived.Test.YtidlpiamiglppaaItv
namespace Go.Proofs.Ytidlpiamiglppaa
open Go Go.RowKit Go.Maps
set_option linter.unusedVariables false

theorem Us.nm {l : List PP} (h : Us l) (z : Zs l) : ∀ q ∈ l, NmU q := fun q hq => ⟨(h q hq).1, z q hq⟩

/-- How add ends. -/
def AddEnd (s : Sk) (l xs : List PP) (S : Nat → Prop) (p : Nat) (w : World) (e : Ending) (w' : World) : Prop := e = .returned (.int .i64 (lastP l xs)) ∧ TabEnd s (addL l xs) S p w w'

set_option maxRecDepth 100000 in
set_option maxHeartbeats 800000 in
theorem uadd_any {w : World} {p c n c' : Nat} {A A' : Option Addr} {m : Option Nat} {l xs : List PP} (h : Tab kU w p A c m l) (hr : Rs w (Own p A m) 1 A' n (uc xs)) (hx : ∀ q ∈ xs, NmU q) (hl : l.length + n ≤ 1000000000) :
    Calls Try.prog 32 #[.pointer (some ⟨p, 0, none⟩), .slice A' n c'] w (AddEnd kU l xs (Own p A m) p w) := by
  have hxl : Hid (xs.length = n) := by have := hr.len; rw [uc_length] at this; unfold Hid; omega
  have HR := Lib_hid (fun (W : World) (t : Turns (Own p A m) w W) => hr.rd t)
  have HX := Lib_hid hx
  have HL : Hid (∀ k, k ≤ n → (addL l (xs.take k)).length ≤ 1000000000) := fun k hk => by
    have := addL_len l (xs.take k)
    rw [List.length_take] at this; omega
  have h0 := Lib_hid h
  have hlt := h.lt
  clear h hr hx
  generalize hS : Own p A m = S at *
  have HS := Lib_hid hS
  clear hS
  go_enter Try.func32, Try.ntmps32
  go_wp2
  go_loopw [5, 12] (fun la i wr => ∃ (k c1 : Nat) (A1 : Option Addr) (m1 : Option Nat), la = .int .i64 (lastP l (xs.take k)) ∧ i = .int .i64 k ∧ k ≤ n ∧ Hid (Tab kU wr p A1 c1 m1 (addL l (xs.take k))) ∧ Hid (Turns S w wr) ∧ Hid (∀ j, Own p A1 m1 j → S j ∨ w.heap.size ≤ j)) (fun _ i _ => n - (intOf i).toNat)
  case atStart => exact ⟨0, c, A, m, rfl, rfl, Nat.zero_le _, h0, Lib_hid (Turns.refl _ _), Lib_hid fun j hj => .inl (by rw [← HS.out]; exact hj)⟩
  case round =>
    obtain ⟨k, c1, A1, m1, rfl, rfl, hk, ht, hw, hown⟩ := hrel
    by_cases hlt : k < n
    · obtain ⟨ad, rfl, hb, cc⟩ := u_at (HR.out wr hw.out) hlt
      have hkl : k < xs.length := by rw [hxl.out]; exact hlt
      have AT := Lib_hid (addL_take l hkl)
      have LT := Lib_hid (lastP_take l hkl)
      have hq : NmU (at0 xs k) := HX.out _ (at0_mem hkl)
      have F := ufind_any ht.out hq
      have hll := HL.out k hk
      clear hkl
      generalize at0 xs k = q at *
      by_cases hm : q ∈ addL l (xs.take k)
      · rw [numP_old hm, show hasP (addL l (xs.take k)) q = true by unfold hasP; exact decide_eq_true hm] at F
        have e1 : Hid (addL l (xs.take (k + 1)) = addL l (xs.take k)) := by unfold Hid; rw [AT.out, addP_old hm]
        have e2 : Hid (lastP l (xs.take (k + 1)) = ((addL l (xs.take k)).idxOf q : Int)) := by unfold Hid; rw [LT.out, addP_old hm]
        clear hm hll hq
        generalize lastP l (xs.take k) = last at *
        generalize (addL l (xs.take k)).idxOf q = x at *
        go_wp2_with fail
        refine F.mono ?_
        rintro e w2 ⟨rfl, rfl⟩
        clear F
        go_wp2
        go_roundw
        case rel => exact ⟨k + 1, c1, A1, m1, by rw [e2.out], by go_num, by omega, by rw [e1.out]; exact ht, hw, hown⟩
        case measure => simp [intOf]; omega
      · rw [numP_new hm, show hasP (addL l (xs.take k)) q = false by unfold hasP; exact decide_eq_false hm] at F
        have P := uput_any ht.out hq hm hll
        have e1 : Hid (addL l (xs.take (k + 1)) = addL l (xs.take k) ++ [q]) := by unfold Hid; rw [AT.out, addP_new hm]
        have e2 : Hid (lastP l (xs.take (k + 1)) = ((addL l (xs.take k)).length : Int)) := by unfold Hid; rw [LT.out, addP_new hm, idx_new hm]
        clear hm hll hq
        generalize lastP l (xs.take k) = last at *
        go_wp2_with fail
        refine F.mono ?_
        rintro e w2 ⟨rfl, rfl⟩
        clear F
        go_wp2_with fail
        refine P.mono ?_
        rintro e w2 ⟨rfl, A2, c2, m2, ht2, hw2, hown2⟩
        have hw3 : Hid (Turns S w w2) := hw.out.trans hw2 hown.out
        have hown3 : Hid (∀ j, Own p A2 m2 j → S j ∨ w.heap.size ≤ j) := fun j hj => by
          rcases hown2 j hj with h1 | h1
          · exact hown.out j h1
          · have := hw.out.size; exact .inr (by omega)
        have ht3 := Lib_hid ht2
        clear P ht2 hw2 hown2 ht
        go_wp2
        go_roundw
        case rel => exact ⟨k + 1, c2, A2, m2, by rw [e2.out], by go_num, by omega, by rw [e1.out]; exact ht3, hw3, hown3⟩
        case measure => simp [intOf]; omega
    · obtain rfl : k = n := by omega
      have e : xs.take k = xs := List.take_of_length_le (by rw [hxl.out]; exact Nat.le_refl _)
      rw [e] at ht ⊢
      clear e
      go_wp2
      go_ret
      exact ⟨rfl, A1, c1, m1, ht.out, hw.out, hown.out⟩

end Go.Proofs.Ytidlpiamiglppaa
