/-
  Layer 13: the statements' few: at most 20 calls, of 12 edges.
-/
import Derived.Test.YtopecdkkmbpnbaaGop
import Derived.Test.YtopecdkkmbpnbaaGma
namespace Go.Proofs.Ytopecdkkmbpnbaa
open Go Go.RowKit Go.Maps
set_option linter.unusedVariables false

theorem acC_count {w : World} {B n : Nat} {A : Option Addr} {l : List AcV} (h : Rd w B 2 A n (acC l)) : l.length = n := by have := h.len; rw [acC_length] at this; omega
theorem ac_at {w : World} {B n : Nat} {A : Option Addr} {l : List AcV} (h : Rd w B 2 A n (acC l)) {i : Nat} (hi : i < n) :
    ∃ (b off : Nat) (a : AcV), A = some ⟨b, off, none⟩ ∧ b < B ∧ l[i]? = some a ∧ w.cell? ⟨b, off + i * 2, none⟩ = some (.int .i64 a.d) ∧ w.cell? ⟨b, off + i * 2 + 1, none⟩ = some (.slice a.A a.n a.c) := by
  have hl := acC_count h
  obtain ⟨ad, e, hb, hc⟩ := h.lies (by omega)
  have ha : l[i]? = some l[i] := List.getElem?_eq_getElem (by omega)
  obtain ⟨b, off, spot⟩ := ad
  have ha0 : l[0]? = some (l[0]'(by omega)) := List.getElem?_eq_getElem (by omega)
  have hspot : spot = none := World.cell?_spot (a := ⟨b, off, spot⟩) (hc 0 _ (acC_get l 0 0 _ ha0 (by omega)))
  subst hspot
  have k : ∀ j, j < 2 → w.cell? ⟨b, off + i * 2 + j, none⟩ = l[i].cells[j]? := by
    intro j hj
    have h5 : l[i].cells[j]? = some (l[i].cells[j]'(by show j < 2; omega)) := List.getElem?_eq_getElem _
    have := hc _ _ ((acC_get l i j _ ha hj).trans h5)
    rw [add_plain] at this
    rw [h5, ← this, Nat.add_assoc]
  exact ⟨b, off, l[i], e, hb, ha, k 0 (by omega), k 1 (by omega)⟩

def AcFew (l : List AcV) (i : Nat) : Prop := ∀ (j : Nat) (a : AcV), j < i → l[j]? = some a → a.n ≤ 12
theorem AcFew.zero (l : List AcV) : AcFew l 0 := fun j a h => by omega
theorem AcFew.succ {l : List AcV} {i : Nat} {a : AcV} (h : AcFew l i) (ha : l[i]? = some a) (h1 : (a.n : Int) ≤ 12) : AcFew l (i + 1) := fun j x hj hx => by
  rcases Nat.lt_or_ge j i with h4 | h4
  · exact h j x h4 hx
  · obtain rfl : j = i := by omega
    rw [ha] at hx
    obtain rfl : a = x := by injection hx
    omega
/-- What few says when it says yes. -/
def AcSays (l : List AcV) (n : Nat) (w : World) (e : Ending) (w' : World) : Prop :=
  ∃ b, e = .returned (.bool b) ∧ w = w' ∧ (b = true → n ≤ 20 ∧ AcFew l n)

set_option maxRecDepth 100000 in
set_option maxHeartbeats 1600000 in
theorem few13_any (B n c : Nat) (A : Option Addr) (l : List AcV) (w : World) (h : Rd w B 2 A n (acC l)) (hn : n ≤ 9223372036854775807) :
    Calls Try.prog 8 #[.slice A n c] w (AcSays l n w) := by
  go_enter Try.func8, Try.ntmps8
  go_wp2
  go_loop [3] (fun x => ∃ i : Nat, x = .int .i64 i ∧ i ≤ n ∧ i ≤ 21 ∧ AcFew l i) (fun x => 21 - (intOf x).toNat)
  case atStart => exact ⟨0, rfl, by omega, by omega, AcFew.zero l⟩
  case round =>
    obtain ⟨i, rfl, hi, hi2, hf⟩ := hrel
    by_cases hlt : i < n ∧ i < 21
    · obtain ⟨h1, h2⟩ := hlt
      obtain ⟨b, off, a, rfl, _, ha, c0, c1⟩ := ac_at h h1
      have HA := Lib_hid ha
      clear ha h
      obtain ⟨d, lA, ln, lc, L⟩ := a
      simp only at c0 c1
      by_cases hl : (ln : Int) ≤ 12
      · have hf' := hf.succ HA.out hl
        clear hf
        go_wp2
        go_round
        case rel => exact ⟨i + 1, by go_num, by omega, by omega, hf'⟩
        case measure => simp [intOf]; omega
      · go_wp2
        go_ret
        exact ⟨false, rfl, rfl, by simp⟩
    · by_cases h30 : n ≤ 20
      · obtain rfl : i = n := by omega
        have hd : decide ((i : Int) ≤ 20) = true := by simp; omega
        clear hlt
        go_wp2
        go_ret
        exact ⟨true, rfl, rfl, fun _ => ⟨h30, hf⟩⟩
      · obtain rfl : i = 21 := by omega
        have hd : decide ((n : Int) ≤ 20) = false := by simp; omega
        clear hlt
        go_wp2
        all_goals
          go_ret
          exact ⟨false, rfl, rfl, by simp⟩

end Go.Proofs.Ytopecdkkmbpnbaa
