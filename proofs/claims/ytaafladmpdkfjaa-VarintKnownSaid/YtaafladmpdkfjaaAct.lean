/-
  The statements' calls (Act): how a slice of them reads; the contract of 'few'.
-/
import Derived.Test.YtaafladmpdkfjaaBack
namespace Go.Proofs.Ytaafladmpdkfjaa
open Go Go.RowKit
set_option linter.unusedVariables false

/-- An Act's five cells. -/
structure ActV where
  d : Int
  v : Nat
  k : Int
  bA : Option Addr
  bn : Nat
  bc : Nat
  lA : Option Addr
  ln : Nat
  lc : Nat

def ActV.cells (a : ActV) : List Value := [.int .i64 a.d, .int .u64 a.v, .int .i64 a.k, .slice a.bA a.bn a.bc, .slice a.lA a.ln a.lc]
def actCells (l : List ActV) : List Value := l.flatMap ActV.cells

theorem actCells_get : ∀ (l : List ActV) (i j : Nat) (a : ActV), l[i]? = some a → j < 5 → (actCells l)[i * 5 + j]? = a.cells[j]? := by
  intro l
  induction l with
  | nil => intro i j a h; simp at h
  | cons x l ih =>
    intro i j a h hj
    have e : actCells (x :: l) = x.cells ++ actCells l := rfl
    have hx : x.cells.length = 5 := rfl
    cases i with
    | zero =>
      simp at h
      subst h
      rw [e, Nat.zero_mul, Nat.zero_add, List.getElem?_append_left (by omega)]
    | succ i =>
      rw [e, List.getElem?_append_right (by omega), hx, show (i + 1) * 5 + j - 5 = i * 5 + j by omega]
      exact ih i j a (by simpa using h) hj

theorem add_plain (b off k : Nat) : (⟨b, off, none⟩ : Addr).add k = ⟨b, off + k, none⟩ := by
  unfold Addr.add
  by_cases h : k = 0 <;> simp [h]

theorem acts_at {w : World} {B n : Nat} {A : Option Addr} {l : List ActV} (h : Rd w B 5 A n (actCells l)) (hl : l.length = n) {i : Nat} (hi : i < n) :
    ∃ (b off : Nat) (a : ActV), A = some ⟨b, off, none⟩ ∧ b < B ∧ l[i]? = some a ∧ w.cell? ⟨b, off + i * 5, none⟩ = some (.int .i64 a.d) ∧ w.cell? ⟨b, off + i * 5 + 1, none⟩ = some (.int .u64 a.v) ∧ w.cell? ⟨b, off + i * 5 + 2, none⟩ = some (.int .i64 a.k) ∧
      w.cell? ⟨b, off + i * 5 + 3, none⟩ = some (.slice a.bA a.bn a.bc) ∧ w.cell? ⟨b, off + i * 5 + 4, none⟩ = some (.slice a.lA a.ln a.lc) := by
  obtain ⟨ad, e, hb, hc⟩ := h.lies (by omega)
  have ha : l[i]? = some l[i] := List.getElem?_eq_getElem (by omega)
  have g := actCells_get l i
  obtain ⟨b, off, spot⟩ := ad
  have ha0 : l[0]? = some (l[0]'(by omega)) := List.getElem?_eq_getElem (by omega)
  have hspot : spot = none := World.cell?_spot (a := ⟨b, off, spot⟩) (hc 0 _ (actCells_get l 0 0 _ ha0 (by omega)))
  subst hspot
  have k : ∀ j, j < 5 → w.cell? ⟨b, off + i * 5 + j, none⟩ = l[i].cells[j]? := by
    intro j hj
    have h5 : l[i].cells[j]? = some (l[i].cells[j]'(by show j < 5; omega)) := List.getElem?_eq_getElem _
    have := hc _ _ ((g j _ ha hj).trans h5)
    rw [add_plain] at this
    rw [h5, ← this, Nat.add_assoc]
  exact ⟨b, off, l[i], e, hb, ha, k 0 (by omega), k 1 (by omega), k 2 (by omega), k 3 (by omega), k 4 (by omega)⟩

def FewUp (l : List ActV) (i : Nat) : Prop := ∀ (j : Nat) (a : ActV), j < i → l[j]? = some a → a.bn ≤ 60 ∧ a.ln ≤ 60
theorem FewUp.zero (l : List ActV) : FewUp l 0 := fun j a h => by omega
theorem FewUp.succ {l : List ActV} {i : Nat} {a : ActV} (h : FewUp l i) (ha : l[i]? = some a) (h1 : (a.bn : Int) ≤ 60) (h2 : (a.ln : Int) ≤ 60) : FewUp l (i + 1) := fun j x hj hx => by
  rcases Nat.lt_or_ge j i with h3 | h3
  · exact h j x h3 hx
  · obtain rfl : j = i := by omega
    rw [ha] at hx
    obtain rfl : a = x := by injection hx
    omega

/-- What few says when it says yes. -/
def FewSays (l : List ActV) (n : Nat) (w : World) (e : Ending) (w' : World) : Prop :=
  ∃ b, e = .returned (.bool b) ∧ w = w' ∧ (b = true → n ≤ 30 ∧ FewUp l n)

set_option maxRecDepth 100000 in
set_option maxHeartbeats 1600000 in
theorem few_any (B n c : Nat) (A : Option Addr) (l : List ActV) (w : World) (h : Rd w B 5 A n (actCells l)) (hl : l.length = n) (hn : n ≤ 9223372036854775807) :
    Calls Try.prog 18 #[.slice A n c] w (FewSays l n w) := by
  have HL := Lib_hid hl
  clear hl
  go_enter Try.func18, Try.ntmps18
  go_wp2
  go_loop [3] (fun x => ∃ i : Nat, x = .int .i64 i ∧ i ≤ n ∧ i ≤ 31 ∧ FewUp l i) (fun x => 31 - (intOf x).toNat)
  case atStart => exact ⟨0, rfl, by omega, by omega, FewUp.zero l⟩
  case round =>
    obtain ⟨i, rfl, hi, hi2, hf⟩ := hrel
    by_cases hlt : i < n ∧ i < 31
    · obtain ⟨h1, h2⟩ := hlt
      obtain ⟨b, off, a, rfl, _, ha, c0, c1, c2, c3, c4⟩ := acts_at h HL.out h1
      have HA := Lib_hid ha
      clear ha h
      obtain ⟨d, v, k, bA, bn, bc, lA, ln, lc⟩ := a
      simp only at c0 c1 c2 c3 c4
      by_cases hb : (bn : Int) ≤ 60
      · by_cases hl : (ln : Int) ≤ 60
        · have hf' := hf.succ HA.out hb hl
          clear hf
          by_cases hk : k ≤ 100
          · go_wp2
            go_round
            case rel => exact ⟨i + 1, by go_num, by omega, by omega, hf'⟩
            case measure => simp [intOf]; omega
          · by_cases hk2 : k < 1000000000
            · go_wp2
              go_ret
              exact ⟨false, rfl, rfl, by simp⟩
            · go_wp2
              go_round
              case rel => exact ⟨i + 1, by go_num, by omega, by omega, hf'⟩
              case measure => simp [intOf]; omega
        · have hd : ¬ ln ≤ 60 := by omega
          go_wp2
          go_ret
          exact ⟨false, rfl, rfl, by simp⟩
      · go_wp2
        go_ret
        exact ⟨false, rfl, rfl, by simp⟩
    · by_cases h30 : n ≤ 30
      · obtain rfl : i = n := by omega
        have hd : decide ((i : Int) ≤ 30) = true := by simp; omega
        clear hlt
        go_wp2
        go_ret
        exact ⟨true, rfl, rfl, fun _ => ⟨h30, hf⟩⟩
      · obtain rfl : i = 31 := by omega
        have hd : decide ((n : Int) ≤ 30) = false := by simp; omega
        clear hlt
        go_wp2
        all_goals
          go_ret
          exact ⟨false, rfl, rfl, by simp⟩

end Go.Proofs.Ytaafladmpdkfjaa
