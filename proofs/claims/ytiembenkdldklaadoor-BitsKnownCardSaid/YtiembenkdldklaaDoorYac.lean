/-
  Layer 8: the statements' calls (Act): how a row of them lies; few.
-/
import Derived.Test.YtiembenkdldklaaDoorYis
namespace Go.Proofs.YtiembenkdldklaaDoor
open Go Go.RowKit
set_option linter.unusedVariables false

/-- A call: its six cells, and the two rows of numbers that two of them name. -/
structure AcV where
  d : Int
  i : Int
  z : Int
  A : Option Addr
  n : Nat
  c : Nat
  A2 : Option Addr
  m : Nat
  c2 : Nat
  own : Bool
  L : List Int
  M : List Int
def AcV.cells (a : AcV) : List Value := [.int .i64 a.d, .int .i64 a.i, .int .i64 a.z, .slice a.A a.n a.c, .slice a.A2 a.m a.c2, .bool a.own]
def acCells (l : List AcV) : List Value := l.flatMap AcV.cells
/-- Its rows read as they should, below a block. -/
structure AcOK (w : World) (B : Nat) (a : AcV) : Prop where
  l : Rd w B 1 a.A a.n (iz a.L)
  m : Rd w B 1 a.A2 a.m (iz a.M)
  ln : a.n ≤ a.c ∧ a.c ≤ 9223372036854775807
  mn : a.m ≤ a.c2 ∧ a.c2 ≤ 9223372036854775807
  d : -9223372036854775808 ≤ a.d ∧ a.d ≤ 9223372036854775807
  i : -9223372036854775808 ≤ a.i ∧ a.i ≤ 9223372036854775807
  z : -9223372036854775808 ≤ a.z ∧ a.z ≤ 9223372036854775807
theorem AcOK.below {w w' : World} {B : Nat} {a : AcV} (h : AcOK w B a) (hb : Below B w w') : AcOK w' B a := ⟨h.l.below hb, h.m.below hb, h.ln, h.mn, h.d, h.i, h.z⟩
theorem AcOK.more {w : World} {B B' : Nat} {a : AcV} (h : AcOK w B a) (hb : B ≤ B') : AcOK w B' a := ⟨h.l.more hb, h.m.more hb, h.ln, h.mn, h.d, h.i, h.z⟩

theorem acCells_get : ∀ (l : List AcV) (i j : Nat) (a : AcV), l[i]? = some a → j < 6 → (acCells l)[i * 6 + j]? = a.cells[j]? := by
  intro l
  induction l with
  | nil => intro i j a h; simp at h
  | cons x l ih =>
    intro i j a h hj
    have e : acCells (x :: l) = x.cells ++ acCells l := rfl
    have hx : x.cells.length = 6 := rfl
    cases i with
    | zero =>
      simp at h
      subst h
      rw [e, Nat.zero_mul, Nat.zero_add, List.getElem?_append_left (by omega)]
    | succ i =>
      rw [e, List.getElem?_append_right (by omega), hx, show (i + 1) * 6 + j - 6 = i * 6 + j by omega]
      exact ih i j a (by simpa using h) hj
theorem acCells_length (l : List AcV) : (acCells l).length = l.length * 6 := by
  induction l with
  | nil => rfl
  | cons x l ih => show (x.cells ++ acCells l).length = _; rw [List.length_append, ih]; simp [AcV.cells]; omega
theorem acCells_append (l m : List AcV) : acCells (l ++ m) = acCells l ++ acCells m := by simp [acCells]

theorem ac_add (b off k : Nat) : (⟨b, off, none⟩ : Addr).add k = ⟨b, off + k, none⟩ := by
  unfold Addr.add
  by_cases h : k = 0 <;> simp [h]

theorem ac_at {w : World} {B n : Nat} {A : Option Addr} {l : List AcV} (h : Rd w B 6 A n (acCells l)) (hl : l.length = n) {i : Nat} (hi : i < n) :
    ∃ (b off : Nat) (a : AcV), A = some ⟨b, off, none⟩ ∧ b < B ∧ l[i]? = some a ∧ w.cell? ⟨b, off + i * 6, none⟩ = some (.int .i64 a.d) ∧ w.cell? ⟨b, off + i * 6 + 1, none⟩ = some (.int .i64 a.i) ∧ w.cell? ⟨b, off + i * 6 + 2, none⟩ = some (.int .i64 a.z) ∧
      w.cell? ⟨b, off + i * 6 + 3, none⟩ = some (.slice a.A a.n a.c) ∧ w.cell? ⟨b, off + i * 6 + 4, none⟩ = some (.slice a.A2 a.m a.c2) ∧ w.cell? ⟨b, off + i * 6 + 5, none⟩ = some (.bool a.own) := by
  obtain ⟨ad, e, hb, hc⟩ := h.lies (by omega)
  have ha : l[i]? = some l[i] := List.getElem?_eq_getElem (by omega)
  have g := acCells_get l i
  obtain ⟨b, off, spot⟩ := ad
  have ha0 : l[0]? = some (l[0]'(by omega)) := List.getElem?_eq_getElem (by omega)
  have hspot : spot = none := World.cell?_spot (a := ⟨b, off, spot⟩) (hc 0 _ (acCells_get l 0 0 _ ha0 (by omega)))
  subst hspot
  have k : ∀ j, j < 6 → w.cell? ⟨b, off + i * 6 + j, none⟩ = l[i].cells[j]? := by
    intro j hj
    have h5 : l[i].cells[j]? = some (l[i].cells[j]'(by show j < 6; omega)) := List.getElem?_eq_getElem _
    have := hc _ _ ((g j _ ha hj).trans h5)
    rw [ac_add] at this
    rw [h5, ← this, Nat.add_assoc]
  exact ⟨b, off, l[i], e, hb, ha, k 0 (by omega), k 1 (by omega), k 2 (by omega), k 3 (by omega), k 4 (by omega), k 5 (by omega)⟩

def AcFew (l : List AcV) (i : Nat) : Prop := ∀ (j : Nat) (a : AcV), j < i → l[j]? = some a → a.n ≤ 40 ∧ a.m ≤ 40 ∧ a.z ≤ 400
theorem AcFew.zero (l : List AcV) : AcFew l 0 := fun j a h => by omega
theorem AcFew.succ {l : List AcV} {i : Nat} {a : AcV} (h : AcFew l i) (ha : l[i]? = some a) (h1 : (a.n : Int) ≤ 40) (h2 : (a.m : Int) ≤ 40) (h3 : a.z ≤ 400) : AcFew l (i + 1) := fun j x hj hx => by
  rcases Nat.lt_or_ge j i with h4 | h4
  · exact h j x h4 hx
  · obtain rfl : j = i := by omega
    rw [ha] at hx
    obtain rfl : a = x := by injection hx
    omega
/-- What few says when it says yes. -/
def AcSays (l : List AcV) (n : Nat) (w : World) (e : Ending) (w' : World) : Prop :=
  ∃ b, e = .returned (.bool b) ∧ w = w' ∧ (b = true → n ≤ 30 ∧ AcFew l n)

set_option maxRecDepth 100000 in
set_option maxHeartbeats 1600000 in
theorem few8_any (B n c : Nat) (A : Option Addr) (l : List AcV) (w : World) (h : Rd w B 6 A n (acCells l)) (hn : n ≤ 9223372036854775807) :
    Calls Tryd.prog 8 #[.slice A n c, .int .i64 30] w (AcSays l n w) := by
  have hl : l.length = n := by have := h.len; rw [acCells_length] at this; omega
  have HL := Lib_hid hl
  clear hl
  go_enter Tryd.func8, Tryd.ntmps8
  go_wp2
  go_loop [5] (fun x => ∃ i : Nat, x = .int .i64 i ∧ i ≤ n ∧ i ≤ 31 ∧ AcFew l i) (fun x => 31 - (intOf x).toNat)
  case atStart => exact ⟨0, rfl, by omega, by omega, AcFew.zero l⟩
  case round =>
    obtain ⟨i, rfl, hi, hi2, hf⟩ := hrel
    by_cases hlt : i < n ∧ i < 31
    · obtain ⟨h1, h2⟩ := hlt
      obtain ⟨b, off, a, rfl, _, ha, c0, c1, c2, c3, c4, c5⟩ := ac_at h HL.out h1
      have HA := Lib_hid ha
      clear ha h
      obtain ⟨d, i', z, bA, bn, bc, lA, ln, lc, own, L, M⟩ := a
      simp only at c0 c1 c2 c3 c4 c5
      by_cases hb : (bn : Int) ≤ 40
      · by_cases hl : (ln : Int) ≤ 40
        · by_cases hk : z ≤ 400
          · have hf' := hf.succ HA.out hb hl hk
            clear hf
            go_wp2
            go_round
            case rel => exact ⟨i + 1, by go_num, by omega, by omega, hf'⟩
            case measure => simp [intOf]; omega
          · go_wp2
            go_ret
            exact ⟨false, rfl, rfl, by simp⟩
        · have hd : ¬ ln ≤ 40 := by omega
          go_wp2
          go_ret
          exact ⟨false, rfl, rfl, by simp⟩
      · go_wp2
        go_ret
        exact ⟨false, rfl, rfl, by simp⟩
    · by_cases h30 : n ≤ 30
      · obtain rfl : i = n := by omega
        have hd : decide ((i : Int) ≤ 30) = true := by simp; omega
        clear hlt
        go_wp2
        go_ret
        exact ⟨true, rfl, rfl, fun _ => ⟨h30, hf⟩⟩
      · obtain rfl : i = 31 := by omega
        have hd : decide ((n : Int) ≤ 30) = false := by simp; omega
        clear hlt
        go_wp2
        all_goals
          go_ret
          exact ⟨false, rfl, rfl, by simp⟩

end Go.Proofs.YtiembenkdldklaaDoor
