/-
  Contracts of the statements' helpers Own, SameBytes and Spoil, for every input.
-/
import Derived.Test.YtbcadnkdehknoaaGreatDoorBse
namespace Go.Proofs.YtbcadnkdehknoaaGreatDoor
open Go Go.RowKit
set_option linter.unusedVariables false

set_option maxRecDepth 100000 in
theorem own_any (B : Nat) (A : Option Addr) (n c : Nat) (l : List Nat) (w : World) (h : Rd w B 1 A n (bs l)) (hn : n ≤ 140737488355300) :
    Calls Tryz.prog 35 #[.slice A n c] w (Made 5 l w) := by
  have hc := h.count
  subst hc
  obtain ⟨i0, hi, hz0, hz1, hz2⟩ := info_parts Tryz.info5
  have hm1 : 0 + l.length ≤ maxLen := by unfold maxLen; omega
  have hm2 : (0 + l.length) * 1 ≤ 140737488355328 := by omega
  have hon := own_none w w.heap.size 5
  go_enter Tryz.func35, Tryz.ntmps35
  go_wp2_with (at_builtin; (refine wpList_app rfl _ _ 46 rfl w.heap.size 5 i0 (.int .u8 0) 1 1 Tryz.underlying46 hi hz0 hz1 hz2 rfl (by decide) (.slice none 0 0) 0 [] rfl hon B A l.length c (bs l) rfl h (bs_one _) hm1 hm2 (Nat.le_refl _) ?_); intro v' w1 hown' hst; simp only [Nat.zero_add, List.nil_append] at hown'; obtain ⟨A2, c2, rfl, _⟩ := own_form hown')
  go_ret
  exact made_of_grew ⟨A2, _, c2, rfl, hown', hst⟩

/-- Are the two the same? (Kept from simp.) -/
def eqB (l m : List Nat) : Bool := decide (l = m)
def Agree (l m : List Nat) (k : Nat) : Prop := ∀ j, j < k → l.getD j 0 = m.getD j 0
theorem Agree.zero (l m : List Nat) : Agree l m 0 := fun j h => by omega
theorem Agree.succ {l m : List Nat} {k : Nat} (h : Agree l m k) (e : l.getD k 0 = m.getD k 0) : Agree l m (k + 1) := fun j hj => by
  rcases Nat.lt_or_ge j k with h1 | h1
  · exact h j h1
  · obtain rfl : j = k := by omega
    exact e
theorem Agree.all {l m : List Nat} (h : Agree l m l.length) (e : l.length = m.length) : eqB l m = true := by
  unfold eqB
  rw [decide_eq_true_iff]
  apply List.ext_getElem e
  intro i h1 h2
  have := h i h1
  rw [List.getD_eq_getElem?_getD, List.getD_eq_getElem?_getD, List.getElem?_eq_getElem h1, List.getElem?_eq_getElem h2] at this
  exact this
theorem eqB_ne {l m : List Nat} {k : Nat} (e : ¬ l.getD k 0 = m.getD k 0) : eqB l m = false := by
  unfold eqB
  rw [decide_eq_false_iff_not]
  rintro rfl
  exact e rfl
theorem eqB_len {l m : List Nat} (e : ¬ l.length = m.length) : eqB l m = false := by
  unfold eqB
  rw [decide_eq_false_iff_not]
  rintro rfl
  exact e rfl
theorem eqB_self (l : List Nat) : eqB l l = true := by unfold eqB; simp

set_option maxRecDepth 100000 in
theorem same_any (B B' : Nat) (A A' : Option Addr) (n n' c c' : Nat) (l m : List Nat) (w : World) (h : Rd w B 1 A n (bs l)) (h' : Rd w B' 1 A' n' (bs m)) (hn : n ≤ 9223372036854775807) :
    Calls Tryz.prog 37 #[.slice A n c, .slice A' n' c'] w fun e w' => e = .returned (.bool (eqB l m)) ∧ ∃ q, w' = w.drewN q := by
  have hl := h.count
  have hl' := h'.count
  by_cases hnn : n = n'
  · subst hnn
    go_enter Tryz.func37, Tryz.ntmps37
    go_wp2
    go_loopw [5] (fun i wr => ∃ k q : Nat, i = .int .i64 k ∧ k ≤ n ∧ Agree l m k ∧ wr = w.drewN q) (fun i _ => n - (intOf i).toNat)
    case atStart => exact ⟨0, 0, rfl, Nat.zero_le _, Agree.zero _ _, rfl⟩
    case round =>
      obtain ⟨k, q, rfl, hk, hag, rfl⟩ := hrel
      by_cases hlt : k < n
      · obtain ⟨ad, rfl, _, c1⟩ := h.byte hlt
        obtain ⟨ad', rfl, _, c2⟩ := h'.byte hlt
        by_cases he : l.getD k 0 = m.getD k 0
        · have hag' := hag.succ he
          rw [← he] at c2
          clear hag he h h'
          go_wp2
          go_quiet (fail)
          go_wp2
          go_roundw
          case rel => exact ⟨k + 1, q + nq, by go_num, by omega, hag', rfl⟩
          case measure => simp [intOf]; omega
        · have hf := eqB_ne he
          have hd : ((l.getD k 0 : Nat) : Int) ≠ ((m.getD k 0 : Nat) : Int) := by omega
          generalize l.getD k 0 = x at *
          generalize m.getD k 0 = y at *
          have hd' : (((x : Nat) : Int) != ((y : Nat) : Int)) = true := by simpa using hd
          clear hag he h h' hd
          go_wp2
          go_quiet (fail)
          go_wp2
          go_ret
          exact ⟨by rw [hf]; rfl, q + nq, by simp⟩
      · obtain rfl : k = n := by omega
        have ht := (show Agree l m l.length by rw [hl]; exact hag).all (by omega)
        clear hag
        go_wp2
        go_ret
        exact ⟨by rw [ht]; rfl, q, rfl⟩
  · have hf := eqB_len (l := l) (m := m) (by omega)
    have hd : ((n : Int) != (n' : Int)) = true := by simp only [bne, int_beq]; simpa using hnn
    go_enter Tryz.func37, Tryz.ntmps37
    go_wp2
    go_ret
    exact ⟨by rw [hf]; rfl, 0, rfl⟩

set_option maxRecDepth 100000 in
theorem spoil_any (B n c : Nat) (A : Option Addr) (xs : List Value) (w : World) (h : w.ownsRow B 5 1 (.slice A n c) n xs) (hn : n ≤ 9223372036854775807) :
    Calls Tryz.prog 18 #[.slice A n c] w fun e w' => e = .returned (.tuple #[]) ∧ w.grownBy w' (Value.slice A n c).ownBlock := by
  go_enter Tryz.func18, Tryz.ntmps18
  go_wp2
  go_loopw [2] (fun i wr => ∃ (k : Nat) (ys : List Value), i = .int .i64 k ∧ k ≤ n ∧ wr.ownsRow B 5 1 (.slice A n c) n ys ∧ Stp w wr (.slice A n c) (.slice A n c)) (fun i _ => n - (intOf i).toNat)
  case atStart => exact ⟨0, xs, rfl, Nat.zero_le _, h, Stp.refl _ _⟩
  case round =>
    obtain ⟨k, ys, rfl, hk, ho, hs⟩ := hrel
    by_cases hlt : k < n
    · obtain ⟨g, cap, hv, _, _⟩ := ho.form (by omega)
      have hA : A = some ⟨g, 0, none⟩ := by injection hv
      subst hA
      have hle : ys.length = n := by have := ho.1; omega
      obtain ⟨u, hu⟩ : ∃ u, ys[k]? = some u := ⟨_, List.getElem?_eq_getElem (by omega)⟩
      have hc := (ho.cellAt k (by omega)).trans hu
      have hf := ho.frozenAt k
      have ⟨hs1, hs2⟩ := ho.stored k (.int .u8 165)
      have hs' : Stp w (wr.setCell ⟨g, k, none⟩ (.int .u8 165)) (.slice (some ⟨g, 0, none⟩) n c) (.slice (some ⟨g, 0, none⟩) n c) := hs.trans ⟨hs2, .inl rfl⟩
      clear hs hs2 ho hu hv hle
      go_wp2
      go_roundw
      case rel => exact ⟨k + 1, _, by go_num, by omega, hs1, hs'⟩
      case measure => simp [intOf]; omega
    · go_wp2
      go_end0
      exact ⟨rfl, hs.grow⟩

theorem same_yes {B B' : Nat} {A A' : Option Addr} {n n' c c' : Nat} (l : List Nat) (w : World) (h : Rd w B 1 A n (bs l)) (h' : Rd w B' 1 A' n' (bs l)) (hn : n ≤ 9223372036854775807) :
    Calls Tryz.prog 37 #[.slice A n c, .slice A' n' c'] w fun e w' => e = .returned (.bool true) ∧ ∃ q, w' = w.drewN q := by
  have G := same_any B B' A A' n n' c c' l l w h h' hn
  rw [eqB_self] at G
  exact G

end Go.Proofs.YtbcadnkdehknoaaGreatDoor
