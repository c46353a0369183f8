/-
  Layer 8: the document's sets: New, may, Has, with, Add, Remove.
-/
import Derived.Test.YtiembenkdldklaaDoorYc
import Derived.OwnWalk
import Derived.Deep.RegionHeld3
namespace Go.Proofs.YtiembenkdldklaaDoor
open Go Go.RowKit
set_option linter.unusedVariables false

/-- The document's set: a row of truths, below block B. -/
def DS (w : World) (B : Nat) (v : Value) (l : List Bool) : Prop :=
  ∃ A c, v = .agg #[.slice A l.length c] ∧ Rd w B 1 A l.length (bo l) ∧ (l.length ≤ c ∧ c ≤ 9223372036854775807) ∧ l.length ≤ 65536

theorem DS.below {w w' : World} {B : Nat} {v : Value} {l : List Bool} (h : DS w B v l) (hb : Below B w w') : DS w' B v l := by
  obtain ⟨A, c, e, hr, hc⟩ := h
  exact ⟨A, c, e, hr.below hb, hc⟩
theorem DS.more {w : World} {B B' : Nat} {v : Value} {l : List Bool} (h : DS w B v l) (hB : B ≤ B') : DS w B' v l := by
  obtain ⟨A, c, e, hr, hc⟩ := h
  exact ⟨A, c, e, hr.more hB, hc⟩
theorem b_at {w : World} {B n : Nat} {A : Option Addr} {l : List Bool} (h : Rd w B 1 A n (bo l)) {i : Nat} (hi : i < n) :
    ∃ b off : Nat, A = some ⟨b, off, none⟩ ∧ b < B ∧ w.cell? ⟨b, off + i, none⟩ = some (.bool (bt l i)) := by
  have hl : l.length = n := by have := h.len; rw [bo_length] at this; omega
  obtain ⟨ad, e, hb, hc⟩ := h.lies (by omega)
  obtain ⟨b, off, spot⟩ := ad
  have hx : ∀ j, j < n → (bo l)[j]? = some (.bool (bt l j)) := fun j hj => by
    rw [bt_lt (by omega)]; simp [bo, show j < l.length by omega]
  have hspot : spot = none := World.cell?_spot (a := ⟨b, off, spot⟩) (by have := hc 0 _ (hx 0 (by omega)); simpa [Addr.add] using this)
  subst hspot
  have := hc i _ (hx i hi)
  rw [add_plain] at this
  exact ⟨b, off, e, hb, this⟩

/-- Is i among n? -/
def inB (n : Nat) (i : Int) : Bool := decide (0 ≤ i) && decide (i < n)
def hasB (l : List Bool) (i : Int) : Bool := decide (0 ≤ i) && bt l i.toNat
theorem inB_nat {n : Nat} {k : Nat} (h : k < n) : inB n (k : Int) = true := by unfold inB; simp; omega
theorem inB_no {n : Nat} {i : Int} (h : ¬ (0 ≤ i ∧ i < n)) : inB n i = false := by
  unfold inB
  rw [Bool.and_eq_false_iff]
  by_cases h0 : 0 ≤ i
  · exact .inr (decide_eq_false (by omega))
  · exact .inl (decide_eq_false h0)
theorem hasB_nat (l : List Bool) (k : Nat) : hasB l (k : Int) = bt l k := by unfold hasB; simp
theorem hasB_no {l : List Bool} {i : Int} (h : ¬ (0 ≤ i ∧ i < l.length)) : hasB l i = false := by
  unfold hasB
  by_cases h0 : 0 ≤ i
  · rw [bt_ge (by omega)]; simp
  · simp [h0]
/-- What Add makes; what Remove makes. -/
def addB (l : List Bool) (i : Int) : List Bool := if 0 ≤ i ∧ i < l.length then l.set i.toNat true else l
def remB (l : List Bool) (i : Int) : List Bool := if 0 ≤ i ∧ i < l.length then l.set i.toNat false else l
theorem addB_len (l : List Bool) (i : Int) : (addB l i).length = l.length := by unfold addB; split <;> simp
theorem remB_len (l : List Bool) (i : Int) : (remB l i).length = l.length := by unfold remB; split <;> simp
theorem set_same {l : List Bool} {k : Nat} {b : Bool} (hk : k < l.length) (h : bt l k = b) : l.set k b = l := by
  apply bt_ext (by simp)
  intro i
  rw [bt_set hk]
  unfold upd
  by_cases e : i = k
  · rw [if_pos e, e, h]
  · rw [if_neg e]
theorem addB_old {l : List Bool} {i : Int} (h : inB l.length i = false ∨ hasB l i = true) : addB l i = l := by
  unfold addB
  by_cases hi : 0 ≤ i ∧ i < l.length
  · obtain ⟨k, rfl⟩ : ∃ k : Nat, i = k := ⟨i.toNat, by omega⟩
    rw [if_pos hi]
    rcases h with h | h
    · rw [inB_nat (by omega)] at h; cases h
    · rw [hasB_nat] at h
      exact set_same (by show (k : Int).toNat < _; omega) h
  · rw [if_neg hi]
theorem remB_old {l : List Bool} {i : Int} (h : hasB l i = false) : remB l i = l := by
  unfold remB
  by_cases hi : 0 ≤ i ∧ i < l.length
  · obtain ⟨k, rfl⟩ : ∃ k : Nat, i = k := ⟨i.toNat, by omega⟩
    rw [if_pos hi]
    rw [hasB_nat] at h
    exact set_same (by show (k : Int).toNat < _; omega) h
  · rw [if_neg hi]
/-- Whether Add tells of something new. -/
def newB (l : List Bool) (i : Int) : Bool := inB l.length i && !hasB l i

set_option maxRecDepth 100000 in
theorem dmay_any (B : Nat) (v : Value) (l : List Bool) (i : Int) (w : World) (h : DS w B v l) :
    Calls Tryd.prog 51 #[v, .int .i64 i] w fun e w' => e = .returned (.bool (inB l.length i)) ∧ Below w.heap.size w w' := by
  obtain ⟨A, c, rfl, hr, hc, hle⟩ := h
  have hb1 := below_new w (.cells #[.slice A l.length c] 33)
  by_cases h0 : 0 ≤ i
  · have d0 : decide (0 ≤ i) = true := decide_eq_true h0
    by_cases h1 : i < l.length
    · have d1 : decide (i < (l.length : Int)) = true := decide_eq_true h1
      have e : inB l.length i = true := by unfold inB; rw [d0, d1]; rfl
      rw [e]
      clear hr e
      go_enter Tryd.func51, Tryd.ntmps51
      go_wp2
      go_ret
      exact ⟨rfl, hb1⟩
    · have d1 : decide (i < (l.length : Int)) = false := decide_eq_false h1
      have e : inB l.length i = false := by unfold inB; rw [d0, d1]; rfl
      rw [e]
      clear hr e
      go_enter Tryd.func51, Tryd.ntmps51
      go_wp2
      go_ret
      exact ⟨rfl, hb1⟩
  · have d0 : decide (0 ≤ i) = false := decide_eq_false h0
    have e : inB l.length i = false := by unfold inB; rw [d0]; rfl
    rw [e]
    clear hr e
    go_enter Tryd.func51, Tryd.ntmps51
    go_wp2
    go_ret
    exact ⟨rfl, hb1⟩

set_option maxRecDepth 100000 in
theorem dhas_any (B : Nat) (v : Value) (l : List Bool) (i : Int) (w : World) (h : DS w B v l) (hB : B ≤ w.heap.size) :
    Calls Tryd.prog 42 #[v, .int .i64 i] w fun e w' => e = .returned (.bool (hasB l i)) ∧ Below w.heap.size w w' := by
  obtain ⟨A, c, rfl, hr, hc, hle⟩ := h
  have hb1 := below_new w (.cells #[.slice A l.length c] 33)
  have hx := heap_alloc_new w (.cells #[.slice A l.length c] 33)
  have hs : (w.alloc (.cells #[.slice A l.length c] 33)).heap.size = w.heap.size + 1 := by simp
  have hm := dmay_any B _ l i (w.alloc (.cells #[.slice A l.length c] 33)) ⟨A, c, rfl, hr.below (hb1.mono hB), hc, hle⟩
  have HM := Lib_hid hm
  have HX := Lib_hid (And.intro hx (And.intro hb1 hs))
  by_cases hi : 0 ≤ i ∧ i < l.length
  · obtain ⟨k, rfl⟩ : ∃ k : Nat, i = k := ⟨i.toNat, by omega⟩
    have hk : k < l.length := by omega
    obtain ⟨b, off, rfl, hbB, hcell⟩ := b_at hr hk
    rw [inB_nat hk] at HM
    rw [hasB_nat]
    have HC := Lib_hid hcell
    have hbw : b < w.heap.size := by omega
    clear hr hm hx hb1 hs hcell
    go_enter Tryd.func42, Tryd.ntmps42
    go_wp2_with fail
    refine HM.out.mono ?_
    rintro e w1 ⟨rfl, hb⟩
    have q0 := cell_of_row _ w.heap.size 0 _ _ _ ((hb.block w.heap.size (by rw [HX.out.2.2]; omega)).trans HX.out.1)
    have hbb := HX.out.2.1.trans (hb.mono (by rw [HX.out.2.2]; omega))
    have q1 : w1.cell? ⟨b, off + k, none⟩ = some (.bool (bt l k)) := (hbb.cell (p := ⟨b, off + k, none⟩) hbw).trans HC.out
    clear hb
    go_wp2
    go_ret
    exact ⟨rfl, hbb⟩
  · have e := hasB_no (l := l) hi
    rw [inB_no hi] at HM
    rw [e]
    clear hr hm hx hb1 hs e
    go_enter Tryd.func42, Tryd.ntmps42
    go_wp2_with fail
    refine HM.out.mono ?_
    rintro e w1 ⟨rfl, hb⟩
    have hbb := HX.out.2.1.trans (hb.mono (by rw [HX.out.2.2]; omega))
    clear hb
    go_wp2
    go_ret
    exact ⟨rfl, hbb⟩

/-- How New and with end: a set in new memory. -/
def DNew (l : List Bool) (w : World) (e : Ending) (w' : World) : Prop :=
  ∃ A c, e = .returned (.agg #[.slice A l.length c]) ∧ w'.ownsRow w.heap.size 4 1 (.slice A l.length c) l.length (bo l) ∧ Below w.heap.size w w'
theorem DNew.ds {l : List Bool} {w w' : World} {e : Ending} (h : DNew l w e w') (hl : l.length ≤ 65536) : ∃ v, e = .returned v ∧ DS w' w'.heap.size v l ∧ Below w.heap.size w w' := by
  obtain ⟨A, c, rfl, ho, hb⟩ := h
  exact ⟨_, rfl, ⟨A, c, rfl, Rd.own ho, own_cap ho, hl⟩, hb⟩

def clampN (n : Int) : Nat := (min (max n 0) 65536).toNat
theorem clampN_le (n : Int) : clampN n ≤ 65536 := by unfold clampN; omega
theorem made_bools (n : Nat) : (madeCells #[.bool false] n).toList = bo (List.replicate n false) := by
  rw [toList_madeCells_one]; simp [bo]

set_option maxRecDepth 100000 in
theorem dnew_any (n : Int) (w : World) : Calls Tryd.prog 21 #[.int .i64 n] w (DNew (List.replicate (clampN n) false) w) := by
  obtain ⟨i0, hi, hz0, hz1, hz2⟩ := info_parts Tryd.infoB
  obtain ⟨k, hk⟩ : ∃ k, k = clampN n := ⟨_, rfl⟩
  have hk6 : k ≤ 65536 := by rw [hk]; exact clampN_le n
  have hmm : max 0 (min n 65536) = (k : Int) := by rw [hk]; unfold clampN; omega
  have hb1 := below_new w (.cells #[.slice none 0 0] 33)
  have hx := heap_alloc_new w (.cells #[.slice none 0 0] 33)
  rw [← hk]
  have hcs : (n < 0 ∧ k = 0) ∨ (n = 0 ∧ k = 0) ∨ (0 < n ∧ n ≤ 65536 ∧ n = k) ∨ (65536 < n ∧ k = 65536) := by rw [hk]; unfold clampN; omega
  clear hk hmm
  go_enter Tryd.func21, Tryd.ntmps21
  have key : ∀ w1 : World, w1.ownsRow (w.heap.size + 1) 4 1 (.slice (some ⟨w.heap.size + 1, 0, none⟩) k k) k (madeCells (Value.bool false).cells (k * 1)).toList → (w.alloc (.cells #[.slice none 0 0] 33)).grownBy w1 none →
      DNew (List.replicate k false) w (.returned (.agg #[.slice (some ⟨w.heap.size + 1, 0, none⟩) k k])) (w1.setCell ⟨w.heap.size, 0, none⟩ (.slice (some ⟨w.heap.size + 1, 0, none⟩) k k)) ∧
      w1.heap[w.heap.size]? = some (.cells #[.slice none 0 0] 33 (0, 0)) := by
    intro w1 ho hg
    have hx1 := (hg.block w.heap.size (by simp) (fun e => by cases e)).trans hx
    rw [Nat.mul_one, show (Value.bool false).cells = #[.bool false] from rfl, made_bools] at ho
    refine ⟨⟨some ⟨w.heap.size + 1, 0, none⟩, k, by simp, ?_, ?_⟩, hx1⟩
    · rw [List.length_replicate]
      exact own_keep (own_base ho (fun j hj => by have := own_ge ho j hj; omega)) fun j hj => heap_setCell_other _ _ _ _ (by have := own_ge ho j hj; show j ≠ w.heap.size; omega)
    · exact ((hb1.grown hg hb1.size (fun k hk => by cases hk)).setCell (p := ⟨w.heap.size, 0, none⟩) (Nat.le_refl _) _)
  have HK := Lib_hid key
  have HS : Hid (w.heap.size + 1 ≤ (w.alloc (.cells #[.slice none 0 0] 33)).heap.size) := by unfold Hid; simp
  clear key hb1 hx
  rcases hcs with ⟨h1, h3⟩ | ⟨h1, h3⟩ | ⟨h1, h2, h3⟩ | ⟨h1, h3⟩
  all_goals
    have H3 := Lib_hid h3
    clear h3
    go_wp2_with (refine wpList_make_full _ rfl (.tmp 5) (.tmp 5) 31 rfl (w.heap.size + 1) 4 i0 (.bool false) 1 Tryd.underlying31 hi hz0 hz1 .i64 .i64 _ _ k rfl rfl (by have := H3.out; omega) (by have := H3.out; omega) (by rw [hz2]; omega) (by unfold maxLen; omega) HS.out ?_; intro w1 hown1 hg1; simp only [World.size_alloc] at hown1; obtain ⟨HD, hx1⟩ := HK.out w1 hown1 hg1; have q0 := cell_of_row _ w.heap.size 0 _ _ _ hx1; have q1 := frozen_of_row _ w.heap.size 0 _ _ hx1; have HDD := Lib_hid HD; clear hown1 hg1 HD)
    have q2 := World.cell?_setCell_same' w1 ⟨w.heap.size, 0, none⟩ (.slice (some ⟨w.heap.size + 1, 0, none⟩) k k) (by rw [q0]; rfl)
    exact bodyPost_ret (v := .agg #[.slice (some ⟨w.heap.size + 1, 0, none⟩) k k]) (by simp [results, Tryd.results21, go_sem, q2]) rfl HDD.out

end Go.Proofs.YtiembenkdldklaaDoor
