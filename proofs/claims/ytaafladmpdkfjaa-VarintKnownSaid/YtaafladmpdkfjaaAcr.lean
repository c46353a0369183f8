/-
  What holds of each value in the region that makes an Act and adds it to a row.
-/
import Derived.Test.YtaafladmpdkfjaaPrk
import Derived.Laws.MakeOwn
namespace Go.Proofs.Ytaafladmpdkfjaa
open Go Go.RowKit
set_option linter.unusedVariables false

theorem a_m64_lo (x : Int) : 0 ≤ x % 18446744073709551616 := Int.emod_nonneg _ (by decide)
theorem a_m64_hi (x : Int) : x % 18446744073709551616 ≤ 18446744073709551615 := by
  have := Int.emod_lt_of_pos x (show (0 : Int) < 18446744073709551616 by decide)
  omega
/-- A number that a uint64 can be. -/
def U64 (x : Int) : Prop := 0 ≤ x ∧ x ≤ 18446744073709551615
theorem U64.nat {x : Int} (h : U64 x) : ∃ n : Nat, x = n ∧ (n : Int) ≤ 18446744073709551615 := ⟨x.toNat, by have := h.1; omega, by have := h.2; have := h.1; omega⟩
theorem U64.mod (x : Int) : U64 (x % 18446744073709551616) := ⟨a_m64_lo x, a_m64_hi x⟩
theorem U64.wrap (x : Int) : U64 (IntKind.u64.wrap x) := by
  rw [show IntKind.u64.wrap x = x % 18446744073709551616 by simp [IntKind.wrap, IntKind.bits, IntKind.signed]]; exact U64.mod x

theorem made_bytes (n : Nat) : (madeCells #[.int .u8 0] n).toList = bs (List.replicate n 0) := by
  unfold madeCells bs
  apply List.ext_getElem
  · simp
  · intro i h1 h2
    simp [Nat.mod_one]

/-- Nothing from block h0 on has been written. -/
def Far (h0 : Nat) (w w' : World) : Prop := w.heap.size ≤ w'.heap.size ∧ ∀ i, h0 ≤ i → i < w.heap.size → w'.heap[i]? = w.heap[i]?
theorem Far.of_below {h0 : Nat} {w w' : World} (h : Below w.heap.size w w') : Far h0 w w' := ⟨h.size, fun i _ hi => h.block i hi⟩
theorem Far.of_grown {h0 : Nat} {w w' : World} {row : Option Nat} (h : w.grownBy w' row) (hr : ∀ g, row = some g → g < h0) : Far h0 w w' :=
  ⟨h.size, fun i hi hlt => h.block i hlt (fun e => by have := hr i e.symm; omega)⟩

def RowF (h0 : Nat) (w : World) (A : Option Addr) (n : Nat) (xs : List Value) : Prop := Rd w w.heap.size 1 A n xs ∧ ∀ ad, A = some ad → h0 ≤ ad.block ∧ ad.block < w.heap.size
theorem RowF.far {h0 n : Nat} {w w' : World} {A : Option Addr} {xs : List Value} (h : RowF h0 w A n xs) (hf : Far h0 w w') : RowF h0 w' A n xs :=
  ⟨h.1.stays hf.1 fun ad e => hf.2 _ (h.2 ad e).1 (h.2 ad e).2, fun ad e => ⟨(h.2 ad e).1, Nat.lt_of_lt_of_le (h.2 ad e).2 hf.1⟩⟩

def NumIn (lo hi : Int) (v : Value) : Prop := ∃ d : Int, v = .int .i64 d ∧ lo ≤ d ∧ d < hi
def NumU (v : Value) : Prop := ∃ d : Int, v = .int .u64 d ∧ U64 d

/-- The region's values. -/
def aPr (h0 kk n : Nat) (B : Nat) (v8 : Value) (xs : List ActV) : Nat → Value → World → Prop
  | 0, v, _ => v = v8
  | 2, v, _ => NumIn 0 4 v
  | 4, v, _ => NumU v
  | 6, v, _ => NumIn 0 50 v
  | 7, v, _ => NumU v
  | 9, v, _ => NumIn 0 7 v
  | 10, v, _ => NumIn (-1) 6 v
  | 12, v, _ => NumIn 0 5 v
  | 13, v, w => ∃ A m, v = .slice A m m ∧ m < 5 ∧ RowF h0 w A m (bs (List.replicate m 0))
  | 15, v, _ => NumU v
  | 16, v, w => ∃ (A : Option Addr) (l : List Nat), v = .slice A 3 3 ∧ (∀ x ∈ l, (x : Int) ≤ 18446744073709551615) ∧ RowF h0 w A 3 (us l)
  | 18, v, _ => NumIn 0 4 v
  | 19, v, w => ∃ (A : Option Addr) (d : Nat) (l : List Nat), v = .slice A d 3 ∧ d ≤ 3 ∧ (∀ x ∈ l, (x : Int) ≤ 18446744073709551615) ∧ RowF h0 w A d (us l)
  | 20, v, w => ∃ a : ActV, v = .agg #[.int .i64 a.d, .int .u64 a.v, .int .i64 a.k, .slice a.bA a.bn a.bc, .slice a.lA a.ln a.lc] ∧ ActP (fun i => h0 ≤ i) w a
  | 21, v, w => ∃ (g : Nat) (a : ActV), v = .slice (some ⟨g, 0, none⟩) 1 1 ∧ Rd w w.heap.size 5 (some ⟨g, 0, none⟩) 1 (actCells [a]) ∧ (h0 ≤ g ∧ g < w.heap.size) ∧ ActP (fun i => h0 ≤ i) w a
  | 22, v, w => ∃ A c a, v = .slice A (n + 1) c ∧ w.ownsRow B 40 5 v (n + 1) (actCells (xs ++ [a])) ∧ (v.ownBlock = v8.ownBlock ∨ ∃ k, v.ownBlock = some k ∧ h0 ≤ k) ∧ ActP (fun i => h0 ≤ i ∧ v.ownBlock ≠ some i) w a
  | 23, v, w => ∃ A c a, v = .slice A (n + 1) c ∧ w.ownsRow B 40 5 v (n + 1) (actCells (xs ++ [a])) ∧ (v.ownBlock = v8.ownBlock ∨ ∃ k, v.ownBlock = some k ∧ h0 ≤ k) ∧ ActP (fun i => h0 ≤ i ∧ v.ownBlock ≠ some i) w a
  | _, v, _ => v = .int .i64 (kk : Int)

theorem aPr_far {h0 kk n B : Nat} {v8 : Value} {xs : List ActV} {w w' : World} (hf : Far h0 w w') : ∀ (i : Nat) (v : Value), i < 22 → aPr h0 kk n B v8 xs i v w → aPr h0 kk n B v8 xs i v w' := by
  have hA : ∀ a, ActP (fun i => h0 ≤ i) w a → ActP (fun i => h0 ≤ i) w' a := fun a h => h.keep hf.1 fun i hi hx => ⟨hx, hf.2 i hx hi⟩
  intro i v hi h
  by_cases h13 : i = 13
  · subst h13; obtain ⟨A, m, e, hm, hr⟩ := h; exact ⟨A, m, e, hm, hr.far hf⟩
  by_cases h16 : i = 16
  · subst h16; obtain ⟨A, l, e, hm, hr⟩ := h; exact ⟨A, l, e, hm, hr.far hf⟩
  by_cases h19 : i = 19
  · subst h19; obtain ⟨A, d, l, e, h1, hm, hr⟩ := h; exact ⟨A, d, l, e, h1, hm, hr.far hf⟩
  by_cases h20 : i = 20
  · subst h20; obtain ⟨a, e, hr⟩ := h; exact ⟨a, e, hA a hr⟩
  by_cases h21 : i = 21
  · subst h21; obtain ⟨g, a, e, hr, hg, ha⟩ := h
    exact ⟨g, a, e, hr.stays hf.1 fun ad e => by injection e with e; subst e; exact hf.2 g hg.1 hg.2, ⟨hg.1, Nat.lt_of_lt_of_le hg.2 hf.1⟩, hA a ha⟩
  unfold aPr at h ⊢
  split <;> first | omega | simp_all

theorem aPr_below {h0 kk n B : Nat} {v8 : Value} {xs : List ActV} {w w' : World} (hb : Below w.heap.size w w') : ∀ (i : Nat) (v : Value), aPr h0 kk n B v8 xs i v w → aPr h0 kk n B v8 xs i v w' := by
  intro i v h
  have key : (∃ A c a, v = .slice A (n + 1) c ∧ w.ownsRow B 40 5 v (n + 1) (actCells (xs ++ [a])) ∧ (v.ownBlock = v8.ownBlock ∨ ∃ k, v.ownBlock = some k ∧ h0 ≤ k) ∧ ActP (fun i => h0 ≤ i ∧ v.ownBlock ≠ some i) w a) →
      ∃ A c a, v = .slice A (n + 1) c ∧ w'.ownsRow B 40 5 v (n + 1) (actCells (xs ++ [a])) ∧ (v.ownBlock = v8.ownBlock ∨ ∃ k, v.ownBlock = some k ∧ h0 ≤ k) ∧ ActP (fun i => h0 ≤ i ∧ v.ownBlock ≠ some i) w' a := by
    rintro ⟨A, c, a, e, ho, hr, ha⟩
    exact ⟨A, c, a, e, own_below ho hb (own_lt ho), hr, ha.keep hb.size fun i hi hx => ⟨hx, hb.block i hi⟩⟩
  rcases Nat.lt_or_ge i 22 with hi | hi
  · exact aPr_far (.of_below hb) i v hi h
  by_cases h22 : i = 22
  · subst h22; exact key h
  by_cases h23 : i = 23
  · subst h23; exact key h
  obtain ⟨k, rfl⟩ : ∃ k, i = k + 24 := ⟨i - 24, by omega⟩
  exact h

theorem not_j {R B : Prop} {i j : Nat} (h : decide (i = j) = false) (hb : B) : (i = j → R) ∧ (i ≠ j → B) := ⟨fun e => absurd e (of_decide_eq_false h), fun _ => hb⟩

theorem elem_bytes38 : Try.prog.elem 38 = 22 := by kernel_rfl
theorem size_u64 (w : World) : (sizeOf 22).run Try.prog w = .ok 1 w := by
  obtain ⟨i0, hi, hz0, hz1, hz2⟩ := info_parts Try.info22
  simp [sizeOf, typeInfo, hi, hz1]
theorem slice_hi_u {w : World} {h0 n c k : Nat} {A : Option Addr} {l : List Nat} (h : RowF h0 w A n (us l)) (hk : k ≤ n) (hn : n ≤ c) :
    ∃ A2, (∀ wx, (Instr.slice 38 (.slice A n c) none (some (.int .i64 (k : Int))) none).run Try.prog wx = .ok (.slice A2 k c) wx) ∧ RowF h0 w A2 k (us (l.take k)) := by
  have r := (h.1.take hk).cut (cap := c) (k := 0) (Nat.zero_le _) (by omega)
  simp only [List.drop_zero, Nat.sub_zero, Nat.mul_one] at r
  refine ⟨_, ?_, by rw [show us (l.take k) = (us l).take k by simp [us, List.map_take]]; exact r, ?_⟩
  · intro wx
    rw [run_slice_h wx 38 A n c (by rw [elem_bytes38]; exact Try.underlying38) .i64 k (by omega) (by omega), elem_bytes38, size_u64]
    simp [sliced, Result.andThen]
  · intro ad e
    split at e
    · exact h.2 ad e
    · obtain ⟨ad0, e0, rfl⟩ := Option.map_eq_some_iff.1 e
      rw [add_block]
      exact h.2 ad0 e0

theorem made_row (h0 m : Nat) (w : World) (hm : m < 5) (h : h0 ≤ w.heap.size) : RowF h0 (w.alloc (.cells (madeCells #[.int .u8 0] m) 5)) (some ⟨w.heap.size, 0, none⟩) m (bs (List.replicate m 0)) := by
  have := World.ownsRow_lit (base := w.heap.size) (e := 5) (size := 1) w (madeCells #[.int .u8 0] m) m (Nat.le_refl _) (by unfold maxLen; omega) (by rw [size_madeCells]; omega)
  rw [made_bytes] at this
  exact ⟨Rd.own this, fun ad e => by injection e with e; subst e; exact ⟨h, by simp⟩⟩

theorem u64_row (h0 z x y : Nat) (w : World) (h : h0 ≤ w.heap.size) : RowF h0 (w.alloc (.cells #[.int .u64 (z : Int), .int .u64 (x : Int), .int .u64 (y : Int)] 22)) (some ⟨w.heap.size, 0, none⟩) 3 (us [z, x, y]) := by
  have := World.ownsRow_lit (base := w.heap.size) (e := 22) (size := 1) w #[.int .u64 (z : Int), .int .u64 (x : Int), .int .u64 (y : Int)] 3 (Nat.le_refl _) (by decide) rfl
  exact ⟨Rd.own this, fun ad e => by injection e with e; subst e; exact ⟨h, by simp⟩⟩

theorem make_run (m : Nat) (hm : m < 5) (wx : World) : (Instr.makeSlice 23 (.int .i64 m) (.int .i64 m)).run Try.prog wx = .ok (.slice (some ⟨wx.heap.size, 0, none⟩) m m) (wx.alloc (.cells (madeCells #[.int .u8 0] m) 5)) := by
  obtain ⟨i0, hi, hz0, hz1, hz2⟩ := info_parts Try.info5
  have := run_make (P := Try.prog) wx 23 5 i0 (.int .u8 0) Try.underlying23 hi hz0 .i64 .i64 (m : Int) (m : Int) (by omega) (by omega) (by rw [hz2]; omega) (by omega)
  rw [hz1, show (Value.int .u8 0).cells = #[.int .u8 0] from rfl] at this
  simpa using this

theorem act_row (h0 : Nat) (w : World) (a : ActV) (h : h0 ≤ w.heap.size) (ha : ActP (fun i => h0 ≤ i) w a) :
    Rd (w.alloc (.cells #[.int .i64 a.d, .int .u64 a.v, .int .i64 a.k, .slice a.bA a.bn a.bc, .slice a.lA a.ln a.lc] 40)) (w.heap.size + 1) 5 (some ⟨w.heap.size, 0, none⟩) 1 (actCells [a]) ∧
      ActP (fun i => h0 ≤ i) (w.alloc (.cells #[.int .i64 a.d, .int .u64 a.v, .int .i64 a.k, .slice a.bA a.bn a.bc, .slice a.lA a.ln a.lc] 40)) a :=
  ⟨act_lit w _ rfl a.d a.v a.k a.bA a.lA a.bn a.bc a.ln a.lc _, ha.keep (by simp) fun i hi hx => ⟨hx, (below_new w _).block i hi⟩⟩

theorem tmod_in (k m : Nat) (hm : 0 < m) : 0 ≤ Int.tmod (k : Int) (m : Int) ∧ Int.tmod (k : Int) (m : Int) < (m : Int) := by
  rw [Int.tmod_eq_emod_of_nonneg (by omega)]
  exact ⟨Int.emod_nonneg _ (by omega), Int.emod_lt_of_pos _ (by omega)⟩

end Go.Proofs.Ytaafladmpdkfjaa
