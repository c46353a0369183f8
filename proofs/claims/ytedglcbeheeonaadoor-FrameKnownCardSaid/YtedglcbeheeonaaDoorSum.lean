/-
  The contract of the program's Sum, for all rows of bytes.
-/
import Derived.Test.YtedglcbeheeonaaDoorTak
namespace Go.Proofs.YtedglcbeheeonaaDoor
open Go Go.RowKit
set_option linter.unusedVariables false

/-- The slices vs read as the rows of bytes ls. -/
structure Rws (w : World) (B : Nat) (vs : List Value) (ls : List (List Nat)) : Prop where
  len : vs.length = ls.length
  row : ∀ j, j < ls.length → ∃ A n c, vs[j]? = some (.slice A n c) ∧ Rd w B 1 A n (bs (ls.getD j [])) ∧ (∀ x ∈ ls.getD j [], x < 256) ∧ n ≤ c ∧ c ≤ 9223372036854775807
theorem Rws.below {w w' : World} {B : Nat} {vs : List Value} {ls : List (List Nat)} (h : Rws w B vs ls) (hb : Below B w w') : Rws w' B vs ls :=
  ⟨h.len, fun j hj => by obtain ⟨A, n, c, h1, h2, h3⟩ := h.row j hj; exact ⟨A, n, c, h1, h2.below hb, h3⟩⟩
theorem Rws.more {w : World} {B B' : Nat} {vs : List Value} {ls : List (List Nat)} (h : Rws w B vs ls) (hB : B ≤ B') : Rws w B' vs ls :=
  ⟨h.len, fun j hj => by obtain ⟨A, n, c, h1, h2, h3⟩ := h.row j hj; exact ⟨A, n, c, h1, h2.more hB, h3⟩⟩
theorem Rws.keep {w w' : World} {B : Nat} {vs : List Value} {ls : List (List Nat)} (h : Rws w B vs ls) (hk : ∀ p : Addr, p.block < B → w'.cell? p = w.cell? p) : Rws w' B vs ls :=
  ⟨h.len, fun j hj => by obtain ⟨A, n, c, h1, h2, h3⟩ := h.row j hj; exact ⟨A, n, c, h1, h2.keep hk, h3⟩⟩
theorem Rws.nil (w : World) (B : Nat) : Rws w B [] [] := ⟨rfl, fun j hj => by simp at hj⟩
theorem Rws.one {w : World} {B : Nat} {A : Option Addr} {n c : Nat} {l : List Nat} (h : Rd w B 1 A n (bs l)) (hb : ∀ x ∈ l, x < 256) (hn : n ≤ c) (hc : c ≤ 9223372036854775807) : Rws w B [.slice A n c] [l] :=
  ⟨rfl, fun j hj => by
    obtain rfl : j = 0 := by simpa using hj
    exact ⟨A, n, c, rfl, h, hb, hn, hc⟩⟩
theorem Rws.cons {w : World} {B : Nat} {A : Option Addr} {n c : Nat} {l : List Nat} {vs : List Value} {ls : List (List Nat)} (h : Rd w B 1 A n (bs l)) (hb : ∀ x ∈ l, x < 256) (hn : n ≤ c) (hc : c ≤ 9223372036854775807) (hr : Rws w B vs ls) : Rws w B (.slice A n c :: vs) (l :: ls) :=
  ⟨by simp [hr.len], fun j hj => by
    cases j with
    | zero => exact ⟨A, n, c, rfl, h, hb, hn, hc⟩
    | succ j => simpa using hr.row j (by simpa using hj)⟩
/-- A cell of the slice of slices, and what it reads as. -/
theorem Rws.at {w : World} {B B' n : Nat} {A : Option Addr} {vs : List Value} {ls : List (List Nat)} (h : Rws w B vs ls) (hr : Rd w B' 1 A n vs) {k : Nat} (hk : k < n) :
    ∃ ad A' n' c', A = some ad ∧ w.cell? (ad.add k) = some (.slice A' n' c') ∧ Rd w B 1 A' n' (bs (ls.getD k [])) ∧ (∀ x ∈ ls.getD k [], x < 256) ∧ n' ≤ c' ∧ c' ≤ 9223372036854775807 := by
  obtain ⟨ad, e, _, hc⟩ := hr.lies (by omega)
  have hl := hr.len
  obtain ⟨A', n', c', h1, h2, h3, h4, h5⟩ := h.row k (by have := h.len; omega)
  exact ⟨ad, A', n', c', e, hc k _ h1, h2, h3, h4, h5⟩
theorem Rws.bytes {w : World} {B : Nat} {vs : List Value} {ls : List (List Nat)} (h : Rws w B vs ls) (k : Nat) : ∀ x ∈ (ls.take k).flatten, x < 256 := by
  intro x hx
  rw [List.mem_flatten] at hx
  obtain ⟨l, hl, hx⟩ := hx
  obtain ⟨j, hj, e⟩ := List.mem_iff_getElem.1 (List.mem_of_mem_take hl)
  obtain ⟨_, _, _, _, _, h3, _⟩ := h.row j hj
  rw [List.getD_eq_getElem?_getD, List.getElem?_eq_getElem hj, Option.getD_some, e] at h3
  exact h3 x hx
theorem flatten_next {ls : List (List Nat)} {k : Nat} (h : k < ls.length) : (ls.take (k + 1)).flatten = (ls.take k).flatten ++ ls.getD k [] := by
  rw [List.take_succ_eq_append_getElem h, List.flatten_append, List.getD_eq_getElem?_getD, List.getElem?_eq_getElem h]; simp

set_option maxRecDepth 100000 in
theorem sum_any (B : Nat) (A : Option Addr) (n c : Nat) (vs : List Value) (ls : List (List Nat)) (w : World) (hT : Tab w) (hrd : Rd w B 1 A n vs) (hR : Rws w B vs ls) (hB : B ≤ w.heap.size) (hn : n ≤ 9223372036854775807) :
    Calls Tryd.prog 41 #[.slice A n c] w fun e w' => e = .returned (.int .u32 (crcN ls.flatten : Nat)) ∧ Below w.heap.size w w' := by
  have hl : ls.length = n := by have := hrd.len; have := hR.len; omega
  have HL := Lib_hid hl
  clear hl
  go_enter Tryd.func41, Tryd.ntmps41
  go_wp2
  go_loopw [8] (fun i wr => ∃ (k : Nat) (z : Int), i = .int .i64 k ∧ k ≤ n ∧ St wr w.heap.size 92 (crcN (ls.take k).flatten) z ∧ Below w.heap.size w wr) (fun i _ => n - (intOf i).toNat)
  case atStart =>
    refine ⟨0, 0, rfl, Nat.zero_le _, ?_, (Below.refl _ _).alloc (Nat.le_refl _) _⟩
    rw [List.take_zero, List.flatten_nil, crcN_nil]
    exact heap_alloc_new w _
  case round =>
    obtain ⟨k, z, rfl, hk, hS, hbw⟩ := hrel
    have c0 : wr.cell? ⟨w.heap.size, 0, none⟩ = some (.int .u32 (crcN (ls.take k).flatten : Nat)) := Joins.cell_of_block hS 0
    by_cases hlt : k < n
    · obtain ⟨ad, A', n', c', rfl, hcell, hrow, hb, hnc, hc⟩ := (hR.below (hbw.mono hB)).at (hrd.below (hbw.mono hB)) hlt
      have G := take_any w.heap.size 92 _ z B A' n' c' _ wr (hT.below hbw hT.1) hS (crcN_lt _) hrow hb (by omega)
      rw [← crcN_append _ _ (hR.bytes k), ← flatten_next (by rw [HL.out]; exact hlt)] at G
      have HG := Lib_hid G
      clear G hrow
      have HS := Lib_hid hS
      clear hS
      go_wp2_with fail
      refine HG.out.mono ?_
      rintro e w2 ⟨rfl, hS2, hg⟩
      have hb2 : Below w.heap.size w w2 := hbw.grown hg hbw.size (fun k hk => by injection hk with hk; omega)
      clear hg HG HS
      go_wp2_with fail
      go_roundw
      case rel => exact ⟨k + 1, _, by go_num, by omega, hS2, hb2⟩
      case measure => simp [intOf]; omega
    · obtain rfl : k = n := by omega
      have e : (ls.take k) = ls := List.take_of_length_le (by rw [HL.out]; exact Nat.le_refl _)
      rw [e] at c0
      clear e
      go_wp2
      go_ret
      exact ⟨rfl, hbw⟩

end Go.Proofs.YtedglcbeheeonaaDoor
