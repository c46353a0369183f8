/-
  Layer 13, for GraphOrders: plain facts (how many edges are from and to the first nodes; turned about twice; edges added in any order), and the statements' Pick.
-/
import Derived.Test.YtopecdkkmbpnbaaGdi
import Derived.Test.YtopecdkkmbpnbaaGgr
namespace Go.Proofs.Ytopecdkkmbpnbaa
open Go Go.RowKit Go.Maps
set_option linter.unusedVariables false

theorem below_undrew {w V : World} (h : Below w.drew.heap.size w.drew V) : Below w.heap.size w V := ⟨h.os, h.tape, h.output, h.size, h.block⟩
theorem backE_backE {L : List Ed} (h : Srt L) : backE (backE L) = L := Srt.uniq (srt_backE _) h fun e => by
  rw [mem_backE, mem_backE, swE_swE]
/-- How many edges have an end below k. -/
def cntF (f : Ed → Int) (L : List Ed) (k : Int) : Nat := (L.filter fun x => decide (f x < k)).length
theorem cntF_zero (f : Ed → Int) : ∀ {L : List Ed}, (∀ e ∈ L, 0 ≤ f e) → cntF f L 0 = 0
  | [], _ => rfl
  | x :: L, h => by
    unfold cntF
    rw [List.filter_cons, if_neg (by have := h x (by simp); simp; omega)]
    exact cntF_zero f fun e he => h e (by simp [he])
theorem cntF_all (f : Ed → Int) {N : Int} : ∀ {L : List Ed}, (∀ e ∈ L, f e < N) → cntF f L N = L.length
  | [], _ => rfl
  | x :: L, h => by
    unfold cntF
    rw [List.filter_cons, if_pos (by have := h x (by simp); simp; omega), List.length_cons, List.length_cons]
    have := cntF_all f (N := N) (L := L) fun e he => h e (by simp [he])
    unfold cntF at this
    rw [this]
theorem cntF_succ (f : Ed → Int) (k : Int) : ∀ L : List Ed, cntF f L (k + 1) = cntF f L k + (L.filter fun x => decide (f x = k)).length
  | [] => rfl
  | x :: L => by
    have ih := cntF_succ f k L
    unfold cntF at ih ⊢
    rw [List.filter_cons, List.filter_cons, List.filter_cons]
    rcases Int.lt_trichotomy (f x) k with h | h | h
    · rw [if_pos (by simp; omega), if_pos (by simp; omega), if_neg (by simp; omega), List.length_cons, List.length_cons, ih]; omega
    · rw [if_pos (by simp; omega), if_neg (by simp; omega), if_pos (by simp; omega), List.length_cons, List.length_cons, ih]; omega
    · rw [if_neg (by simp; omega), if_neg (by simp; omega), if_neg (by simp; omega), ih]
theorem cntF_le (f : Ed → Int) (L : List Ed) (k : Int) : cntF f L k ≤ L.length := List.length_filter_le _ _

/-- Of a row in order, each edge is ahead of the next one. -/
theorem srt_step {l : List Ed} (h : Srt l) {i : Nat} (hi : i + 1 < l.length) : cmpE (at3 l i) (at3 l (i + 1)) = -1 := by
  have h1 := List.pairwise_iff_getElem.1 h i (i + 1) (by omega) hi (by omega)
  rw [at3_lt (by omega), at3_lt hi]
  unfold cmpE
  rw [if_pos h1]
theorem filt_at {l : List Ed} {p : Ed → Bool} {i : Nat} (hi : i < (l.filter p).length) : p (at3 (l.filter p) i) = true := (List.mem_filter.1 (at3_mem hi)).2
theorem outE_at {l : List Ed} {k : Int} {i : Nat} (hi : i < (outE l k).length) : (at3 (outE l k) i).1 = k := by
  have h : decide ((at3 (outE l k) i).1 = k) = true := filt_at (p := fun x : Ed => decide (x.1 = k)) hi
  exact of_decide_eq_true h
theorem inE_at {l : List Ed} {k : Int} {i : Nat} (hi : i < (inE l k).length) : (at3 (inE l k) i).2.1 = k := by
  have h : decide ((at3 (inE l k) i).2.1 = k) = true := filt_at (p := fun x : Ed => decide (x.2.1 = k)) hi
  exact of_decide_eq_true h

/-- Edges added in any order, and however often. -/
theorem addEs_same {L T : List Ed} (h : Srt L) (he : ∀ e, e ∈ T ↔ e ∈ L) : addEs [] T = L := Srt.uniq (srt_addEs Srt.nil) h fun e => by rw [mem_addEs, he e]; simp
theorem remE_ne {L : List Ed} {x : Ed} (h : x ∈ L) : remE L x ≠ L := fun e => by
  have h1 : x ∈ remE L x := by rw [e]; exact h
  exact (mem_remE.1 h1).2 rfl
theorem remE_rem (L : List Ed) (x : Ed) : remE (remE L x) x = remE L x := remE_no fun h => (mem_remE.1 h).2 rfl
theorem remE_take {L : List Ed} {x : Ed} {k : Nat} (hk : k < L.length) : remE (L.take (k + 1)) x = remE (L.take k) x ++ if at3 L k = x then [] else [at3 L k] := by
  rw [take_snoc3 hk]
  unfold remE
  rw [List.filter_append]
  by_cases h : at3 L k = x
  · rw [if_pos h]; simp [h]
  · rw [if_neg h]; simp [h]
theorem remE_le (L : List Ed) (x : Ed) : (remE L x).length ≤ L.length := List.length_filter_le _ _

set_option maxRecDepth 100000 in
theorem eql_pp (a b : Ed) (w : World) : (binOp .eql 39 (eV a) (eV b)).run Try.prog w = .ok (.bool (decide (a = b))) w := by
  rw [← eV_beq]
  unfold eV
  obtain ⟨fs, hf⟩ : ∃ fs, Try.prog.fieldsOf 39 = fs := ⟨_, rfl⟩
  rw [run_eql_struct, run_equalIn_agg w 9999 _ _ _ (by kernel_rfl) (by kernel_rfl), hf]
  simp only [Program.fieldsOf, Try.underlying39] at hf
  subst hf
  simp only [Op.eqFields]
  have e1 := fun wx (x y : Int) => run_equalIn_int (P := Try.prog) wx 9998 3 .i64 .i64 x y Try.underlying3
  generalize a.1 = a1
  generalize a.2.1 = a2
  generalize a.2.2 = a3
  generalize b.1 = b1
  generalize b.2.1 = b2
  generalize b.2.2 = b3
  by_cases h1 : a1 = b1 <;> by_cases h2 : a2 = b2 <;> by_cases h3 : a3 = b3 <;> simp [go_sem, e1, h1, h2, h3]

set_option maxRecDepth 100000 in
theorem neq_pp (a b : Ed) (w : World) : (binOp .neq 39 (eV a) (eV b)).run Try.prog w = .ok (.bool (!decide (a = b))) w := by
  have h := eql_pp a b w
  unfold eV at h ⊢
  rw [run_eql_struct] at h
  rw [run_neq_struct]
  generalize (Op.equalIn 10000 39 (.agg #[.int .i64 a.1, .int .i64 a.2.1, .int .i64 a.2.2]) (.agg #[.int .i64 b.1, .int .i64 b.2.1, .int .i64 b.2.2])).run Try.prog w = r at *
  cases r <;> simp_all [go_sem]

theorem pick_plain (d : Int) (m : Nat) (hm : 0 < m) : ∃ k : Nat, k < m ∧ (d.tmod m + m).tmod m = (k : Int) := by
  have h1 : -(m : Int) < d.tmod m := Int.lt_tmod_of_pos d (by omega)
  have h2 : 0 ≤ d.tmod m + m := by omega
  rw [Int.tmod_eq_emod_of_nonneg h2]
  have h3 := Int.emod_lt_of_pos (d.tmod m + m) (show (0 : Int) < m by omega)
  have h4 := Int.emod_nonneg (d.tmod m + m) (show (m : Int) ≠ 0 by omega)
  exact ⟨((d.tmod m + m) % m).toNat, by omega, by omega⟩

set_option maxRecDepth 100000 in
theorem gpick_any (d : Int) (m : Nat) (w : World) (hm : 0 < m) (hm2 : m ≤ 1000000000) :
    Calls Try.prog 13 #[.int .i64 d, .int .i64 m] w fun e w' => ∃ k : Nat, e = .returned (.int .i64 k) ∧ k < m ∧ w = w' := by
  obtain ⟨k, hk, he⟩ := pick_plain d m hm
  have h1 : -(m : Int) < d.tmod m := Int.lt_tmod_of_pos d (by omega)
  have h2 : d.tmod m < m := Int.tmod_lt_of_pos d (by omega)
  rw [Int.tmod_eq_emod_of_nonneg (by omega)] at he
  have he2 := Lib_hid he
  have h0 : ¬ m = 0 := by omega
  clear he
  go_enter Try.func13, Try.ntmps13
  go_wp2
  go_ret
  exact ⟨k, ret_int he2.out, hk, rfl⟩

end Go.Proofs.Ytopecdkkmbpnbaa
