/-
  Layer 13: the edges from a node, to a node, all edges: Out, In, Edges of the program.
-/
import Derived.Test.YtopecdkkmbpnbaaGgf
import Derived.Test.YtopecdkkmbpnbaaGgg
namespace Go.Proofs.Ytopecdkkmbpnbaa
open Go Go.RowKit Go.Maps
set_option linter.unusedVariables false

theorem GrG.out_none {N : Nat} {L : List Ed} {R I : Nat → List Ed} {f : Ed → Option Pl} (h : GrG N L R I f) {n : Int} (hn : isN N n = false) : outE L n = [] := by
  unfold outE
  rw [List.filter_eq_nil_iff]
  intro e he hc
  have h1 := h.node e he
  simp only [decide_eq_true_eq] at hc
  have h2 : ¬ (0 ≤ n ∧ n < N) := fun h3 => by rw [isN_iff.2 h3] at hn; cases hn
  omega
theorem GrG.in_none {N : Nat} {L : List Ed} {R I : Nat → List Ed} {f : Ed → Option Pl} (h : GrG N L R I f) {n : Int} (hn : isN N n = false) : inE L n = [] := by
  unfold inE
  rw [List.filter_eq_nil_iff]
  intro e he hc
  have h1 := h.node e he
  simp only [decide_eq_true_eq] at hc
  have h2 : ¬ (0 ≤ n ∧ n < N) := fun h3 => by rw [isN_iff.2 h3] at hn; cases hn
  omega

theorem made_nil (E : TypeId) (size : Nat) (w : World) : MadeC E size 0 [] w (.returned (.slice none 0 0)) w := ⟨none, 0, rfl, own_zero _ _ _ _, Below.refl _ _⟩

set_option maxRecDepth 100000 in
theorem pout_any {w : World} {p N : Nat} {S : Nat → Prop} {L : List Ed} (h : GmIs w p S N L) (hN : N ≤ 65536) (hL : L.length ≤ 1000000000) (n : Int) :
    Calls Try.prog 31 #[.pointer (some ⟨p, 0, none⟩), .int .i64 n] w (MadeC 39 3 (outE L n).length (ec (outE L n)) w) := by
  have NO := Lib_hid (pnode_any h n)
  obtain ⟨m, go, gi, So, Si, R, I, f, tg, hX, hS⟩ := h
  by_cases hn : isN N n = true
  · rw [hn] at NO
    obtain ⟨k, rfl, hk⟩ := isN_nat hn
    have T := Lib_hid (told_any hX.out hk hN (Nat.le_trans (hX.pl.out_len hk) hL))
    rw [hX.pl.out_eq hk, show (R k).length = (outE L k).length by rw [← hX.pl.out_eq hk, len_srtE]] at T
    have c2 := hX.c2
    clear hX hS hn
    generalize ec (outE L k) = xs at *
    generalize (outE L k).length = m at *
    go_enter Try.func31, Try.ntmps31
    go_wp2_with fail
    refine NO.out.mono ?_
    rintro e w1 ⟨rfl, rfl⟩
    go_wp2_with fail
    refine T.out.mono ?_
    rintro e w2 ⟨A, c, rfl, ho, hb⟩
    go_wp2
    go_ret
    exact ⟨A, c, rfl, ho, hb⟩
  · have hn' : isN N n = false := by cases h : isN N n with | false => rfl | true => exact absurd h hn
    rw [hn'] at NO
    rw [hX.pl.out_none hn']
    clear hX hS hn hn'
    go_enter Try.func31, Try.ntmps31
    go_wp2_with fail
    refine NO.out.mono ?_
    rintro e w1 ⟨rfl, rfl⟩
    go_wp2
    go_ret
    exact made_nil _ _ _

set_option maxRecDepth 100000 in
theorem pin_any {w : World} {p N : Nat} {S : Nat → Prop} {L : List Ed} (h : GmIs w p S N L) (hN : N ≤ 65536) (hL : L.length ≤ 1000000000) (n : Int) :
    Calls Try.prog 32 #[.pointer (some ⟨p, 0, none⟩), .int .i64 n] w (MadeC 39 3 (inE L n).length (ec (inE L n)) w) := by
  have NO := Lib_hid (pnode_any h n)
  obtain ⟨m, go, gi, So, Si, R, I, f, tg, hX, hS⟩ := h
  by_cases hn : isN N n = true
  · rw [hn] at NO
    obtain ⟨k, rfl, hk⟩ := isN_nat hn
    have T := Lib_hid (told_any hX.inn hk hN (Nat.le_trans (hX.pl.in_len hk) hL))
    rw [hX.pl.in_eq hk, show (I k).length = (inE L k).length by rw [← hX.pl.in_eq hk, len_srtE]] at T
    have c2 := hX.c3
    clear hX hS hn
    generalize ec (inE L k) = xs at *
    generalize (inE L k).length = m at *
    go_enter Try.func32, Try.ntmps32
    go_wp2_with fail
    refine NO.out.mono ?_
    rintro e w1 ⟨rfl, rfl⟩
    go_wp2_with fail
    refine T.out.mono ?_
    rintro e w2 ⟨A, c, rfl, ho, hb⟩
    go_wp2
    go_ret
    exact ⟨A, c, rfl, ho, hb⟩
  · have hn' : isN N n = false := by cases h : isN N n with | false => rfl | true => exact absurd h hn
    rw [hn'] at NO
    rw [hX.pl.in_none hn']
    clear hX hS hn hn'
    go_enter Try.func32, Try.ntmps32
    go_wp2_with fail
    refine NO.out.mono ?_
    rintro e w1 ⟨rfl, rfl⟩
    go_wp2
    go_ret
    exact made_nil _ _ _

/-- The edges from nodes below one. -/
def upE (L : List Ed) (k : Nat) : List Ed := L.filter fun x => decide (x.1 < (k : Int))
theorem upE_zero {N : Nat} {L : List Ed} (h : ∀ e ∈ L, 0 ≤ e.1) : upE L 0 = [] := by
  unfold upE
  rw [List.filter_eq_nil_iff]
  intro e he hc
  have := h e he
  simp only [decide_eq_true_eq] at hc
  omega
theorem upE_all {N : Nat} {L : List Ed} (h : ∀ e ∈ L, e.1 < (N : Int)) : upE L N = L := by
  unfold upE
  rw [List.filter_eq_self]
  intro e he
  exact decide_eq_true (h e he)
theorem upE_succ {L : List Ed} (h : Srt L) (k : Nat) : upE L (k + 1) = upE L k ++ outE L k := by
  refine Srt.uniq (h.filter _) (List.pairwise_append.2 ⟨h.filter _, h.filter _, fun a ha b hb => ?_⟩) fun e => ?_
  · simp only [upE, outE, List.mem_filter, decide_eq_true_eq] at ha hb
    exact .inl (by omega)
  · simp only [upE, outE, List.mem_append, List.mem_filter, decide_eq_true_eq]
    constructor
    · rintro ⟨h1, h2⟩
      by_cases h3 : e.1 < (k : Int)
      · exact .inl ⟨h1, h3⟩
      · exact .inr ⟨h1, by omega⟩
    · rintro (⟨h1, h2⟩ | ⟨h1, h2⟩)
      · exact ⟨h1, by omega⟩
      · exact ⟨h1, by omega⟩
theorem upE_len (L : List Ed) (k : Nat) : (upE L k).length ≤ L.length := List.length_filter_le _ _

theorem made_zero (cs : Array Value) : (madeCells cs 0).toList = [] := by simp [madeCells]
theorem make_edges (n : Nat) (hn : n ≤ 1000000000) (wx : World) : (Instr.makeSlice 34 (.int .i64 0) (.int .i64 n)).run Try.prog wx = .ok (.slice (some ⟨wx.heap.size, 0, none⟩) 0 n) (wx.alloc (.cells (madeCells #[.int .i64 0, .int .i64 0, .int .i64 0] (n * 3)) 39)) := by
  obtain ⟨i0, hi, hz0, hz1, hz2⟩ := info_parts Try.infoE
  have := run_make (P := Try.prog) wx 34 39 i0 (.agg #[.int .i64 0, .int .i64 0, .int .i64 0]) Try.underlying34 hi hz0 .i64 .i64 (0 : Int) (n : Int) (by omega) (by omega) (by rw [hz2]; omega) (by omega)
  rw [hz1, show (Value.agg #[.int .i64 0, .int .i64 0, .int .i64 0]).cells = #[.int .i64 0, .int .i64 0, .int .i64 0] from rfl] at this
  simpa using this
theorem own_edges (n : Nat) (hn : n ≤ 1000000000) (w : World) : (w.alloc (.cells (madeCells #[.int .i64 0, .int .i64 0, .int .i64 0] (n * 3)) 39)).ownsRow w.heap.size 39 3 (.slice (some ⟨w.heap.size, 0, none⟩) 0 n) 0 (ec []) :=
  ⟨rfl, .inr ⟨_, n, _, rfl, Nat.le_refl _, heap_alloc_new w _, Nat.zero_le _, by unfold maxLen; omega, by rw [size_madeCells], by simp [ec]⟩⟩

set_option maxRecDepth 100000 in
set_option maxHeartbeats 1600000 in
theorem pedges_any {w : World} {p N : Nat} {S : Nat → Prop} {L : List Ed} (h : GmIs w p S N L) (hN : N ≤ 65536) (hL : L.length ≤ 1000000) :
    Calls Try.prog 34 #[.pointer (some ⟨p, 0, none⟩)] w (MadeC 39 3 L.length (ec L) w) := by
  have MA := Lib_hid (pmany_any h)
  have LE := Lib_hid (fun (W : World) (hW : Below w.heap.size w W) => plen_any (h.later hW))
  have hsrt := h.srt
  obtain ⟨m, go, gi, So, Si, R, I, f, tg, hX, hS⟩ := h
  have HU : Hid (upE L 0 = [] ∧ upE L N = L ∧ ∀ k, k < N → upE L (k + 1) = upE L k ++ outE L k) := ⟨upE_zero (N := N) (fun e he => (hX.pl.node e he).1), upE_all (fun e he => (hX.pl.node e he).2.1), fun k _ => upE_succ hsrt k⟩
  have HT : Hid (∀ W : World, Below w.heap.size w W → W.cell? ⟨p, 2, none⟩ = some (.slice (some ⟨go, 0, none⟩) N N) ∧ ∀ k, k < N → Calls Try.prog 54 #[.slice (some ⟨go, 0, none⟩) N N, .int .i64 (k : Int)] W (MadeC 39 3 (outE L k).length (ec (outE L k)) W)) := fun W hW => by
    have hX2 := hX.keep hW.size fun k hk _ => hW.block k hk
    refine ⟨hX2.c2, fun k hk => ?_⟩
    have T := told_any hX2.out hk hN (Nat.le_trans (hX.pl.out_len hk) (by omega))
    rw [hX.pl.out_eq hk, show (R k).length = (outE L k).length by rw [← hX.pl.out_eq hk, len_srtE]] at T
    exact T
  have HLN : Hid (∀ k, (upE L k).length ≤ L.length) := fun k => upE_len L k
  obtain ⟨i0, hi, hz0, hz1, hz2⟩ := info_parts Try.infoE
  have HL := Lib_hid hL
  have MK := make_edges L.length (by omega) w
  have hoE := own_edges L.length (by omega) w
  have hbE := below_new w (.cells (madeCells #[.int .i64 0, .int .i64 0, .int .i64 0] (L.length * 3)) 39)
  clear hX hS hsrt hL
  generalize hcs : Obj.cells (madeCells #[.int .i64 0, .int .i64 0, .int .i64 0] (L.length * 3)) 39 = oc at *
  clear hcs
  generalize hln : L.length = ln at *
  have HN := Lib_hid hln
  clear hln
  go_enter Try.func34, Try.ntmps34
  go_wp2_with fail
  refine MA.out.mono ?_
  rintro e w1 ⟨rfl, rfl⟩
  go_upto_region 2 with (fail)
  have LE2 := Lib_hid (LE.out _ hbE)
  have HE2 := Lib_hid (And.intro hoE hbE)
  clear MK hoE hbE
  generalize w.alloc oc = W1 at *
  go_wp2_with fail
  refine LE2.out.mono ?_
  rintro e w1 ⟨rfl, rfl⟩
  go_wp2
  go_loopw [3, 4, 10] (fun l x i wr => ∃ (k mm c : Nat) (A : Option Addr), l = .slice A mm c ∧ i = .int .i64 k ∧ k ≤ N ∧ mm = (upE L k).length ∧ wr.ownsRow w.heap.size 39 3 (.slice A mm c) mm (ec (upE L k)) ∧ Below w.heap.size w wr) (fun _ _ i _ => N - (intOf i).toNat)
  case atStart => exact ⟨0, 0, ln, some ⟨w.heap.size, 0, none⟩, rfl, rfl, Nat.zero_le _, by rw [HU.out.1]; rfl, by rw [HU.out.1]; exact HE2.out.1, HE2.out.2⟩
  case round =>
    obtain ⟨k, mm, c, A, rfl, rfl, hk, hmm, ho, hbw⟩ := hrel
    by_cases hlt : k < N
    · obtain ⟨c2, T0⟩ := HT.out _ hbw
      have T := Lib_hid (T0 k hlt)
      have hU := Lib_hid (HU.out.2.2 k hlt)
      have h1 := HLN.out (k + 1)
      rw [hU.out, List.length_append, ← hmm] at h1
      have hm1 : mm + (outE L k).length ≤ maxLen := by unfold maxLen; have := HL.out; omega
      have hm2 : (mm + (outE L k).length) * 24 ≤ 140737488355328 := by have := HL.out; omega
      have HM := Lib_hid hmm
      have HO := Lib_hid (And.intro ho hbw)
      clear T0 h1 hmm ho
      generalize hq : (outE L k).length = q at *
      have HQ := Lib_hid hq
      clear hq
      go_wp2_with fail
      refine T.out.mono ?_
      rintro e w2 ⟨A2, c2', rfl, ho2, hb2⟩
      have ho3 := own_below HO.out.1 hb2 (own_lt HO.out.1)
      have hr2 := Rd.own ho2
      have hb3 := HO.out.2.trans (hb2.mono HO.out.2.size)
      have hbs := hb3.size
      clear T c2 HO
      go_wp2_with (at_builtin; (refine wpList_app rfl _ _ 34 rfl w.heap.size 39 i0 (.agg #[.int .i64 0, .int .i64 0, .int .i64 0]) 3 24 Try.underlying34 hi hz0 hz1 hz2 rfl (by decide) (.slice A mm c) mm (ec (upE L k)) rfl ho3 w2.heap.size A2 q c2' (ec (outE L k)) rfl hr2 (ec_one _) hm1 hm2 hbs ?_); intro v' w6 hown6 hst; obtain ⟨Aw6, cw6, rfl⟩ := own_form' hown6)
      rw [← ec_append, ← hU.out] at hown6
      have hb6 := hb3.grown hst.grow hbs (own_ge ho3)
      clear ho2 ho3 hr2 hst hb2 hb3
      go_roundw
      case rel => exact ⟨k + 1, mm + q, cw6, Aw6, rfl, by go_num, by omega, by rw [hU.out, List.length_append, ← HM.out, HQ.out], hown6, hb6⟩
      case measure => simp [intOf]; omega
    · obtain rfl : k = N := by omega
      rw [HU.out.2.1] at hmm ho
      rw [HN.out] at hmm
      subst hmm
      go_wp2
      go_ret
      exact ⟨A, c, rfl, ho, hbw⟩

end Go.Proofs.Ytopecdkkmbpnbaa
