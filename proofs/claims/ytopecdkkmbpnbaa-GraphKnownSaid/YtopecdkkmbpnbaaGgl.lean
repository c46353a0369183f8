/-
  Layer 13: a graph is made: with, New of the program.
-/
import Derived.Test.YtopecdkkmbpnbaaGgf
import Derived.Deep.LoopGhost
import Derived.Deep.DeepCutAuto
namespace Go.Proofs.Ytopecdkkmbpnbaa
open Go Go.RowKit Go.Maps Go.ChangeMaps Go.MapKept
set_option linter.unusedVariables false

theorem Try.infoS : (Try.prog.info? 34).map (fun i => (i.zero, i.size, i.bytes)) = some (some (.slice none 0 0), 1, 24) := by kernel_rfl
theorem make_map (n : Nat) (w : World) : (Instr.makeMap 73 (some (.int .i64 (n : Int)))).run Try.prog w = .ok (.map (some w.heap.size)) (w.alloc (.map #[] 0)) := by
  simp [Instr.makeMap, run_underlying Try.underlying73, asInt, asIntOf, Result.andThen, go_sem]
theorem make_rows (n : Nat) (hn : n ≤ 1000000000) (wx : World) : (Instr.makeSlice 75 (.int .i64 n) (.int .i64 n)).run Try.prog wx = .ok (.slice (some ⟨wx.heap.size, 0, none⟩) n n) (wx.alloc (.cells (madeCells #[.slice none 0 0] n) 34)) := by
  obtain ⟨i0, hi, hz0, hz1, hz2⟩ := info_parts Try.infoS
  have := run_make (P := Try.prog) wx 75 34 i0 (.slice none 0 0) Try.underlying75 hi hz0 .i64 .i64 (n : Int) (n : Int) (by omega) (by omega) (by rw [hz2]; omega) (by omega)
  rw [hz1, show (Value.slice none 0 0).cells = #[.slice none 0 0] from rfl] at this
  simpa using this
def S0 : Nat → Sl2 := fun _ => (none, 0)
def R0 : Nat → List Ed := fun _ => []
theorem made_rows (n : Nat) : (madeCells #[.slice none 0 0] n).toList = rowsL n S0 R0 := by
  unfold madeCells rowsL
  apply List.ext_getElem
  · simp
  · intro i h1 h2
    simp [Nat.mod_one, sv, S0, R0]
theorem own_rows {w : World} {g n : Nat} (hn : n ≤ 1000000000) (h : w.heap[g]? = some (.cells (madeCells #[.slice none 0 0] n) 34 (0, 0))) : w.ownsRow 0 34 1 (.slice (some ⟨g, 0, none⟩) n n) n (rowsL n S0 R0) :=
  ⟨by simp [rowsL], .inr ⟨g, n, _, rfl, Nat.zero_le _, h, Nat.le_refl _, by unfold maxLen; omega, by rw [size_madeCells]; omega, by rw [← made_rows, List.take_of_length_le (by rw [made_rows]; simp [rowsL])]⟩⟩
theorem half_new {w : World} {g n c : Nat} {tg : Nat → Nat} (hn : n ≤ 1000000000) (h : w.heap[g]? = some (.cells (madeCells #[.slice none 0 0] n) 34 (0, 0))) (ht : tg g = c) : Half w n g S0 R0 tg c :=
  ⟨own_rows hn h, fun j _ => own_zero _ _ _ _, ht, fun j _ k e => by cases e⟩

/-- A graph without edges, of four blocks. -/
theorem gm_new {w W : World} {p m go gi N : Nat} (hN : N ≤ 65536) (h0 : W.heap[p]? = some (.cells #[.int .i64 (N : Int), .map (some m), .slice (some ⟨go, 0, none⟩) N N, .slice (some ⟨gi, 0, none⟩) N N] 80 (0, 0)))
    (hm : W.heap[m]? = some (.map #[] 0)) (h1 : W.heap[go]? = some (.cells (madeCells #[.slice none 0 0] N) 34 (0, 0))) (h2 : W.heap[gi]? = some (.cells (madeCells #[.slice none 0 0] N) 34 (0, 0)))
    (n1 : p ≠ m) (n2 : p ≠ go) (n3 : p ≠ gi) (n4 : m ≠ go) (n5 : m ≠ gi) (n6 : go ≠ gi) (hb : w.heap.size ≤ p ∧ w.heap.size ≤ m ∧ w.heap.size ≤ go ∧ w.heap.size ≤ gi) :
    ∃ S, GmIs W p S N [] ∧ ∀ k, S k → w.heap.size ≤ k := by
  obtain ⟨tg, htg⟩ : ∃ tg : Nat → Nat, tg = fun k => if k = p then 1 else if k = m then 2 else if k = go then 3 else if k = gi then 4 else 0 := ⟨_, rfl⟩
  have l0 := (Array.getElem?_eq_some_iff.1 h0).1
  have l1 := (Array.getElem?_eq_some_iff.1 hm).1
  have l2 := (Array.getElem?_eq_some_iff.1 h1).1
  have l3 := (Array.getElem?_eq_some_iff.1 h2).1
  have tp : tg p = 1 := by rw [htg]; simp
  have tm : tg m = 2 := by rw [htg]; simp [n1.symm]
  have t1 : tg go = 3 := by rw [htg]; simp [n2.symm, n4.symm]
  have t2 : tg gi = 4 := by rw [htg]; simp [n3.symm, n5.symm, n6.symm]
  refine ⟨fun k => tg k ≠ 0, ⟨m, go, gi, S0, S0, R0, R0, fun _ => none, tg, ⟨h0, tp, tm, ?_, half_new (by omega) h1 t1, half_new (by omega) h2 t2, GrG.new N, by simp, fun k hk => ?_⟩, fun _ => Iff.rfl⟩, fun k hk => ?_⟩
  · exact ⟨.map [], ⟨#[], 0, hm, ⟨by simp, stamped_empty 0, by simp⟩, Nat.le_refl _, rfl⟩, rfl, fun e kl _ _ => ⟨rfl, rfl⟩⟩
  · rw [htg]
    simp only
    rw [if_neg (by omega), if_neg (by omega), if_neg (by omega), if_neg (by omega)]
  · rw [htg] at hk
    simp only at hk
    split at hk
    · omega
    · split at hk
      · omega
      · split at hk
        · omega
        · split at hk
          · omega
          · exact absurd rfl hk

theorem four_new (w : World) (o1 o2 o3 o4 : Obj) : ((((w.alloc o1).alloc o2).alloc o3).alloc o4).drew.heap[w.heap.size]? = some o1 ∧ ((((w.alloc o1).alloc o2).alloc o3).alloc o4).drew.heap[w.heap.size + 1]? = some o2 ∧ ((((w.alloc o1).alloc o2).alloc o3).alloc o4).drew.heap[w.heap.size + 1 + 1]? = some o3 ∧ ((((w.alloc o1).alloc o2).alloc o3).alloc o4).drew.heap[w.heap.size + 1 + 1 + 1]? = some o4 := by
  have s1 : (w.alloc o1).heap.size = w.heap.size + 1 := by simp
  have s2 : ((w.alloc o1).alloc o2).heap.size = w.heap.size + 1 + 1 := by simp
  have s3 : (((w.alloc o1).alloc o2).alloc o3).heap.size = w.heap.size + 1 + 1 + 1 := by simp
  have a1 := heap_alloc_new w o1
  have a2 := heap_alloc_new (w.alloc o1) o2
  have a3 := heap_alloc_new ((w.alloc o1).alloc o2) o3
  have a4 := heap_alloc_new (((w.alloc o1).alloc o2).alloc o3) o4
  have b2 := below_new (w.alloc o1) o2
  have b3 := below_new ((w.alloc o1).alloc o2) o3
  have b4 := below_new (((w.alloc o1).alloc o2).alloc o3) o4
  rw [s1] at a2
  rw [s2] at a3
  rw [s3] at a4
  exact ⟨(b4.block _ (by omega)).trans ((b3.block _ (by omega)).trans ((b2.block _ (by omega)).trans a1)), (b4.block _ (by omega)).trans ((b3.block _ (by omega)).trans a2), (b4.block _ (by omega)).trans a3, a4⟩
theorem four_below (w : World) (o1 o2 o3 o4 : Obj) : Below w.heap.size w ((((w.alloc o1).alloc o2).alloc o3).alloc o4).drew :=
  ((((below_new w o1).alloc (below_new w o1).size o2).alloc ((below_new w o1).alloc (below_new w o1).size o2).size o3).alloc (((below_new w o1).alloc (below_new w o1).size o2).alloc ((below_new w o1).alloc (below_new w o1).size o2).size o3).size o4).drew
theorem with_leaf {w W : World} {N m go gi : Nat} (hN : N ≤ 65536) (h0 : W.heap[w.heap.size + 1 + 1 + 1]? = some (.cells #[.int .i64 (N : Int), .map (some m), .slice (some ⟨go, 0, none⟩) N N, .slice (some ⟨gi, 0, none⟩) N N] 80 (0, 0)))
    (hm : W.heap[m]? = some (.map #[] 0)) (h1 : W.heap[go]? = some (.cells (madeCells #[.slice none 0 0] N) 34 (0, 0))) (h2 : W.heap[gi]? = some (.cells (madeCells #[.slice none 0 0] N) 34 (0, 0)))
    (hn : (m ≠ go ∧ m ≠ gi ∧ go ≠ gi) ∧ (m < w.heap.size + 1 + 1 + 1 ∧ go < w.heap.size + 1 + 1 + 1 ∧ gi < w.heap.size + 1 + 1 + 1) ∧ w.heap.size ≤ m ∧ w.heap.size ≤ go ∧ w.heap.size ≤ gi) (hB : Below w.heap.size w W) :
    ∃ (p : Nat) (S : Nat → Prop), Value.pointer (some ⟨w.heap.size + 1 + 1 + 1, 0, none⟩) = .pointer (some ⟨p, 0, none⟩) ∧ Hid (GmIs W p S N []) ∧ Hid (Below w.heap.size w W) ∧ Hid (∀ k, S k → w.heap.size ≤ k) := by
  obtain ⟨S, g1, g2⟩ := gm_new (w := w) hN h0 hm h1 h2 (by omega) (by omega) (by omega) hn.1.1 hn.1.2.1 hn.1.2.2 (by omega)
  exact ⟨_, S, rfl, g1, hB, g2⟩

/-- Ends with a graph in new memory. -/
def MadeG (N : Nat) (L : List Ed) (w : World) (r : Ending) (w' : World) : Prop := ∃ (p : Nat) (S : Nat → Prop), r = .returned (.pointer (some ⟨p, 0, none⟩)) ∧ GmIs w' p S N L ∧ Below w.heap.size w w' ∧ ∀ k, S k → w.heap.size ≤ k

/-- Edges between the nodes that there are. -/
def EdsIn (N : Nat) (l : List Ed) : Prop := ∀ e ∈ l, EdOk e ∧ 0 ≤ e.1 ∧ e.1 < N ∧ 0 ≤ e.2.1 ∧ e.2.1 < N

set_option maxRecDepth 100000 in
set_option maxHeartbeats 1600000 in
theorem pwith_any {w : World} {B N n c : Nat} {A : Option Addr} {l : List Ed} (h : Rd w B 3 A n (ec l)) (hB : B ≤ w.heap.size) (hl : EdsIn N l) (hN : N ≤ 65536) (hn : n ≤ 1000000) :
    Calls Try.prog 39 #[.int .i64 (N : Int), .slice A n c] w (MadeG N (addEs [] l) w) := by
  have HC := Lib_hid (rde_count h)
  have HI := Lib_hid (fun (W : World) (hW : Below w.heap.size w W) (i : Nat) (hi : i < n) => e_at (h.below (hW.mono hB)) hi)
  have HE : Hid (∀ i, i < n → EdOk (at3 l i) ∧ 0 ≤ (at3 l i).1 ∧ (at3 l i).1 < N ∧ 0 ≤ (at3 l i).2.1 ∧ (at3 l i).2.1 < N) := fun i hi => hl _ (at3_mem (by rw [HC.out]; exact hi))
  have HT : Hid (∀ i, i < n → addEs [] (l.take (i + 1)) = addE (addEs [] (l.take i)) (at3 l i)) := fun i hi => by rw [take_snoc3 (by rw [HC.out]; exact hi), addEs_snoc]
  have HLN : Hid (∀ i, i ≤ n → (addEs [] (l.take i)).length ≤ i) := fun i hi => by have := (addEs_len (l.take i) []).2; rw [List.length_take] at this; simp at this; omega
  have hmk := make_map n
  have hmr := make_rows N (by omega)
  have HN := Lib_hid (And.intro hN hn)
  clear h hl
  go_enter Try.func39, Try.ntmps39
  go_upto_region 1 with (fail)
  go_cut [5] from 8 to 19 (fun v wx => ∃ (p : Nat) (S : Nat → Prop), v = .pointer (some ⟨p, 0, none⟩) ∧ Hid (GmIs wx p S N []) ∧ Hid (Below w.heap.size w wx) ∧ Hid (∀ k, S k → w.heap.size ≤ k))
  case first =>
    clear HI HE HT HLN
    go_region_held3 (fun _ => True) (trivial) (fail)
    all_goals
      go_wp2_with fail
      go_meet
      refine with_leaf HN.out.1 (four_new w _ _ _ _).2.2.2 ?_ ?_ ?_ (by omega) (four_below w _ _ _ _)
      · first | exact (four_new w _ _ _ _).1 | exact (four_new w _ _ _ _).2.1 | exact (four_new w _ _ _ _).2.2.1
      · first | exact (four_new w _ _ _ _).1 | exact (four_new w _ _ _ _).2.1 | exact (four_new w _ _ _ _).2.2.1
      · first | exact (four_new w _ _ _ _).2.2.1 | exact (four_new w _ _ _ _).2.1 | exact (four_new w _ _ _ _).1
  case rest =>
    obtain ⟨p, S, rfl, hG, hB0, hS0⟩ := hcut
    clear hmk hmr
    go_wp2
    go_loopw [7, 22] (fun x i wr => ∃ (k : Nat) (S : Nat → Prop), i = .int .i64 k ∧ k ≤ n ∧ Hid (GmIs wr p S N (addEs [] (l.take k))) ∧ Hid (Below w.heap.size w wr) ∧ Hid (∀ q, S q → w.heap.size ≤ q)) (fun _ i _ => n - (intOf i).toNat)
    case atStart => exact ⟨0, S, rfl, Nat.zero_le _, hG, hB0, hS0⟩
    case round =>
      clear hG hB0 hS0
      obtain ⟨k, S1, rfl, hk, hG, hbw, hS1⟩ := hrel
      by_cases hlt : k < n
      · obtain ⟨b, off, rfl, _, c0, c1, c2⟩ := HI.out _ hbw.out k hlt
        have he := HE.out k hlt
        have hG2 : Hid (GmIs (wr.alloc (.cells #[.int .i64 (at3 l k).1, .int .i64 (at3 l k).2.1, .int .i64 (at3 l k).2.2] 39)) p S1 N (addEs [] (l.take k))) := hG.out.later (below_new wr _)
        have PU := Lib_hid (gput_any hG2.out he.1 he.2 HN.out.1 (by have := HLN.out k (by omega); have := HN.out.2; omega))
        rw [← HT.out k hlt] at PU
        have HB2 : Hid (Below w.heap.size w (wr.alloc (.cells #[.int .i64 (at3 l k).1, .int .i64 (at3 l k).2.1, .int .i64 (at3 l k).2.2] 39))) := hbw.out.alloc hbw.out.size _
        clear he hG
        unfold eV at PU
        generalize (at3 l k).1 = a1 at *
        generalize (at3 l k).2.1 = a2 at *
        generalize (at3 l k).2.2 = a3 at *
        go_wp2_with fail
        refine PU.out.mono ?_
        rintro r w2 ⟨rfl, S2, hG3, hT3, hS3⟩
        have HH := Lib_hid (And.intro hG3 (And.intro (HB2.out.trans (hT3.below HB2.out.size hS1.out)) (fun q hq => (hS3 q hq).elim (hS1.out q) fun h => Nat.le_trans HB2.out.size h)))
        clear hG3 hT3 hS3 c0 c1 c2
        go_wp2
        go_roundw
        case rel => exact ⟨k + 1, S2, by go_num, by omega, HH.out.1, HH.out.2.1, HH.out.2.2⟩
        case measure => simp [intOf]; omega
      · obtain rfl : k = n := by omega
        rw [show l.take k = l from List.take_of_length_le (by rw [HC.out]; exact Nat.le_refl _)] at hG
        go_wp2
        go_ret
        exact ⟨p, S1, rfl, hG.out, hbw.out, hS1.out⟩

end Go.Proofs.Ytopecdkkmbpnbaa
