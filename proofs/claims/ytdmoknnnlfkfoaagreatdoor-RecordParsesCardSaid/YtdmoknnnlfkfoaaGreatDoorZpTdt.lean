/-
  Layer 4: the head of a node in the document's take, plainly.
  Layer 4: slices.Clone of parts; copies.
  Layer 4: the document's take of a node that may stand.
  Layer 4: the document's take.
-/
import Derived.Test.YtdmoknnnlfkfoaaGreatDoorZpTtt
import Derived.Test.YtdmoknnnlfkfoaaGreatDoorZpTse
import Derived.Test.YtdmoknnnlfkfoaaGreatDoorZpTrw
import Derived.Test.YtdmoknnnlfkfoaaGreatDoorZpTp4

namespace Go.Proofs.YtdmoknnnlfkfoaaGreatDoor
open Go Go.RowKit
set_option linter.unusedVariables false
def F1 (l : List Nat) (kd s a : Nat) (o : Option Nat) : Prop := if 2 ≤ kd ∧ kd ≤ 4 then (a, o) = numO l (some (s + 1)) else a = 0 ∧ o = some (s + 1)
def F2 (l : List Nat) (kd b : Nat) (o o2 : Option Nat) : Prop := if kd = 4 then (b, o2) = numO l o else b = 0 ∧ o2 = o
def F4 (l : List Nat) (kd N : Nat) (o2 o4 : Option Nat) : Prop := if 6 ≤ kd then (N, o4) = numO l o2 else N = (if kd = 5 then 1 else 0) ∧ o4 = o2
theorem head_any {l : List Nat} (hb8 : ∀ x ∈ l, x < 256) {d s kd a b N : Nat} {o o2 o4 : Option Nat} (hs : s < l.length) (hk : kindT l s = (kd, s + 1)) (h1 : 1 ≤ kd) (h7 : kd ≤ 7) (f1 : F1 l kd s a o) (f2 : F2 l kd b o o2) (f4 : F4 l kd N o2 o4) :
    (∀ r, o4 = some r → s + 1 ≤ r ∧ r ≤ l.length ∧ tkS l (d + 1) s = (manyT (tkS l d) N r).map fun x => (.node kd a b x.1, x.2)) ∧ (o4 = none → tkS l (d + 1) s = none) ∧ a < 18446744073709551616 ∧ b < 18446744073709551616 ∧ N < 18446744073709551616 := by
  have hu := tkS_succ (d := d) hk (by omega) h7
  have key : ∀ {x : Nat} {vr : Nat × Nat}, numT l x = some vr → vr.1 < 18446744073709551616 ∧ x + 1 ≤ vr.2 ∧ vr.2 ≤ l.length := fun h => numT_lt hb8 (v := _) (r := _) h
  have hkc : kd = 1 ∨ kd = 2 ∨ kd = 3 ∨ kd = 4 ∨ kd = 5 ∨ kd = 6 ∨ kd = 7 := by omega
  unfold F1 at f1
  unfold F2 at f2
  unfold F4 at f4
  cases hn1 : numT l (s + 1) with
  | none =>
    have HK := Lib_hid hs
    clear key
    rcases hkc with rfl | rfl | rfl | rfl | rfl | rfl | rfl <;> simp [numO, hn1, numsT, numN, cntT] at f1 f2 f4 hu <;> simp_all <;> (have := HK.out; omega)
  | some vr =>
    obtain ⟨v, r⟩ := vr
    obtain ⟨k1, k2, k3⟩ := key hn1
    simp only at k1 k2 k3
    cases hn2 : numT l r with
    | none =>
      have HK := Lib_hid k2
      clear key
      rcases hkc with rfl | rfl | rfl | rfl | rfl | rfl | rfl <;> simp [numO, hn1, hn2, numsT, numN, cntT] at f1 f2 f4 hu <;> simp_all <;> (have := HK.out; omega)
    | some vr2 =>
      obtain ⟨v2, r2⟩ := vr2
      obtain ⟨k4, k5, k6⟩ := key hn2
      simp only at k4 k5 k6
      have HK := Lib_hid (And.intro k2 k5)
      clear key
      rcases hkc with rfl | rfl | rfl | rfl | rfl | rfl | rfl <;> simp [numO, hn1, hn2, numsT, numN, cntT] at f1 f2 f4 hu <;> simp_all <;> (have := HK.out; omega)
end Go.Proofs.YtdmoknnnlfkfoaaGreatDoor

namespace Go.Proofs.YtdmoknnnlfkfoaaGreatDoor
open Go Go.RowKit
set_option linter.unusedVariables false
theorem Tryz.infoE : (Tryz.prog.info? 44).map (fun i => (i.zero, i.size, i.bytes)) = some (some (.agg #[.int .i64 0, .int .u64 0, .int .u64 0, .slice none 0 0]), 4, 48) := by kernel_rfl
theorem Lies.stored {w : World} {lo hi g i : Nat} {v : V} (h : Lies w lo hi v) (hg : g < lo) (x : Value) : Lies (w.setCell ⟨g, i, none⟩ x) lo hi v :=
  h.keep fun p hlo _ => World.cell?_of_block (Below.heap_setCell w ⟨g, i, none⟩ x p.block (by show p.block ≠ g; omega))
end Go.Proofs.YtdmoknnnlfkfoaaGreatDoor

namespace Go.Proofs.YtdmoknnnlfkfoaaGreatDoor
open Go Go.RowKit
set_option linter.unusedVariables false
def RtEnd (l : List Nat) (d s : Nat) (w : World) (e : Ending) (w' : World) : Prop :=
  ∃ (k : Int) (a b n c : Nat) (A : Option Addr) (o : Option Nat), e = .returned (.tuple #[.agg #[.int .i64 k, .int .u64 (a : Int), .int .u64 (b : Int), .slice A n c], .int .i64 (posI o)]) ∧ Below w.heap.size w w' ∧
    ((∃ us r, tkS l d s = some ((V.node k a b A c us).abs, r) ∧ o = some r ∧ us.length = n ∧ Lies w' w.heap.size w'.heap.size (.node k a b A c us) ∧ Shp 34 w' w.heap.size (.node k a b A c us)) ∨ (tkS l d s = none ∧ o = none))
set_option maxRecDepth 100000 in
theorem rtake_ret {Q : Ending → World → Prop} {W : World} {h0 : Nat} {z : Int} {x0 x1 x2 x3 : Value} (HR2 : W.heap[h0]? = some (.cells #[x0, x1, x2, x3] 34 (0, 0))) (HF2 : Q (.returned (.tuple #[.agg #[x0, x1, x2, x3], .int .i64 z])) W)
    (tmps : Array Value) (h2 : tmps.getD 6 undef = .pointer (some ⟨h0, 0, none⟩)) (h3 : tmps.getD 7 undef = .int .i64 z) : bodyPost Tryz.prog Tryz.f104 Q .ret { tmps := tmps, defers := [] } W := by
  rw [Array.getD_eq_getD_getElem?] at h2 h3
  have d0 := cell_of_row W _ 0 _ _ _ HR2
  have d1 := cell_of_row W _ 1 _ _ _ HR2
  have d2 := cell_of_row W _ 2 _ _ _ HR2
  have d3 := cell_of_row W _ 3 _ _ _ HR2
  simp at d0 d1 d2 d3
  exact bodyPost_ret (v := .tuple #[.agg #[x0, x1, x2, x3], .int .i64 z]) (by simp [results, Tryz.results104, go_sem, h2, h3, d0, d1, d2, d3]) rfl HF2
set_option maxRecDepth 100000 in
set_option maxHeartbeats 6400000 in
theorem rtake_good {l : List Nat} (hb8 : ∀ x ∈ l, x < 256) (Ab : Option Addr) (nb cb : Nat) (hn : nb ≤ 100000) (d : Nat) (hd8 : d ≤ 7)
    (IH : ∀ (s B : Nat) (w : World), Rd w B 1 Ab nb (bs l) → B ≤ w.heap.size → Calls Tryz.prog 104 #[.slice Ab nb cb, .int .i64 (s : Int), .int .i64 (d : Int)] w (RtEnd l d s w))
    (s B : Nat) (w : World) (hr : Rd w B 1 Ab nb (bs l)) (hB : B ≤ w.heap.size) (hs : s < nb) (x : Nat) (hk1 : 1 ≤ x) (hk7 : x ≤ 7) (hk : kindT l s = (x, s + 1)) (dd : Int) (hd0 : (dd == 0) = false) (hd1 : IntKind.i64.wrap (dd - 1) = (d : Int))
    (ad : Addr) (hA : Ab = some ad) (hby : w.cell? (ad.add s) = some (.int .u8 (x : Int))) :
    Calls Tryz.prog 104 #[.slice Ab nb cb, .int .i64 (s : Int), .int .i64 dd] w (RtEnd l (d + 1) s w) := by
  have hln : l.length = nb := hr.count
  obtain ⟨i0, hi0, hz0, hz1, hz2⟩ := info_parts Tryz.infoR
  have hsl : decide ((nb : Int) ≤ (s : Int)) = false := by simp; omega
  have hlt : (s : Int) < (nb : Int) := by omega
  have h0 : (0 : Int) ≤ (s : Int) := by omega
  have hs0 : decide ((s : Int) < 0) = false := by simp
  have hx1 : decide ((x : Int) < 1) = false := by simp; omega
  have hx7 : decide ((7 : Int) < (x : Int)) = false := by simp; omega
  have hxw : IntKind.i64.wrap (x : Int) = (x : Int) := IntWalk.i64_in _ (by omega)
  have hsw : IntKind.i64.wrap ((s : Int) + 1) = (s : Int) + 1 := IntWalk.i64_in _ (by omega)
  obtain ⟨w1, hw1⟩ : ∃ w1, w1 = w.alloc (.cells #[.int .i64 0, .int .u64 0, .int .u64 0, .slice none 0 0] 34) := ⟨_, rfl⟩
  have q1 := heap_alloc_new w (.cells #[.int .i64 0, .int .u64 0, .int .u64 0, .slice none 0 0] 34)
  have b1 := below_new w (.cells #[.int .i64 0, .int .u64 0, .int .u64 0, .slice none 0 0] 34)
  have s1 : w1.heap.size = w.heap.size + 1 := by rw [hw1]; simp
  rw [← hw1] at q1 b1
  obtain ⟨w2, hw2⟩ : ∃ w2, w2 = w1.alloc (.cells #[.int .i64 (x : Int), .int .u64 0, .int .u64 0, .slice none 0 0] 34) := ⟨_, rfl⟩
  have p2 := heap_alloc_new w1 (.cells #[.int .i64 (x : Int), .int .u64 0, .int .u64 0, .slice none 0 0] 34)
  have b2 := below_new w1 (.cells #[.int .i64 (x : Int), .int .u64 0, .int .u64 0, .slice none 0 0] 34)
  have s2 : w2.heap.size = w.heap.size + 2 := by rw [hw2]; simp [s1]
  rw [← hw2, s1] at p2 b2
  have q2 := (b2.block _ (by omega)).trans q1
  have bw2 := b1.trans (b2.mono (by omega))
  have hby1 : w1.cell? (ad.add s) = some (.int .u8 (x : Int)) := (World.cell?_of_block (b1.block _ (by
    obtain ⟨ad', e, h1, -⟩ := hr.byte hs
    rw [hA] at e
    injection e with e
    rw [add_block, e]; omega))).trans hby
  have HR : Hid (∀ W, Below w.heap.size w W → Rd W B 1 Ab nb (bs l)) := fun W hW => hr.below (hW.mono hB)
  have NB : Hid (∀ (o : Option Nat) (W : World), Below w.heap.size w W → Calls Tryz.prog 171 #[.slice Ab nb cb, .int .i64 (posI o)] W fun e w' => e = .returned (.tuple #[.int .u64 ((numO l o).1 : Nat), .int .i64 (posI (numO l o).2)]) ∧ Below W.heap.size W w') := fun o W hW =>
    rnumt_any o B Ab nb cb l W (HR.out W hW) hb8 hn (Nat.le_trans hB hW.size)
  have HIH : Hid (∀ (s : Nat) (W : World), Below w.heap.size w W → Calls Tryz.prog 104 #[.slice Ab nb cb, .int .i64 (s : Int), .int .i64 (d : Int)] W (RtEnd l d s W)) := fun s W hW => IH s B W (HR.out W hW) (Nat.le_trans hB hW.size)
  have HHD : Hid (∀ (a b N : Nat) (o o2 o4 : Option Nat), F1 l x s a o → F2 l x b o o2 → F4 l x N o2 o4 → (∀ r, o4 = some r → s + 1 ≤ r ∧ r ≤ l.length ∧ tkS l (d + 1) s = (manyT (tkS l d) N r).map fun y => (.node x a b y.1, y.2)) ∧ (o4 = none → tkS l (d + 1) s = none) ∧ a < 18446744073709551616 ∧ b < 18446744073709551616 ∧ N < 18446744073709551616) := fun a b N o o2 o4 f1 f2 f4 =>
    head_any hb8 (by omega) hk hk1 hk7 f1 f2 f4
  have HB8 := Lib_hid hb8
  have HX17 := Lib_hid (And.intro hk1 hk7)
  clear IH hk hr hby q1 b1 b2 hb8
  have HPQ := Lib_hid (And.intro p2 (And.intro q2 (And.intro bw2 s2)))
  subst hA
  go_enter Tryz.func104, Tryz.ntmps104
  go_upto_region 1 with (fail)
  rw [← hw1]
  have HW2 := Lib_hid hw2
  have HS1 := Lib_hid s1
  clear hw1 hw2 s1 s2 p2 q2 bw2
  go_upto_region 4 with (fail)
  rw [← HW2.out, HS1.out]
  clear HW2 hby1
  obtain ⟨p2, q2, bw2, s2⟩ := HPQ.out
  clear HPQ
  go_upto_region 6 with (fail)
  have c0 := cell_of_row w2 _ 0 _ _ _ p2
  simp at c0
  have HP2 := Lib_hid p2
  have HQ2 := Lib_hid q2
  have HBW := Lib_hid bw2
  clear p2 q2 bw2
  have hE : w2 = w2 := rfl
  have hns : decide (nb ≤ s) = false := by simp; omega
  rw [hns]
  clear hns hs hsl hlt h0 hs0 hx1 hx7 hxw hsw hd0 hk1 hk7
  go_cut [55] from 48 to 54 (fun v W => v = .bool (decide (2 ≤ x ∧ x ≤ 4)) ∧ W = w2)
  case first =>
    by_cases h2 : 2 ≤ x
    · by_cases h4 : x ≤ 4
      · go_wp2_with fail
        go_meet
        exact ⟨by simp [h2, h4]; omega, rfl⟩
      · go_wp2_with fail
        go_meet
        exact ⟨by simp [h4]; omega, rfl⟩
    · go_wp2_with fail
      go_meet
      exact ⟨by simp [h2], rfl⟩
  case rest =>
  obtain ⟨rfl, rfl⟩ := hcut
  clear c0 hE
  have HRW : Hid (∀ W, Below w.heap.size w W → w.heap.size + 2 ≤ W.heap.size → ∀ i v, Below w.heap.size w (W.setCell ⟨w.heap.size + 1, i, none⟩ v) ∧ w.heap.size + 2 ≤ (W.setCell ⟨w.heap.size + 1, i, none⟩ v).heap.size ∧ (W.setCell ⟨w.heap.size + 1, i, none⟩ v).heap[w.heap.size]? = W.heap[w.heap.size]?) := fun W h1 h2 i v =>
    ⟨h1.setCell (p := ⟨w.heap.size + 1, i, none⟩) (by show w.heap.size ≤ w.heap.size + 1; omega) v, by simpa [World.setCell] using h2, Below.heap_setCell W ⟨w.heap.size + 1, i, none⟩ v w.heap.size (by show w.heap.size ≠ w.heap.size + 1; omega)⟩
  have hW2 : w.heap.size + 2 ≤ wc.heap.size := by omega
  clear s2
  generalize hd : decide (2 ≤ x ∧ x ≤ 4) = d1 at *
  go_upto_if 55 with (fail)
  go_cut [1] from 55 to 62 (fun v W => ∃ (o : Option Nat) (a : Nat), v = .int .i64 (posI o) ∧ Hid (F1 l x s a o) ∧ W.heap[w.heap.size + 1]? = some (.cells #[.int .i64 (x : Int), .int .u64 (a : Int), .int .u64 0, .slice none 0 0] 34 (0, 0)) ∧ Hid (W.heap[w.heap.size]? = some (.cells #[.int .i64 0, .int .u64 0, .int .u64 0, .slice none 0 0] 34 (0, 0))) ∧ Hid (Below w.heap.size w W) ∧ w.heap.size + 2 ≤ W.heap.size)
  case first =>
    by_cases hc : 2 ≤ x ∧ x ≤ 4
    · have hd1' : d1 = true := by rw [← hd]; exact decide_eq_true hc
      subst hd1'
      have HC := Lib_hid hc
      have N1 := NB.out (some (s + 1)) wc HBW.out
      obtain ⟨a1, o1, hno⟩ : ∃ a1 o1, numO l (some (s + 1)) = (a1, o1) := ⟨_, _, rfl⟩
      rw [hno] at N1
      have N1 : Calls Tryz.prog 171 #[.slice (some ad) nb cb, .int .i64 ((s : Int) + 1)] wc fun e w' => e = .returned (.tuple #[.int .u64 (a1 : Int), .int .i64 (posI o1)]) ∧ Below wc.heap.size wc w' := N1
      have HNO := Lib_hid hno
      clear hc hno hd
      go_wp2_with fail
      refine N1.mono ?_
      rintro e w3 ⟨rfl, hb3⟩
      have p3 := (hb3.block _ (by omega)).trans HP2.out
      have q3 := (hb3.block _ (by omega)).trans HQ2.out
      have s3 := hb3.size
      have g1 := cell_of_row w3 _ 1 _ _ _ p3
      have z1 := frozen_of_row w3 _ 1 _ _ p3
      simp at g1
      have HN := Lib_hid (And.intro (Joins.block_setCell (i := 1) p3 (.int .u64 (a1 : Int))) (And.intro (HRW.out w3 (HBW.out.trans (hb3.mono HBW.out.size)) (by omega) 1 (.int .u64 (a1 : Int))) q3))
      clear N1 p3 q3 hb3
      go_wp2_with fail
      go_meet
      exact ⟨o1, a1, rfl, Lib_hid (by unfold F1; rw [if_pos HC.out]; exact HNO.out.symm), HN.out.1, Lib_hid (HN.out.2.1.2.2.trans HN.out.2.2), Lib_hid HN.out.2.1.1, HN.out.2.1.2.1⟩
    · have hd1' : d1 = false := by rw [← hd]; exact decide_eq_false hc
      subst hd1'
      have HC := Lib_hid hc
      clear hc hd
      go_wp2_with fail
      go_meet
      exact ⟨some (s + 1), 0, rfl, Lib_hid (by unfold F1; rw [if_neg HC.out]; exact ⟨rfl, rfl⟩), HP2.out, HQ2, HBW, hW2⟩
  case rest =>
  clear HP2 HQ2 HBW hW2 hd
  obtain ⟨o1, a1, rfl, HF1, HP2, HQ2, HBW, hW2⟩ := hcut
  have c0 := cell_of_row _ _ 0 _ _ _ HP2
  simp at c0
  go_upto_if 65 with (fail)
  go_cut [1] from 65 to 72 (fun v W => ∃ (o : Option Nat) (b : Nat), v = .int .i64 (posI o) ∧ Hid (F2 l x b o1 o) ∧ W.heap[w.heap.size + 1]? = some (.cells #[.int .i64 (x : Int), .int .u64 (a1 : Int), .int .u64 (b : Int), .slice none 0 0] 34 (0, 0)) ∧ Hid (W.heap[w.heap.size]? = some (.cells #[.int .i64 0, .int .u64 0, .int .u64 0, .slice none 0 0] 34 (0, 0))) ∧ Hid (Below w.heap.size w W) ∧ w.heap.size + 2 ≤ W.heap.size)
  case first =>
    rename World => W1
    clear c0
    by_cases hc : x = 4
    · have hb4 : ((x : Int) == 4) = true := by simp; omega
      have HC := Lib_hid hc
      have N1 := NB.out o1 _ HBW.out
      obtain ⟨b1, o2, hno⟩ : ∃ b1 o2, numO l o1 = (b1, o2) := ⟨_, _, rfl⟩
      rw [hno] at N1
      have HNO := Lib_hid hno
      clear hc hno
      go_wp2_with fail
      refine N1.mono ?_
      rintro e w3 ⟨rfl, hb3⟩
      have p3 := (hb3.block _ (by omega)).trans HP2
      have q3 := (hb3.block _ (by omega)).trans HQ2.out
      have s3 := hb3.size
      have g1 := cell_of_row w3 _ 2 _ _ _ p3
      have z1 := frozen_of_row w3 _ 2 _ _ p3
      simp at g1
      have HN := Lib_hid (And.intro (Joins.block_setCell (i := 2) p3 (.int .u64 (b1 : Int))) (And.intro (HRW.out w3 (HBW.out.trans (hb3.mono HBW.out.size)) (by omega) 2 (.int .u64 (b1 : Int))) q3))
      clear N1 p3 q3 hb3 HP2
      go_wp2_with fail
      go_meet
      exact ⟨o2, b1, rfl, Lib_hid (by unfold F2; rw [if_pos HC.out]; exact HNO.out.symm), HN.out.1, Lib_hid (HN.out.2.1.2.2.trans HN.out.2.2), Lib_hid HN.out.2.1.1, HN.out.2.1.2.1⟩
    · have hb4 : ((x : Int) == 4) = false := by simp; omega
      have HC := Lib_hid hc
      have HP := Lib_hid HP2
      clear hc HP2
      go_wp2_with fail
      go_meet
      exact ⟨o1, 0, rfl, Lib_hid (by unfold F2; rw [if_neg HC.out]; exact ⟨rfl, rfl⟩), HP.out, HQ2, HBW, hW2⟩
  case rest =>
  clear HP2 HQ2 HBW hW2 c0
  obtain ⟨o2, bb, rfl, HF2, HP2, HQ2, HBW, hW2⟩ := hcut
  rename World => wd
  have c0 := cell_of_row _ _ 0 _ _ _ HP2
  simp at c0
  have hE : wd = wd := rfl
  go_upto_if 75 with (fail)
  go_cut [9] from 75 to 75 (fun m W => ∃ M : Nat, m = .int .u64 (M : Int) ∧ Hid (M = if x = 5 then 1 else 0) ∧ W = wd)
  case first =>
    by_cases hc : x = 5
    · have hb4 : ((x : Int) == 5) = true := by simp; omega
      have HC := Lib_hid hc
      clear hc
      go_wp2_with fail
      go_meet
      exact ⟨1, rfl, Lib_hid (by rw [if_pos HC.out]), rfl⟩
    · have hb4 : ((x : Int) == 5) = false := by simp; omega
      have HC := Lib_hid hc
      clear hc
      go_wp2_with fail
      go_meet
      exact ⟨0, rfl, Lib_hid (by rw [if_neg HC.out]), rfl⟩
  case rest =>
  obtain ⟨M3, rfl, HM3, rfl⟩ := hcut
  clear c0 hE
  have c0 := cell_of_row _ _ 0 _ _ _ HP2
  simp at c0
  go_upto_if 78 with (fail)
  go_cut [9, 1] from 78 to 84 (fun m v W => ∃ (N : Nat) (o : Option Nat), m = .int .u64 (N : Int) ∧ v = .int .i64 (posI o) ∧ Hid (F4 l x N o2 o) ∧ W.heap[w.heap.size + 1]? = some (.cells #[.int .i64 (x : Int), .int .u64 (a1 : Int), .int .u64 (bb : Int), .slice none 0 0] 34 (0, 0)) ∧ Hid (W.heap[w.heap.size]? = some (.cells #[.int .i64 0, .int .u64 0, .int .u64 0, .slice none 0 0] 34 (0, 0))) ∧ Hid (Below w.heap.size w W) ∧ w.heap.size + 2 ≤ W.heap.size)
  case first =>
    clear c0
    by_cases hc : 6 ≤ x
    · have hb4 : (6 : Int) ≤ (x : Int) := by omega
      have HC := Lib_hid hc
      have N1 := NB.out o2 _ HBW.out
      obtain ⟨m1, o4, hno⟩ : ∃ m1 o4, numO l o2 = (m1, o4) := ⟨_, _, rfl⟩
      rw [hno] at N1
      have HNO := Lib_hid hno
      clear hc hno
      go_wp2_with fail
      refine N1.mono ?_
      rintro e w3 ⟨rfl, hb3⟩
      have HP3 := Lib_hid (And.intro ((hb3.block _ (by omega)).trans HP2) (And.intro ((hb3.block _ (by omega)).trans HQ2.out) (And.intro (HBW.out.trans (hb3.mono HBW.out.size)) (Nat.le_trans hW2 hb3.size))))
      clear N1 hb3 HP2
      go_wp2_with fail
      go_meet
      exact ⟨m1, o4, rfl, rfl, Lib_hid (by unfold F4; rw [if_pos HC.out]; exact HNO.out.symm), HP3.out.1, Lib_hid HP3.out.2.1, Lib_hid HP3.out.2.2.1, HP3.out.2.2.2⟩
    · have hb4 : ¬ (6 : Int) ≤ (x : Int) := by omega
      have hb5 : (x : Int) < 6 := by omega
      have HC := Lib_hid hc
      have HP := Lib_hid HP2
      clear hc HP2
      go_wp2_with fail
      go_meet
      exact ⟨M3, o2, rfl, rfl, Lib_hid (by unfold F4; rw [if_neg HC.out]; exact ⟨HM3.out, rfl⟩), HP.out, HQ2, HBW, hW2⟩
  case rest =>
  clear HP2 HQ2 HBW hW2 c0
  obtain ⟨N, o4, rfl, rfl, HF4, HP2, HQ2, HBW, hW2⟩ := hcut
  have HHD4 := HHD.out a1 bb N o1 o2 o4 HF1.out HF2.out HF4.out
  have HH := Lib_hid HHD4
  have hN64 : N < 18446744073709551616 := HHD4.2.2.2.2
  clear HHD4 HHD HF1 HF2 HF4 NB
  clear HM3
  have H0 : Hid ((∃ us r, o4 = some r ∧ us.length = 0 ∧ TRow 34 (w.heap.size + 2) (.slice none 0 0) us wc ∧ s + 1 + 0 ≤ r ∧ r ≤ l.length ∧ tkS l (d + 1) s = (manyT (tkS l d) (N - 0) r).map fun y => (.node x a1 bb (V.absL us ++ y.1), y.2)) ∨ (o4 = none ∧ tkS l (d + 1) s = none)) := by
    cases o4 with
    | none => exact .inr ⟨rfl, HH.out.2.1 rfl⟩
    | some r =>
      obtain ⟨e1, e2, e3⟩ := HH.out.1 r rfl
      exact .inl ⟨[], r, rfl, rfl, TRow.nil _ _ _, by omega, e2, by simpa [V.absL] using e3⟩
  go_wp2
  go_loopw [10, 1] (fun z v W => ∃ (i n' c' : Nat) (A' : Option Addr) (o : Option Nat), z = .int .u64 (i : Int) ∧ v = .int .i64 (posI o) ∧ i ≤ N ∧ W.heap[w.heap.size + 1]? = some (.cells #[.int .i64 (x : Int), .int .u64 (a1 : Int), .int .u64 (bb : Int), .slice A' n' c'] 34 (0, 0)) ∧ Hid (W.heap[w.heap.size]? = some (.cells #[.int .i64 0, .int .u64 0, .int .u64 0, .slice none 0 0] 34 (0, 0))) ∧ Hid (Below w.heap.size w W) ∧ w.heap.size + 2 ≤ W.heap.size ∧
      Hid ((∃ us r, o = some r ∧ us.length = n' ∧ TRow 34 (w.heap.size + 2) (.slice A' n' c') us W ∧ s + 1 + n' ≤ r ∧ r ≤ l.length ∧ tkS l (d + 1) s = (manyT (tkS l d) (N - i) r).map fun y => (.node x a1 bb (V.absL us ++ y.1), y.2)) ∨ (o = none ∧ tkS l (d + 1) s = none))) (fun z _ _ => N - (intOf z).toNat)
  case atStart => exact ⟨0, 0, 0, none, o4, rfl, rfl, Nat.zero_le _, HP2, HQ2, HBW, hW2, H0⟩
  case round =>
    clear HP2 HQ2 HBW hW2 H0
    obtain ⟨i, n', c', A', o, rfl, rfl, hiN, hpW, HQW, HBW, hsW, hI⟩ := hrel
    rename World => W
    have HFIN : Hid (∀ (hfin : o = none ∨ i = N), RtEnd l (d + 1) s w (.returned (.tuple #[.agg #[.int .i64 (x : Int), .int .u64 (a1 : Int), .int .u64 (bb : Int), .slice A' n' c'], .int .i64 (posI o)])) (put4 W w.heap.size (.int .i64 (x : Int)) (.int .u64 (a1 : Int)) (.int .u64 (bb : Int)) (.slice A' n' c')) ∧
        (put4 W w.heap.size (.int .i64 (x : Int)) (.int .u64 (a1 : Int)) (.int .u64 (bb : Int)) (.slice A' n' c')).heap[w.heap.size]? = some (.cells #[.int .i64 (x : Int), .int .u64 (a1 : Int), .int .u64 (bb : Int), .slice A' n' c'] 34 (0, 0))) := by
      intro hfin
      refine ⟨⟨x, a1, bb, n', c', A', o, rfl, put4_below HBW.out (Nat.le_refl _) _ _ _ _, ?_⟩, put4_row HQW.out _ _ _ _⟩
      rcases hI.out with ⟨us, r, ho, hun, hT, h1, h2, h3⟩ | h
      · rcases hfin with h | h
        · rw [h] at ho; cases ho
        · rw [h, Nat.sub_self] at h3
          obtain ⟨hn, hL, hS⟩ := (hT.keep (w' := put4 W w.heap.size (.int .i64 (x : Int)) (.int .u64 (a1 : Int)) (.int .u64 (bb : Int)) (.slice A' n' c')) (by rw [put4_size]; exact Nat.le_refl _) (fun g hg _ => put4_else _ (by omega) _ _ _ _)).tree (k := x) (a := a1) (b := bb) (by have := HX17.out; omega) HH.out.2.2.1 HH.out.2.2.2.1
          refine .inl ⟨us, r, ?_, ho, hun, hL.more (by omega) (Nat.le_refl _), hS.more (by omega)⟩
          rw [h3, V.abs]
          simp [manyT]
      · exact .inr ⟨h.2, h.1⟩
    by_cases hlt : i < N
    · cases o with
      | none =>
        have hneg : decide ((0 : Int) ≤ posI none) = false := by decide
        have hl2 : decide (i < N) = true := by simpa using hlt
        have HX := Lib_hid (HFIN.out (.inl rfl))
        have d0 := cell_of_row W _ 0 _ _ _ hpW
        have d1 := cell_of_row W _ 1 _ _ _ hpW
        have d2 := cell_of_row W _ 2 _ _ _ hpW
        have d3 := cell_of_row W _ 3 _ _ _ hpW
        have e0 := cell_of_row W _ 0 _ _ _ HQW.out
        have e1 := cell_of_row W _ 1 _ _ _ HQW.out
        have e2 := cell_of_row W _ 2 _ _ _ HQW.out
        have e3 := cell_of_row W _ 3 _ _ _ HQW.out
        have y0 := frozen_of_row W w.heap.size 0 _ _ HQW.out
        have y1 := frozen_of_row W w.heap.size 1 _ _ HQW.out
        have y2 := frozen_of_row W w.heap.size 2 _ _ HQW.out
        have y3 := frozen_of_row W w.heap.size 3 _ _ HQW.out
        simp at d0 d1 d2 d3 e0 e1 e2 e3
        clear HFIN hI hpW HIH HR HH
        go_wp2_with fail
        show bodyPost _ _ _ _ _ (put4 W w.heap.size (.int .i64 (x : Int)) (.int .u64 (a1 : Int)) (.int .u64 (bb : Int)) (.slice A' n' c'))
        have HX2 := HX.out
        clear HX d0 d1 d2 d3 e0 e1 e2 e3 y0 y1 y2 y3
        generalize put4 W w.heap.size (.int .i64 (x : Int)) (.int .u64 (a1 : Int)) (.int .u64 (bb : Int)) (.slice A' n' c') = W2 at *
        exact rtake_ret HX2.2 HX2.1 _ rfl rfl
      | some r =>
        have hpos : decide ((0 : Int) ≤ posI (some r)) = true := by unfold posI; simp
        have hl2 : decide (i < N) = true := by simpa using hlt
        have hl3 : (i : Int) < (N : Int) := by omega
        have hl4 : (i : Int) ≤ 18446744073709551614 := by omega
        obtain ⟨us, hun, hT, hsr, hrl, hspec⟩ : ∃ us, us.length = n' ∧ TRow 34 (w.heap.size + 2) (.slice A' n' c') us W ∧ s + 1 + n' ≤ r ∧ r ≤ l.length ∧ tkS l (d + 1) s = (manyT (tkS l d) (N - i) r).map fun y => (.node x a1 bb (V.absL us ++ y.1), y.2) := by
          rcases hI.out with ⟨us, r', ho, h1, h2, h3, h4, h5⟩ | h
          · injection ho with ho
            subst ho
            exact ⟨us, h1, h2, h3, h4, h5⟩
          · cases h.1
        have T1 : Calls Tryz.prog 104 #[.slice (some ad) nb cb, .int .i64 (posI (some r)), .int .i64 (d : Int)] W (RtEnd l d r W) := HIH.out r W HBW.out
        have hm1 : n' + 1 ≤ maxLen := by unfold maxLen; omega
        have hm2 : (n' + 1) * 48 ≤ 140737488355328 := by omega
        have HTT := Lib_hid hT
        have HSP := Lib_hid (And.intro hun (And.intro hsr (And.intro hrl hspec)))
        have hiw : IntKind.u64.wrap ((i : Int) + 1) = (i : Int) + 1 := IntWalk.u64_in _ (by omega)
        clear hT hI hspec HFIN hun hsr hrl
        go_wp2_with fail
        refine T1.mono ?_
        rintro e w4 ⟨k2, a2, b2, n2, c2, A2, o', rfl, hb4, hres⟩
        have HRES := Lib_hid hres
        have s4 := hb4.size
        have b5 := below_new w4 (.cells #[.int .i64 k2, .int .u64 (a2 : Int), .int .u64 (b2 : Int), .slice A2 n2 c2] 34)
        have r5 := heap_alloc_new w4 (.cells #[.int .i64 k2, .int .u64 (a2 : Int), .int .u64 (b2 : Int), .slice A2 n2 c2] 34)
        have s5 : (w4.alloc (.cells #[.int .i64 k2, .int .u64 (a2 : Int), .int .u64 (b2 : Int), .slice A2 n2 c2] 34)).heap.size = w4.heap.size + 1 := by simp
        clear T1 hres
        go_upto_region 18 with (fail)
        generalize w4.alloc (.cells #[.int .i64 k2, .int .u64 (a2 : Int), .int .u64 (b2 : Int), .slice A2 n2 c2] 34) = w5 at *
        have hb45 : Below W.heap.size W w5 := hb4.trans (b5.mono s4)
        have p5 := (hb45.block _ (by omega)).trans hpW
        have g3 := cell_of_row w5 _ 3 _ _ _ p5
        have t0 := cell_of_row w5 _ 0 _ _ _ r5
        have t1 := cell_of_row w5 _ 1 _ _ _ r5
        have t2 := cell_of_row w5 _ 2 _ _ _ r5
        have t3 := cell_of_row w5 _ 3 _ _ _ r5
        simp at g3 t0 t1 t2 t3
        have hown5 : w5.ownsRow (w.heap.size + 2) 34 4 (.slice A' n' c') n' (vCells us) := by
          have := own_below HTT.out.own hb45 (own_lt HTT.out.own)
          rwa [HSP.out.1] at this
        have hone : ∀ u ∈ [Value.int .i64 k2, .int .u64 (a2 : Int), .int .u64 (b2 : Int), .slice A2 n2 c2], u.oneCell' = true := by
          intro u hu
          simp only [List.mem_cons, List.not_mem_nil, or_false] at hu
          rcases hu with rfl | rfl | rfl | rfl <;> rfl
        have hsz5 : w.heap.size + 2 ≤ w5.heap.size := by omega
        have H7 : Hid (∀ (w7 : World) (A7 : Option Addr) (c7 : Nat), Stp (w5.alloc (.cells #[.int .i64 k2, .int .u64 (a2 : Int), .int .u64 (b2 : Int), .slice A2 n2 c2] 34)) w7 (.slice A' n' c') (.slice A7 (n' + 1) c7) → w7.ownsRow (w.heap.size + 2) 34 4 (.slice A7 (n' + 1) c7) (n' + 1) (vCells us ++ [.int .i64 k2, .int .u64 (a2 : Int), .int .u64 (b2 : Int), .slice A2 n2 c2]) →
            w7.heap[w.heap.size + 1]? = some (.cells #[.int .i64 (x : Int), .int .u64 (a1 : Int), .int .u64 (bb : Int), .slice A' n' c'] 34 (0, 0)) ∧ w7.heap[w.heap.size]? = some (.cells #[.int .i64 0, .int .u64 0, .int .u64 0, .slice none 0 0] 34 (0, 0)) ∧ Below w.heap.size w w7 ∧ w.heap.size + 2 ≤ w7.heap.size ∧
            ((∃ us r, o' = some r ∧ us.length = n' + 1 ∧ TRow 34 (w.heap.size + 2) (.slice A7 (n' + 1) c7) us w7 ∧ s + 1 + (n' + 1) ≤ r ∧ r ≤ l.length ∧ tkS l (d + 1) s = (manyT (tkS l d) (N - (i + 1)) r).map fun y => (.node x a1 bb (V.absL us ++ y.1), y.2)) ∨ (o' = none ∧ tkS l (d + 1) s = none))) := by
          intro w7 A7 c7 hst ho
          have hge := own_ge HTT.out.own
          have hnew := below_new w5 (.cells #[.int .i64 k2, .int .u64 (a2 : Int), .int .u64 (b2 : Int), .slice A2 n2 c2] 34)
          have hns := hnew.size
          have h7s := hst.grow.size
          have hk : ∀ g, g < w.heap.size + 2 → w7.heap[g]? = W.heap[g]? := fun g hg => (hst.grow.block g (by omega) (fun e => by have := hge g e.symm; omega)).trans ((hnew.block g (by omega)).trans (hb45.block g (by omega)))
          refine ⟨(hk _ (by omega)).trans hpW, (hk _ (by omega)).trans HQW.out, ((HBW.out.trans (hb45.mono HBW.out.size)).trans (hnew.mono (by omega))).trans (hst.below (by omega) fun k hk => by have := hge k hk; omega), by omega, ?_⟩
          obtain ⟨hun, hsr, hrl, hspec⟩ := HSP.out
          have hNi : N - i = (N - (i + 1)) + 1 := by omega
          have hu : manyT (tkS l d) ((N - (i + 1)) + 1) r = (tkS l d r).bind fun y => (manyT (tkS l d) (N - (i + 1)) y.2).map fun z => (y.1 :: z.1, z.2) := rfl
          rw [hNi, hu] at hspec
          rcases HRES.out with ⟨us2, r2, e1, e2, e3, hL, hS⟩ | ⟨e1, e2⟩
          · obtain ⟨q1, q2⟩ := tkS_len HB8.out _ _ _ _ e1
            have q3 := count_pos (V.node k2 a2 b2 A2 c2 us2).abs
            subst e3
            have hT := HTT.out.push (w2 := w4) (w3 := w5.alloc (.cells #[.int .i64 k2, .int .u64 (a2 : Int), .int .u64 (b2 : Int), .slice A2 us2.length c2] 34)) (w4 := w7) (v' := .slice A7 (n' + 1) c7) (u := .node k2 a2 b2 A2 c2 us2) hsW hb4 hL hS (b5.trans (hnew.mono (by omega))) hst (by rw [hun]; exact ho)
            refine .inl ⟨us ++ [.node k2 a2 b2 A2 c2 us2], r2, e2, by simp [hun], hT, by omega, q2, ?_⟩
            rw [hspec, e1]
            simp only [Option.bind_some]
            cases manyT (tkS l d) (N - (i + 1)) r2 with
            | none => rfl
            | some y => simp [absL_map]
          · rw [e1] at hspec
            exact .inr ⟨e2, hspec⟩
        have hnewR := new_raw w5 34 (.int .i64 k2) (.int .u64 (a2 : Int)) (.int .u64 (b2 : Int)) (.slice A2 n2 c2)
        clear HRES hb4 b5 r5 s4 s5 hb45 HTT hpW p5
        go_wp2_with (at_builtin; (refine wpList_app rfl _ _ 32 rfl (w.heap.size + 2) 34 i0 (.agg #[.int .i64 0, .int .u64 0, .int .u64 0, .slice none 0 0]) 4 48 Tryz.underlying32 hi0 hz0 hz1 hz2 rfl (by decide) (.slice A' n' c') n' (vCells us) rfl (own_below hown5 (below_new w5 _) (own_lt hown5)) (w5.heap.size + 1) (some ⟨w5.heap.size, 0, none⟩) 1 1 _ rfl hnewR hone hm1 hm2 (by simp; omega) ?_); intro v7 w7 ho7 hs7; obtain ⟨A7, c7, rfl, _⟩ := own_form ho7; have h7 := Lib_hid (H7.out w7 A7 c7 hs7 ho7); have p7 := h7.out.1; have g7 := cell_of_row w7 _ 3 _ _ _ p7; have z7 := frozen_of_row w7 (w.heap.size + 1) 3 _ _ p7; simp at g7; clear g3 t0 t1 t2 t3 hs7 ho7)
        have p8 := Joins.block_setCell (i := 3) p7 (.slice A7 (n' + 1) c7)
        have hrw := HRW.out w7 h7.out.2.2.1 h7.out.2.2.2.1 3 (.slice A7 (n' + 1) c7)
        have hrel8 : Hid ((∃ us r, o' = some r ∧ us.length = n' + 1 ∧ TRow 34 (w.heap.size + 2) (.slice A7 (n' + 1) c7) us (w7.setCell ⟨w.heap.size + 1, 3, none⟩ (.slice A7 (n' + 1) c7)) ∧ s + 1 + (n' + 1) ≤ r ∧ r ≤ l.length ∧ tkS l (d + 1) s = (manyT (tkS l d) (N - (i + 1)) r).map fun y => (.node x a1 bb (V.absL us ++ y.1), y.2)) ∨ (o' = none ∧ tkS l (d + 1) s = none)) := by
          rcases h7.out.2.2.2.2 with ⟨us3, r3, f1, f2, f3, f4, f5, f6⟩ | h
          · exact .inl ⟨us3, r3, f1, f2, f3.keep (by simp [World.setCell]) (fun g hg _ => Below.heap_setCell w7 ⟨w.heap.size + 1, 3, none⟩ _ g (by show g ≠ w.heap.size + 1; omega)), f4, f5, f6⟩
          · exact .inr h
        have HW8 := Lib_hid (And.intro p8 (And.intro (hrw.2.2.trans h7.out.2.1) (And.intro hrw.1 hrw.2.1)))
        clear p8 hrw g7 z7 p7 h7 H7
        generalize w7.setCell ⟨w.heap.size + 1, 3, none⟩ (.slice A7 (n' + 1) c7) = w8 at *
        go_wp2_with fail
        go_roundw
        case rel => exact ⟨i + 1, n' + 1, c7, A7, o', by go_num, rfl, by omega, HW8.out.1, Lib_hid HW8.out.2.1, Lib_hid HW8.out.2.2.1, HW8.out.2.2.2, hrel8⟩
        case measure => simp [intOf]; omega
    · obtain rfl : i = N := by omega
      have HX := Lib_hid (HFIN.out (.inr rfl))
      have d0 := cell_of_row W _ 0 _ _ _ hpW
      have d1 := cell_of_row W _ 1 _ _ _ hpW
      have d2 := cell_of_row W _ 2 _ _ _ hpW
      have d3 := cell_of_row W _ 3 _ _ _ hpW
      have e0 := cell_of_row W _ 0 _ _ _ HQW.out
      have e1 := cell_of_row W _ 1 _ _ _ HQW.out
      have e2 := cell_of_row W _ 2 _ _ _ HQW.out
      have e3 := cell_of_row W _ 3 _ _ _ HQW.out
      have y0 := frozen_of_row W w.heap.size 0 _ _ HQW.out
      have y1 := frozen_of_row W w.heap.size 1 _ _ HQW.out
      have y2 := frozen_of_row W w.heap.size 2 _ _ HQW.out
      have y3 := frozen_of_row W w.heap.size 3 _ _ HQW.out
      simp at d0 d1 d2 d3 e0 e1 e2 e3
      clear HFIN hI hpW HIH HR HH
      go_wp2_with fail
      show bodyPost _ _ _ _ _ (put4 W w.heap.size (.int .i64 (x : Int)) (.int .u64 (a1 : Int)) (.int .u64 (bb : Int)) (.slice A' n' c'))
      have HX2 := HX.out
      clear HX d0 d1 d2 d3 e0 e1 e2 e3 y0 y1 y2 y3
      generalize put4 W w.heap.size (.int .i64 (x : Int)) (.int .u64 (a1 : Int)) (.int .u64 (bb : Int)) (.slice A' n' c') = W2 at *
      exact rtake_ret HX2.2 HX2.1 _ rfl rfl
end Go.Proofs.YtdmoknnnlfkfoaaGreatDoor

namespace Go.Proofs.YtdmoknnnlfkfoaaGreatDoor
open Go Go.RowKit
set_option linter.unusedVariables false
set_option maxRecDepth 100000 in
set_option maxHeartbeats 6400000 in
theorem rtake_any {l : List Nat} (hb8 : ∀ x ∈ l, x < 256) (Ab : Option Addr) (nb cb : Nat) (hn : nb ≤ 100000) : ∀ (d : Nat), d ≤ 8 → ∀ (s B : Nat) (w : World), Rd w B 1 Ab nb (bs l) → B ≤ w.heap.size →
    Calls Tryz.prog 104 #[.slice Ab nb cb, .int .i64 (s : Int), .int .i64 (d : Int)] w (RtEnd l d s w) := by
  intro d
  induction d with
  | zero =>
    intro _ s B w hr hB
    obtain ⟨w1, hw1⟩ : ∃ w1, w1 = w.alloc (.cells #[.int .i64 0, .int .u64 0, .int .u64 0, .slice none 0 0] 34) := ⟨_, rfl⟩
    have q1 := heap_alloc_new w (.cells #[.int .i64 0, .int .u64 0, .int .u64 0, .slice none 0 0] 34)
    have b1 := below_new w (.cells #[.int .i64 0, .int .u64 0, .int .u64 0, .slice none 0 0] 34)
    rw [← hw1] at q1 b1
    have y0 := frozen_of_row w1 w.heap.size 0 _ _ q1
    have y1 := frozen_of_row w1 w.heap.size 1 _ _ q1
    have y2 := frozen_of_row w1 w.heap.size 2 _ _ q1
    have y3 := frozen_of_row w1 w.heap.size 3 _ _ q1
    have e0 := cell_of_row w1 _ 0 _ _ _ q1
    have e1 := cell_of_row w1 _ 1 _ _ _ q1
    have e2 := cell_of_row w1 _ 2 _ _ _ q1
    have e3 := cell_of_row w1 _ 3 _ _ _ q1
    simp at e0 e1 e2 e3
    have HX : Hid (RtEnd l 0 s w (.returned (.tuple #[.agg #[.int .i64 0, .int .u64 0, .int .u64 0, .slice none 0 0], .int .i64 (-1)])) (put4 w1 w.heap.size (.int .i64 0) (.int .u64 0) (.int .u64 0) (.slice none 0 0)) ∧
        (put4 w1 w.heap.size (.int .i64 0) (.int .u64 0) (.int .u64 0) (.slice none 0 0)).heap[w.heap.size]? = some (.cells #[.int .i64 0, .int .u64 0, .int .u64 0, .slice none 0 0] 34 (0, 0))) :=
      ⟨⟨0, 0, 0, 0, 0, none, none, rfl, put4_below b1 (Nat.le_refl _) _ _ _ _, .inr ⟨rfl, rfl⟩⟩, put4_row q1 _ _ _ _⟩
    clear q1 b1 hr
    go_enter Tryz.func104, Tryz.ntmps104
    go_upto_region 1 with (fail)
    rw [← hw1]
    clear hw1
    go_wp2_with fail
    show bodyPost _ _ _ _ _ (put4 w1 w.heap.size (.int .i64 0) (.int .u64 0) (.int .u64 0) (.slice none 0 0))
    have HX2 := HX.out
    clear HX e0 e1 e2 e3 y0 y1 y2 y3
    generalize put4 w1 w.heap.size (.int .i64 0) (.int .u64 0) (.int .u64 0) (.slice none 0 0) = W2 at *
    exact rtake_ret HX2.2 HX2.1 _ rfl rfl
  | succ d ih =>
    intro hd8 s B w hr hB
    have hln : l.length = nb := hr.count
    obtain ⟨w1, hw1⟩ : ∃ w1, w1 = w.alloc (.cells #[.int .i64 0, .int .u64 0, .int .u64 0, .slice none 0 0] 34) := ⟨_, rfl⟩
    have q1 := heap_alloc_new w (.cells #[.int .i64 0, .int .u64 0, .int .u64 0, .slice none 0 0] 34)
    have b1 := below_new w (.cells #[.int .i64 0, .int .u64 0, .int .u64 0, .slice none 0 0] 34)
    have s1 : w1.heap.size = w.heap.size + 1 := by rw [hw1]; simp
    rw [← hw1] at q1 b1
    have HNO : Hid (tkS l (d + 1) s = none → RtEnd l (d + 1) s w (.returned (.tuple #[.agg #[.int .i64 0, .int .u64 0, .int .u64 0, .slice none 0 0], .int .i64 (-1)])) (put4 w1 w.heap.size (.int .i64 0) (.int .u64 0) (.int .u64 0) (.slice none 0 0)) ∧
        (put4 w1 w.heap.size (.int .i64 0) (.int .u64 0) (.int .u64 0) (.slice none 0 0)).heap[w.heap.size]? = some (.cells #[.int .i64 0, .int .u64 0, .int .u64 0, .slice none 0 0] 34 (0, 0))) := fun h =>
      ⟨⟨0, 0, 0, 0, 0, none, none, rfl, put4_below b1 (Nat.le_refl _) _ _ _ _, .inr ⟨h, rfl⟩⟩, put4_row q1 _ _ _ _⟩
    have hd0 : (((d + 1 : Nat) : Int) == 0) = false := by simp; omega
    have hs0 : decide ((s : Int) < 0) = false := by simp
    obtain ⟨dd, hdd⟩ : ∃ dd, dd = ((d + 1 : Nat) : Int) := ⟨_, rfl⟩
    have hd1 : IntKind.i64.wrap (dd - 1) = (d : Int) := by rw [hdd, show ((d + 1 : Nat) : Int) - 1 = (d : Int) by omega]; exact IntWalk.i64_in _ (by omega)
    rw [← hdd] at hd0 ⊢
    clear hdd
    have y0 := frozen_of_row w1 w.heap.size 0 _ _ q1
    have y1 := frozen_of_row w1 w.heap.size 1 _ _ q1
    have y2 := frozen_of_row w1 w.heap.size 2 _ _ q1
    have y3 := frozen_of_row w1 w.heap.size 3 _ _ q1
    have e0 := cell_of_row w1 _ 0 _ _ _ q1
    have e1 := cell_of_row w1 _ 1 _ _ _ q1
    have e2 := cell_of_row w1 _ 2 _ _ _ q1
    have e3 := cell_of_row w1 _ 3 _ _ _ q1
    simp at e0 e1 e2 e3
    by_cases hs : s < nb
    · have hsl : decide ((nb : Int) ≤ (s : Int)) = false := by simp; omega
      have hlt : (s : Int) < (nb : Int) := by omega
      have h0 : (0 : Int) ≤ (s : Int) := by omega
      obtain ⟨ad, rfl, hadB, hby⟩ := hr.byte hs
      obtain ⟨x, hx⟩ : ∃ x, x = l.getD s 0 := ⟨_, rfl⟩
      have hx8 : x < 256 := by
        rw [hx, List.getD_eq_getElem?_getD, List.getElem?_eq_getElem (by omega)]
        exact hb8 _ (List.getElem_mem _)
      have hk : kindT l s = (x, s + 1) := by unfold kindT; rw [if_pos (by omega), hx]
      rw [← hx] at hby
      clear hx
      have hby1 : w1.cell? (ad.add s) = some (.int .u8 (x : Int)) := (World.cell?_of_block (b1.block _ (by rw [add_block]; omega))).trans hby
      by_cases hk1 : 1 ≤ x
      · have hx1 : decide ((x : Int) < 1) = false := by simp; omega
        by_cases hk7 : x ≤ 7
        · have hx7 : decide ((7 : Int) < (x : Int)) = false := by simp; omega
          have GO := rtake_good hb8 (some ad) nb cb hn d (by omega) (fun s B w => ih (by omega) s B w) s B w hr hB hs x hk1 hk7 hk dd hd0 hd1 ad rfl hby
          exact GO
        · have hx7 : decide ((7 : Int) < (x : Int)) = true := by simp; omega
          have HX := Lib_hid (HNO.out (by show (if (kindT l s).1 = 0 ∨ 7 < (kindT l s).1 then none else _) = _; rw [hk, if_pos (Or.inr (by simp only; omega))]))
          clear HNO q1 b1 hr hk1 hk7 hk hby ih
          go_enter Tryz.func104, Tryz.ntmps104
          go_upto_region 1 with (fail)
          rw [← hw1]
          clear hw1
          go_wp2_with fail
          show bodyPost _ _ _ _ _ (put4 w1 w.heap.size (.int .i64 0) (.int .u64 0) (.int .u64 0) (.slice none 0 0))
          have HX2 := HX.out
          clear HX e0 e1 e2 e3 y0 y1 y2 y3
          generalize put4 w1 w.heap.size (.int .i64 0) (.int .u64 0) (.int .u64 0) (.slice none 0 0) = W2 at *
          exact rtake_ret HX2.2 HX2.1 _ rfl rfl
      · have hx1 : decide ((x : Int) < 1) = true := by simp; omega
        have HX := Lib_hid (HNO.out (by show (if (kindT l s).1 = 0 ∨ 7 < (kindT l s).1 then none else _) = _; rw [hk, if_pos (Or.inl (by simp only; omega))]))
        clear HNO q1 b1 hr hk1 hk hby ih
        go_enter Tryz.func104, Tryz.ntmps104
        go_upto_region 1 with (fail)
        rw [← hw1]
        clear hw1
        go_wp2_with fail
        show bodyPost _ _ _ _ _ (put4 w1 w.heap.size (.int .i64 0) (.int .u64 0) (.int .u64 0) (.slice none 0 0))
        have HX2 := HX.out
        clear HX e0 e1 e2 e3 y0 y1 y2 y3
        generalize put4 w1 w.heap.size (.int .i64 0) (.int .u64 0) (.int .u64 0) (.slice none 0 0) = W2 at *
        exact rtake_ret HX2.2 HX2.1 _ rfl rfl
    · have hsl : decide ((nb : Int) ≤ (s : Int)) = true := by simp; omega
      have HX := Lib_hid (HNO.out (by show (if (kindT l s).1 = 0 ∨ 7 < (kindT l s).1 then none else _) = _; rw [show kindT l s = (0, s) by unfold kindT; rw [if_neg (by omega)], if_pos (Or.inl rfl)]))
      clear HNO q1 b1 hr ih
      go_enter Tryz.func104, Tryz.ntmps104
      go_upto_region 1 with (fail)
      rw [← hw1]
      clear hw1
      go_wp2_with fail
      show bodyPost _ _ _ _ _ (put4 w1 w.heap.size (.int .i64 0) (.int .u64 0) (.int .u64 0) (.slice none 0 0))
      have HX2 := HX.out
      clear HX e0 e1 e2 e3 y0 y1 y2 y3
      generalize put4 w1 w.heap.size (.int .i64 0) (.int .u64 0) (.int .u64 0) (.slice none 0 0) = W2 at *
      exact rtake_ret HX2.2 HX2.1 _ rfl rfl
end Go.Proofs.YtdmoknnnlfkfoaaGreatDoor
