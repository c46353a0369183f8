/-
  Layer 5: RecordParses' walk. (Out of gen_vzj.py.)
  Layer 4: what the listed variables give the walks; the door's own start meets the condition.
  A tree of layer 4 that came in: what its cells hold.
  A record of layer 5 that came in: what its cells hold.
  A slice of bytes that came in reads as a list of bytes.
-/
import Derived.Test.YtdmoknnnlfkfoaaGreatDoorZpVzj
import Derived.Test.YtdmoknnnlfkfoaaGreatDoorZpVyz
import Derived.Test.YtdmoknnnlfkfoaaGreatDoorRows
import Derived.Test.YtdmoknnnlfkfoaaGreatDoorZpTp4
import Derived.Test.YtdmoknnnlfkfoaaGreatDoorTie
import Derived.ProofKit
import Derived.LaidMore
import Derived.OpenShut
import Derived.Stop.Joined
import Derived.Stop.LaidErr
import Derived.Lib.LaidTab
import Derived.Lay
import Derived.Test.YtdmoknnnlfkfoaaGreatDoorZpTko
import Derived.Test.YtdmoknnnlfkfoaaGreatDoorProg
import Derived.Deep.Slices
import Derived.Deep.Fields
import Derived.ChangeSame
import Derived.ChangeOld
import Derived.Test.YtdmoknnnlfkfoaaGreatDoorZpUsl
import Derived.ShutString

namespace Go.Proofs.YtdmoknnnlfkfoaaGreatDoor
open Go Go.RowKit
set_option linter.unusedVariables false
theorem eql_fr (k : Nat) (p : List Nat) (w : World) (hp : ∀ x ∈ p, x < 256) : (binOp .eql 27 (.agg #[.int .u8 (k : Int), .string (str p)]) (.agg #[.int .u8 (k : Int), .string (str p)])).run Tryz.prog w = .ok (.bool true) w := by
  have h2 := str_beq hp hp
  have h3 : ((str p).toList == (str p).toList) = true := by rw [h2, eqB_self]
  obtain ⟨fs, hf⟩ : ∃ fs, Tryz.prog.fieldsOf 27 = fs := ⟨_, rfl⟩
  rw [run_eql_struct, run_equalIn_agg w 9999 _ _ _ (by kernel_rfl) (by kernel_rfl), hf]
  simp only [Program.fieldsOf, Tryz.underlying27] at hf
  subst hf
  generalize str p = s at *
  simp only [Op.eqFields]
  have e1 := fun wx => run_equalIn_int (P := Tryz.prog) wx 9998 5 .u8 .u8 (k : Int) (k : Int) Tryz.underlying5
  have e2 := fun wx => run_equalIn_string (P := Tryz.prog) wx 9998 9 s s Tryz.underlying9
  simp [go_sem, e1, e2]
theorem ansP_count {k : Nat} {l : List Nat} (hb : ∀ x ∈ l, x < 256) : (ansP k l).1.p.count ≤ 32 := by
  obtain ⟨⟨x, z⟩, h⟩ : ∃ y, ansP k l = y := ⟨_, rfl⟩
  rw [h]
  by_cases hz : z = 0
  · exact right_count (parse_back hb h hz).1
  · have hx : x = Rc.zero 0 := by
      unfold ansP at h
      split at h
      · split at h
        · injection h with _ h
          exact absurd h.symm hz
        · injection h with h _
          exact h.symm
      · injection h with h _
        exact h.symm
    subst hx
    show (Rc.zero 0).p.count ≤ 32
    decide
set_option maxRecDepth 100000 in
set_option maxHeartbeats 12800000 in
theorem recparses_any (B k : Nat) (A : Option Addr) (n c : Nat) (l : List Nat) (w : World) (hk : k < 256) (hr : Rd w w.heap.size 1 A n (bs l)) (hb : ∀ x ∈ l, x < 256) (hE : EnvM B w) (hB : B ≤ w.heap.size) :
    Calls Tryz.prog 3 #[.agg #[.int .u8 (k : Int), .slice A n c]] w fun e w' => e = .returned (.bool true) ∧ Below w.heap.size w w' := by
  have WK : Hid (∀ W, Below w.heap.size w W → Calls Tryz.prog 5 #[] W fun e w' => e = .returned (.bool true) ∧ Below W.heap.size W w') := fun W hW => works5_any B W (hE.under (hW.mono (Nat.le_refl _)) hB) (Nat.le_trans hB hW.size)
  have hln : l.length = n := hr.count
  have hq1 := heap_alloc_new w (.cells #[.int .u8 (k : Int), .slice A n c] 24)
  have hb1 := below_new w (.cells #[.int .u8 (k : Int), .slice A n c] 24)
  have hs1 : (w.alloc (.cells #[.int .u8 (k : Int), .slice A n c] 24)).heap.size > w.heap.size := by simp
  by_cases hn : l.length ≤ 400
  rotate_left
  · have qn : (400 : Int) < (n : Int) := by omega
    have HWK := Lib_hid (WK.out _ hb1)
    have HB1 := Lib_hid hb1
    have f1 : (w.alloc (.cells #[.int .u8 (k : Int), .slice A n c] 24)).cell? ⟨w.heap.size, 1, none⟩ = some (.slice A n c) := cell_of_row _ _ 1 _ _ _ hq1
    clear hq1 hb1 hs1 WK
    go_enter Tryz.func3, Tryz.ntmps3
    go_wp2_with fail
    refine HWK.out.mono ?_
    rintro e w2 ⟨rfl, hb2⟩
    have HB2 := Lib_hid (HB1.out.trans (hb2.mono HB1.out.size))
    clear hb2
    go_wp2
    go_ret
    exact ⟨rfl, HB2.out⟩
  · have qn : ¬ (400 : Int) < (n : Int) := by omega
    have DF : Hid (∀ W, Below w.heap.size w W → Calls Tryz.prog 6 #[.agg #[.int .u8 (k : Int), .slice A n c]] W fun e w' => e = .returned (.agg #[.int .u8 (k : Int), .string (str l)]) ∧ Below W.heap.size W w') := fun W hW => dframe_any w.heap.size k A n c l W (hr.below hW) hW.size
    have DP : Hid (∀ W, Calls Tryz.prog 7 #[.agg #[.int .u8 (k : Int), .string (str l)]] W (DEnd (ansP k l) W)) := fun W => drparse5_any k l W hk hb (by omega)
    have PP : Hid (∀ W, Below w.heap.size w W → Calls Tryz.prog 8 #[.agg #[.int .u8 (k : Int), .slice A n c]] W (ParEnd (ansP k l) l.length W)) := fun W hW => parse5_any w.heap.size k A n c l W hk (hr.below hW) hb (by omega) hW.size
    have HCN : Hid ((ansP k l).1.p.count ≤ 32) := ansP_count hb
    have HEQ : Hid (∀ W, (binOp .eql 27 (.agg #[.int .u8 (k : Int), .string (str l)]) (.agg #[.int .u8 (k : Int), .string (str l)])).run Tryz.prog W = .ok (.bool true) W) := fun W => eql_fr k l W hb
    obtain ⟨⟨ra, z⟩, hA⟩ : ∃ y, ansP k l = y := ⟨_, rfl⟩
    rw [hA] at DP PP HCN
    have HLN := Lib_hid hn
    have f1 : (w.alloc (.cells #[.int .u8 (k : Int), .slice A n c] 24)).cell? ⟨w.heap.size, 1, none⟩ = some (.slice A n c) := cell_of_row _ _ 1 _ _ _ hq1
    clear hA hr hb hE hB hn hln
    go_enter Tryz.func3, Tryz.ntmps3
    go_upto_region 3 with (fail)
    clear f1
    generalize w.alloc (.cells #[.int .u8 (k : Int), .slice A n c] 24) = w1 at *
    have f0 : w1.cell? ⟨w.heap.size, 0, none⟩ = some (.int .u8 (k : Int)) := cell_of_row _ _ 0 _ _ _ hq1
    have f1 : w1.cell? ⟨w.heap.size, 1, none⟩ = some (.slice A n c) := cell_of_row _ _ 1 _ _ _ hq1
    go_wp2_with fail
    refine (DF.out w1 hb1).mono ?_
    rintro e w2 ⟨rfl, hb2⟩
    have hq3 := heap_alloc_new w2 (.cells #[.int .u8 (k : Int), .string (str l)] 27)
    have hb3 := below_new w2 (.cells #[.int .u8 (k : Int), .string (str l)] 27)
    have hs2 := hb2.size
    have hs3 : (w2.alloc (.cells #[.int .u8 (k : Int), .string (str l)] 27)).heap.size > w2.heap.size := by simp
    have hb13 := hb2.trans (hb3.mono hb2.size)
    have hq13 := (hb13.block _ (lt_of_block hq1)).trans hq1
    have hbw3 := hb1.trans (hb13.mono (by omega))
    clear f0 f1 hq1 hb1 hb2 hb3 hb13
    go_upto_region 4 with (fail)
    generalize w2.alloc (.cells #[.int .u8 (k : Int), .string (str l)] 27) = w3 at *
    generalize w2.heap.size = b3 at *
    have f0 : w3.cell? ⟨b3, 0, none⟩ = some (.int .u8 (k : Int)) := cell_of_row _ _ 0 _ _ _ hq3
    have f1 : w3.cell? ⟨b3, 1, none⟩ = some (.string (str l)) := cell_of_row _ _ 1 _ _ _ hq3
    have CP : Calls Tryz.prog 7 #[.agg #[.int .u8 (k : Int), .string (str l)]] w3 fun e w' => ∃ (k1 : Int) (t1 x1 wn1 nn1 v1 : Nat) (p1 : V) (A1 : Option Addr) (c1 : Nat) (es1 : List En), e = .returned (.tuple #[.agg #[.int .i64 k1, .int .u64 (t1 : Int), .int .u64 (x1 : Int), .int .u64 (wn1 : Int), .int .u64 (nn1 : Int), .int .u64 (v1 : Int), .int .i64 p1.kind, .int .u64 (p1.a : Int), .int .u64 (p1.b : Int), .slice p1.addr p1.parts.length p1.cap, .slice A1 es1.length c1], .int .i64 (z : Int)]) ∧ (Rv.abs ⟨k1, t1, x1, wn1, nn1, v1, p1, A1, c1, es1⟩) = ra ∧ RLies w' w3.heap.size w'.heap.size ⟨k1, t1, x1, wn1, nn1, v1, p1, A1, c1, es1⟩ ∧ Below w3.heap.size w3 w' :=
      (DP.out w3).mono fun e w' ⟨⟨k1, t1, x1, wn1, nn1, v1, p1, A1, c1, es1⟩, h⟩ => ⟨k1, t1, x1, wn1, nn1, v1, p1, A1, c1, es1, h⟩
    clear DP
    go_wp2_with fail
    refine CP.mono ?_
    rintro e w4 ⟨k1, t1, x1, wn1, nn1, v1, p1, A1, c1, es1, rfl, hx, hL, hb4⟩
    have hq5 := heap_alloc_new w4 (.cells #[.int .i64 k1, .int .u64 (t1 : Int), .int .u64 (x1 : Int), .int .u64 (wn1 : Int), .int .u64 (nn1 : Int), .int .u64 (v1 : Int), .int .i64 p1.kind, .int .u64 (p1.a : Int), .int .u64 (p1.b : Int), .slice p1.addr p1.parts.length p1.cap, .slice A1 es1.length c1] 37)
    have hb5 := below_new w4 (.cells #[.int .i64 k1, .int .u64 (t1 : Int), .int .u64 (x1 : Int), .int .u64 (wn1 : Int), .int .u64 (nn1 : Int), .int .u64 (v1 : Int), .int .i64 p1.kind, .int .u64 (p1.a : Int), .int .u64 (p1.b : Int), .slice p1.addr p1.parts.length p1.cap, .slice A1 es1.length c1] 37)
    have hs4 := hb4.size
    have hs5 : (w4.alloc (.cells #[.int .i64 k1, .int .u64 (t1 : Int), .int .u64 (x1 : Int), .int .u64 (wn1 : Int), .int .u64 (nn1 : Int), .int .u64 (v1 : Int), .int .i64 p1.kind, .int .u64 (p1.a : Int), .int .u64 (p1.b : Int), .slice p1.addr p1.parts.length p1.cap, .slice A1 es1.length c1] 37)).heap.size > w4.heap.size := by simp
    have hb35 := hb4.trans (hb5.mono hb4.size)
    have HF1 : Hid (∀ W, Below (w4.alloc (.cells #[.int .i64 k1, .int .u64 (t1 : Int), .int .u64 (x1 : Int), .int .u64 (wn1 : Int), .int .u64 (nn1 : Int), .int .u64 (v1 : Int), .int .i64 p1.kind, .int .u64 (p1.a : Int), .int .u64 (p1.b : Int), .slice p1.addr p1.parts.length p1.cap, .slice A1 es1.length c1] 37)).heap.size (w4.alloc (.cells #[.int .i64 k1, .int .u64 (t1 : Int), .int .u64 (x1 : Int), .int .u64 (wn1 : Int), .int .u64 (nn1 : Int), .int .u64 (v1 : Int), .int .i64 p1.kind, .int .u64 (p1.a : Int), .int .u64 (p1.b : Int), .slice p1.addr p1.parts.length p1.cap, .slice A1 es1.length c1] 37)) W → W.cell? ⟨w.heap.size, 0, none⟩ = some (.int .u8 (k : Int)) ∧ W.cell? ⟨w.heap.size, 1, none⟩ = some (.slice A n c)) := fun W hW => by
      have h := (hW.block _ (by omega)).trans ((hb35.block _ (by omega)).trans hq13)
      exact ⟨cell_of_row _ _ 0 _ _ _ h, cell_of_row _ _ 1 _ _ _ h⟩
    have HF3 : Hid (∀ W, Below (w4.alloc (.cells #[.int .i64 k1, .int .u64 (t1 : Int), .int .u64 (x1 : Int), .int .u64 (wn1 : Int), .int .u64 (nn1 : Int), .int .u64 (v1 : Int), .int .i64 p1.kind, .int .u64 (p1.a : Int), .int .u64 (p1.b : Int), .slice p1.addr p1.parts.length p1.cap, .slice A1 es1.length c1] 37)).heap.size (w4.alloc (.cells #[.int .i64 k1, .int .u64 (t1 : Int), .int .u64 (x1 : Int), .int .u64 (wn1 : Int), .int .u64 (nn1 : Int), .int .u64 (v1 : Int), .int .i64 p1.kind, .int .u64 (p1.a : Int), .int .u64 (p1.b : Int), .slice p1.addr p1.parts.length p1.cap, .slice A1 es1.length c1] 37)) W → W.cell? ⟨b3, 0, none⟩ = some (.int .u8 (k : Int)) ∧ W.cell? ⟨b3, 1, none⟩ = some (.string (str l))) := fun W hW => by
      have h := (hW.block _ (by omega)).trans ((hb35.block _ (by omega)).trans hq3)
      exact ⟨cell_of_row _ _ 0 _ _ _ h, cell_of_row _ _ 1 _ _ _ h⟩
    have HBW : Hid (∀ W, Below (w4.alloc (.cells #[.int .i64 k1, .int .u64 (t1 : Int), .int .u64 (x1 : Int), .int .u64 (wn1 : Int), .int .u64 (nn1 : Int), .int .u64 (v1 : Int), .int .i64 p1.kind, .int .u64 (p1.a : Int), .int .u64 (p1.b : Int), .slice p1.addr p1.parts.length p1.cap, .slice A1 es1.length c1] 37)).heap.size (w4.alloc (.cells #[.int .i64 k1, .int .u64 (t1 : Int), .int .u64 (x1 : Int), .int .u64 (wn1 : Int), .int .u64 (nn1 : Int), .int .u64 (v1 : Int), .int .i64 p1.kind, .int .u64 (p1.a : Int), .int .u64 (p1.b : Int), .slice p1.addr p1.parts.length p1.cap, .slice A1 es1.length c1] 37)) W → Below w.heap.size w W) := fun W hW => hbw3.trans ((hb35.mono (by omega)).trans (hW.mono (by omega)))
    have HSZ : Hid (ra.p.count ≤ 1000 ∧ ∀ u : Rv, u.abs = ra → u.p.abs.count ≤ 1000) := ⟨by have h : ra.p.count ≤ 32 := HCN.out; omega, fun u he => by have h2 : u.p.abs = ra.p := congrArg Rc.p he; have h : ra.p.count ≤ 32 := HCN.out; rw [h2]; omega⟩
    have HXS : Hid (es1.length ≤ 100000 ∨ True) := .inr trivial
    have DSX : Hid (∀ (W : World) (u : Rv) (lo hi : Nat), Below (w4.alloc (.cells #[.int .i64 k1, .int .u64 (t1 : Int), .int .u64 (x1 : Int), .int .u64 (wn1 : Int), .int .u64 (nn1 : Int), .int .u64 (v1 : Int), .int .i64 p1.kind, .int .u64 (p1.a : Int), .int .u64 (p1.b : Int), .slice p1.addr p1.parts.length p1.cap, .slice A1 es1.length c1] 37)).heap.size (w4.alloc (.cells #[.int .i64 k1, .int .u64 (t1 : Int), .int .u64 (x1 : Int), .int .u64 (wn1 : Int), .int .u64 (nn1 : Int), .int .u64 (v1 : Int), .int .i64 p1.kind, .int .u64 (p1.a : Int), .int .u64 (p1.b : Int), .slice p1.addr p1.parts.length p1.cap, .slice A1 es1.length c1] 37)) W → RLies W lo hi u → hi ≤ W.heap.size → u.abs = ra → u.es.length ≤ 100000 → Calls Tryz.prog 10 #[u.val] W fun e w' => ∃ uv, e = .returned uv ∧ Hid (∀ W', Below w'.heap.size w' W' → Calls Tryz.prog 9 #[uv, .agg #[.int .i64 k1, .int .u64 (t1 : Int), .int .u64 (x1 : Int), .int .u64 (wn1 : Int), .int .u64 (nn1 : Int), .int .u64 (v1 : Int), .int .i64 p1.kind, .int .u64 (p1.a : Int), .int .u64 (p1.b : Int), .slice p1.addr p1.parts.length p1.cap, .slice A1 es1.length c1]] W' fun e w'' => e = .returned (.bool true) ∧ Below W'.heap.size W' w'') ∧ Below W.heap.size W w') := fun W u lo hi hW hu h1 he hes =>
      docsame_any u ⟨k1, t1, x1, wn1, nn1, v1, p1, A1, c1, es1⟩ W lo hi w3.heap.size w4.heap.size hu h1 (hL.under ((hb5.trans (hW.mono hb5.size)))) (by have := hW.size; omega) (he.trans hx.symm) (HSZ.out.2 u he) hes
    clear f0 f1 CP hq3 hq13 hbw3 hb35 hb4 hb5 HCN hL hx HXS
    go_upto_region 5 with (fail)
    generalize w4.alloc (.cells #[.int .i64 k1, .int .u64 (t1 : Int), .int .u64 (x1 : Int), .int .u64 (wn1 : Int), .int .u64 (nn1 : Int), .int .u64 (v1 : Int), .int .i64 p1.kind, .int .u64 (p1.a : Int), .int .u64 (p1.b : Int), .slice p1.addr p1.parts.length p1.cap, .slice A1 es1.length c1] 37) = w5 at *
    generalize w4.heap.size = b4 at *
    have hlb : b4 < w5.heap.size := hs5
    generalize (Value.int .i64 k1) = xa0 at *
    generalize (Value.int .u64 (t1 : Int)) = xa1 at *
    generalize (Value.int .u64 (x1 : Int)) = xa2 at *
    generalize (Value.int .u64 (wn1 : Int)) = xa3 at *
    generalize (Value.int .u64 (nn1 : Int)) = xa4 at *
    generalize (Value.int .u64 (v1 : Int)) = xa5 at *
    generalize (Value.int .i64 p1.kind) = xa6 at *
    generalize (Value.int .u64 (p1.a : Int)) = xa7 at *
    generalize (Value.int .u64 (p1.b : Int)) = xa8 at *
    generalize (Value.slice p1.addr p1.parts.length p1.cap) = xa9 at *
    generalize (Value.slice A1 es1.length c1) = xa10 at *
    have HC4 : Hid (∀ W, Below w5.heap.size w5 W → W.cell? ⟨b4, 0, none⟩ = some xa0 ∧ W.cell? ⟨b4, 1, none⟩ = some xa1 ∧ W.cell? ⟨b4, 2, none⟩ = some xa2 ∧ W.cell? ⟨b4, 3, none⟩ = some xa3 ∧ W.cell? ⟨b4, 4, none⟩ = some xa4 ∧ W.cell? ⟨b4, 5, none⟩ = some xa5 ∧ W.cell? ⟨b4, 6, none⟩ = some xa6 ∧ W.cell? ⟨b4, 7, none⟩ = some xa7 ∧ W.cell? ⟨b4, 8, none⟩ = some xa8 ∧ W.cell? ⟨b4, 9, none⟩ = some xa9 ∧ W.cell? ⟨b4, 10, none⟩ = some xa10) := fun W hW => rec_cells ((hW.block _ hlb).trans hq5)
    have hz5 := Lib_hid (Below.refl w5.heap.size w5)
    clear hq5 hs5 hlb hs4 hs3 hs2 hs1
    go_wp2
    go_loopw [6] (fun j wr => ∃ i : Nat, j = .int .i64 i ∧ i ≤ 2 ∧ Hid (Below w5.heap.size w5 wr)) (fun j _ => 2 - (intOf j).toNat)
    case atStart => exact ⟨0, rfl, by omega, hz5⟩
    case round =>
      obtain ⟨i, rfl, hi2, hbr⟩ := hrel
      clear hz5
      by_cases hlt : i < 2
      · have hli : (i : Int) < 2 := by omega
        obtain ⟨f0, f1⟩ := HF1.out wr hbr.out
        have CP : Calls Tryz.prog 8 #[.agg #[.int .u8 (k : Int), .slice A n c]] wr fun e w' => ∃ (k2 : Int) (t2 x2 wn2 nn2 v2 : Nat) (p2 : V) (A2 : Option Addr) (c2 : Nat) (es2 : List En), e = .returned (.tuple #[.agg #[.int .i64 k2, .int .u64 (t2 : Int), .int .u64 (x2 : Int), .int .u64 (wn2 : Int), .int .u64 (nn2 : Int), .int .u64 (v2 : Int), .int .i64 p2.kind, .int .u64 (p2.a : Int), .int .u64 (p2.b : Int), .slice p2.addr p2.parts.length p2.cap, .slice A2 es2.length c2], .int .i64 (z : Int)]) ∧ (Rv.abs ⟨k2, t2, x2, wn2, nn2, v2, p2, A2, c2, es2⟩) = ra ∧ RLies w' wr.heap.size w'.heap.size ⟨k2, t2, x2, wn2, nn2, v2, p2, A2, c2, es2⟩ ∧ SpR wr.heap.size ⟨k2, t2, x2, wn2, nn2, v2, p2, A2, c2, es2⟩ w' ∧ Below wr.heap.size wr w' ∧ 4 * es2.length ≤ l.length + 4 :=
          (PP.out wr (HBW.out wr hbr.out)).mono fun e w' ⟨⟨k2, t2, x2, wn2, nn2, v2, p2, A2, c2, es2⟩, h⟩ => ⟨k2, t2, x2, wn2, nn2, v2, p2, A2, c2, es2, h⟩
        go_wp2_with fail
        refine CP.mono ?_
        rintro e w6 ⟨k2, t2, x2, wn2, nn2, v2, p2, A2, c2, es2, rfl, hx, hL, hSp, hb6, hes⟩
        have hq7 := heap_alloc_new w6 (.cells #[.int .i64 k2, .int .u64 (t2 : Int), .int .u64 (x2 : Int), .int .u64 (wn2 : Int), .int .u64 (nn2 : Int), .int .u64 (v2 : Int), .int .i64 p2.kind, .int .u64 (p2.a : Int), .int .u64 (p2.b : Int), .slice p2.addr p2.parts.length p2.cap, .slice A2 es2.length c2] 47)
        have hb7 := below_new w6 (.cells #[.int .i64 k2, .int .u64 (t2 : Int), .int .u64 (x2 : Int), .int .u64 (wn2 : Int), .int .u64 (nn2 : Int), .int .u64 (v2 : Int), .int .i64 p2.kind, .int .u64 (p2.a : Int), .int .u64 (p2.b : Int), .slice p2.addr p2.parts.length p2.cap, .slice A2 es2.length c2] 47)
        have hs7 : (w6.alloc (.cells #[.int .i64 k2, .int .u64 (t2 : Int), .int .u64 (x2 : Int), .int .u64 (wn2 : Int), .int .u64 (nn2 : Int), .int .u64 (v2 : Int), .int .i64 p2.kind, .int .u64 (p2.a : Int), .int .u64 (p2.b : Int), .slice p2.addr p2.parts.length p2.cap, .slice A2 es2.length c2] 47)).heap.size > w6.heap.size := by simp
        have hrs := hbr.out.size
        have hs6 := hb6.size
        have hbr7 := Lib_hid (hbr.out.trans ((hb6.mono hrs).trans (hb7.mono (by omega))))
        have DS : Hid (∀ W, Below (w6.alloc (.cells #[.int .i64 k2, .int .u64 (t2 : Int), .int .u64 (x2 : Int), .int .u64 (wn2 : Int), .int .u64 (nn2 : Int), .int .u64 (v2 : Int), .int .i64 p2.kind, .int .u64 (p2.a : Int), .int .u64 (p2.b : Int), .slice p2.addr p2.parts.length p2.cap, .slice A2 es2.length c2] 47)).heap.size (w6.alloc (.cells #[.int .i64 k2, .int .u64 (t2 : Int), .int .u64 (x2 : Int), .int .u64 (wn2 : Int), .int .u64 (nn2 : Int), .int .u64 (v2 : Int), .int .i64 p2.kind, .int .u64 (p2.a : Int), .int .u64 (p2.b : Int), .slice p2.addr p2.parts.length p2.cap, .slice A2 es2.length c2] 47)) W → Calls Tryz.prog 10 #[.agg #[.int .i64 k2, .int .u64 (t2 : Int), .int .u64 (x2 : Int), .int .u64 (wn2 : Int), .int .u64 (nn2 : Int), .int .u64 (v2 : Int), .int .i64 p2.kind, .int .u64 (p2.a : Int), .int .u64 (p2.b : Int), .slice p2.addr p2.parts.length p2.cap, .slice A2 es2.length c2]] W fun e w' => ∃ uv, e = .returned uv ∧ Hid (∀ W', Below w'.heap.size w' W' → Calls Tryz.prog 9 #[uv, .agg #[xa0, xa1, xa2, xa3, xa4, xa5, xa6, xa7, xa8, xa9, xa10]] W' fun e w'' => e = .returned (.bool true) ∧ Below W'.heap.size W' w'') ∧ Below W.heap.size W w') := fun W hW =>
          DSX.out W ⟨k2, t2, x2, wn2, nn2, v2, p2, A2, c2, es2⟩ wr.heap.size w6.heap.size (hbr7.out.trans (hW.mono hbr7.out.size)) (hL.under (hb7.trans (hW.mono hb7.size))) (by have := hW.size; omega) hx (by have := HLN.out; show es2.length ≤ _; omega)
        have SP : Hid (∀ W, Below (w6.alloc (.cells #[.int .i64 k2, .int .u64 (t2 : Int), .int .u64 (x2 : Int), .int .u64 (wn2 : Int), .int .u64 (nn2 : Int), .int .u64 (v2 : Int), .int .i64 p2.kind, .int .u64 (p2.a : Int), .int .u64 (p2.b : Int), .slice p2.addr p2.parts.length p2.cap, .slice A2 es2.length c2] 47)).heap.size (w6.alloc (.cells #[.int .i64 k2, .int .u64 (t2 : Int), .int .u64 (x2 : Int), .int .u64 (wn2 : Int), .int .u64 (nn2 : Int), .int .u64 (v2 : Int), .int .i64 p2.kind, .int .u64 (p2.a : Int), .int .u64 (p2.b : Int), .slice p2.addr p2.parts.length p2.cap, .slice A2 es2.length c2] 47)) W → Calls Tryz.prog 11 #[.agg #[.int .i64 k2, .int .u64 (t2 : Int), .int .u64 (x2 : Int), .int .u64 (wn2 : Int), .int .u64 (nn2 : Int), .int .u64 (v2 : Int), .int .i64 p2.kind, .int .u64 (p2.a : Int), .int .u64 (p2.b : Int), .slice p2.addr p2.parts.length p2.cap, .slice A2 es2.length c2]] W fun e w' => e = .returned (.tuple #[]) ∧ Below w5.heap.size W w') := fun W hW =>
          (spoilrec_any ⟨k2, t2, x2, wn2, nn2, v2, p2, A2, c2, es2⟩ W wr.heap.size (hSp.under (hb7.trans (hW.mono hb7.size))) (HSZ.out.2 _ hx) (by have := HLN.out; show es2.length ≤ _; omega) (by have := hW.size; omega)).mono fun e w' ⟨h1, h2⟩ => ⟨h1, h2.mono hrs⟩
        clear f0 f1 CP hx hL hSp hb6 hes hb7 hbr hrs hs6
        go_upto_region 9 with (fail)
        generalize w6.alloc (.cells #[.int .i64 k2, .int .u64 (t2 : Int), .int .u64 (x2 : Int), .int .u64 (wn2 : Int), .int .u64 (nn2 : Int), .int .u64 (v2 : Int), .int .i64 p2.kind, .int .u64 (p2.a : Int), .int .u64 (p2.b : Int), .slice p2.addr p2.parts.length p2.cap, .slice A2 es2.length c2] 47) = w7 at *
        generalize w6.heap.size = b7 at *
        generalize (Value.int .i64 k2) = ya0 at *
        generalize (Value.int .u64 (t2 : Int)) = ya1 at *
        generalize (Value.int .u64 (x2 : Int)) = ya2 at *
        generalize (Value.int .u64 (wn2 : Int)) = ya3 at *
        generalize (Value.int .u64 (nn2 : Int)) = ya4 at *
        generalize (Value.int .u64 (v2 : Int)) = ya5 at *
        generalize (Value.int .i64 p2.kind) = ya6 at *
        generalize (Value.int .u64 (p2.a : Int)) = ya7 at *
        generalize (Value.int .u64 (p2.b : Int)) = ya8 at *
        generalize (Value.slice p2.addr p2.parts.length p2.cap) = ya9 at *
        generalize (Value.slice A2 es2.length c2) = ya10 at *
        have HC7 : Hid (∀ W, Below w7.heap.size w7 W → W.cell? ⟨b7, 0, none⟩ = some ya0 ∧ W.cell? ⟨b7, 1, none⟩ = some ya1 ∧ W.cell? ⟨b7, 2, none⟩ = some ya2 ∧ W.cell? ⟨b7, 3, none⟩ = some ya3 ∧ W.cell? ⟨b7, 4, none⟩ = some ya4 ∧ W.cell? ⟨b7, 5, none⟩ = some ya5 ∧ W.cell? ⟨b7, 6, none⟩ = some ya6 ∧ W.cell? ⟨b7, 7, none⟩ = some ya7 ∧ W.cell? ⟨b7, 8, none⟩ = some ya8 ∧ W.cell? ⟨b7, 9, none⟩ = some ya9 ∧ W.cell? ⟨b7, 10, none⟩ = some ya10) := fun W hW => rec_cells ((hW.block _ hs7).trans hq7)
        have HC4' := Lib_hid (fun W hW => HC4.out W (hbr7.out.trans (Below.mono hW hbr7.out.size)))
        clear hq7 hs7
        refine wp_region_midG (N := 49) (fun i v ww => ([fun v ww => v = .int .i64 (z : Int), fun v ww => v = .int .i64 (z : Int), fun v ww => v = .bool false, fun v ww => v = .bool false, fun v ww => v = .agg #[ya0, ya1, ya2, ya3, ya4, ya5, ya6, ya7, ya8, ya9, ya10], fun v ww => ∃ uv, v = uv ∧ Hid (∀ W', Below ww.heap.size ww W' → Calls Tryz.prog 9 #[uv, .agg #[xa0, xa1, xa2, xa3, xa4, xa5, xa6, xa7, xa8, xa9, xa10]] W' fun e w'' => e = .returned (.bool true) ∧ Below W'.heap.size W' w''), fun v ww => v = .agg #[xa0, xa1, xa2, xa3, xa4, xa5, xa6, xa7, xa8, xa9, xa10], fun v ww => v = .bool true, fun v ww => v = .bool false, fun v ww => v = .bool false] : List (Value → World → Prop)).getD i (fun _ _ => True) v ww) (by kernel_rfl) (by kernel_rfl) rfl ?_ ?_ ?_
        · intro i v wa wb h0 hb hp
          by_cases hi : i < 10
          · have hcase : i = 0 ∨ i = 1 ∨ i = 2 ∨ i = 3 ∨ i = 4 ∨ i = 5 ∨ i = 6 ∨ i = 7 ∨ i = 8 ∨ i = 9 := by omega
            rcases hcase with rfl | rfl | rfl | rfl | rfl | rfl | rfl | rfl | rfl | rfl
            · exact hp
            · exact hp
            · exact hp
            · exact hp
            · exact hp
            · obtain ⟨uv, e, ks⟩ := hp
              exact ⟨uv, e, Lib_hid fun W' hW' => ks.out W' (hb.trans (hW'.mono hb.size))⟩
            · exact hp
            · exact hp
            · exact hp
            · exact hp
          · have hnn : ([fun v ww => v = .int .i64 (z : Int), fun v ww => v = .int .i64 (z : Int), fun v ww => v = .bool false, fun v ww => v = .bool false, fun v ww => v = .agg #[ya0, ya1, ya2, ya3, ya4, ya5, ya6, ya7, ya8, ya9, ya10], fun v ww => ∃ uv, v = uv ∧ Hid (∀ W', Below ww.heap.size ww W' → Calls Tryz.prog 9 #[uv, .agg #[xa0, xa1, xa2, xa3, xa4, xa5, xa6, xa7, xa8, xa9, xa10]] W' fun e w'' => e = .returned (.bool true) ∧ Below W'.heap.size W' w''), fun v ww => v = .agg #[xa0, xa1, xa2, xa3, xa4, xa5, xa6, xa7, xa8, xa9, xa10], fun v ww => v = .bool true, fun v ww => v = .bool false, fun v ww => v = .bool false] : List (Value → World → Prop))[i]? = none := List.getElem?_eq_none (by simpa using hi)
            rw [List.getD_eq_getElem?_getD, hnn]
            trivial
        · intro i o a wx hi hM hD
          have hi8 : i < 10 := (Array.getElem?_eq_some_iff.1 hi).1
          have hcase : i = 0 ∨ i = 1 ∨ i = 2 ∨ i = 3 ∨ i = 4 ∨ i = 5 ∨ i = 6 ∨ i = 7 ∨ i = 8 ∨ i = 9 := by omega
          clear hi8
          rcases hcase with rfl | rfl | rfl | rfl | rfl | rfl | rfl | rfl | rfl | rfl
          · obtain rfl := Option.some.inj hi
            have e8 : a.tmps.getD 8 undef = .int .i64 (z : Int) := (hM.other 8 (by decide +kernel)).trans rfl
            refine .inl ⟨rfl, mid_step (.int .i64 (z : Int)) wx (fun K hK => ?_) ⟨_, rfl, rfl, Below.refl _ _⟩⟩
            go_simp
            first | exact hK | simpa using hK | simpa [*] using hK
          · obtain rfl := Option.some.inj hi
            have e5 : a.tmps.getD 5 undef = .int .i64 (z : Int) := (hM.other 5 (by decide +kernel)).trans rfl
            refine .inl ⟨rfl, mid_step (.int .i64 (z : Int)) wx (fun K hK => ?_) ⟨_, rfl, rfl, Below.refl _ _⟩⟩
            go_simp
            first | exact hK | simpa using hK | simpa [*] using hK
          · obtain rfl := Option.some.inj hi
            have e30 : a.tmps.getD 30 undef = .int .i64 (z : Int) := hD 0 (by kernel_rfl) _ 30 rfl rfl
            have e31 : a.tmps.getD 31 undef = .int .i64 (z : Int) := hD 1 (by kernel_rfl) _ 31 rfl rfl
            have hzz : ((z : Int) != (z : Int)) = false := by simp
            refine .inl ⟨rfl, mid_step (.bool false) wx (fun K hK => ?_) ⟨_, rfl, rfl, Below.refl _ _⟩⟩
            go_simp
            first | exact hK | simpa using hK | simpa [*] using hK
          · obtain rfl := Option.some.inj hi
            have e32 : a.tmps.getD 32 undef = .bool false := hD 2 (by kernel_rfl) _ 32 rfl rfl
            refine .inl ⟨rfl, mid_step (.bool false) wx (fun K hK => ?_) ⟨_, rfl, rfl, Below.refl _ _⟩⟩
            go_simp
            first | exact hK | simpa using hK | simpa [*] using hK
          · obtain rfl := Option.some.inj hi
            have e7 : a.tmps.getD 7 undef = .pointer (some ⟨b7, 0, none⟩) := (hM.other 7 (by decide +kernel)).trans rfl
            obtain ⟨d0, d1, d2, d3, d4, d5, d6, d7, d8, d9, d10⟩ := HC7.out wx hM.below
            refine .inl ⟨wanted_yes 3 33 rfl rfl rfl (hD 3 (by kernel_rfl) _ 33 rfl rfl), mid_step (.agg #[ya0, ya1, ya2, ya3, ya4, ya5, ya6, ya7, ya8, ya9, ya10]) wx (fun K hK => ?_) ⟨_, rfl, rfl, Below.refl _ _⟩⟩
            go_simp
            first | exact hK | simpa using hK | simpa [*] using hK
          · obtain rfl := Option.some.inj hi
            have e34 : a.tmps.getD 34 undef = .agg #[ya0, ya1, ya2, ya3, ya4, ya5, ya6, ya7, ya8, ya9, ya10] := hD 4 (by kernel_rfl) _ 34 rfl rfl
            refine .inl ⟨wanted_yes 3 33 rfl rfl rfl (hD 3 (by kernel_rfl) _ 33 rfl rfl), mid_call (fun v w' => (∃ uv, v = uv ∧ Hid (∀ W', Below w'.heap.size w' W' → Calls Tryz.prog 9 #[uv, .agg #[xa0, xa1, xa2, xa3, xa4, xa5, xa6, xa7, xa8, xa9, xa10]] W' fun e w'' => e = .returned (.bool true) ∧ Below W'.heap.size W' w'')) ∧ Below wx.heap.size wx w') (fun K hK => ?_) (fun v w' h => ⟨v, rfl, h.1, h.2⟩)⟩
            go_simp
            refine (DS.out wx hM.below).mono ?_
            rintro e w' ⟨uv, rfl, ks, hb'⟩
            exact hK _ _ ⟨⟨uv, rfl, ks⟩, hb'⟩
          · obtain rfl := Option.some.inj hi
            have e4 : a.tmps.getD 4 undef = .pointer (some ⟨b4, 0, none⟩) := (hM.other 4 (by decide +kernel)).trans rfl
            obtain ⟨d0, d1, d2, d3, d4, d5, d6, d7, d8, d9, d10⟩ := HC4'.out wx hM.below
            refine .inl ⟨wanted_yes 3 33 rfl rfl rfl (hD 3 (by kernel_rfl) _ 33 rfl rfl), mid_step (.agg #[xa0, xa1, xa2, xa3, xa4, xa5, xa6, xa7, xa8, xa9, xa10]) wx (fun K hK => ?_) ⟨_, rfl, rfl, Below.refl _ _⟩⟩
            go_simp
            first | exact hK | simpa using hK | simpa [*] using hK
          · obtain rfl := Option.some.inj hi
            obtain ⟨uv, e35, ks⟩ := hD 5 (by kernel_rfl) _ 35 rfl rfl
            have e36 : a.tmps.getD 36 undef = .agg #[xa0, xa1, xa2, xa3, xa4, xa5, xa6, xa7, xa8, xa9, xa10] := hD 6 (by kernel_rfl) _ 36 rfl rfl
            refine .inl ⟨wanted_yes 3 33 rfl rfl rfl (hD 3 (by kernel_rfl) _ 33 rfl rfl), mid_call (fun v w' => v = .bool true ∧ Below wx.heap.size wx w') (fun K hK => ?_) (fun v w' h => ⟨v, rfl, h.1, h.2⟩)⟩
            go_simp
            refine (ks.out wx (Below.refl _ _)).mono ?_
            rintro e w' ⟨rfl, hb'⟩
            exact hK _ _ ⟨rfl, hb'⟩
          · obtain rfl := Option.some.inj hi
            have e37 : a.tmps.getD 37 undef = .bool true := hD 7 (by kernel_rfl) _ 37 rfl rfl
            refine .inl ⟨wanted_yes 3 33 rfl rfl rfl (hD 3 (by kernel_rfl) _ 33 rfl rfl), mid_step (.bool false) wx (fun K hK => ?_) ⟨_, rfl, rfl, Below.refl _ _⟩⟩
            go_simp
            first | exact hK | simpa using hK | simpa [*] using hK
          · obtain rfl := Option.some.inj hi
            have e33 : a.tmps.getD 33 undef = .bool false := hD 3 (by kernel_rfl) _ 33 rfl rfl
            have e38 : a.tmps.getD 38 undef = .bool false := hD 8 (by kernel_rfl) _ 38 rfl rfl
            refine .inl ⟨rfl, mid_step (.bool false) wx (fun K hK => ?_) ⟨_, rfl, rfl, Below.refl _ _⟩⟩
            go_simp
            first | exact hK | simpa using hK | simpa [*] using hK
        · intro a wx hM hD
          have q0 := hD 0 (by decide) _ 30 rfl rfl
          have q1 := hD 1 (by decide) _ 31 rfl rfl
          have q2 := hD 2 (by decide) _ 32 rfl rfl
          have q3 := hD 3 (by decide) _ 33 rfl rfl
          have q4 := hD 4 (by decide) _ 34 rfl rfl
          obtain ⟨uv, e35, ks⟩ := hD 5 (by decide) _ 35 rfl rfl
          have q5 : a.tmps.getD 35 undef = uv := by assumption
          have q6 := hD 6 (by decide) _ 36 rfl rfl
          have q7 := hD 7 (by decide) _ 37 rfl rfl
          have q8 := hD 8 (by decide) _ 38 rfl rfl
          have q9 := hD 9 (by decide) _ 39 rfl rfl
          have hact := act_puts (a := a) [(30, .int .i64 (z : Int)), (31, .int .i64 (z : Int)), (32, .bool false), (33, .bool false), (34, .agg #[ya0, ya1, ya2, ya3, ya4, ya5, ya6, ya7, ya8, ya9, ya10]), (35, uv), (36, .agg #[xa0, xa1, xa2, xa3, xa4, xa5, xa6, xa7, xa8, xa9, xa10]), (37, .bool true), (38, .bool false), (39, .bool false)] _ hM.tmps hM.defers (by
            intro s v hm
            simp only [List.mem_cons, Prod.mk.injEq, List.not_mem_nil, or_false] at hm
            rcases hm with ⟨rfl, rfl⟩ | ⟨rfl, rfl⟩ | ⟨rfl, rfl⟩ | ⟨rfl, rfl⟩ | ⟨rfl, rfl⟩ | ⟨rfl, rfl⟩ | ⟨rfl, rfl⟩ | ⟨rfl, rfl⟩ | ⟨rfl, rfl⟩ | ⟨rfl, rfl⟩
            · exact ⟨(by show 30 < 49; decide), q0⟩
            · exact ⟨(by show 31 < 49; decide), q1⟩
            · exact ⟨(by show 32 < 49; decide), q2⟩
            · exact ⟨(by show 33 < 49; decide), q3⟩
            · exact ⟨(by show 34 < 49; decide), q4⟩
            · exact ⟨(by show 35 < 49; decide), q5⟩
            · exact ⟨(by show 36 < 49; decide), q6⟩
            · exact ⟨(by show 37 < 49; decide), q7⟩
            · exact ⟨(by show 38 < 49; decide), q8⟩
            · exact ⟨(by show 39 < 49; decide), q9⟩) (fun s hs => hM.other s (by exact hs))
          rw [hact]
          have hBX := hM.below
          clear hact hD hM q0 q1 q2 q3 q4 q5 q6 q7 q8 q9
          simp only [List.foldl, Act.put, List.setIfInBounds_toArray, List.set_cons_succ, List.set_cons_zero]
          have HBX := Lib_hid hBX
          clear hBX
          obtain ⟨d0, d1, d2, d3, d4, d5, d6, d7, d8, d9, d10⟩ := HC7.out wx HBX.out
          have CS := SP.out wx HBX.out
          have hb57 := Lib_hid (hbr7.out.trans (HBX.out.mono hbr7.out.size))
          clear HC7 HC4' DS SP hbr7 HBX
          go_wp2_with fail
          refine CS.mono ?_
          rintro e w8 ⟨rfl, hb8⟩
          have hb58 := Lib_hid (hb57.out.trans hb8)
          clear CS hb8 hb57 d0 d1 d2 d3 d4 d5 d6 d7 d8 d9 d10
          go_wp2
          go_roundw
          case rel => exact ⟨i + 1, by go_num, by omega, hb58⟩
          case measure => simp [intOf]; omega
      · obtain rfl : i = 2 := by omega
        have HBB : Hid (∀ W, Below wr.heap.size wr W → Below w5.heap.size w5 W) := fun W hW => hbr.out.trans (hW.mono hbr.out.size)
        clear hbr DSX HC4 PP HSZ
        go_upto_region 12 with (fail)
        refine wp_region_midG (N := 49) (fun i v ww => ([fun v ww => v = .agg #[.int .u8 (k : Int), .slice A n c], fun v ww => v = .agg #[.int .u8 (k : Int), .string (str l)], fun v ww => v = .agg #[.int .u8 (k : Int), .string (str l)], fun v ww => v = .bool true, fun v ww => v = .bool true, fun v ww => v = .bool true, fun v ww => v = .bool true, fun v ww => v = .bool true] : List (Value → World → Prop)).getD i (fun _ _ => True) v ww) (by kernel_rfl) (by kernel_rfl) rfl ?_ ?_ ?_
        · intro i v wa wb h0 hb hp
          by_cases hi : i < 8
          · have hcase : i = 0 ∨ i = 1 ∨ i = 2 ∨ i = 3 ∨ i = 4 ∨ i = 5 ∨ i = 6 ∨ i = 7 := by omega
            rcases hcase with rfl | rfl | rfl | rfl | rfl | rfl | rfl | rfl
            · exact hp
            · exact hp
            · exact hp
            · exact hp
            · exact hp
            · exact hp
            · exact hp
            · exact hp
          · have hnn : ([fun v ww => v = .agg #[.int .u8 (k : Int), .slice A n c], fun v ww => v = .agg #[.int .u8 (k : Int), .string (str l)], fun v ww => v = .agg #[.int .u8 (k : Int), .string (str l)], fun v ww => v = .bool true, fun v ww => v = .bool true, fun v ww => v = .bool true, fun v ww => v = .bool true, fun v ww => v = .bool true] : List (Value → World → Prop))[i]? = none := List.getElem?_eq_none (by simpa using hi)
            rw [List.getD_eq_getElem?_getD, hnn]
            trivial
        · intro i o a wx hi hM hD
          have hi8 : i < 8 := (Array.getElem?_eq_some_iff.1 hi).1
          have hcase : i = 0 ∨ i = 1 ∨ i = 2 ∨ i = 3 ∨ i = 4 ∨ i = 5 ∨ i = 6 ∨ i = 7 := by omega
          clear hi8
          rcases hcase with rfl | rfl | rfl | rfl | rfl | rfl | rfl | rfl
          · obtain rfl := Option.some.inj hi
            have e1 : a.tmps.getD 1 undef = .pointer (some ⟨w.heap.size, 0, none⟩) := (hM.other 1 (by decide +kernel)).trans rfl
            obtain ⟨f0, f1⟩ := HF1.out wx (HBB.out wx hM.below)
            refine .inl ⟨rfl, mid_step (.agg #[.int .u8 (k : Int), .slice A n c]) wx (fun K hK => ?_) ⟨_, rfl, rfl, Below.refl _ _⟩⟩
            go_simp
            first | exact hK | simpa using hK | simpa [*] using hK
          · obtain rfl := Option.some.inj hi
            have e42 : a.tmps.getD 42 undef = .agg #[.int .u8 (k : Int), .slice A n c] := hD 0 (by kernel_rfl) _ 42 rfl rfl
            refine .inl ⟨rfl, mid_call (fun v w' => v = .agg #[.int .u8 (k : Int), .string (str l)] ∧ Below wx.heap.size wx w') (fun K hK => ?_) (fun v w' h => ⟨v, rfl, h.1, h.2⟩)⟩
            go_simp
            refine (DF.out wx (HBW.out wx (HBB.out wx hM.below))).mono ?_
            rintro e w' ⟨rfl, hb'⟩
            exact hK _ _ ⟨rfl, hb'⟩
          · obtain rfl := Option.some.inj hi
            have e3 : a.tmps.getD 3 undef = .pointer (some ⟨b3, 0, none⟩) := (hM.other 3 (by decide +kernel)).trans rfl
            obtain ⟨f0, f1⟩ := HF3.out wx (HBB.out wx hM.below)
            refine .inl ⟨rfl, mid_step (.agg #[.int .u8 (k : Int), .string (str l)]) wx (fun K hK => ?_) ⟨_, rfl, rfl, Below.refl _ _⟩⟩
            go_simp
            first | exact hK | simpa using hK | simpa [*] using hK
          · obtain rfl := Option.some.inj hi
            have e43 : a.tmps.getD 43 undef = .agg #[.int .u8 (k : Int), .string (str l)] := hD 1 (by kernel_rfl) _ 43 rfl rfl
            have e44 : a.tmps.getD 44 undef = .agg #[.int .u8 (k : Int), .string (str l)] := hD 2 (by kernel_rfl) _ 44 rfl rfl
            have heq := HEQ.out wx
            refine .inl ⟨rfl, mid_step (.bool true) wx (fun K hK => ?_) ⟨_, rfl, rfl, Below.refl _ _⟩⟩
            go_simp
            first | exact hK | simpa using hK | simpa [*] using hK
          · obtain rfl := Option.some.inj hi
            have e45 : a.tmps.getD 45 undef = .bool true := hD 3 (by kernel_rfl) _ 45 rfl rfl
            refine .inl ⟨rfl, mid_step (.bool true) wx (fun K hK => ?_) ⟨_, rfl, rfl, Below.refl _ _⟩⟩
            go_simp
            first | exact hK | simpa using hK | simpa [*] using hK
          · obtain rfl := Option.some.inj hi
            refine .inl ⟨wanted_yes 4 46 rfl rfl rfl (hD 4 (by kernel_rfl) _ 46 rfl rfl), mid_call (fun v w' => v = .bool true ∧ Below wx.heap.size wx w') (fun K hK => ?_) (fun v w' h => ⟨v, rfl, h.1, h.2⟩)⟩
            go_simp
            refine (WK.out wx (HBW.out wx (HBB.out wx hM.below))).mono ?_
            rintro e w' ⟨rfl, hb'⟩
            exact hK _ _ ⟨rfl, hb'⟩
          · obtain rfl := Option.some.inj hi
            have e46 : a.tmps.getD 46 undef = .bool true := hD 4 (by kernel_rfl) _ 46 rfl rfl
            have e47 : a.tmps.getD 47 undef = .bool true := hD 5 (by kernel_rfl) _ 47 rfl rfl
            refine .inl ⟨rfl, mid_step (.bool true) wx (fun K hK => ?_) ⟨_, rfl, rfl, Below.refl _ _⟩⟩
            go_simp
            first | exact hK | simpa using hK | simpa [*] using hK
          · obtain rfl := Option.some.inj hi
            have e48 : a.tmps.getD 48 undef = .bool true := hD 6 (by kernel_rfl) _ 48 rfl rfl
            refine .inl ⟨rfl, mid_step (.bool true) wx (fun K hK => ?_) ⟨_, rfl, rfl, Below.refl _ _⟩⟩
            go_simp
            first | exact hK | simpa using hK | simpa [*] using hK
        · intro a wx hM hD
          have q0 := hD 0 (by decide) _ 42 rfl rfl
          have q1 := hD 1 (by decide) _ 43 rfl rfl
          have q2 := hD 2 (by decide) _ 44 rfl rfl
          have q3 := hD 3 (by decide) _ 45 rfl rfl
          have q4 := hD 4 (by decide) _ 46 rfl rfl
          have q5 := hD 5 (by decide) _ 47 rfl rfl
          have q6 := hD 6 (by decide) _ 48 rfl rfl
          have q7 := hD 7 (by decide) _ 2 rfl rfl
          have hact := act_puts (a := a) [(42, .agg #[.int .u8 (k : Int), .slice A n c]), (43, .agg #[.int .u8 (k : Int), .string (str l)]), (44, .agg #[.int .u8 (k : Int), .string (str l)]), (45, .bool true), (46, .bool true), (47, .bool true), (48, .bool true), (2, .bool true)] _ hM.tmps hM.defers (by
            intro s v hm
            simp only [List.mem_cons, Prod.mk.injEq, List.not_mem_nil, or_false] at hm
            rcases hm with ⟨rfl, rfl⟩ | ⟨rfl, rfl⟩ | ⟨rfl, rfl⟩ | ⟨rfl, rfl⟩ | ⟨rfl, rfl⟩ | ⟨rfl, rfl⟩ | ⟨rfl, rfl⟩ | ⟨rfl, rfl⟩
            · exact ⟨(by show 42 < 49; decide), q0⟩
            · exact ⟨(by show 43 < 49; decide), q1⟩
            · exact ⟨(by show 44 < 49; decide), q2⟩
            · exact ⟨(by show 45 < 49; decide), q3⟩
            · exact ⟨(by show 46 < 49; decide), q4⟩
            · exact ⟨(by show 47 < 49; decide), q5⟩
            · exact ⟨(by show 48 < 49; decide), q6⟩
            · exact ⟨(by show 2 < 49; decide), q7⟩) (fun s hs => hM.other s (by exact hs))
          rw [hact]
          have hBX := hM.below
          clear hact hD hM q0 q1 q2 q3 q4 q5 q6 q7
          simp only [List.foldl, Act.put, List.setIfInBounds_toArray, List.set_cons_succ, List.set_cons_zero]
          have HBZ := HBW.out wx (HBB.out wx hBX)
          clear hBX
          go_wp2
          go_ret
          exact ⟨rfl, HBZ⟩
end Go.Proofs.YtdmoknnnlfkfoaaGreatDoor

namespace Go.Proofs.YtdmoknnnlfkfoaaGreatDoor
open Go.ChangeShapes Go.WideShapes Go.ChangeAt Go.RowKit Go
set_option linter.unusedVariables false
abbrev laidL : List (String × DataW Unit) := [("math/bits.deBruijn32tab", Rows.laid_math_bits_deBruijn32tab), ("math/bits.deBruijn64tab", Rows.laid_math_bits_deBruijn64tab), ("internal/strconv.uint64pow10", Rows.laid_internal_strconv_uint64pow10), ("unicode/utf8.acceptRanges", Rows.laid_unicode_utf8_acceptRanges), ("strconv.ErrRange", Rows.laid_strconv_ErrRange), ("strconv.ErrSyntax", Rows.laid_strconv_ErrSyntax), ("unicode/utf8.first", Rows.laid_unicode_utf8_first)]
theorem var_keep {P : Program} {W w' : World} {n : String} {cs : Array Value} (h : W.var? P n = some cs) (hk : ∀ g, g < W.heap.size → w'.heap[g]? = W.heap[g]?) : w'.var? P n = some cs := by
  unfold World.var? at *
  obtain ⟨g, hg, h2⟩ := Option.bind_eq_some_iff.1 h
  rw [hg, Option.bind_some]
  cases ho : W.heap[g]? with
  | none => rw [ho] at h2; cases h2
  | some o =>
    rw [hk g (Array.getElem?_eq_some_iff.1 ho).1, ho]
    rw [ho] at h2
    exact h2
theorem gPow : Tryz.prog.globalNamed "internal/strconv.uint64pow10" = some 1 := by kernel_rfl
theorem tPow : (Tryz.prog.globals[1]?).map (·.type) = some 256 := by kernel_rfl
theorem gSyn : Tryz.prog.globalNamed "strconv.ErrSyntax" = some 2 := by kernel_rfl
theorem tSyn : (Tryz.prog.globals[2]?).map (·.type) = some 198 := by kernel_rfl
theorem gRng : Tryz.prog.globalNamed "strconv.ErrRange" = some 3 := by kernel_rfl
theorem tRng : (Tryz.prog.globals[3]?).map (·.type) = some 198 := by kernel_rfl
theorem starE : "*" ++ "errors.errorString" = "*errors.errorString" := by decide
theorem rowES (u : TypeId) (h : Tryz.prog.typeName? 3 u = some "*errors.errorString") : u = 278 :=
  typeName_ptr_named (nm := "errors.errorString") (by rw [starE]; kernel_rfl) (by kernel_rfl) (by decide) u (by rw [starE]; exact h)
theorem env_of_laid {W : World} (h : laidMetH Tryz.prog laidL W) : Env W.heap.size W := by
  rw [MakeChecks.laidMetH_plain _ _ _ (by kernel_rfl)] at h
  have h1 : Lib.TabIs Tryz.prog W "internal/strconv.uint64pow10" .u64 Lib.pow10Tab :=
    Lib.tabIs_of_head gPow tPow Tryz.underlying256 Tryz.underlying29 (by kernel_rfl) (by kernel_rfl) (show laidMet Tryz.prog (("internal/strconv.uint64pow10", Lib.tabData .u64 Lib.pow10Tab) :: _) W from h.tail.tail)
  obtain ⟨a0, s0, hv0, -, -, -⟩ := laid_sentinel h.tail.tail.tail.tail gRng tRng Tryz.underlying198 rowES Tryz.underlying278 Tryz.underlying280 rfl rfl Tryz.underlying9 (by kernel_rfl) (by kernel_rfl)
  obtain ⟨a1, s1, hv1, -, -, -⟩ := laid_sentinel h.tail.tail.tail.tail.tail gSyn tSyn Tryz.underlying198 rowES Tryz.underlying278 Tryz.underlying280 rfl rfl Tryz.underlying9 (by kernel_rfl) (by kernel_rfl)
  exact fun w' hk => ⟨var_keep h1 hk, ⟨_, _, var_keep hv1 hk⟩, ⟨_, _, var_keep hv0 hk⟩⟩
end Go.Proofs.YtdmoknnnlfkfoaaGreatDoor

namespace Go.Proofs.YtdmoknnnlfkfoaaGreatDoor
open Go Go.RowKit Go.Deep Go.ChangeShapes Go.WideShapes
set_option linter.unusedVariables false
section
variable {H : Type} {enc : TypeId × Value → H} {w : World} {base : Nat} {held : Bool}
end
end Go.Proofs.YtdmoknnnlfkfoaaGreatDoor

namespace Go.Proofs.YtdmoknnnlfkfoaaGreatDoor
open Go Go.RowKit Go.Deep Go.ChangeShapes Go.WideShapes
set_option linter.unusedVariables false
section
variable {H : Type} {enc : TypeId × Value → H} {w : World} {base : Nat} {held : Bool}
theorem int_read {t : TypeId} {k : IntKind} {fuel : Nat} {cs : List Value} {x : DataW H × List MemPlace} (ht : Tryz.prog.underlying t = some (.int k)) (h : DataW.trod enc Tryz.prog w base (fun _ => true) held fuel t cs = some x) : ∃ z : Int, cs = [.int k z] ∧ (Lit.int k z).wf = true := by
  obtain ⟨z, e, _, w0⟩ := DataW.trod_int ht h
  exact ⟨z, e, w0⟩
end
end Go.Proofs.YtdmoknnnlfkfoaaGreatDoor

namespace Go.Proofs.YtdmoknnnlfkfoaaGreatDoor
open Go Go.RowKit
def IsRow (k : IntKind) (w : World) (a : Option Addr) (len cap : Nat) (zs : List Int) : Prop :=
  (a = none ∧ len = 0 ∧ cap = 0 ∧ zs = []) ∨
  ∃ x, a = some x ∧ len ≤ cap ∧ cap ≤ maxLen ∧ zs.length = cap ∧ (∀ i, i < zs.length → w.cell? (x.add i) = some (.int k (zs.getD i 0))) ∧ ∀ n ∈ zs, (Lit.int k n).wf = true
theorem IsRow.rd {w : World} {a : Option Addr} {len cap : Nat} {zs : List Int} (h : IsRow .u8 w a len cap zs) :
    ∃ l : List Nat, Rd w w.heap.size 1 a len (bs l) ∧ (∀ x ∈ l, x < 256) ∧ len ≤ cap ∧ cap ≤ 9223372036854775807 := by
  rcases h with ⟨rfl, rfl, rfl, rfl⟩ | ⟨x, rfl, hl, hm, hz, hc, hw⟩
  · exact ⟨[], Rd.zero, by simp, Nat.le_refl _, by omega⟩
  · have hmem : ∀ n ∈ zs, 0 ≤ n ∧ n ≤ 255 := fun n hn => bounds_u8 (hw n hn)
    refine ⟨(zs.take len).map Int.toNat, ⟨?_, fun h0 => ⟨x, rfl, ?_, ?_⟩⟩, ?_, hl, by unfold maxLen at hm; omega⟩
    · rw [bs_length, List.length_map, List.length_take]; omega
    · have := World.block_lt_of_cell? w _ (hc 0 (by omega)); rw [add_block] at this; exact this
    · intro j u hu
      have hj : j < len := by
        rcases Nat.lt_or_ge j len with h1 | h1
        · exact h1
        · rw [List.getElem?_eq_none (by rw [bs_length, List.length_map, List.length_take]; omega)] at hu; cases hu
      have hjz : j < zs.length := by omega
      rw [hc j hjz]
      simp only [bs, List.map_map, List.getElem?_map, List.getElem?_take, hj, if_true, List.getElem?_eq_getElem hjz, Option.map_some, Option.some.injEq] at hu
      rw [List.getD_eq_getElem?_getD, List.getElem?_eq_getElem hjz]
      have hb := hmem zs[j] (List.getElem_mem hjz)
      rw [← hu]
      simp only [Option.getD_some, Function.comp_apply, Option.some.injEq, Value.int.injEq, true_and]
      omega
    · intro y hy
      obtain ⟨n, hn, rfl⟩ := List.mem_map.1 hy
      have := hmem n (List.mem_of_mem_take hn)
      omega
end Go.Proofs.YtdmoknnnlfkfoaaGreatDoor
