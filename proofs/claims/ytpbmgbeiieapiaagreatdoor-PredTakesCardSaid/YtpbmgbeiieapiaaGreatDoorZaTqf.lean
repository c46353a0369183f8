/-
  Layer 4: the statements' SpoilExpr, over any tree in new memory.
  Layer 4: the statements' same, where both are the same; what it writes over.
  Layer 4: the chapter's examples, plainly.
  Layer 4: works: the chapter's examples.
  Layer 4: Parse, the program's and the document's, where Take is known.
  Layer 4: the law's walk: what the program takes and parses is what the document does.
-/
import Derived.Test.YtpbmgbeiieapiaaGreatDoorTcl
import Derived.Test.YtpbmgbeiieapiaaGreatDoorZaTdy
import Derived.Test.YtpbmgbeiieapiaaGreatDoorTex
import Derived.Test.YtpbmgbeiieapiaaGreatDoorHlp
import Derived.Test.YtpbmgbeiieapiaaGreatDoorThl
import Derived.Test.YtpbmgbeiieapiaaGreatDoorZaTpk
import Derived.Test.YtpbmgbeiieapiaaGreatDoorTtn

namespace Go.Proofs.YtpbmgbeiieapiaaGreatDoor
open Go Go.RowKit
set_option linter.unusedVariables false

/-- A step that writes kinds and numbers over, in blocks from lo on and below hi, and makes memory. -/
structure Spo (E : TypeId) (lo hi : Nat) (w w' : World) : Prop where
  shp : ∀ (lo' : Nat) (u : V), Shp E w lo' u → Shp E w' lo' u
  below : Below lo w w'
  keep : ∀ k, k < w.heap.size → (k < lo ∨ hi ≤ k) → w'.heap[k]? = w.heap[k]?
theorem Spo.refl (E : TypeId) (lo hi : Nat) (w : World) : Spo E lo hi w w := ⟨fun _ _ h => h, Below.refl _ _, fun _ _ _ => rfl⟩
theorem Spo.trans {E : TypeId} {lo hi : Nat} {a b c : World} (h : Spo E lo hi a b) (k : Spo E lo hi b c) : Spo E lo hi a c :=
  ⟨fun l u x => k.shp l u (h.shp l u x), h.below.trans k.below, fun i hi' ho => (k.keep i (Nat.lt_of_lt_of_le hi' h.below.size) ho).trans (h.keep i hi' ho)⟩
theorem Spo.new (E : TypeId) {lo hi : Nat} {w w' : World} (h : Below w.heap.size w w') (hl : lo ≤ w.heap.size) : Spo E lo hi w w' :=
  ⟨fun _ _ x => x.under h, h.mono hl, fun k hk _ => h.block k hk⟩
theorem Spo.over {E : TypeId} {lo hi : Nat} {a w : World} (h : Spo E lo hi a w) {g i : Nat} {x : Value} (h1 : lo ≤ g) (h2 : g < hi) (hx : (∃ j, i = j * 4 ∧ ∃ z, x = .int .i64 z) ∨ (∃ j, i = j * 4 + 1 ∧ ∃ z, x = .int .u64 z)) : Spo E lo hi a (w.setCell ⟨g, i, none⟩ x) :=
  ⟨fun l u k => (h.shp l u k).over hx, h.below.setCell (p := ⟨g, i, none⟩) h1 x, fun k hk ho => (Below.heap_setCell w ⟨g, i, none⟩ x k (by show k ≠ g; omega)).trans (h.keep k hk ho)⟩
theorem Spo.drew {E : TypeId} {lo hi : Nat} {a w : World} (h : Spo E lo hi a w) : Spo E lo hi a w.drew :=
  ⟨fun l u k => (h.shp l u k).keep fun _ _ _ => rfl, h.below.drew, h.keep⟩

set_option maxRecDepth 100000 in
set_option maxHeartbeats 1600000 in
theorem spoil_expr : ∀ (v : V) (w0 w : World) (lo : Nat) (x y z : Int), Shp 25 w0 lo v → Shp 25 w lo v → w0.heap.size ≤ w.heap.size → lo ≤ w.heap.size → v.abs.count ≤ 1000 →
    Calls Tryz.prog 19 #[.agg #[.int .i64 x, .int .u64 y, .int .u64 z, v.sl]] w fun e w' => e = .returned (.tuple #[]) ∧ Spo 25 lo w0.heap.size w w' := by
  refine V.ind fun k a b A c ps ih w0 w lo x y z h0 hS hw0 hlo hct => ?_
  have hlc : ps.length ≤ 1000 := by
    rw [V.count_node] at hct
    have := length_le_countL (V.absL ps)
    rw [absL_length] at this
    omega
  have IH : Hid (∀ (i : Nat) (p : V), ps[i]? = some p → ∀ (W : World) (x y z : Int), Spo 25 lo w0.heap.size w W → Calls Tryz.prog 19 #[.agg #[.int .i64 x, .int .u64 y, .int .u64 z, p.sl]] W fun e w' => e = .returned (.tuple #[]) ∧ Spo 25 lo w0.heap.size W w') := fun i p hp W x y z hW => by
    have hm := List.mem_of_getElem? hp
    refine ih p hm w0 W lo x y z (h0.part hm) (hW.shp _ _ (hS.part hm)) (Nat.le_trans hw0 hW.below.size) (Nat.le_trans hlo hW.below.size) ?_
    have := count_le hp
    rw [V.count_node] at hct
    omega
  have HS : Hid (∀ W, Spo 25 lo w0.heap.size w W → Shp 25 W lo (V.node k a b A c ps)) := fun W hW => hW.shp _ _ hS
  have H0 := Lib_hid h0
  have hbx := heap_alloc_new w (.cells #[.int .i64 x, .int .u64 y, .int .u64 z, .slice A ps.length c] 25)
  have hb0 : Spo 25 lo w0.heap.size w (w.alloc (.cells #[.int .i64 x, .int .u64 y, .int .u64 z, .slice A ps.length c] 25)) := Spo.new _ (below_new w _) hlo
  clear ih hS hct h0
  show Calls Tryz.prog 19 #[.agg #[.int .i64 x, .int .u64 y, .int .u64 z, .slice A ps.length c]] w _
  go_enter Tryz.func19, Tryz.ntmps19
  go_wp2
  go_loopw [2] (fun t wr => ∃ (i : Nat), t = .int .i64 i ∧ i ≤ ps.length ∧ wr.heap[w.heap.size]? = some (.cells #[.int .i64 x, .int .u64 y, .int .u64 z, .slice A ps.length c] 25 (0, 0)) ∧ Spo 25 lo w0.heap.size w wr) (fun t _ => ps.length - (intOf t).toNat)
  case atStart => exact ⟨0, rfl, Nat.zero_le _, hbx, hb0⟩
  case round =>
    clear hbx hb0
    obtain ⟨i, rfl, hi1, hbx, hsp⟩ := hrel
    have c3 : wr.cell? ⟨w.heap.size, 3, none⟩ = some (.slice A ps.length c) := cell_of_row wr _ 3 _ _ _ hbx
    have hgl := (Array.getElem?_eq_some_iff.1 hbx).1
    by_cases hlt : i < ps.length
    · obtain ⟨p, hp⟩ : ∃ p, ps[i]? = some p := ⟨_, List.getElem?_eq_getElem hlt⟩
      obtain ⟨g, rfl, hg1, hg2, -⟩ := H0.out.nth hp
      obtain ⟨g', e, -, hgw, -, -, ⟨x0, d0⟩, ⟨x1, d1⟩, ⟨x2, d2⟩, d3⟩ := (HS.out wr hsp).nth hp
      injection e with e
      injection e with e
      subst e
      have CH := IH.out i p hp wr x0 x1 x2 hsp
      have HP := Lib_hid hp
      have hps : p.sl = .slice p.addr p.parts.length p.cap := rfl
      rw [hps] at d3 CH
      clear hp hps
      generalize p.addr = pA at *
      generalize p.cap = pc at *
      generalize p.parts.length = pn at *
      go_wp2_with fail
      refine CH.mono ?_
      rintro e w1 ⟨rfl, hsp1⟩
      have hsp2 := hsp.trans hsp1
      have hbx1 := (hsp1.keep _ hgl (.inr hw0)).trans hbx
      have hgl1 := (Array.getElem?_eq_some_iff.1 hbx1).1
      have c31 : w1.cell? ⟨w.heap.size, 3, none⟩ = some (.slice (some ⟨g, 0, none⟩) ps.length c) := cell_of_row w1 _ 3 _ _ _ hbx1
      obtain ⟨g', e, -, hgw1, -, hfr, ⟨y0, f0⟩, ⟨y1, f1⟩, -, -⟩ := (HS.out w1 hsp2).nth HP.out
      injection e with e
      injection e with e
      subst e
      have z0 := hfr (i * 4)
      have z1 := hfr (i * 4 + 1)
      have hne : w.heap.size ≠ g := by omega
      clear CH hsp hsp1 hbx hgl c3 d0 d1 d2 d3 hfr
      have hsp3 := hsp2.over (x := .int .i64 77) hg1 hg2 (.inl ⟨i, rfl, 77, rfl⟩)
      go_upto_region 6 with (fail)
      have hg3 := HS.out _ hsp3
      have hbx3 : (w1.setCell ⟨g, i * 4, none⟩ (.int .i64 77)).heap[w.heap.size]? = _ := (Below.heap_setCell w1 ⟨g, i * 4, none⟩ (.int .i64 77) w.heap.size hne).trans hbx1
      clear hbx1 c31 hgl1 hgw1 f0 f1 z0 z1 hsp2
      generalize w1.setCell ⟨g, i * 4, none⟩ (.int .i64 77) = w2 at *
      have c32 : w2.cell? ⟨w.heap.size, 3, none⟩ = some (.slice (some ⟨g, 0, none⟩) ps.length c) := cell_of_row w2 _ 3 _ _ _ hbx3
      obtain ⟨g', e, -, hgw2, -, hfr, -, ⟨y2, f2⟩, -, -⟩ := hg3.nth HP.out
      injection e with e
      injection e with e
      subst e
      have z2 := hfr (i * 4 + 1)
      have hsp4 := hsp3.over (x := .int .u64 (IntKind.u64.wrap (y2 + 7))) hg1 hg2 (.inr ⟨i, rfl, _, rfl⟩)
      have hbx4 : (w2.setCell ⟨g, i * 4 + 1, none⟩ (.int .u64 (IntKind.u64.wrap (y2 + 7)))).heap[w.heap.size]? = _ := (Below.heap_setCell w2 ⟨g, i * 4 + 1, none⟩ (.int .u64 (IntKind.u64.wrap (y2 + 7))) w.heap.size hne).trans hbx3
      clear hfr hg3 hbx3 hsp3
      go_region
      have hsp5 := hsp4.drew
      have hbx5 : (w2.setCell ⟨g, i * 4 + 1, none⟩ (.int .u64 (IntKind.u64.wrap (y2 + 7)))).drew.heap[w.heap.size]? = _ := hbx4
      clear hbx4 hsp4
      generalize IntKind.u64.wrap (y2 + 7) = y3 at *
      generalize (w2.setCell ⟨g, i * 4 + 1, none⟩ (.int .u64 y3)).drew = w9 at *
      go_wp2
      go_roundw
      case rel => exact ⟨i + 1, by go_num, by omega, hbx5, hsp5⟩
      case measure => simp [intOf]; omega
    · obtain rfl : i = ps.length := by omega
      go_wp2
      go_end0
      exact ⟨rfl, hsp⟩

end Go.Proofs.YtpbmgbeiieapiaaGreatDoor

namespace Go.Proofs.YtpbmgbeiieapiaaGreatDoor
open Go Go.RowKit
set_option linter.unusedVariables false

set_option maxRecDepth 100000 in
set_option maxHeartbeats 3200000 in
theorem same5_any (u r : V) (n z : Int) (w0 : World) (lo hi lo2 hi2 : Nat) (w : World) (hu : Lies w lo hi u) (hS0 : Shp 25 w0 lo u) (hw0 : w0.heap.size ≤ w.heap.size) (hS : Shp 25 w lo u) (hhi : hi ≤ w.heap.size) (hlo : lo ≤ w.heap.size) (hr : Lies w lo2 hi2 r) (hhi2 : hi2 ≤ w.heap.size) (he : u.abs = r.abs) (hct : u.abs.count ≤ 1000) :
    Calls Tryz.prog 36 #[u.val, .int .i64 n, .int .i64 z, r.val, .int .i64 n, .int .i64 z] w fun e w' => e = .returned (.bool true) ∧ Below lo w w' ∧ ∀ k, k < w.heap.size → (k < lo ∨ w0.heap.size ≤ k) → w'.heap[k]? = w.heap[k]? := by
  have b1 := below_new w (.cells #[.int .i64 u.kind, .int .u64 (u.a : Int), .int .u64 (u.b : Int), .slice u.addr u.parts.length u.cap] 25)
  have r1 := heap_alloc_new w (.cells #[.int .i64 u.kind, .int .u64 (u.a : Int), .int .u64 (u.b : Int), .slice u.addr u.parts.length u.cap] 25)
  obtain ⟨w1, hw1⟩ : ∃ w1, w1 = w.alloc (.cells #[.int .i64 u.kind, .int .u64 (u.a : Int), .int .u64 (u.b : Int), .slice u.addr u.parts.length u.cap] 25) := ⟨_, rfl⟩
  have s1 : w1.heap.size = w.heap.size + 1 := by rw [hw1]; simp
  rw [← hw1] at b1 r1
  have b2 := below_new w1 (.cells #[.int .i64 r.kind, .int .u64 (r.a : Int), .int .u64 (r.b : Int), .slice r.addr r.parts.length r.cap] 30)
  have r2 := heap_alloc_new w1 (.cells #[.int .i64 r.kind, .int .u64 (r.a : Int), .int .u64 (r.b : Int), .slice r.addr r.parts.length r.cap] 30)
  obtain ⟨w2, hw2⟩ : ∃ w2, w2 = w1.alloc (.cells #[.int .i64 r.kind, .int .u64 (r.a : Int), .int .u64 (r.b : Int), .slice r.addr r.parts.length r.cap] 30) := ⟨_, rfl⟩
  have s2 : w2.heap.size = w.heap.size + 2 := by rw [hw2]; simp [s1]
  rw [← hw2, s1] at b2 r2
  have r12 := (b2.block w.heap.size (by omega)).trans r1
  have bw := b1.trans (b2.mono (by omega))
  have DE : Hid (∀ W, Below w2.heap.size w2 W → Calls Tryz.prog 10 #[.agg #[.int .i64 u.kind, .int .u64 (u.a : Int), .int .u64 (u.b : Int), .slice u.addr u.parts.length u.cap]] W fun e w' => ∃ x : V, e = .returned (.agg #[.int .i64 x.kind, .int .u64 (x.a : Int), .int .u64 (x.b : Int), .slice x.addr x.parts.length x.cap]) ∧ x.abs = u.abs ∧ Lies w' W.heap.size w'.heap.size x ∧ Shp 30 w' W.heap.size x ∧ Below W.heap.size W w') := fun W hW =>
    dexpr_any u W lo hi ((hu.under (bw.mono hhi)).under (hW.mono (by omega))) (by have := hW.size; omega) hct
  have RS : Hid (∀ (W W' : World) (x : V), Below w2.heap.size w2 W → x.abs = u.abs → Lies W' W.heap.size W'.heap.size x → Below W.heap.size W W' → Calls Tryz.prog 16 #[.agg #[.int .i64 x.kind, .int .u64 (x.a : Int), .int .u64 (x.b : Int), .slice x.addr x.parts.length x.cap], .agg #[.int .i64 r.kind, .int .u64 (r.a : Int), .int .u64 (r.b : Int), .slice r.addr r.parts.length r.cap]] W' fun e w' => e = .returned (.bool true) ∧ Below W'.heap.size W' w') := fun W W' x hW hx hL hb => by
    have hW' := hW.trans (hb.mono hW.size)
    have := rsame_any x r W' _ _ lo2 hi2 hL (Nat.le_refl _) ((hr.under (bw.mono hhi2)).under (hW'.mono (by omega))) (by have := hW'.size; omega)
    rw [hx, he, (sameB_iff _ _).2 rfl] at this
    exact this
  have SP : Hid (∀ W, Below w2.heap.size w2 W → Calls Tryz.prog 19 #[.agg #[.int .i64 u.kind, .int .u64 (u.a : Int), .int .u64 (u.b : Int), .slice u.addr u.parts.length u.cap]] W fun e w' => e = .returned (.tuple #[]) ∧ Below lo W w' ∧ ∀ k, k < W.heap.size → (k < lo ∨ w0.heap.size ≤ k) → w'.heap[k]? = W.heap[k]?) := fun W hW => by
    have hbw := bw.trans (hW.mono bw.size)
    exact (spoil_expr u w0 W lo u.kind u.a u.b hS0 ((hS.under bw).under (hW.mono (Nat.le_refl _))) (by have := hbw.size; omega) (by have := hbw.size; omega) hct).mono fun e w' h => ⟨h.1, h.2.below, h.2.keep⟩
  have HC : Hid (∀ W, Below w2.heap.size w2 W → (W.cell? ⟨w.heap.size, 0, none⟩ = some (.int .i64 u.kind) ∧ W.cell? ⟨w.heap.size, 1, none⟩ = some (.int .u64 (u.a : Int)) ∧ W.cell? ⟨w.heap.size, 2, none⟩ = some (.int .u64 (u.b : Int)) ∧ W.cell? ⟨w.heap.size, 3, none⟩ = some (.slice u.addr u.parts.length u.cap)) ∧
      W.cell? ⟨w.heap.size + 1, 0, none⟩ = some (.int .i64 r.kind) ∧ W.cell? ⟨w.heap.size + 1, 1, none⟩ = some (.int .u64 (r.a : Int)) ∧ W.cell? ⟨w.heap.size + 1, 2, none⟩ = some (.int .u64 (r.b : Int)) ∧ W.cell? ⟨w.heap.size + 1, 3, none⟩ = some (.slice r.addr r.parts.length r.cap)) := fun W hW => by
    have hx := (hW.block w.heap.size (by omega)).trans r12
    have hy := (hW.block (w.heap.size + 1) (by omega)).trans r2
    exact ⟨⟨(cell_of_row W _ 0 _ _ _ hx).trans rfl, (cell_of_row W _ 1 _ _ _ hx).trans rfl, (cell_of_row W _ 2 _ _ _ hx).trans rfl, (cell_of_row W _ 3 _ _ _ hx).trans rfl⟩, (cell_of_row W _ 0 _ _ _ hy).trans rfl, (cell_of_row W _ 1 _ _ _ hy).trans rfl, (cell_of_row W _ 2 _ _ _ hy).trans rfl, (cell_of_row W _ 3 _ _ _ hy).trans rfl⟩
  have HBW := Lib_hid bw
  have hnn : (n == n) = true := by simp
  have hzz : (z == z) = true := by simp
  subst hw2 hw1
  clear hu hS hS0 hr r1 r2 r12 b1 b2 s1 s2 bw he hct
  show Calls _ _ #[.agg #[.int .i64 u.kind, .int .u64 (u.a : Int), .int .u64 (u.b : Int), .slice u.addr u.parts.length u.cap], .int .i64 n, .int .i64 z, .agg #[.int .i64 r.kind, .int .u64 (r.a : Int), .int .u64 (r.b : Int), .slice r.addr r.parts.length r.cap], .int .i64 n, .int .i64 z] w _
  go_enter Tryz.func36, Tryz.ntmps36
  go_upto_region 1 with (fail)
  generalize (w.alloc _).alloc (.cells #[.int .i64 r.kind, .int .u64 (r.a : Int), .int .u64 (r.b : Int), .slice r.addr r.parts.length r.cap] 30) = w2 at *
  generalize u.addr = uA at *
  generalize u.cap = uc at *
  generalize u.parts.length = un at *
  generalize u.kind = uk at *
  generalize (u.a : Int) = ua at *
  generalize (u.b : Int) = ub at *
  generalize r.addr = rA at *
  generalize r.cap = rc at *
  generalize r.parts.length = rn at *
  generalize r.kind = rk at *
  generalize (r.a : Int) = ra at *
  generalize (r.b : Int) = rb at *
  go_region_held3 (fun W => (W.cell? ⟨w.heap.size, 0, none⟩ = some (.int .i64 uk) ∧ W.cell? ⟨w.heap.size, 1, none⟩ = some (.int .u64 ua) ∧ W.cell? ⟨w.heap.size, 2, none⟩ = some (.int .u64 ub) ∧ W.cell? ⟨w.heap.size, 3, none⟩ = some (.slice uA un uc)) ∧
      W.cell? ⟨w.heap.size + 1, 0, none⟩ = some (.int .i64 rk) ∧ W.cell? ⟨w.heap.size + 1, 1, none⟩ = some (.int .u64 ra) ∧ W.cell? ⟨w.heap.size + 1, 2, none⟩ = some (.int .u64 rb) ∧ W.cell? ⟨w.heap.size + 1, 3, none⟩ = some (.slice rA rn rc))
    (first | exact HC.out _ (below_like4 (Below.refl _ _) rfl rfl rfl rfl) | exact HC.out _ hbx | exact HC.out _ hby)
    ((first
      | (go_at_call 10; refine (DE.out _ (by exact below_like4 (Below.refl _ _) rfl rfl rfl rfl)).mono ?_; rintro e wx ⟨x, rfl, hxa, hxL, -, hxb⟩; have hbx : Below w2.heap.size w2 wx := ⟨hxb.os, hxb.tape, hxb.output, hxb.size, hxb.block⟩)
      | (go_at_call 16; refine (RS.out w2 wx x (Below.refl _ _) hxa hxL hbx).mono ?_; rintro e wy ⟨rfl, hyb⟩; have hby := hbx.trans (hyb.mono hbx.size))))
  all_goals
    obtain ⟨⟨d0, d1, d2, d3⟩, -⟩ := HC.out wy hby
    have S1 := SP.out wy hby
    go_wp2_with fail
    refine S1.mono ?_
    rintro e wz ⟨rfl, hz, hzk⟩
    have HF : Hid (Below lo w wz ∧ ∀ k, k < w.heap.size → (k < lo ∨ w0.heap.size ≤ k) → wz.heap[k]? = w.heap[k]?) := by
      have h1 := HBW.out.size
      have h2 := hby.size
      exact ⟨(HBW.out.mono hlo).trans ((hby.mono (by omega)).trans hz), fun k hk ho => (hzk k (by omega) ho).trans ((hby.block k (by omega)).trans (HBW.out.block k hk))⟩
    clear hzk hz
    clear S1 d0 d1 d2 d3
    go_wp2_with fail
    go_ret
    exact ⟨rfl, HF.out⟩

end Go.Proofs.YtpbmgbeiieapiaaGreatDoor

namespace Go.Proofs.YtpbmgbeiieapiaaGreatDoor
open Go Go.RowKit
set_option linter.unusedVariables false

theorem dec1 {n : Nat} (h : n < 10) : Lib.decDigits n = [UInt8.ofNat (48 + n)] := by rw [Lib.decDigits, dif_pos h]
theorem num_one {n : Nat} (hn : n < 10) (r : List UInt8) (hr : ∀ c, r[0]? = some c → isDig c = false) : numS (UInt8.ofNat (48 + n) :: r) = some (n, r) := by
  have hd : isDig (UInt8.ofNat (48 + n)) = true := by
    rw [isDig_iff]
    have : (UInt8.ofNat (48 + n)).toNat = 48 + n := by simp; omega
    omega
  have h0 := (DgI.zero (UInt8.ofNat (48 + n) :: r)).step (c := UInt8.ofNat (48 + n)) rfl hd (by have := (UInt8.ofNat (48 + n)).toNat_lt; omega)
  have e : 0 * 10 + ((UInt8.ofNat (48 + n)).toNat - 48) = n := by simp; omega
  rw [e] at h0
  rw [h0.done (by simp) (fun c hc => hr c (by simpa using hc)), if_pos ⟨by omega, by rw [dec1 hn]; rfl⟩]
  rfl

def exT : T := .node 6 0 0 [.node 2 7 0 [], .node 5 0 0 [.node 4 3 1 []]]
theorem ex1 : ansT (readT [38, 40, 120, 60, 61, 55, 44, 33, 118, 37, 51, 61, 49, 41]) = (exT, 0) := by
  have n7 : numS [55, 44, 33, 118, 37, 51, 61, 49, 41] = some (7, [44, 33, 118, 37, 51, 61, 49, 41]) := num_one (n := 7) (by omega) _ (by intro c h; injection h with h; subst h; rfl)
  have n3 : numS [51, 61, 49, 41] = some (3, [61, 49, 41]) := num_one (n := 3) (by omega) _ (by intro c h; injection h with h; subst h; rfl)
  have n1 : numS [49, 41] = some (1, [41]) := num_one (n := 1) (by omega) _ (by intro c h; injection h with h; subst h; rfl)
  have a1 : rdS 7 [120, 60, 61, 55, 44, 33, 118, 37, 51, 61, 49, 41] = some (.node 2 7 0 [], [44, 33, 118, 37, 51, 61, 49, 41]) := by
    rw [rd_x (d := 6) rfl rfl]
    show (numS [55, 44, 33, 118, 37, 51, 61, 49, 41]).map _ = _
    rw [n7]; rfl
  have a2 : rdS 6 [118, 37, 51, 61, 49, 41] = some (.node 4 3 1 [], [41]) := by
    rw [rd_m (d := 5) rfl rfl rfl rfl]
    show (numS [51, 61, 49, 41]).bind _ = _
    rw [n3]
    show (if Lib.hasPrefix [61, 49, 41] [61] then (numS [49, 41]).map _ else none) = _
    rw [n1]; rfl
  have a3 : rdS 7 [33, 118, 37, 51, 61, 49, 41] = some (.node 5 0 0 [.node 4 3 1 []], [41]) := by
    rw [rd_n (d := 6) (fun i q1 q2 => by have : i = 1 ∨ i = 2 ∨ i = 3 ∨ i = 4 := by omega
                                         rcases this with rfl | rfl | rfl | rfl <;> rfl) rfl]
    show (rdS 6 [118, 37, 51, 61, 49, 41]).map _ = _
    rw [a2]; rfl
  have a4 : rdS 8 [38, 40, 120, 60, 61, 55, 44, 33, 118, 37, 51, 61, 49, 41] = some (exT, []) := by
    rw [rd_r (d := 7) 6 38 (by decide) (fun i q1 q2 => by have : i = 1 ∨ i = 2 ∨ i = 3 ∨ i = 4 ∨ i = 5 := by omega
                                                          rcases this with rfl | rfl | rfl | rfl | rfl <;> rfl) rfl]
    show (listB (rdS 7) [120, 60, 61, 55, 44, 33, 118, 37, 51, 61, 49, 41]).map _ = _
    have b1 : listB (rdS 7) [120, 60, 61, 55, 44, 33, 118, 37, 51, 61, 49, 41] = some ([.node 2 7 0 [], .node 5 0 0 [.node 4 3 1 []]], []) := by
      show contS (rdS 7) [120, 60, 61, 55, 44, 33, 118, 37, 51, 61, 49, 41] = _
      rw [cont_more (rdS_len 7) a1, cont_shut a3]
      rfl
    rw [b1]; rfl
  unfold readT
  rw [a4]
  show ansT (if exT.rightB then some exT else none) = _
  rw [show exT.rightB = true by rfl]
  rfl
theorem ex2 : ansT (readT [118, 37, 51, 61, 51]) = (.node 0 0 0 [], 40) := by
  have n3 : numS [51, 61, 51] = some (3, [61, 51]) := num_one (n := 3) (by omega) _ (by intro c h; injection h with h; subst h; rfl)
  have n1 : numS [51] = some (3, []) := num_one (n := 3) (by omega) _ (by intro c h; cases h)
  have a2 : rdS 8 [118, 37, 51, 61, 51] = some (.node 4 3 3 [], []) := by
    rw [rd_m (d := 7) rfl rfl rfl rfl]
    show (numS [51, 61, 51]).bind _ = _
    rw [n3]
    show (if Lib.hasPrefix [61, 51] [61] then (numS [51]).map _ else none) = _
    rw [n1]; rfl
  unfold readT
  rw [a2]
  rfl
theorem ex3 : ansT (readT [120, 60, 61, 48, 55]) = (.node 0 0 0 [], 40) := by
  have n0 : numS [48, 55] = none := by
    have h0 := ((DgI.zero [48, 55]).step (c := 48) rfl rfl (by decide)).step (c := 55) rfl rfl (by decide)
    have h1 := h0.done (by simp) (fun c hc => by simp at hc)
    rw [h1]
    have : Lib.decDigits ((0 * 10 + ((48 : UInt8).toNat - 48)) * 10 + ((55 : UInt8).toNat - 48)) = [55] := by
      rw [show ((0 * 10 + ((48 : UInt8).toNat - 48)) * 10 + ((55 : UInt8).toNat - 48)) = 7 by rfl, dec1 (by omega)]; rfl
    rw [this]
    rfl
  have a2 : rdS 8 [120, 60, 61, 48, 55] = none := by
    rw [rd_x (d := 7) rfl rfl]
    show (numS [48, 55]).map _ = _
    rw [n0]; rfl
  unfold readT
  rw [a2]
  rfl
theorem ex4 : ansT (readT [38, 40, 97, 108, 108, 44, 41]) = (.node 0 0 0 [], 40) := by
  have a1 : rdS 7 [97, 108, 108, 44, 41] = some (.node 1 0 0 [], [44, 41]) := rd_all (d := 6) rfl
  have a3 : rdS 7 [41] = none := rd_0 (d := 6) (fun i q1 q2 => by have : i = 1 ∨ i = 2 ∨ i = 3 ∨ i = 4 ∨ i = 5 := by omega
                                                                  rcases this with rfl | rfl | rfl | rfl | rfl <;> rfl) rfl rfl
  have a4 : rdS 8 [38, 40, 97, 108, 108, 44, 41] = none := by
    rw [rd_r (d := 7) 6 38 (by decide) (fun i q1 q2 => by have : i = 1 ∨ i = 2 ∨ i = 3 ∨ i = 4 ∨ i = 5 := by omega
                                                          rcases this with rfl | rfl | rfl | rfl | rfl <;> rfl) rfl]
    have b1 : listB (rdS 7) [97, 108, 108, 44, 41] = none := by
      show contS (rdS 7) [97, 108, 108, 44, 41] = _
      rw [cont_more (rdS_len 7) a1, cont_none a3]
      rfl
    have b2 : listB (rdS 7) (List.drop 2 [38, 40, 97, 108, 108, 44, 41]) = none := b1
    rw [b2]
    rfl
  unfold readT
  rw [a4]
  rfl
theorem ex_put : exT.put = [6, 2, 2, 7, 5, 4, 3, 1] := by
  have e : ∀ n, n < 128 → enc n = [n] := fun n h => enc_lt h
  have e2 := e 2 (by omega)
  have e7 := e 7 (by omega)
  have e3 := e 3 (by omega)
  have e1 := e 1 (by omega)
  unfold T.put
  rw [show exT.rightB = true by rfl, if_pos rfl]
  unfold exT
  simp [T.stand, T.standL, numsL, numN, e2, e7, e3, e1]

end Go.Proofs.YtpbmgbeiieapiaaGreatDoor

namespace Go.Proofs.YtpbmgbeiieapiaaGreatDoor
open Go Go.RowKit
set_option linter.unusedVariables false

theorem ans_open {f : FuncId} {args : Array Value} {w : World} {E : TypeId} {t : T} {z : Nat} (h : Calls Tryz.prog f args w (AnsEnd E (t, z) w)) :
    Calls Tryz.prog f args w fun e w' => ∃ u : V, e = .returned (.tuple #[.agg #[.int .i64 u.kind, .int .u64 (u.a : Int), .int .u64 (u.b : Int), .slice u.addr u.parts.length u.cap], .int .i64 (z : Int)]) ∧ u.abs = t ∧ Lies w' w.heap.size w'.heap.size u ∧ Shp E w' w.heap.size u ∧ Below w.heap.size w w' := h
theorem bs8 : bs [6, 2, 2, 7, 5, 4, 3, 1] = [.int .u8 6, .int .u8 2, .int .u8 2, .int .u8 7, .int .u8 5, .int .u8 4, .int .u8 3, .int .u8 1] := rfl

set_option maxRecDepth 100000 in
set_option maxHeartbeats 6400000 in
theorem works4_any (B : Nat) (w : World) (hE : Env B w) (hB : B ≤ w.heap.size) : Calls Tryz.prog 9 #[] w fun e w' => e = .returned (.bool true) ∧ Below w.heap.size w w' := by
  have RD : Hid (∀ (s : List UInt8) (W : World), Below w.heap.size w W → s.length ≤ 1000 → Calls Tryz.prog 37 #[.string ⟨s.toArray⟩] W (AnsEnd 25 (ansT (readT s)) W)) := fun s W h hl => pread_any s B W (hE.under h hB) (by have := h.size; omega) (by omega)
  have R1 := RD.out [38, 40, 120, 60, 61, 55, 44, 33, 118, 37, 51, 61, 49, 41] w (Below.refl _ _) (by decide)
  rw [ex1] at R1
  have R1 := ans_open R1
  clear hE
  go_enter Tryz.func9, Tryz.ntmps9
  go_wp2_with fail
  refine R1.mono ?_
  rintro e w1 ⟨u, rfl, hu, hL, -, hb1⟩
  have s1 := hb1.size
  have bx := below_new w1 (.cells #[.int .i64 u.kind, .int .u64 (u.a : Int), .int .u64 (u.b : Int), .slice u.addr u.parts.length u.cap] 25)
  have rx := heap_alloc_new w1 (.cells #[.int .i64 u.kind, .int .u64 (u.a : Int), .int .u64 (u.b : Int), .slice u.addr u.parts.length u.cap] 25)
  have sx : (w1.alloc (.cells #[.int .i64 u.kind, .int .u64 (u.a : Int), .int .u64 (u.b : Int), .slice u.addr u.parts.length u.cap] 25)).heap.size = w1.heap.size + 1 := by simp
  clear R1
  go_upto_region 2 with (fail)
  generalize w1.alloc (.cells #[.int .i64 u.kind, .int .u64 (u.a : Int), .int .u64 (u.b : Int), .slice u.addr u.parts.length u.cap] 25) = w2 at *
  have hLW : Hid (∀ W, Below w2.heap.size w2 W → Lies W w.heap.size w1.heap.size u) := fun W hW => (hL.under bx).under (hW.mono bx.size)
  have hct : u.abs.count ≤ 1000 := by rw [hu]; decide
  have HC : Hid (∀ W, Below w2.heap.size w2 W → W.cell? ⟨w1.heap.size, 0, none⟩ = some (.int .i64 u.kind) ∧ W.cell? ⟨w1.heap.size, 1, none⟩ = some (.int .u64 (u.a : Int)) ∧ W.cell? ⟨w1.heap.size, 2, none⟩ = some (.int .u64 (u.b : Int)) ∧ W.cell? ⟨w1.heap.size, 3, none⟩ = some (.slice u.addr u.parts.length u.cap)) := fun W hW => by
    have hx := (hW.block w1.heap.size (by omega)).trans rx
    exact ⟨(cell_of_row W _ 0 _ _ _ hx).trans rfl, (cell_of_row W _ 1 _ _ _ hx).trans rfl, (cell_of_row W _ 2 _ _ _ hx).trans rfl, (cell_of_row W _ 3 _ _ _ hx).trans rfl⟩
  have PU : Hid (∀ W, Below w2.heap.size w2 W → Calls Tryz.prog 11 #[.agg #[.int .i64 u.kind, .int .u64 (u.a : Int), .int .u64 (u.b : Int), .slice u.addr u.parts.length u.cap]] W (Made 5 [6, 2, 2, 7, 5, 4, 3, 1] W)) := fun W hW => by
    have := pput_any u W _ _ (hLW.out W hW) (by have := hW.size; omega)
    rw [hu, ex_put] at this
    exact this
  have HO : Hid (∀ (x y : Nat) (r : Bool) (W : World), Below w2.heap.size w2 W → x < 100 → y < 100 → (exT.rightB && exT.askB x y) = r → Calls Tryz.prog 26 #[.agg #[.int .i64 u.kind, .int .u64 (u.a : Int), .int .u64 (u.b : Int), .slice u.addr u.parts.length u.cap], .int .u64 (x : Int), .int .u64 (y : Int)] W fun e w' => e = .returned (.bool r) ∧ Below W.heap.size W w') := fun x y r W hW hx hy hr => by
    have := pholds_any x y (by omega) (by omega) u W _ _ (hLW.out W hW) (by have := hW.size; omega) hct
    rw [hu, hr] at this
    exact this
  have DP : Hid (∀ W, Below w2.heap.size w2 W → Calls Tryz.prog 22 #[.agg #[.int .i64 u.kind, .int .u64 (u.a : Int), .int .u64 (u.b : Int), .slice u.addr u.parts.length u.cap]] W fun e w' => e = .returned (.int .i64 3) ∧ Below W.heap.size W w') := fun W hW => by
    have := pdepth_any u W _ _ (hLW.out W hW) (by have := hW.size; omega) hct
    rw [hu] at this
    exact this
  have ND : Hid (∀ W, Below w2.heap.size w2 W → Calls Tryz.prog 24 #[.agg #[.int .i64 u.kind, .int .u64 (u.a : Int), .int .u64 (u.b : Int), .slice u.addr u.parts.length u.cap]] W fun e w' => e = .returned (.int .i64 4) ∧ Below W.heap.size W w') := fun W hW => by
    have := pnodes_any u W _ _ (hLW.out W hW) (by have := hW.size; omega) hct
    rw [hu] at this
    exact this
  have bw2 := hb1.trans (bx.mono s1)
  clear hL hLW hu hct bx rx
  have cw1 := Below.refl w2.heap.size w2
  have R2 := RD.out [118, 37, 51, 61, 51] w2 bw2 (by decide)
  rw [ex2] at R2
  have R2 := ans_open R2
  go_wp2_with fail
  refine R2.mono ?_
  rintro e v2 ⟨u2, rfl, -, -, -, hv2⟩
  have bv2 := below_new v2 (.cells #[.int .i64 u2.kind, .int .u64 (u2.a : Int), .int .u64 (u2.b : Int), .slice u2.addr u2.parts.length u2.cap] 25)
  have c2 := cw1.trans (hv2.mono cw1.size)
  have cw2 := c2.trans (bv2.mono c2.size)
  clear R2 hv2 bv2 c2 cw1
  go_upto_region 3 with (fail)
  generalize v2.alloc (.cells #[.int .i64 u2.kind, .int .u64 (u2.a : Int), .int .u64 (u2.b : Int), .slice u2.addr u2.parts.length u2.cap] 25) = w3 at *
  have R3 := RD.out [120, 60, 61, 48, 55] w3 (bw2.trans (cw2.mono bw2.size)) (by decide)
  rw [ex3] at R3
  have R3 := ans_open R3
  go_wp2_with fail
  refine R3.mono ?_
  rintro e v3 ⟨u3, rfl, -, -, -, hv3⟩
  have bv3 := below_new v3 (.cells #[.int .i64 u3.kind, .int .u64 (u3.a : Int), .int .u64 (u3.b : Int), .slice u3.addr u3.parts.length u3.cap] 25)
  have c3 := cw2.trans (hv3.mono cw2.size)
  have cw3 := c3.trans (bv3.mono c3.size)
  clear R3 hv3 bv3 c3 cw2
  go_upto_region 4 with (fail)
  generalize v3.alloc (.cells #[.int .i64 u3.kind, .int .u64 (u3.a : Int), .int .u64 (u3.b : Int), .slice u3.addr u3.parts.length u3.cap] 25) = w4 at *
  have R4 := RD.out [38, 40, 97, 108, 108, 44, 41] w4 (bw2.trans (cw3.mono bw2.size)) (by decide)
  rw [ex4] at R4
  have R4 := ans_open R4
  go_wp2_with fail
  refine R4.mono ?_
  rintro e v4 ⟨u4, rfl, -, -, -, hv4⟩
  have bv4 := below_new v4 (.cells #[.int .i64 u4.kind, .int .u64 (u4.a : Int), .int .u64 (u4.b : Int), .slice u4.addr u4.parts.length u4.cap] 25)
  have c4 := cw3.trans (hv4.mono cw3.size)
  have cw4 := c4.trans (bv4.mono c4.size)
  clear R4 hv4 bv4 c4 cw3
  go_upto_region 5 with (fail)
  generalize v4.alloc (.cells #[.int .i64 u4.kind, .int .u64 (u4.a : Int), .int .u64 (u4.b : Int), .slice u4.addr u4.parts.length u4.cap] 25) = w5 at *
  have P5 := PU.out w5 cw4
  obtain ⟨d0, d1, d2, d3⟩ := HC.out w5 cw4
  clear RD
  go_wp2_with fail
  refine P5.mono ?_
  rintro e w6 ⟨A6, c6, rfl, ho6, hb6⟩
  have cw6 := cw4.trans (hb6.mono cw4.size)
  have hnew := below_new w6 (.cells #[.int .u8 6, .int .u8 2, .int .u8 2, .int .u8 7, .int .u8 5, .int .u8 4, .int .u8 3, .int .u8 1] 5)
  have hlit := World.ownsRow_lit (base := w6.heap.size) (e := 5) (size := 1) w6 #[.int .u8 6, .int .u8 2, .int .u8 2, .int .u8 7, .int .u8 5, .int .u8 4, .int .u8 3, .int .u8 1] 8 (Nat.le_refl _) (by decide) rfl
  have SB := same_any _ _ A6 (some ⟨w6.heap.size, 0, none⟩) 8 8 c6 8 [6, 2, 2, 7, 5, 4, 3, 1] [6, 2, 2, 7, 5, 4, 3, 1] _ (Rd.own (own_below ho6 hnew (own_lt ho6))) (Rd.own hlit) (by omega)
  rw [eqB_self] at SB
  have cw7 := cw6.trans (hnew.mono cw6.size)
  clear P5 d0 d1 d2 d3 ho6 hb6 cw4 hnew hlit
  go_wp2_with fail
  refine SB.mono ?_
  rintro e w7 ⟨rfl, q, rfl⟩
  have cw8 := below_drew_ cw7 (n := q)
  generalize (w6.alloc (.cells #[.int .u8 6, .int .u8 2, .int .u8 2, .int .u8 7, .int .u8 5, .int .u8 4, .int .u8 3, .int .u8 1] 5)).drewN q = w8 at *
  clear SB cw7 cw6
  have H0 : Calls Tryz.prog 26 #[.agg #[.int .i64 u.kind, .int .u64 (u.a : Int), .int .u64 (u.b : Int), .slice u.addr u.parts.length u.cap], .int .u64 7, .int .u64 5] w8 fun e w' => e = .returned (.bool true) ∧ Below w8.heap.size w8 w' := HO.out 7 5 true w8 cw8 (by omega) (by omega) (by rfl)
  obtain ⟨d0, d1, d2, d3⟩ := HC.out w8 cw8
  go_wp2_with fail
  refine H0.mono ?_
  rintro e w9 ⟨rfl, hb9⟩
  have cw9 := cw8.trans (hb9.mono cw8.size)
  clear H0 hb9 d0 d1 d2 d3
  have H1 : Calls Tryz.prog 26 #[.agg #[.int .i64 u.kind, .int .u64 (u.a : Int), .int .u64 (u.b : Int), .slice u.addr u.parts.length u.cap], .int .u64 7, .int .u64 4] w9 fun e w' => e = .returned (.bool false) ∧ Below w9.heap.size w9 w' := HO.out 7 4 false w9 cw9 (by omega) (by omega) (by rfl)
  obtain ⟨d0, d1, d2, d3⟩ := HC.out w9 cw9
  go_wp2_with fail
  refine H1.mono ?_
  rintro e w10 ⟨rfl, hb10⟩
  have cw10 := cw9.trans (hb10.mono cw9.size)
  clear H1 hb10 d0 d1 d2 d3
  have H2 : Calls Tryz.prog 26 #[.agg #[.int .i64 u.kind, .int .u64 (u.a : Int), .int .u64 (u.b : Int), .slice u.addr u.parts.length u.cap], .int .u64 8, .int .u64 5] w10 fun e w' => e = .returned (.bool false) ∧ Below w10.heap.size w10 w' := HO.out 8 5 false w10 cw10 (by omega) (by omega) (by rfl)
  obtain ⟨d0, d1, d2, d3⟩ := HC.out w10 cw10
  go_wp2_with fail
  refine H2.mono ?_
  rintro e w11 ⟨rfl, hb11⟩
  have cw11 := cw10.trans (hb11.mono cw10.size)
  clear H2 hb11 d0 d1 d2 d3
  have D0 := DP.out w11 cw11
  obtain ⟨d0, d1, d2, d3⟩ := HC.out w11 cw11
  go_wp2_with fail
  refine D0.mono ?_
  rintro e w12 ⟨rfl, hb12⟩
  have cw12 := cw11.trans (hb12.mono cw11.size)
  clear D0 hb12 d0 d1 d2 d3
  have N0 := ND.out w12 cw12
  obtain ⟨d0, d1, d2, d3⟩ := HC.out w12 cw12
  go_wp2_with fail
  refine N0.mono ?_
  rintro e w13 ⟨rfl, hb13⟩
  have cw13 := cw12.trans (hb13.mono cw12.size)
  clear N0 hb13 d0 d1 d2 d3
  have HF := bw2.trans (cw13.mono bw2.size)
  go_wp2_with fail
  go_ret
  exact ⟨rfl, HF⟩

end Go.Proofs.YtpbmgbeiieapiaaGreatDoor

namespace Go.Proofs.YtpbmgbeiieapiaaGreatDoor
open Go Go.RowKit
set_option linter.unusedVariables false

/-- The predicate as which all of the bytes stand. -/
def parseT (l : List Nat) : Option T := (takeT l 0).bind fun x => if x.2 = l.length then some x.1 else none

set_option maxRecDepth 100000 in
theorem pparse_ret {Q : Ending → World → Prop} {W : World} {h0 : Nat} {z : Int} {x0 x1 x2 x3 : Value} (HR2 : W.heap[h0]? = some (.cells #[x0, x1, x2, x3] 25 (0, 0))) (HF2 : Q (.returned (.tuple #[.agg #[x0, x1, x2, x3], .int .i64 z])) W)
    (tmps : Array Value) (h2 : tmps.getD 2 undef = .pointer (some ⟨h0, 0, none⟩)) (h3 : tmps.getD 3 undef = .int .i64 z) : bodyPost Tryz.prog Tryz.f34 Q .ret { tmps := tmps, defers := [] } W := by
  rw [Array.getD_eq_getD_getElem?] at h2 h3
  have d0 := cell_of_row W _ 0 _ _ _ HR2
  have d1 := cell_of_row W _ 1 _ _ _ HR2
  have d2 := cell_of_row W _ 2 _ _ _ HR2
  have d3 := cell_of_row W _ 3 _ _ _ HR2
  simp at d0 d1 d2 d3
  exact bodyPost_ret (v := .tuple #[.agg #[x0, x1, x2, x3], .int .i64 z]) (by simp [results, Tryz.results34, go_sem, h2, h3, d0, d1, d2, d3]) rfl HF2

set_option maxRecDepth 100000 in
set_option maxHeartbeats 3200000 in
theorem pParse_any (l : List Nat) (Ab : Option Addr) (nb cb : Nat) (hln : l.length = nb) (w : World) (hTk : ∀ W, Below w.heap.size w W → Calls Tryz.prog 32 #[.slice Ab nb cb, .int .i64 0] W (TkEnd 25 (ansK (takeT l 0)) W)) :
    Calls Tryz.prog 34 #[.slice Ab nb cb] w (AnsEnd 25 (ansT (parseT l)) w) := by
  obtain ⟨w1, hw1⟩ : ∃ w1, w1 = w.alloc (.cells #[.int .i64 0, .int .u64 0, .int .u64 0, .slice none 0 0] 25) := ⟨_, rfl⟩
  have q1 := heap_alloc_new w (.cells #[.int .i64 0, .int .u64 0, .int .u64 0, .slice none 0 0] 25)
  have b1 := below_new w (.cells #[.int .i64 0, .int .u64 0, .int .u64 0, .slice none 0 0] 25)
  have s1 : w1.heap.size = w.heap.size + 1 := by rw [hw1]; simp
  rw [← hw1] at q1 b1
  have TK0 := hTk w1 b1
  obtain ⟨t, r, z, ho⟩ : ∃ t r z, ansK (takeT l 0) = (t, r, z) := ⟨_, _, _, rfl⟩
  rw [ho] at TK0
  have TK : Calls Tryz.prog 32 #[.slice Ab nb cb, .int .i64 0] w1 fun e w' => ∃ u : V, e = .returned (.tuple #[.agg #[.int .i64 u.kind, .int .u64 (u.a : Int), .int .u64 (u.b : Int), .slice u.addr u.parts.length u.cap], .int .i64 (r : Int), .int .i64 (z : Int)]) ∧ u.abs = t ∧ Lies w' w1.heap.size w'.heap.size u ∧ Shp 25 w' w1.heap.size u ∧ Below w1.heap.size w1 w' := TK0
  have hpo : (z = 0 ∧ r = nb → ansT (parseT l) = (t, 0)) ∧ (¬ (z = 0 ∧ r = nb) → ansT (parseT l) = (.node 0 0 0 [], 40)) := by
    unfold parseT
    cases h : takeT l 0 with
    | none =>
      rw [h] at ho
      injection ho with _ ho
      injection ho with _ ho
      refine ⟨fun h => by omega, fun _ => rfl⟩
    | some x =>
      obtain ⟨t', r'⟩ := x
      rw [h] at ho
      injection ho with e1 ho
      injection ho with e2 e3
      subst e1 e2 e3
      refine ⟨fun h => ?_, fun h => ?_⟩
      · rw [Option.bind_some, if_pos (show r' = l.length by omega)]; rfl
      · rw [Option.bind_some, if_neg (show ¬ r' = l.length by omega)]; rfl
  have HPO := Lib_hid hpo
  clear hpo TK0 ho hTk
  generalize ansT (parseT l) = o at *
  have HBADEND : Hid (∀ W : World, W.heap[w.heap.size]? = some (.cells #[.int .i64 0, .int .u64 0, .int .u64 0, .slice none 0 0] 25 (0, 0)) → Below w.heap.size w W → ¬ (z = 0 ∧ r = nb) →
      AnsEnd 25 o w (.returned (.tuple #[.agg #[.int .i64 0, .int .u64 0, .int .u64 0, .slice none 0 0], .int .i64 40])) (put4 W w.heap.size (.int .i64 0) (.int .u64 0) (.int .u64 0) (.slice none 0 0)) ∧
      (put4 W w.heap.size (.int .i64 0) (.int .u64 0) (.int .u64 0) (.slice none 0 0)).heap[w.heap.size]? = some (.cells #[.int .i64 0, .int .u64 0, .int .u64 0, .slice none 0 0] 25 (0, 0))) := by
    intro W h1 h2 h3
    rw [HPO.out.2 h3]
    exact ⟨⟨.node 0 0 0 none 0 [], rfl, by simp [V.abs, V.absL], zero_lies _ _ _, zero_shp _ _ _, put4_below h2 (Nat.le_refl _) _ _ _ _⟩, put4_row h1 _ _ _ _⟩
  subst hw1
  go_enter Tryz.func34, Tryz.ntmps34
  go_upto_region 1 with (fail)
  generalize w.alloc (.cells #[.int .i64 0, .int .u64 0, .int .u64 0, .slice none 0 0] 25) = w1 at *
  go_wp2_with fail
  refine TK.mono ?_
  rintro e w2 ⟨u, rfl, hu, hL, hS, hb2⟩
  have s2 := hb2.size
  have q2 := (hb2.block w.heap.size (by omega)).trans q1
  have hbw2 := b1.trans (hb2.mono (by omega))
  have b3 := below_new w2 (.cells #[.int .i64 u.kind, .int .u64 (u.a : Int), .int .u64 (u.b : Int), .slice u.addr u.parts.length u.cap] 25)
  have r3 := heap_alloc_new w2 (.cells #[.int .i64 u.kind, .int .u64 (u.a : Int), .int .u64 (u.b : Int), .slice u.addr u.parts.length u.cap] 25)
  have q3 := (b3.block w.heap.size (by omega)).trans q2
  have hbw3 := hbw2.trans (b3.mono (by omega))
  have HLS := Lib_hid (And.intro hu (And.intro (hL.under b3) (hS.under b3)))
  have hs3 := b3.size
  clear TK hb2 hL hS hu q2 hbw2 b3 q1 b1
  go_upto_region 2 with (fail)
  generalize w2.alloc (.cells #[.int .i64 u.kind, .int .u64 (u.a : Int), .int .u64 (u.b : Int), .slice u.addr u.parts.length u.cap] 25) = w3 at *
  have e0 := cell_of_row w3 _ 0 _ _ _ q3
  have e1 := cell_of_row w3 _ 1 _ _ _ q3
  have e2 := cell_of_row w3 _ 2 _ _ _ q3
  have e3 := cell_of_row w3 _ 3 _ _ _ q3
  have y0 := frozen_of_row w3 w.heap.size 0 _ _ q3
  have y1 := frozen_of_row w3 w.heap.size 1 _ _ q3
  have y2 := frozen_of_row w3 w.heap.size 2 _ _ q3
  have y3 := frozen_of_row w3 w.heap.size 3 _ _ q3
  simp at e0 e1 e2 e3
  by_cases hz : z = 0
  · subst hz
    by_cases hr : r = nb
    · subst hr
      have f0 := cell_of_row w3 _ 0 _ _ _ r3
      have f1 := cell_of_row w3 _ 1 _ _ _ r3
      have f2 := cell_of_row w3 _ 2 _ _ _ r3
      have f3 := cell_of_row w3 _ 3 _ _ _ r3
      simp at f0 f1 f2 f3
      have HX : Hid (AnsEnd 25 o w (.returned (.tuple #[.agg #[.int .i64 u.kind, .int .u64 (u.a : Int), .int .u64 (u.b : Int), .slice u.addr u.parts.length u.cap], .int .i64 0])) (put4 w3 w.heap.size (.int .i64 u.kind) (.int .u64 (u.a : Int)) (.int .u64 (u.b : Int)) (.slice u.addr u.parts.length u.cap)) ∧
          (put4 w3 w.heap.size (.int .i64 u.kind) (.int .u64 (u.a : Int)) (.int .u64 (u.b : Int)) (.slice u.addr u.parts.length u.cap)).heap[w.heap.size]? = some (.cells #[.int .i64 u.kind, .int .u64 (u.a : Int), .int .u64 (u.b : Int), .slice u.addr u.parts.length u.cap] 25 (0, 0))) := by
        obtain ⟨hu, hL4, hS4⟩ := HLS.out
        rw [HPO.out.1 ⟨rfl, rfl⟩]
        refine ⟨⟨u, rfl, hu, ?_, ?_, put4_below hbw3 (Nat.le_refl _) _ _ _ _⟩, put4_row q3 _ _ _ _⟩
        · rw [put4_size]
          exact (hL4.keep fun p h1 _ => World.cell?_of_block (put4_else w3 (by omega) _ _ _ _)).more (by omega) (by omega)
        · exact (Shp.keepL _ hL4 hS4 fun g' h1 _ => put4_else w3 (by omega) _ _ _ _).more (by omega)
      clear q3 r3 hbw3 HLS HBADEND HPO
      generalize u.addr = uA at *
      generalize u.cap = uc at *
      generalize u.parts.length = un at *
      generalize u.kind = uk at *
      generalize (u.a : Int) = ua at *
      generalize (u.b : Int) = ub at *
      go_wp2_with fail
      show bodyPost _ _ _ _ _ (put4 w3 w.heap.size (.int .i64 uk) (.int .u64 ua) (.int .u64 ub) (.slice uA un uc))
      have HX2 := HX.out
      clear HX e0 e1 e2 e3 y0 y1 y2 y3 f0 f1 f2 f3
      generalize put4 w3 w.heap.size (.int .i64 uk) (.int .u64 ua) (.int .u64 ub) (.slice uA un uc) = W2 at *
      exact pparse_ret (z := 0) HX2.2 HX2.1 _ rfl rfl
    · have HX := Lib_hid (HBADEND.out w3 q3 hbw3 (fun h => hr h.2))
      have hrI : ¬ (r : Int) = (nb : Int) := by omega
      have hrB : ((r : Int) == (nb : Int)) = false := by simp; omega
      have hrC : ((r : Int) != (nb : Int)) = true := by simp; omega
      clear q3 r3 hbw3 HLS HBADEND HPO
      generalize u.addr = uA at *
      generalize u.cap = uc at *
      generalize u.parts.length = un at *
      generalize u.kind = uk at *
      generalize (u.a : Int) = ua at *
      generalize (u.b : Int) = ub at *
      go_wp2_with fail
      show bodyPost _ _ _ _ _ (put4 w3 w.heap.size (.int .i64 0) (.int .u64 0) (.int .u64 0) (.slice none 0 0))
      have HX2 := HX.out
      clear HX e0 e1 e2 e3 y0 y1 y2 y3
      generalize put4 w3 w.heap.size (.int .i64 0) (.int .u64 0) (.int .u64 0) (.slice none 0 0) = W2 at *
      exact pparse_ret (z := 40) HX2.2 HX2.1 _ rfl rfl
  · have HX := Lib_hid (HBADEND.out w3 q3 hbw3 (fun h => hz h.1))
    have hrI : ¬ (z : Int) = 0 := by omega
    have hrB : ((z : Int) == 0) = false := by simp; omega
    have hrC : ((z : Int) != 0) = true := by simp; omega
    clear q3 r3 hbw3 HLS HBADEND HPO
    generalize u.addr = uA at *
    generalize u.cap = uc at *
    generalize u.parts.length = un at *
    generalize u.kind = uk at *
    generalize (u.a : Int) = ua at *
    generalize (u.b : Int) = ub at *
    go_wp2_with fail
    show bodyPost _ _ _ _ _ (put4 w3 w.heap.size (.int .i64 0) (.int .u64 0) (.int .u64 0) (.slice none 0 0))
    have HX2 := HX.out
    clear HX e0 e1 e2 e3 y0 y1 y2 y3
    generalize put4 w3 w.heap.size (.int .i64 0) (.int .u64 0) (.int .u64 0) (.slice none 0 0) = W2 at *
    exact pparse_ret (z := 40) HX2.2 HX2.1 _ rfl rfl

set_option maxRecDepth 100000 in
theorem rparse_ret {Q : Ending → World → Prop} {W : World} {h0 : Nat} {z : Int} {x0 x1 x2 x3 : Value} (HR2 : W.heap[h0]? = some (.cells #[x0, x1, x2, x3] 30 (0, 0))) (HF2 : Q (.returned (.tuple #[.agg #[x0, x1, x2, x3], .int .i64 z])) W)
    (tmps : Array Value) (h2 : tmps.getD 2 undef = .pointer (some ⟨h0, 0, none⟩)) (h3 : tmps.getD 3 undef = .int .i64 z) : bodyPost Tryz.prog Tryz.f35 Q .ret { tmps := tmps, defers := [] } W := by
  rw [Array.getD_eq_getD_getElem?] at h2 h3
  have d0 := cell_of_row W _ 0 _ _ _ HR2
  have d1 := cell_of_row W _ 1 _ _ _ HR2
  have d2 := cell_of_row W _ 2 _ _ _ HR2
  have d3 := cell_of_row W _ 3 _ _ _ HR2
  simp at d0 d1 d2 d3
  exact bodyPost_ret (v := .tuple #[.agg #[x0, x1, x2, x3], .int .i64 z]) (by simp [results, Tryz.results35, go_sem, h2, h3, d0, d1, d2, d3]) rfl HF2

set_option maxRecDepth 100000 in
set_option maxHeartbeats 3200000 in
theorem rParse_any (l : List Nat) (Ab : Option Addr) (nb cb : Nat) (hln : l.length = nb) (w : World) (hTk : ∀ W, Below w.heap.size w W → Calls Tryz.prog 33 #[.slice Ab nb cb, .int .i64 0] W (TkEnd 30 (ansK (takeT l 0)) W)) :
    Calls Tryz.prog 35 #[.slice Ab nb cb] w (AnsEnd 30 (ansT (parseT l)) w) := by
  obtain ⟨w1, hw1⟩ : ∃ w1, w1 = w.alloc (.cells #[.int .i64 0, .int .u64 0, .int .u64 0, .slice none 0 0] 30) := ⟨_, rfl⟩
  have q1 := heap_alloc_new w (.cells #[.int .i64 0, .int .u64 0, .int .u64 0, .slice none 0 0] 30)
  have b1 := below_new w (.cells #[.int .i64 0, .int .u64 0, .int .u64 0, .slice none 0 0] 30)
  have s1 : w1.heap.size = w.heap.size + 1 := by rw [hw1]; simp
  rw [← hw1] at q1 b1
  have TK0 := hTk w1 b1
  obtain ⟨t, r, z, ho⟩ : ∃ t r z, ansK (takeT l 0) = (t, r, z) := ⟨_, _, _, rfl⟩
  rw [ho] at TK0
  have TK : Calls Tryz.prog 33 #[.slice Ab nb cb, .int .i64 0] w1 fun e w' => ∃ u : V, e = .returned (.tuple #[.agg #[.int .i64 u.kind, .int .u64 (u.a : Int), .int .u64 (u.b : Int), .slice u.addr u.parts.length u.cap], .int .i64 (r : Int), .int .i64 (z : Int)]) ∧ u.abs = t ∧ Lies w' w1.heap.size w'.heap.size u ∧ Shp 30 w' w1.heap.size u ∧ Below w1.heap.size w1 w' := TK0
  have hpo : (z = 0 ∧ r = nb → ansT (parseT l) = (t, 0)) ∧ (¬ (z = 0 ∧ r = nb) → ansT (parseT l) = (.node 0 0 0 [], 40)) := by
    unfold parseT
    cases h : takeT l 0 with
    | none =>
      rw [h] at ho
      injection ho with _ ho
      injection ho with _ ho
      refine ⟨fun h => by omega, fun _ => rfl⟩
    | some x =>
      obtain ⟨t', r'⟩ := x
      rw [h] at ho
      injection ho with e1 ho
      injection ho with e2 e3
      subst e1 e2 e3
      refine ⟨fun h => ?_, fun h => ?_⟩
      · rw [Option.bind_some, if_pos (show r' = l.length by omega)]; rfl
      · rw [Option.bind_some, if_neg (show ¬ r' = l.length by omega)]; rfl
  have HPO := Lib_hid hpo
  clear hpo TK0 ho hTk
  generalize ansT (parseT l) = o at *
  have HBADEND : Hid (∀ W : World, W.heap[w.heap.size]? = some (.cells #[.int .i64 0, .int .u64 0, .int .u64 0, .slice none 0 0] 30 (0, 0)) → Below w.heap.size w W → ¬ (z = 0 ∧ r = nb) →
      AnsEnd 30 o w (.returned (.tuple #[.agg #[.int .i64 0, .int .u64 0, .int .u64 0, .slice none 0 0], .int .i64 40])) (put4 W w.heap.size (.int .i64 0) (.int .u64 0) (.int .u64 0) (.slice none 0 0)) ∧
      (put4 W w.heap.size (.int .i64 0) (.int .u64 0) (.int .u64 0) (.slice none 0 0)).heap[w.heap.size]? = some (.cells #[.int .i64 0, .int .u64 0, .int .u64 0, .slice none 0 0] 30 (0, 0))) := by
    intro W h1 h2 h3
    rw [HPO.out.2 h3]
    exact ⟨⟨.node 0 0 0 none 0 [], rfl, by simp [V.abs, V.absL], zero_lies _ _ _, zero_shp _ _ _, put4_below h2 (Nat.le_refl _) _ _ _ _⟩, put4_row h1 _ _ _ _⟩
  subst hw1
  go_enter Tryz.func35, Tryz.ntmps35
  go_upto_region 1 with (fail)
  generalize w.alloc (.cells #[.int .i64 0, .int .u64 0, .int .u64 0, .slice none 0 0] 30) = w1 at *
  go_wp2_with fail
  refine TK.mono ?_
  rintro e w2 ⟨u, rfl, hu, hL, hS, hb2⟩
  have s2 := hb2.size
  have q2 := (hb2.block w.heap.size (by omega)).trans q1
  have hbw2 := b1.trans (hb2.mono (by omega))
  have b3 := below_new w2 (.cells #[.int .i64 u.kind, .int .u64 (u.a : Int), .int .u64 (u.b : Int), .slice u.addr u.parts.length u.cap] 30)
  have r3 := heap_alloc_new w2 (.cells #[.int .i64 u.kind, .int .u64 (u.a : Int), .int .u64 (u.b : Int), .slice u.addr u.parts.length u.cap] 30)
  have q3 := (b3.block w.heap.size (by omega)).trans q2
  have hbw3 := hbw2.trans (b3.mono (by omega))
  have HLS := Lib_hid (And.intro hu (And.intro (hL.under b3) (hS.under b3)))
  have hs3 := b3.size
  clear TK hb2 hL hS hu q2 hbw2 b3 q1 b1
  go_upto_region 2 with (fail)
  generalize w2.alloc (.cells #[.int .i64 u.kind, .int .u64 (u.a : Int), .int .u64 (u.b : Int), .slice u.addr u.parts.length u.cap] 30) = w3 at *
  have e0 := cell_of_row w3 _ 0 _ _ _ q3
  have e1 := cell_of_row w3 _ 1 _ _ _ q3
  have e2 := cell_of_row w3 _ 2 _ _ _ q3
  have e3 := cell_of_row w3 _ 3 _ _ _ q3
  have y0 := frozen_of_row w3 w.heap.size 0 _ _ q3
  have y1 := frozen_of_row w3 w.heap.size 1 _ _ q3
  have y2 := frozen_of_row w3 w.heap.size 2 _ _ q3
  have y3 := frozen_of_row w3 w.heap.size 3 _ _ q3
  simp at e0 e1 e2 e3
  by_cases hz : z = 0
  · subst hz
    by_cases hr : r = nb
    · subst hr
      have f0 := cell_of_row w3 _ 0 _ _ _ r3
      have f1 := cell_of_row w3 _ 1 _ _ _ r3
      have f2 := cell_of_row w3 _ 2 _ _ _ r3
      have f3 := cell_of_row w3 _ 3 _ _ _ r3
      simp at f0 f1 f2 f3
      have HX : Hid (AnsEnd 30 o w (.returned (.tuple #[.agg #[.int .i64 u.kind, .int .u64 (u.a : Int), .int .u64 (u.b : Int), .slice u.addr u.parts.length u.cap], .int .i64 0])) (put4 w3 w.heap.size (.int .i64 u.kind) (.int .u64 (u.a : Int)) (.int .u64 (u.b : Int)) (.slice u.addr u.parts.length u.cap)) ∧
          (put4 w3 w.heap.size (.int .i64 u.kind) (.int .u64 (u.a : Int)) (.int .u64 (u.b : Int)) (.slice u.addr u.parts.length u.cap)).heap[w.heap.size]? = some (.cells #[.int .i64 u.kind, .int .u64 (u.a : Int), .int .u64 (u.b : Int), .slice u.addr u.parts.length u.cap] 30 (0, 0))) := by
        obtain ⟨hu, hL4, hS4⟩ := HLS.out
        rw [HPO.out.1 ⟨rfl, rfl⟩]
        refine ⟨⟨u, rfl, hu, ?_, ?_, put4_below hbw3 (Nat.le_refl _) _ _ _ _⟩, put4_row q3 _ _ _ _⟩
        · rw [put4_size]
          exact (hL4.keep fun p h1 _ => World.cell?_of_block (put4_else w3 (by omega) _ _ _ _)).more (by omega) (by omega)
        · exact (Shp.keepL _ hL4 hS4 fun g' h1 _ => put4_else w3 (by omega) _ _ _ _).more (by omega)
      clear q3 r3 hbw3 HLS HBADEND HPO
      generalize u.addr = uA at *
      generalize u.cap = uc at *
      generalize u.parts.length = un at *
      generalize u.kind = uk at *
      generalize (u.a : Int) = ua at *
      generalize (u.b : Int) = ub at *
      go_wp2_with fail
      show bodyPost _ _ _ _ _ (put4 w3 w.heap.size (.int .i64 uk) (.int .u64 ua) (.int .u64 ub) (.slice uA un uc))
      have HX2 := HX.out
      clear HX e0 e1 e2 e3 y0 y1 y2 y3 f0 f1 f2 f3
      generalize put4 w3 w.heap.size (.int .i64 uk) (.int .u64 ua) (.int .u64 ub) (.slice uA un uc) = W2 at *
      exact rparse_ret (z := 0) HX2.2 HX2.1 _ rfl rfl
    · have HX := Lib_hid (HBADEND.out w3 q3 hbw3 (fun h => hr h.2))
      have hrI : ¬ (r : Int) = (nb : Int) := by omega
      have hrB : ((r : Int) == (nb : Int)) = false := by simp; omega
      have hrC : ((r : Int) != (nb : Int)) = true := by simp; omega
      clear q3 r3 hbw3 HLS HBADEND HPO
      generalize u.addr = uA at *
      generalize u.cap = uc at *
      generalize u.parts.length = un at *
      generalize u.kind = uk at *
      generalize (u.a : Int) = ua at *
      generalize (u.b : Int) = ub at *
      go_wp2_with fail
      show bodyPost _ _ _ _ _ (put4 w3 w.heap.size (.int .i64 0) (.int .u64 0) (.int .u64 0) (.slice none 0 0))
      have HX2 := HX.out
      clear HX e0 e1 e2 e3 y0 y1 y2 y3
      generalize put4 w3 w.heap.size (.int .i64 0) (.int .u64 0) (.int .u64 0) (.slice none 0 0) = W2 at *
      exact rparse_ret (z := 40) HX2.2 HX2.1 _ rfl rfl
  · have HX := Lib_hid (HBADEND.out w3 q3 hbw3 (fun h => hz h.1))
    have hrI : ¬ (z : Int) = 0 := by omega
    have hrB : ((z : Int) == 0) = false := by simp; omega
    have hrC : ((z : Int) != 0) = true := by simp; omega
    clear q3 r3 hbw3 HLS HBADEND HPO
    generalize u.addr = uA at *
    generalize u.cap = uc at *
    generalize u.parts.length = un at *
    generalize u.kind = uk at *
    generalize (u.a : Int) = ua at *
    generalize (u.b : Int) = ub at *
    go_wp2_with fail
    show bodyPost _ _ _ _ _ (put4 w3 w.heap.size (.int .i64 0) (.int .u64 0) (.int .u64 0) (.slice none 0 0))
    have HX2 := HX.out
    clear HX e0 e1 e2 e3 y0 y1 y2 y3
    generalize put4 w3 w.heap.size (.int .i64 0) (.int .u64 0) (.int .u64 0) (.slice none 0 0) = W2 at *
    exact rparse_ret (z := 40) HX2.2 HX2.1 _ rfl rfl

end Go.Proofs.YtpbmgbeiieapiaaGreatDoor

namespace Go.Proofs.YtpbmgbeiieapiaaGreatDoor
open Go Go.RowKit
set_option linter.unusedVariables false

theorem takeT_count (l : List Nat) (s : Int) : (ansK (takeT l s)).1.count ≤ 32 := by
  cases h : takeT l s with
  | none => simp [ansK, T.count, T.countL]
  | some x =>
    obtain ⟨t, r⟩ := x
    unfold takeT at h
    obtain ⟨x, hx, he⟩ := Option.bind_eq_some_iff.1 h
    split at he
    · rename_i hr
      injection he with he
      rw [he] at hr
      exact (right_all hr).2
    · cases he
theorem parseT_count (l : List Nat) : (ansT (parseT l)).1.count ≤ 32 := by
  unfold parseT
  have h := takeT_count l 0
  cases hk : takeT l 0 with
  | none => simp [ansT, T.count, T.countL]
  | some x =>
    obtain ⟨t, r⟩ := x
    rw [hk] at h
    rw [Option.bind_some]
    split
    · exact h
    · simp [ansT, T.count, T.countL]
theorem tk_open {f : FuncId} {args : Array Value} {w : World} {E : TypeId} {t : T} {r z : Nat} (h : Calls Tryz.prog f args w (TkEnd E (t, r, z) w)) :
    Calls Tryz.prog f args w fun e w' => ∃ u : V, e = .returned (.tuple #[.agg #[.int .i64 u.kind, .int .u64 (u.a : Int), .int .u64 (u.b : Int), .slice u.addr u.parts.length u.cap], .int .i64 (r : Int), .int .i64 (z : Int)]) ∧ u.abs = t ∧ Lies w' w.heap.size w'.heap.size u ∧ Shp E w' w.heap.size u ∧ Below w.heap.size w w' := h

set_option maxRecDepth 100000 in
set_option maxHeartbeats 6400000 in
theorem predtakes_any (l : List Nat) (hb8 : ∀ x ∈ l, x < 256) (Ab : Option Addr) (nb cb : Nat) (hnc : nb ≤ cb ∧ cb ≤ 9223372036854775807) (pl : Int) (w : World) (hrd : Rd w w.heap.size 1 Ab nb (bs l)) (hE : Env w.heap.size w) (OK : nb ≤ 300 → TakeOK Ab nb cb l 8)
    (TA : ∀ (s : Int) (B : Nat) (W : World), TakeOK Ab nb cb l 8 → Rd W B 1 Ab nb (bs l) → B ≤ W.heap.size → Calls Tryz.prog 32 #[.slice Ab nb cb, .int .i64 s] W (TkEnd 25 (ansK (takeT l s)) W)) :
    Calls Tryz.prog 4 #[.slice Ab nb cb, .int .i64 pl] w fun e w' => e = .returned (.bool true) ∧ Below w.heap.size w w' := by
  have hln : l.length = nb := hrd.count
  have WK : Hid (∀ W, Below w.heap.size w W → Calls Tryz.prog 9 #[] W fun e w' => e = .returned (.bool true) ∧ Below W.heap.size W w') := fun W h =>
    works4_any w.heap.size W (hE.under h (Nat.le_refl _)) h.size
  by_cases h300 : nb ≤ 300
  · have hlen : decide ((nb : Int) > 300) = false := decide_eq_false (by omega)
    have hlen2 : ¬ (300 : Int) < (nb : Int) := by omega
    have hlen3 : ¬ 300 < nb := by omega
    have OW := own_any w.heap.size Ab nb cb l w hrd (by omega)
    have OK := OK h300
    have PT : Hid (∀ W, Below w.heap.size w W → Calls Tryz.prog 32 #[.slice Ab nb cb, .int .i64 pl] W fun e w' => ∃ u : V, e = .returned (.tuple #[.agg #[.int .i64 u.kind, .int .u64 (u.a : Int), .int .u64 (u.b : Int), .slice u.addr u.parts.length u.cap], .int .i64 ((ansK (takeT l pl)).2.1 : Int), .int .i64 ((ansK (takeT l pl)).2.2 : Int)]) ∧ u.abs = (ansK (takeT l pl)).1 ∧ Lies w' W.heap.size w'.heap.size u ∧ Shp 25 w' W.heap.size u ∧ Below W.heap.size W w') := fun W hW =>
      tk_open (t := (ansK (takeT l pl)).1) (r := (ansK (takeT l pl)).2.1) (z := (ansK (takeT l pl)).2.2) (TA pl w.heap.size W OK (hrd.below hW) hW.size)
    have PP : Hid (∀ W, Below w.heap.size w W → Calls Tryz.prog 34 #[.slice Ab nb cb] W fun e w' => ∃ u : V, e = .returned (.tuple #[.agg #[.int .i64 u.kind, .int .u64 (u.a : Int), .int .u64 (u.b : Int), .slice u.addr u.parts.length u.cap], .int .i64 ((ansT (parseT l)).2 : Int)]) ∧ u.abs = (ansT (parseT l)).1 ∧ Lies w' W.heap.size w'.heap.size u ∧ Shp 25 w' W.heap.size u ∧ Below W.heap.size W w') := fun W hW =>
      ans_open (t := (ansT (parseT l)).1) (z := (ansT (parseT l)).2) (pParse_any l Ab nb cb hln W fun W' hW' => TA 0 w.heap.size W' OK (hrd.below (hW.trans (hW'.mono hW.size))) (by have := hW.size; have := hW'.size; omega))
    have RT : Hid (∀ (A1 : Option Addr) (c1 B : Nat) (W : World), Rd W B 1 A1 nb (bs l) → B ≤ W.heap.size → Calls Tryz.prog 33 #[.slice A1 nb c1, .int .i64 pl] W fun e w' => ∃ u : V, e = .returned (.tuple #[.agg #[.int .i64 u.kind, .int .u64 (u.a : Int), .int .u64 (u.b : Int), .slice u.addr u.parts.length u.cap], .int .i64 ((ansK (takeT l pl)).2.1 : Int), .int .i64 ((ansK (takeT l pl)).2.2 : Int)]) ∧ u.abs = (ansK (takeT l pl)).1 ∧ Lies w' W.heap.size w'.heap.size u ∧ Shp 30 w' W.heap.size u ∧ Below W.heap.size W w') := fun A1 c1 B W h1 h2 =>
      tk_open (t := (ansK (takeT l pl)).1) (r := (ansK (takeT l pl)).2.1) (z := (ansK (takeT l pl)).2.2) (rTake_any hb8 A1 nb c1 (by omega) pl B W h1 h2)
    have RP : Hid (∀ (A1 : Option Addr) (c1 B : Nat) (W : World), Rd W B 1 A1 nb (bs l) → B ≤ W.heap.size → Calls Tryz.prog 35 #[.slice A1 nb c1] W fun e w' => ∃ u : V, e = .returned (.tuple #[.agg #[.int .i64 u.kind, .int .u64 (u.a : Int), .int .u64 (u.b : Int), .slice u.addr u.parts.length u.cap], .int .i64 ((ansT (parseT l)).2 : Int)]) ∧ u.abs = (ansT (parseT l)).1 ∧ Lies w' W.heap.size w'.heap.size u ∧ Shp 30 w' W.heap.size u ∧ Below W.heap.size W w') := fun A1 c1 B W h1 h2 =>
      ans_open (t := (ansT (parseT l)).1) (z := (ansT (parseT l)).2) (rParse_any l A1 nb c1 hln W fun W' hW' => rTake_any hb8 A1 nb c1 (by omega) 0 B W' (h1.below (hW'.mono h2)) (by have := hW'.size; omega))
    have hct1 := takeT_count l pl
    have hct2 := parseT_count l
    generalize (ansK (takeT l pl)).1 = t1 at *
    generalize ((ansK (takeT l pl)).2.1 : Int) = z1 at *
    generalize ((ansK (takeT l pl)).2.2 : Int) = z2 at *
    generalize (ansT (parseT l)).1 = t2 at *
    generalize ((ansT (parseT l)).2 : Int) = z3 at *
    have HRD := Lib_hid hrd
    clear hE OK TA hb8 hrd
    go_enter Tryz.func4, Tryz.ntmps4
    go_wp2_with fail
    refine OW.mono ?_
    rintro e w1 hMd
    obtain ⟨A1, n1, c1, rfl, ho1, hb1⟩ := made_iff.1 hMd
    obtain rfl : n1 = nb := by have := ho1.1; rw [bs_length] at this; omega
    have HR1 := Lib_hid (And.intro (Rd.own ho1) hb1)
    have s1 := hb1.size
    clear OW hMd ho1 hb1
    go_wp2
    go_loopw [6] (fun z W => ∃ t : Nat, z = .int .i64 t ∧ t ≤ 2 ∧ Hid (Below w1.heap.size w1 W)) (fun z _ => 2 - (intOf z).toNat)
    case atStart => exact ⟨0, rfl, by omega, Lib_hid (Below.refl _ _)⟩
    case round =>
      obtain ⟨t, rfl, ht, hbW⟩ := hrel
      rename World => W
      have hbwW : Hid (Below w.heap.size w W) := HR1.out.2.trans (hbW.out.mono s1)
      have hsW := hbW.out.size
      by_cases hlt : t < 2
      · have ht2 : (t : Int) < 2 := by omega
        have Cu := PT.out W hbwW.out
        go_wp2_with fail
        refine Cu.mono ?_
        rintro e W1 ⟨u, rfl, hu, hLu, hSu, hbW1⟩
        have sW1 := hbW1.size
        have bxW2 := below_new W1 (.cells #[.int .i64 u.kind, .int .u64 (u.a : Int), .int .u64 (u.b : Int), .slice u.addr u.parts.length u.cap] 25)
        have rxW2 := heap_alloc_new W1 (.cells #[.int .i64 u.kind, .int .u64 (u.a : Int), .int .u64 (u.b : Int), .slice u.addr u.parts.length u.cap] 25)
        have sxW2 : (W1.alloc (.cells #[.int .i64 u.kind, .int .u64 (u.a : Int), .int .u64 (u.b : Int), .slice u.addr u.parts.length u.cap] 25)).heap.size = W1.heap.size + 1 := by simp
        clear Cu
        go_upto_region 8 with (fail)
        generalize W1.alloc (.cells #[.int .i64 u.kind, .int .u64 (u.a : Int), .int .u64 (u.b : Int), .slice u.addr u.parts.length u.cap] 25) = W2 at *
        have hbWW2 := hbW1.trans (bxW2.mono sW1)
        have hW2 := hbwW.out.trans (hbWW2.mono hbwW.out.size)
        have hw12 := hbW.out.trans (hbWW2.mono hsW)
        have hz2 := hW2.size
        have hz12 := hw12.size
        have Cq := RT.out A1 c1 w1.heap.size W2 (HR1.out.1.below hw12) hz12
        go_wp2_with fail
        refine Cq.mono ?_
        rintro e W3 ⟨q, rfl, hq, hLq, hSq, hbW3⟩
        have sW3 := hbW3.size
        have bxW4 := below_new W3 (.cells #[.int .i64 q.kind, .int .u64 (q.a : Int), .int .u64 (q.b : Int), .slice q.addr q.parts.length q.cap] 30)
        have rxW4 := heap_alloc_new W3 (.cells #[.int .i64 q.kind, .int .u64 (q.a : Int), .int .u64 (q.b : Int), .slice q.addr q.parts.length q.cap] 30)
        have sxW4 : (W3.alloc (.cells #[.int .i64 q.kind, .int .u64 (q.a : Int), .int .u64 (q.b : Int), .slice q.addr q.parts.length q.cap] 30)).heap.size = W3.heap.size + 1 := by simp
        clear Cq
        go_upto_region 9 with (fail)
        generalize W3.alloc (.cells #[.int .i64 q.kind, .int .u64 (q.a : Int), .int .u64 (q.b : Int), .slice q.addr q.parts.length q.cap] 30) = W4 at *
        have hbW2W4 := hbW3.trans (bxW4.mono sW3)
        have hW4 := hW2.trans (hbW2W4.mono hz2)
        have hz4 := hW4.size
        have Cx := PP.out W4 hW4
        go_wp2_with fail
        refine Cx.mono ?_
        rintro e W5 ⟨x, rfl, hx, hLx, hSx, hbW5⟩
        have sW5 := hbW5.size
        have bxW6 := below_new W5 (.cells #[.int .i64 x.kind, .int .u64 (x.a : Int), .int .u64 (x.b : Int), .slice x.addr x.parts.length x.cap] 25)
        have rxW6 := heap_alloc_new W5 (.cells #[.int .i64 x.kind, .int .u64 (x.a : Int), .int .u64 (x.b : Int), .slice x.addr x.parts.length x.cap] 25)
        have sxW6 : (W5.alloc (.cells #[.int .i64 x.kind, .int .u64 (x.a : Int), .int .u64 (x.b : Int), .slice x.addr x.parts.length x.cap] 25)).heap.size = W5.heap.size + 1 := by simp
        clear Cx
        go_upto_region 10 with (fail)
        generalize W5.alloc (.cells #[.int .i64 x.kind, .int .u64 (x.a : Int), .int .u64 (x.b : Int), .slice x.addr x.parts.length x.cap] 25) = W6 at *
        have hbW4W6 := hbW5.trans (bxW6.mono sW5)
        have hW6 := hW4.trans (hbW4W6.mono hz4)
        have hz6 := hW6.size
        have hw16 := (hw12.trans (hbW2W4.mono hz12)).trans (hbW4W6.mono (by omega))
        have hz16 := hw16.size
        have Cy := RP.out A1 c1 w1.heap.size W6 (HR1.out.1.below hw16) hz16
        go_wp2_with fail
        refine Cy.mono ?_
        rintro e W7 ⟨y, rfl, hy, hLy, hSy, hbW7⟩
        have sW7 := hbW7.size
        have bxW8 := below_new W7 (.cells #[.int .i64 y.kind, .int .u64 (y.a : Int), .int .u64 (y.b : Int), .slice y.addr y.parts.length y.cap] 30)
        have rxW8 := heap_alloc_new W7 (.cells #[.int .i64 y.kind, .int .u64 (y.a : Int), .int .u64 (y.b : Int), .slice y.addr y.parts.length y.cap] 30)
        have sxW8 : (W7.alloc (.cells #[.int .i64 y.kind, .int .u64 (y.a : Int), .int .u64 (y.b : Int), .slice y.addr y.parts.length y.cap] 30)).heap.size = W7.heap.size + 1 := by simp
        clear Cy
        go_upto_region 11 with (fail)
        generalize W7.alloc (.cells #[.int .i64 y.kind, .int .u64 (y.a : Int), .int .u64 (y.b : Int), .slice y.addr y.parts.length y.cap] 30) = W8 at *
        have hbW6W8 := hbW7.trans (bxW8.mono sW7)
        have hW8 := hW6.trans (hbW6W8.mono hz6)
        have hz8 := hW8.size
        have b28 := (hbW2W4.trans (hbW4W6.mono (by omega))).trans (hbW6W8.mono (by omega))
        have b48 := hbW4W6.trans (hbW6W8.mono (by omega))
        have ru8 := (b28.block W1.heap.size (by omega)).trans rxW2
        have rq8 := (b48.block W3.heap.size (by omega)).trans rxW4
        have rx8 := (hbW6W8.block W5.heap.size (by omega)).trans rxW6
        have ry8 := rxW8
        have LU8 := (hLu.under bxW2).under (b28.mono (by omega))
        have SU8 := (hSu.under (bxW2.mono (Nat.le_refl _))).under (b28.mono (Nat.le_refl _))
        have LQ8 := (hLq.under bxW4).under (b48.mono (by omega))
        have LX8 := (hLx.under bxW6).under (hbW6W8.mono (by omega))
        have SX8 := (hSx.under (bxW6.mono (Nat.le_refl _))).under (hbW6W8.mono (Nat.le_refl _))
        have LY8 := hLy.under bxW8
        have SM1 : Calls Tryz.prog 36 #[.agg #[.int .i64 u.kind, .int .u64 (u.a : Int), .int .u64 (u.b : Int), .slice u.addr u.parts.length u.cap], .int .i64 z1, .int .i64 z2, .agg #[.int .i64 q.kind, .int .u64 (q.a : Int), .int .u64 (q.b : Int), .slice q.addr q.parts.length q.cap], .int .i64 z1, .int .i64 z2] W8 fun e w' => e = .returned (.bool true) ∧ Below W.heap.size W8 w' ∧ ∀ k, k < W8.heap.size → (k < W.heap.size ∨ W1.heap.size ≤ k) → w'.heap[k]? = W8.heap[k]? :=
          same5_any u q z1 z2 W1 W.heap.size W1.heap.size W2.heap.size W3.heap.size W8 LU8 hSu (by omega) SU8 (by omega) (by omega) LQ8 (by omega) (hu.trans hq.symm) (by rw [hu]; omega)
        have SM2 : Hid (∀ W9 : World, Below W.heap.size W8 W9 → (∀ k, k < W8.heap.size → (k < W.heap.size ∨ W1.heap.size ≤ k) → W9.heap[k]? = W8.heap[k]?) → Calls Tryz.prog 36 #[.agg #[.int .i64 x.kind, .int .u64 (x.a : Int), .int .u64 (x.b : Int), .slice x.addr x.parts.length x.cap], .int .i64 0, .int .i64 z3, .agg #[.int .i64 y.kind, .int .u64 (y.a : Int), .int .u64 (y.b : Int), .slice y.addr y.parts.length y.cap], .int .i64 0, .int .i64 z3] W9 fun e w' => e = .returned (.bool true) ∧ Below W4.heap.size W9 w' ∧ ∀ k, k < W9.heap.size → (k < W4.heap.size ∨ W5.heap.size ≤ k) → w'.heap[k]? = W9.heap[k]?) := fun W9 h9 hk9 => by
          have := h9.size
          exact same5_any x y 0 z3 W5 W4.heap.size W5.heap.size W6.heap.size W7.heap.size W9 (LX8.keep fun p h1 h2 => World.cell?_of_block (hk9 _ (by omega) (.inr (by omega)))) hSx (by omega) (Shp.keepL x LX8 SX8 fun g h1 h2 => hk9 g (by omega) (.inr (by omega))) (by omega) (by omega) (LY8.keep fun p h1 h2 => World.cell?_of_block (hk9 _ (by omega) (.inr (by omega)))) (by omega) (hx.trans hy.symm) (by rw [hx]; omega)
        have cu0 := (cell_of_row W8 _ 0 _ _ _ ru8).trans rfl
        have cu1 := (cell_of_row W8 _ 1 _ _ _ ru8).trans rfl
        have cu2 := (cell_of_row W8 _ 2 _ _ _ ru8).trans rfl
        have cu3 := (cell_of_row W8 _ 3 _ _ _ ru8).trans rfl
        have cq0 := (cell_of_row W8 _ 0 _ _ _ rq8).trans rfl
        have cq1 := (cell_of_row W8 _ 1 _ _ _ rq8).trans rfl
        have cq2 := (cell_of_row W8 _ 2 _ _ _ rq8).trans rfl
        have cq3 := (cell_of_row W8 _ 3 _ _ _ rq8).trans rfl
        have RX : Hid (∀ W9 : World, (∀ k, k < W8.heap.size → (k < W.heap.size ∨ W1.heap.size ≤ k) → W9.heap[k]? = W8.heap[k]?) → (W9.cell? ⟨W5.heap.size, 0, none⟩ = some (.int .i64 x.kind) ∧ W9.cell? ⟨W5.heap.size, 1, none⟩ = some (.int .u64 (x.a : Int)) ∧ W9.cell? ⟨W5.heap.size, 2, none⟩ = some (.int .u64 (x.b : Int)) ∧ W9.cell? ⟨W5.heap.size, 3, none⟩ = some (.slice x.addr x.parts.length x.cap)) ∧
            W9.cell? ⟨W7.heap.size, 0, none⟩ = some (.int .i64 y.kind) ∧ W9.cell? ⟨W7.heap.size, 1, none⟩ = some (.int .u64 (y.a : Int)) ∧ W9.cell? ⟨W7.heap.size, 2, none⟩ = some (.int .u64 (y.b : Int)) ∧ W9.cell? ⟨W7.heap.size, 3, none⟩ = some (.slice y.addr y.parts.length y.cap)) := fun W9 hk9 => by
          have h1 := (hk9 W5.heap.size (by omega) (.inr (by omega))).trans rx8
          have h2 := (hk9 W7.heap.size (by omega) (.inr (by omega))).trans ry8
          exact ⟨⟨(cell_of_row W9 _ 0 _ _ _ h1).trans rfl, (cell_of_row W9 _ 1 _ _ _ h1).trans rfl, (cell_of_row W9 _ 2 _ _ _ h1).trans rfl, (cell_of_row W9 _ 3 _ _ _ h1).trans rfl⟩, (cell_of_row W9 _ 0 _ _ _ h2).trans rfl, (cell_of_row W9 _ 1 _ _ _ h2).trans rfl, (cell_of_row W9 _ 2 _ _ _ h2).trans rfl, (cell_of_row W9 _ 3 _ _ _ h2).trans rfl⟩
        have HFIN : Hid (∀ W9 W10 : World, Below W.heap.size W8 W9 → Below W4.heap.size W9 W10 → Below w1.heap.size w1 W10) := fun W9 W10 h1 h2 => by
          have h18 := hw16.trans (hbW6W8.mono hz16)
          have e1 := h1.size
          exact (h18.trans (h1.mono hsW)).trans (h2.mono (by omega))
        clear ru8 rq8 rx8 ry8 LU8 SU8 LQ8 LX8 SX8 LY8 b28 b48 rxW2 rxW4 rxW6 rxW8 bxW2 bxW4 bxW6 bxW8 hLu hSu hLq hSq hLx hSx hLy hSy hu hq hx hy hbW1 hbW3 hbW5 hbW7 hbWW2 hbW2W4 hbW4W6 hbW6W8 hW2 hW4 hW6 hW8 hw12 hw16 PT PP RT RP WK
        generalize u.addr = uA at *
        generalize u.cap = uc at *
        generalize u.parts.length = un at *
        generalize u.kind = uk at *
        generalize (u.a : Int) = ua at *
        generalize (u.b : Int) = ub at *
        generalize q.addr = qA at *
        generalize q.cap = qc at *
        generalize q.parts.length = qn at *
        generalize q.kind = qk at *
        generalize (q.a : Int) = qa at *
        generalize (q.b : Int) = qb at *
        generalize x.addr = xA at *
        generalize x.cap = xc at *
        generalize x.parts.length = xn at *
        generalize x.kind = xk at *
        generalize (x.a : Int) = xa at *
        generalize (x.b : Int) = xb at *
        generalize y.addr = yA at *
        generalize y.cap = yc at *
        generalize y.parts.length = yn at *
        generalize y.kind = yk at *
        generalize (y.a : Int) = ya at *
        generalize (y.b : Int) = yb at *
        go_wp2_with fail
        refine SM1.mono ?_
        rintro e W9 ⟨rfl, hb9, hk9⟩
        have S2 := SM2.out W9 hb9 hk9
        obtain ⟨⟨d0, d1, d2, d3⟩, f0, f1, f2, f3⟩ := RX.out W9 hk9
        have HF9 : Hid (∀ W10, Below W4.heap.size W9 W10 → Below w1.heap.size w1 W10) := fun W10 h => HFIN.out W9 W10 hb9 h
        clear SM1 SM2 RX HFIN hb9 hk9 cu0 cu1 cu2 cu3 cq0 cq1 cq2 cq3
        go_wp2_with fail
        refine S2.mono ?_
        rintro e W10 ⟨rfl, hb10, -⟩
        have HR10 := Lib_hid (HF9.out W10 hb10)
        clear S2 d0 d1 d2 d3 f0 f1 f2 f3 HF9 hb10
        go_wp2_with fail
        go_roundw
        case rel => exact ⟨t + 1, by go_num, by omega, HR10⟩
        case measure => simp [intOf]; omega
      · obtain rfl : t = 2 := by omega
        have SY := same_yes (c := cb) (c' := c1) l W (HRD.out.below hbwW.out) (HR1.out.1.below hbW.out) (by omega)
        have W1 := Lib_hid (fun q => WK.out (W.drewN q) (below_drew_ hbwW.out))
        go_wp2_with fail
        refine SY.mono ?_
        rintro e W2 ⟨rfl, q, rfl⟩
        go_wp2_with fail
        refine (W1.out q).mono ?_
        rintro e W3 ⟨rfl, hb3⟩
        have hbz := (below_drew_ (n := q) hbwW.out).trans (hb3.mono (by have := hbwW.out.size; exact this))
        go_wp2_with fail
        go_ret
        exact ⟨rfl, hbz⟩
  · have hlen : decide ((nb : Int) > 300) = true := decide_eq_true (by omega)
    have hlen2 : (300 : Int) < (nb : Int) := by omega
    have hlen3 : 300 < nb := by omega
    have W1 := WK.out w (Below.refl _ _)
    clear hE WK hrd OK TA hb8
    go_enter Tryz.func4, Tryz.ntmps4
    go_wp2_with fail
    refine W1.mono ?_
    rintro e w6 ⟨rfl, hb6⟩
    go_wp2_with fail
    go_ret
    exact ⟨rfl, hb6⟩

end Go.Proofs.YtpbmgbeiieapiaaGreatDoor
