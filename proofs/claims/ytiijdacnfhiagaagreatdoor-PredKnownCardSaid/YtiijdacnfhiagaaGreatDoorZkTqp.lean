/-
  Layer 4: the statements' SpoilExpr, over any tree in new memory.
  Layer 4: Both.
  Layer 4: Turn, the program's.
  Layer 4: Turn, the document's.
  Layer 4: the statements' FewNodes; two trees in a row; Turn and the document's Turn of any tree.
-/
import Derived.Test.YtiijdacnfhiagaaGreatDoorZkTcl
import Derived.Test.YtiijdacnfhiagaaGreatDoorTp4
import Derived.Test.YtiijdacnfhiagaaGreatDoorTcn
import Derived.Test.YtiijdacnfhiagaaGreatDoorTre

namespace Go.Proofs.YtiijdacnfhiagaaGreatDoor
open Go Go.RowKit
set_option linter.unusedVariables false

/-- A step that writes kinds and numbers over, in blocks from lo on and below hi, and makes memory. -/
structure Spo (E : TypeId) (lo hi : Nat) (w w' : World) : Prop where
  shp : ∀ (lo' : Nat) (u : V), Shp E w lo' u → Shp E w' lo' u
  below : Below lo w w'
  keep : ∀ k, k < w.heap.size → (k < lo ∨ hi ≤ k) → w'.heap[k]? = w.heap[k]?
theorem Spo.refl (E : TypeId) (lo hi : Nat) (w : World) : Spo E lo hi w w := ⟨fun _ _ h => h, Below.refl _ _, fun _ _ _ => rfl⟩
theorem Spo.trans {E : TypeId} {lo hi : Nat} {a b c : World} (h : Spo E lo hi a b) (k : Spo E lo hi b c) : Spo E lo hi a c :=
  ⟨fun l u x => k.shp l u (h.shp l u x), h.below.trans k.below, fun i hi' ho => (k.keep i (Nat.lt_of_lt_of_le hi' h.below.size) ho).trans (h.keep i hi' ho)⟩
theorem Spo.new (E : TypeId) {lo hi : Nat} {w w' : World} (h : Below w.heap.size w w') (hl : lo ≤ w.heap.size) : Spo E lo hi w w' :=
  ⟨fun _ _ x => x.under h, h.mono hl, fun k hk _ => h.block k hk⟩
theorem Spo.over {E : TypeId} {lo hi : Nat} {a w : World} (h : Spo E lo hi a w) {g i : Nat} {x : Value} (h1 : lo ≤ g) (h2 : g < hi) (hx : (∃ j, i = j * 4 ∧ ∃ z, x = .int .i64 z) ∨ (∃ j, i = j * 4 + 1 ∧ ∃ z, x = .int .u64 z)) : Spo E lo hi a (w.setCell ⟨g, i, none⟩ x) :=
  ⟨fun l u k => (h.shp l u k).over hx, h.below.setCell (p := ⟨g, i, none⟩) h1 x, fun k hk ho => (Below.heap_setCell w ⟨g, i, none⟩ x k (by show k ≠ g; omega)).trans (h.keep k hk ho)⟩
theorem Spo.drew {E : TypeId} {lo hi : Nat} {a w : World} (h : Spo E lo hi a w) : Spo E lo hi a w.drew :=
  ⟨fun l u k => (h.shp l u k).keep fun _ _ _ => rfl, h.below.drew, h.keep⟩

set_option maxRecDepth 100000 in
set_option maxHeartbeats 1600000 in
theorem spoil_expr : ∀ (v : V) (w0 w : World) (lo : Nat) (x y z : Int), Shp 25 w0 lo v → Shp 25 w lo v → w0.heap.size ≤ w.heap.size → lo ≤ w.heap.size → v.abs.count ≤ 1000 →
    Calls Tryz.prog 19 #[.agg #[.int .i64 x, .int .u64 y, .int .u64 z, v.sl]] w fun e w' => e = .returned (.tuple #[]) ∧ Spo 25 lo w0.heap.size w w' := by
  refine V.ind fun k a b A c ps ih w0 w lo x y z h0 hS hw0 hlo hct => ?_
  have hlc : ps.length ≤ 1000 := by
    rw [V.count_node] at hct
    have := length_le_countL (V.absL ps)
    rw [absL_length] at this
    omega
  have IH : Hid (∀ (i : Nat) (p : V), ps[i]? = some p → ∀ (W : World) (x y z : Int), Spo 25 lo w0.heap.size w W → Calls Tryz.prog 19 #[.agg #[.int .i64 x, .int .u64 y, .int .u64 z, p.sl]] W fun e w' => e = .returned (.tuple #[]) ∧ Spo 25 lo w0.heap.size W w') := fun i p hp W x y z hW => by
    have hm := List.mem_of_getElem? hp
    refine ih p hm w0 W lo x y z (h0.part hm) (hW.shp _ _ (hS.part hm)) (Nat.le_trans hw0 hW.below.size) (Nat.le_trans hlo hW.below.size) ?_
    have := count_le hp
    rw [V.count_node] at hct
    omega
  have HS : Hid (∀ W, Spo 25 lo w0.heap.size w W → Shp 25 W lo (V.node k a b A c ps)) := fun W hW => hW.shp _ _ hS
  have H0 := Lib_hid h0
  have hbx := heap_alloc_new w (.cells #[.int .i64 x, .int .u64 y, .int .u64 z, .slice A ps.length c] 25)
  have hb0 : Spo 25 lo w0.heap.size w (w.alloc (.cells #[.int .i64 x, .int .u64 y, .int .u64 z, .slice A ps.length c] 25)) := Spo.new _ (below_new w _) hlo
  clear ih hS hct h0
  show Calls Tryz.prog 19 #[.agg #[.int .i64 x, .int .u64 y, .int .u64 z, .slice A ps.length c]] w _
  go_enter Tryz.func19, Tryz.ntmps19
  go_wp2
  go_loopw [2] (fun t wr => ∃ (i : Nat), t = .int .i64 i ∧ i ≤ ps.length ∧ wr.heap[w.heap.size]? = some (.cells #[.int .i64 x, .int .u64 y, .int .u64 z, .slice A ps.length c] 25 (0, 0)) ∧ Spo 25 lo w0.heap.size w wr) (fun t _ => ps.length - (intOf t).toNat)
  case atStart => exact ⟨0, rfl, Nat.zero_le _, hbx, hb0⟩
  case round =>
    clear hbx hb0
    obtain ⟨i, rfl, hi1, hbx, hsp⟩ := hrel
    have c3 : wr.cell? ⟨w.heap.size, 3, none⟩ = some (.slice A ps.length c) := cell_of_row wr _ 3 _ _ _ hbx
    have hgl := (Array.getElem?_eq_some_iff.1 hbx).1
    by_cases hlt : i < ps.length
    · obtain ⟨p, hp⟩ : ∃ p, ps[i]? = some p := ⟨_, List.getElem?_eq_getElem hlt⟩
      obtain ⟨g, rfl, hg1, hg2, -⟩ := H0.out.nth hp
      obtain ⟨g', e, -, hgw, -, -, ⟨x0, d0⟩, ⟨x1, d1⟩, ⟨x2, d2⟩, d3⟩ := (HS.out wr hsp).nth hp
      injection e with e
      injection e with e
      subst e
      have CH := IH.out i p hp wr x0 x1 x2 hsp
      have HP := Lib_hid hp
      have hps : p.sl = .slice p.addr p.parts.length p.cap := rfl
      rw [hps] at d3 CH
      clear hp hps
      generalize p.addr = pA at *
      generalize p.cap = pc at *
      generalize p.parts.length = pn at *
      go_wp2_with fail
      refine CH.mono ?_
      rintro e w1 ⟨rfl, hsp1⟩
      have hsp2 := hsp.trans hsp1
      have hbx1 := (hsp1.keep _ hgl (.inr hw0)).trans hbx
      have hgl1 := (Array.getElem?_eq_some_iff.1 hbx1).1
      have c31 : w1.cell? ⟨w.heap.size, 3, none⟩ = some (.slice (some ⟨g, 0, none⟩) ps.length c) := cell_of_row w1 _ 3 _ _ _ hbx1
      obtain ⟨g', e, -, hgw1, -, hfr, ⟨y0, f0⟩, ⟨y1, f1⟩, -, -⟩ := (HS.out w1 hsp2).nth HP.out
      injection e with e
      injection e with e
      subst e
      have z0 := hfr (i * 4)
      have z1 := hfr (i * 4 + 1)
      have hne : w.heap.size ≠ g := by omega
      clear CH hsp hsp1 hbx hgl c3 d0 d1 d2 d3 hfr
      have hsp3 := hsp2.over (x := .int .i64 77) hg1 hg2 (.inl ⟨i, rfl, 77, rfl⟩)
      go_upto_region 6 with (fail)
      have hg3 := HS.out _ hsp3
      have hbx3 : (w1.setCell ⟨g, i * 4, none⟩ (.int .i64 77)).heap[w.heap.size]? = _ := (Below.heap_setCell w1 ⟨g, i * 4, none⟩ (.int .i64 77) w.heap.size hne).trans hbx1
      clear hbx1 c31 hgl1 hgw1 f0 f1 z0 z1 hsp2
      generalize w1.setCell ⟨g, i * 4, none⟩ (.int .i64 77) = w2 at *
      have c32 : w2.cell? ⟨w.heap.size, 3, none⟩ = some (.slice (some ⟨g, 0, none⟩) ps.length c) := cell_of_row w2 _ 3 _ _ _ hbx3
      obtain ⟨g', e, -, hgw2, -, hfr, -, ⟨y2, f2⟩, -, -⟩ := hg3.nth HP.out
      injection e with e
      injection e with e
      subst e
      have z2 := hfr (i * 4 + 1)
      have hsp4 := hsp3.over (x := .int .u64 (IntKind.u64.wrap (y2 + 7))) hg1 hg2 (.inr ⟨i, rfl, _, rfl⟩)
      have hbx4 : (w2.setCell ⟨g, i * 4 + 1, none⟩ (.int .u64 (IntKind.u64.wrap (y2 + 7)))).heap[w.heap.size]? = _ := (Below.heap_setCell w2 ⟨g, i * 4 + 1, none⟩ (.int .u64 (IntKind.u64.wrap (y2 + 7))) w.heap.size hne).trans hbx3
      clear hfr hg3 hbx3 hsp3
      go_region
      have hsp5 := hsp4.drew
      have hbx5 : (w2.setCell ⟨g, i * 4 + 1, none⟩ (.int .u64 (IntKind.u64.wrap (y2 + 7)))).drew.heap[w.heap.size]? = _ := hbx4
      clear hbx4 hsp4
      generalize IntKind.u64.wrap (y2 + 7) = y3 at *
      generalize (w2.setCell ⟨g, i * 4 + 1, none⟩ (.int .u64 y3)).drew = w9 at *
      go_wp2
      go_roundw
      case rel => exact ⟨i + 1, by go_num, by omega, hbx5, hsp5⟩
      case measure => simp [intOf]; omega
    · obtain rfl : i = ps.length := by omega
      go_wp2
      go_end0
      exact ⟨rfl, hsp⟩

end Go.Proofs.YtiijdacnfhiagaaGreatDoor

namespace Go.Proofs.YtiijdacnfhiagaaGreatDoor
open Go Go.RowKit
set_option linter.unusedVariables false

/-- A tree of the call's own comes back. -/
def TreeEnd (t : T) (w : World) (e : Ending) (w' : World) : Prop :=
  ∃ u : V, e = .returned u.val ∧ u.abs = t ∧ Lies w' w.heap.size w'.heap.size u ∧ Shp 25 w' w.heap.size u ∧ Below w.heap.size w w'

set_option maxRecDepth 100000 in
set_option maxHeartbeats 1600000 in
theorem both_any (A : Option Addr) (c : Nat) (ps : List V) (w : World) (lo hi : Nat) (hL : Lies w lo hi (.node 0 0 0 A c ps)) (hhi : hi ≤ w.heap.size) (hct : T.countL (V.absL ps) ≤ 900) :
    Calls Tryz.prog 12 #[.slice A ps.length c] w (TreeEnd (.node 6 0 0 (V.absL ps)) w) := by
  have hb0 := below_new w (.cells #[.int .i64 0, .int .u64 0, .int .u64 0, .slice none 0 0] 25)
  have hbx := heap_alloc_new w (.cells #[.int .i64 0, .int .u64 0, .int .u64 0, .slice none 0 0] 25)
  have CH := copies_any _ _ lo hi (hL.under (hb0.mono hhi)) (Nat.le_trans hhi hb0.size) (by rw [V.count_node]; omega)
  have hsz : (w.alloc (.cells #[.int .i64 0, .int .u64 0, .int .u64 0, .slice none 0 0] 25)).heap.size = w.heap.size + 1 := by simp
  simp only [V.sl, V.addr, V.parts, V.cap] at CH
  clear hL
  go_enter Tryz.func12, Tryz.ntmps12
  go_wp2_with fail
  refine CH.mono ?_
  rintro e w1 ⟨A1, c1, us, rfl, hul, hua, huL, ho, hb1, huS⟩
  rw [hsz] at huL ho hb1 huS
  have hbx1 := (hb1.block _ (by omega)).trans hbx
  have hgl := (Array.getElem?_eq_some_iff.1 hbx1).1
  have hbw := hb0.trans (hb1.mono (by omega))
  have hcp := own_cap ho
  have hrow := put4_row hbx1 (.int .i64 6) (.int .u64 0) (.int .u64 0) (.slice A1 us.length c1)
  have hbz := put4_below hbw (Nat.le_refl _) (.int .i64 6) (.int .u64 0) (.int .u64 0) (.slice A1 us.length c1)
  have hse := put4_size w1 w.heap.size (.int .i64 6) (.int .u64 0) (.int .u64 0) (.slice A1 us.length c1)
  have hu : ∀ u ∈ us, Lies (put4 w1 w.heap.size (.int .i64 6) (.int .u64 0) (.int .u64 0) (.slice A1 us.length c1)) (w.heap.size + 1) w1.heap.size u ∧ Shp 25 (put4 w1 w.heap.size (.int .i64 6) (.int .u64 0) (.int .u64 0) (.slice A1 us.length c1)) (w.heap.size + 1) u := fun u hm =>
    ⟨(huL u hm).keep fun p h1 _ => World.cell?_of_block (put4_else w1 (by omega) _ _ _ _), (huS u hm).keep fun g h1 _ => put4_else w1 (by omega) _ _ _ _⟩
  have hob : (put4 w1 w.heap.size (.int .i64 6) (.int .u64 0) (.int .u64 0) (.slice A1 us.length c1)).ownsRow (w.heap.size + 1) 25 4 (.slice A1 us.length c1) us.length (vCells us) :=
    own_keep ho fun j hj => put4_else w1 (by have := own_ge ho j hj; omega) _ _ _ _
  have HF : Hid (TreeEnd (.node 6 0 0 (V.absL ps)) w (.returned (.agg #[.int .i64 6, .int .u64 0, .int .u64 0, .slice A1 us.length c1])) (put4 w1 w.heap.size (.int .i64 6) (.int .u64 0) (.int .u64 0) (.slice A1 us.length c1))) := by
    refine ⟨.node 6 0 0 A1 c1 us, rfl, by rw [V.abs, hua], ?_, Shp.own (base := w.heap.size + 1) _ _ _ hob (by omega) (fun u hm => (hu u hm).2.more (by omega)), hbz⟩
    rw [hse]
    refine .mk _ _ _ _ _ _ (by omega) (by omega) (by omega) (by have := Rd.own hob; rw [hse] at this; exact this) hcp (fun ad e hn => ?_) (fun q hq => (hu q hq).1.more (by omega) (Nat.le_refl _))
    subst e
    obtain ⟨g2, cap2, hv2, _, _⟩ := ho.form hn
    injection hv2 with e2
    injection e2 with e2
    subst e2
    have := own_ge ho g2 rfl
    show w.heap.size ≤ g2
    omega
  have HR : Hid ((put4 w1 w.heap.size (.int .i64 6) (.int .u64 0) (.int .u64 0) (.slice A1 us.length c1)).heap[w.heap.size]? = _) := hrow
  have c0 : w1.cell? ⟨w.heap.size, 0, none⟩ = some (.int .i64 0) := cell_of_row w1 _ 0 _ _ _ hbx1
  have c1' : w1.cell? ⟨w.heap.size, 1, none⟩ = some (.int .u64 0) := cell_of_row w1 _ 1 _ _ _ hbx1
  have c2 : w1.cell? ⟨w.heap.size, 2, none⟩ = some (.int .u64 0) := cell_of_row w1 _ 2 _ _ _ hbx1
  have c3 : w1.cell? ⟨w.heap.size, 3, none⟩ = some (.slice none 0 0) := cell_of_row w1 _ 3 _ _ _ hbx1
  have z0 := frozen_of_row w1 w.heap.size 0 _ _ hbx1
  have z1 := frozen_of_row w1 w.heap.size 1 _ _ hbx1
  have z2 := frozen_of_row w1 w.heap.size 2 _ _ hbx1
  have z3 := frozen_of_row w1 w.heap.size 3 _ _ hbx1
  clear CH hb1 hb0 hbx hsz hu hob hse hbz hrow hbx1 hul hua huL huS ho hbw hcp
  generalize us.length = n at *
  go_wp2_with fail
  show bodyPost _ _ _ _ _ (put4 w1 w.heap.size (.int .i64 6) (.int .u64 0) (.int .u64 0) (.slice A1 n c1))
  have HR2 := HR.out
  have HF2 := HF.out
  clear HR HF c0 c1' c2 c3 z0 z1 z2 z3
  generalize put4 w1 w.heap.size (.int .i64 6) (.int .u64 0) (.int .u64 0) (.slice A1 n c1) = W at *
  have d0 : W.cell? ⟨w.heap.size, 0, none⟩ = some (.int .i64 6) := cell_of_row W _ 0 _ _ _ HR2
  have d1 : W.cell? ⟨w.heap.size, 1, none⟩ = some (.int .u64 0) := cell_of_row W _ 1 _ _ _ HR2
  have d2 : W.cell? ⟨w.heap.size, 2, none⟩ = some (.int .u64 0) := cell_of_row W _ 2 _ _ _ HR2
  have d3 : W.cell? ⟨w.heap.size, 3, none⟩ = some (.slice A1 n c1) := cell_of_row W _ 3 _ _ _ HR2
  exact bodyPost_ret (v := .agg #[.int .i64 6, .int .u64 0, .int .u64 0, .slice A1 n c1]) (by simp [results, Tryz.results12, go_sem, d0, d1, d2, d3]) rfl HF2

end Go.Proofs.YtiijdacnfhiagaaGreatDoor

namespace Go.Proofs.YtiijdacnfhiagaaGreatDoor
open Go Go.RowKit
set_option linter.unusedVariables false

/-- A tree, turned. -/
def T.turn : T → T
  | .node k a b ps => match ps with
    | [q] => if k = 5 then q else .node 5 0 0 [.node k a b [q]]
    | ps => .node 5 0 0 [.node k a b ps]
theorem T.turn_one (a b : Nat) (q : T) : T.turn (.node 5 a b [q]) = q := by simp [T.turn]
theorem T.turn_else (k : Int) (a b : Nat) (ps : List T) (h : k ≠ 5 ∨ ps.length ≠ 1) : T.turn (.node k a b ps) = .node 5 0 0 [.node k a b ps] := by
  match ps, h with
  | [], _ => rfl
  | [q], h => simp only [T.turn]; rw [if_neg (by rcases h with h | h; exact h; simp at h)]
  | _ :: _ :: _, _ => rfl

theorem tree_put {w w1 : World} {g B : Nat} {A1 : Option Addr} {c1 : Nat} {us : List V} {x0 x1 x2 x3 : Value} (k : Int) (a b : Nat) (hk : -9223372036854775808 ≤ k ∧ k ≤ 9223372036854775807) (ha : a < 18446744073709551616) (hb : b < 18446744073709551616)
    (hg : w.heap.size ≤ g) (hgB : g < B) (ho : w1.ownsRow B 25 4 (.slice A1 us.length c1) us.length (vCells us)) (huL : ∀ u ∈ us, Lies w1 B w1.heap.size u) (huS : ∀ u ∈ us, Shp 25 w1 B u) (hbw : Below w.heap.size w w1) :
    TreeEnd (.node k a b (V.absL us)) w (.returned (.agg #[.int .i64 k, .int .u64 (a : Int), .int .u64 (b : Int), .slice A1 us.length c1])) (put4 w1 g (.int .i64 k) (.int .u64 (a : Int)) (.int .u64 (b : Int)) (.slice A1 us.length c1)) := by
  have hse := put4_size w1 g (.int .i64 k) (.int .u64 (a : Int)) (.int .u64 (b : Int)) (.slice A1 us.length c1)
  have hob : (put4 w1 g (.int .i64 k) (.int .u64 (a : Int)) (.int .u64 (b : Int)) (.slice A1 us.length c1)).ownsRow B 25 4 (.slice A1 us.length c1) us.length (vCells us) :=
    own_keep ho fun j hj => put4_else w1 (by have := own_ge ho j hj; omega) _ _ _ _
  refine ⟨.node k a b A1 c1 us, rfl, by rw [V.abs], ?_, Shp.own (base := B) _ _ _ hob (by omega) (fun u hm => ((huS u hm).keep fun g h1 _ => put4_else w1 (by omega) _ _ _ _).more (by omega)), put4_below hbw hg _ _ _ _⟩
  rw [hse]
  refine .mk _ _ _ _ _ _ hk ha hb (by have := Rd.own hob; rw [hse] at this; exact this) (own_cap ho) (fun ad e hn => ?_) (fun q hq => ((huL q hq).keep fun p h1 _ => World.cell?_of_block (put4_else w1 (by omega) _ _ _ _)).more (by omega) (Nat.le_refl _))
  subst e
  obtain ⟨g2, cap2, hv2, _, _⟩ := ho.form hn
  injection hv2 with e2
  injection e2 with e2
  subst e2
  have := own_ge ho g2 rfl
  show w.heap.size ≤ g2
  omega

/-- A row of one tree, made by the call. -/
theorem Lies.single {w : World} {lo hi : Nat} {k : Int} {a b c : Nat} {A : Option Addr} {ps : List V} (h : Lies w lo hi (.node k a b A c ps)) (hh : hi ≤ w.heap.size) (hl : lo ≤ w.heap.size) (E : TypeId) :
    Lies (w.alloc (.cells #[.int .i64 k, .int .u64 (a : Int), .int .u64 (b : Int), .slice A ps.length c] E)) lo (w.heap.size + 1) (.node 0 0 0 (some ⟨w.heap.size, 0, none⟩) 1 [.node k a b A c ps]) := by
  have hb0 := below_new w (.cells #[.int .i64 k, .int .u64 (a : Int), .int .u64 (b : Int), .slice A ps.length c] E)
  have hr := heap_alloc_new w (.cells #[.int .i64 k, .int .u64 (a : Int), .int .u64 (b : Int), .slice A ps.length c] E)
  refine .mk _ _ _ _ _ _ (by omega) (by omega) (by omega) ⟨by rw [vCells_length], fun _ => ⟨_, rfl, by show w.heap.size < _; omega, fun j u hu => ?_⟩⟩ (by simp) (fun ad e _ => by injection e with e; subst e; exact hl) (fun q hq => ?_)
  · have e := cell_of_row (w.alloc (.cells #[.int .i64 k, .int .u64 (a : Int), .int .u64 (b : Int), .slice A ps.length c] E)) w.heap.size j _ _ _ hr
    rw [show (⟨w.heap.size, 0, none⟩ : Addr).add j = ⟨w.heap.size, j, none⟩ by unfold Addr.add; split <;> simp_all, e, ← hu, List.getElem?_toArray]
    rfl
  · obtain rfl : q = .node k a b A c ps := by simpa using hq
    exact (h.under (hb0.mono hh)).more (Nat.le_refl _) (by omega)

set_option maxRecDepth 100000 in
set_option maxHeartbeats 1600000 in
theorem turn_any (k : Int) (a b : Nat) (A : Option Addr) (c : Nat) (ps : List V) (w : World) (lo hi : Nat) (hL : Lies w lo hi (.node k a b A c ps)) (hhi : hi ≤ w.heap.size) (hlo : lo ≤ w.heap.size) (hct : (V.node k a b A c ps).abs.count ≤ 900) :
    Calls Tryz.prog 13 #[(V.node k a b A c ps).val] w (TreeEnd (V.node k a b A c ps).abs.turn w) := by
  obtain ⟨hlen, hcap', hk, ha, hb⟩ := hL.caps
  have HX : ∃ W3 : World, W3 = ((w.alloc (.cells #[.int .i64 k, .int .u64 (a : Int), .int .u64 (b : Int), .slice A ps.length c] 25)).alloc (.cells #[.int .i64 0, .int .u64 0, .int .u64 0, .slice none 0 0] 25)).alloc (.cells #[.int .i64 k, .int .u64 (a : Int), .int .u64 (b : Int), .slice A ps.length c] 25) := ⟨_, rfl⟩
  have r1 := heap_alloc_new w (.cells #[.int .i64 k, .int .u64 (a : Int), .int .u64 (b : Int), .slice A ps.length c] 25)
  have b1 := below_new w (.cells #[.int .i64 k, .int .u64 (a : Int), .int .u64 (b : Int), .slice A ps.length c] 25)
  have s1 : (w.alloc (.cells #[.int .i64 k, .int .u64 (a : Int), .int .u64 (b : Int), .slice A ps.length c] 25)).heap.size = w.heap.size + 1 := by simp
  obtain ⟨W1, hW1⟩ : ∃ W1, W1 = w.alloc (.cells #[.int .i64 k, .int .u64 (a : Int), .int .u64 (b : Int), .slice A ps.length c] 25) := ⟨_, rfl⟩
  rw [← hW1] at r1 b1 s1 HX
  have r2 := heap_alloc_new W1 (.cells #[.int .i64 0, .int .u64 0, .int .u64 0, .slice none 0 0] 25)
  have b2 := below_new W1 (.cells #[.int .i64 0, .int .u64 0, .int .u64 0, .slice none 0 0] 25)
  have s2 : (W1.alloc (.cells #[.int .i64 0, .int .u64 0, .int .u64 0, .slice none 0 0] 25)).heap.size = w.heap.size + 2 := by simp [s1]
  obtain ⟨W2, hW2⟩ : ∃ W2, W2 = W1.alloc (.cells #[.int .i64 0, .int .u64 0, .int .u64 0, .slice none 0 0] 25) := ⟨_, rfl⟩
  rw [← hW2] at r2 b2 s2 HX
  rw [s1] at r2 b2
  have b3 := below_new W2 (.cells #[.int .i64 k, .int .u64 (a : Int), .int .u64 (b : Int), .slice A ps.length c] 25)
  have s3 : (W2.alloc (.cells #[.int .i64 k, .int .u64 (a : Int), .int .u64 (b : Int), .slice A ps.length c] 25)).heap.size = w.heap.size + 3 := by simp [s2]
  have hL2 : Lies W2 lo hi (.node k a b A c ps) := (hL.under (b1.mono hhi)).under (b2.mono (by omega))
  have hL3 := hL2.single (by omega) (by omega) 25
  obtain ⟨W3, hW3⟩ : ∃ W3, W3 = W2.alloc (.cells #[.int .i64 k, .int .u64 (a : Int), .int .u64 (b : Int), .slice A ps.length c] 25) := ⟨_, rfl⟩
  rw [← hW3] at hL3 b3 s3
  rw [s2] at b3 hL3
  have CH := copies_any _ W3 lo (w.heap.size + 3) hL3 (by omega) (by rw [V.count_node, V.absL, V.absL, T.countL, T.countL]; omega)
  have r13 : W3.heap[w.heap.size]? = _ := ((b2.trans (b3.mono (by omega))).block _ (by omega)).trans r1
  have r23 : W3.heap[w.heap.size + 1]? = _ := (b3.block _ (by omega)).trans r2
  have hb3 : Below w.heap.size w W3 := b1.trans ((b2.trans (b3.mono (by omega))).mono (by omega))
  simp only [V.sl, V.addr, V.parts, V.cap, List.length_singleton] at CH
  rw [hW3, hW2, hW1] at CH
  have HW : Hid (W3 = ((w.alloc (.cells #[.int .i64 k, .int .u64 (a : Int), .int .u64 (b : Int), .slice A ps.length c] 25)).alloc (.cells #[.int .i64 0, .int .u64 0, .int .u64 0, .slice none 0 0] 25)).alloc (.cells #[.int .i64 k, .int .u64 (a : Int), .int .u64 (b : Int), .slice A ps.length c] 25)) := by unfold Hid; rw [hW3, hW2, hW1]
  clear hL hL2 hL3 r1 r2 b1 b2 b3 hW3 hW2 hW1 HX s1 s2
  simp only [V.val, V.kind, V.a, V.b, V.sl, V.addr, V.parts, V.cap]
  go_enter Tryz.func13, Tryz.ntmps13
  go_wp2_with fail
  refine CH.mono ?_
  rw [← HW.out]
  rintro e w1 ⟨A1, c1, us, rfl, hul, hua, huL, ho, hb1, huS⟩
  obtain ⟨u, rfl⟩ : ∃ u, us = [u] := by
    match us, hul with
    | [u], _ => exact ⟨u, rfl⟩
  have hbx := (hb1.block _ (by omega)).trans r13
  have hrs := (hb1.block _ (by omega)).trans r23
  have hbw := hb3.trans (hb1.mono (by omega))
  rw [s3] at ho huL huS
  clear CH HW hb1 hb3 r13 r23 s3 hul
  clear W3 W2 W1
  have hua1 : u.abs = (V.node k a b A c ps).abs := by
    rw [V.absL, V.absL, V.absL, V.absL] at hua
    exact (List.cons.inj hua).1
  have b0 : w1.cell? ⟨w.heap.size, 0, none⟩ = some (.int .i64 k) := cell_of_row w1 _ 0 _ _ _ hbx
  have b3 : w1.cell? ⟨w.heap.size, 3, none⟩ = some (.slice A ps.length c) := cell_of_row w1 _ 3 _ _ _ hbx
  have hgl := (Array.getElem?_eq_some_iff.1 hrs).1
  have c0 : w1.cell? ⟨w.heap.size + 1, 0, none⟩ = some (.int .i64 0) := cell_of_row w1 _ 0 _ _ _ hrs
  have c1' : w1.cell? ⟨w.heap.size + 1, 1, none⟩ = some (.int .u64 0) := cell_of_row w1 _ 1 _ _ _ hrs
  have c2 : w1.cell? ⟨w.heap.size + 1, 2, none⟩ = some (.int .u64 0) := cell_of_row w1 _ 2 _ _ _ hrs
  have c3 : w1.cell? ⟨w.heap.size + 1, 3, none⟩ = some (.slice none 0 0) := cell_of_row w1 _ 3 _ _ _ hrs
  have z0 := frozen_of_row w1 (w.heap.size + 1) 0 _ _ hrs
  have z1 := frozen_of_row w1 (w.heap.size + 1) 1 _ _ hrs
  have z2 := frozen_of_row w1 (w.heap.size + 1) 2 _ _ hrs
  have z3 := frozen_of_row w1 (w.heap.size + 1) 3 _ _ hrs
  by_cases hsp : k = 5 ∧ ps.length = 1
  · obtain ⟨rfl, h1⟩ := hsp
    obtain ⟨q0, rfl⟩ : ∃ q0, ps = [q0] := by
      match ps, h1 with
      | [q0], _ => exact ⟨q0, rfl⟩
    cases u with
    | node ku au bu Au cu qs =>
    rw [V.abs, V.abs, V.absL, V.absL] at hua1
    injection hua1 with hku hau hbu hqs
    obtain ⟨q, rfl⟩ : ∃ q, qs = [q] := by
      match qs, hqs with
      | [], h => rw [V.absL] at h; cases h
      | [q], _ => exact ⟨q, rfl⟩
      | _ :: _ :: _, h => rw [V.absL, V.absL] at h; injection h with _ h; cases h
    rw [V.absL, V.absL] at hqs
    have hqa : q.abs = q0.abs := (List.cons.inj hqs).1
    have hLu := huL _ (List.mem_singleton.2 rfl)
    have hSu := huS _ (List.mem_singleton.2 rfl)
    obtain ⟨bb, off, q', eA, hbb, hlb, hq', hLq, d0, d1, d2, d3⟩ := hLu.nth (i := 0) (by simp)
    obtain rfl : q' = q := by simpa using hq'.symm
    obtain ⟨g', eA', hgB, hgl', hSq, -, -⟩ := hSu.nth hq'
    subst eA
    injection eA' with eA'
    injection eA' with eb eo
    subst eb eo
    obtain ⟨g, cap, hv, hgw, hgl2⟩ := ho.form (by simp)
    have hA : A1 = some ⟨g, 0, none⟩ := by injection hv
    subst hA
    have e3 : w1.cell? ⟨g, 3, none⟩ = some (.slice (some ⟨bb, 0, none⟩) 1 cu) := (ho.cellAt 3 (by simp)).trans rfl
    have HF : Hid (TreeEnd (V.node 5 a b A c [q0]).abs.turn w (.returned (.agg #[.int .i64 q'.kind, .int .u64 (q'.a : Int), .int .u64 (q'.b : Int), q'.sl])) (put4 w1 (w.heap.size + 1) (.int .i64 q'.kind) (.int .u64 (q'.a : Int)) (.int .u64 (q'.b : Int)) q'.sl)) := by
      refine ⟨q', rfl, by rw [hqa, V.abs, V.absL, V.absL, T.turn_one], ?_, (hSq.keep fun g h1 _ => put4_else w1 (by omega) _ _ _ _).more (by omega), put4_below hbw (by omega) _ _ _ _⟩
      rw [put4_size]
      exact (hLq.keep fun p h1 _ => World.cell?_of_block (put4_else w1 (by omega) _ _ _ _)).more (by omega) (Nat.le_refl _)
    have HR : Hid ((put4 w1 (w.heap.size + 1) (.int .i64 q'.kind) (.int .u64 (q'.a : Int)) (.int .u64 (q'.b : Int)) q'.sl).heap[w.heap.size + 1]? = _) := put4_row hrs _ _ _ _
    simp only [Nat.zero_mul, Nat.zero_add, Nat.add_zero] at d0 d1 d2 d3
    have hps : q'.sl = .slice q'.addr q'.parts.length q'.cap := rfl
    rw [hps] at d3 HF HR
    clear hqa hqs hku hau hbu hLu hSu hLq hSq hua huL ho huS hbx hrs hbw hps hv hq'
    generalize q'.addr = pA at *
    generalize q'.cap = pc at *
    generalize q'.parts.length = pn at *
    generalize q'.kind = x0 at *
    generalize (q'.a : Int) = x1 at *
    generalize (q'.b : Int) = x2 at *
    go_wp2_with fail
    show bodyPost _ _ _ _ _ (put4 w1 (w.heap.size + 1) (.int .i64 x0) (.int .u64 x1) (.int .u64 x2) (.slice pA pn pc))
    have HR2 := HR.out
    have HF2 := HF.out
    clear HR HF c0 c1' c2 c3 z0 z1 z2 z3
    generalize put4 w1 (w.heap.size + 1) (.int .i64 x0) (.int .u64 x1) (.int .u64 x2) (.slice pA pn pc) = W at *
    have d0 : W.cell? ⟨w.heap.size + 1, 0, none⟩ = some (.int .i64 x0) := cell_of_row W _ 0 _ _ _ HR2
    have d1 : W.cell? ⟨w.heap.size + 1, 1, none⟩ = some (.int .u64 x1) := cell_of_row W _ 1 _ _ _ HR2
    have d2 : W.cell? ⟨w.heap.size + 1, 2, none⟩ = some (.int .u64 x2) := cell_of_row W _ 2 _ _ _ HR2
    have d3 : W.cell? ⟨w.heap.size + 1, 3, none⟩ = some (.slice pA pn pc) := cell_of_row W _ 3 _ _ _ HR2
    exact bodyPost_ret (v := .agg #[.int .i64 x0, .int .u64 x1, .int .u64 x2, .slice pA pn pc]) (by simp [results, Tryz.results13, go_sem, d0, d1, d2, d3]) rfl HF2
  · have HF : Hid (TreeEnd (V.node k a b A c ps).abs.turn w (.returned (.agg #[.int .i64 5, .int .u64 0, .int .u64 0, .slice A1 1 c1])) (put4 w1 (w.heap.size + 1) (.int .i64 5) (.int .u64 0) (.int .u64 0) (.slice A1 1 c1))) := by
      have := tree_put (w := w) (w1 := w1) (g := w.heap.size + 1) (B := w.heap.size + 3) (x0 := undef) (x1 := undef) (x2 := undef) (x3 := undef) 5 0 0 (by omega) (by omega) (by omega) (by omega) (by omega) ho huL huS hbw
      rw [V.absL, V.absL, hua1, V.abs] at this
      rw [V.abs, T.turn_else _ _ _ _ (by rw [absL_length]; omega)]
      exact this
    have HR : Hid ((put4 w1 (w.heap.size + 1) (.int .i64 5) (.int .u64 0) (.int .u64 0) (.slice A1 1 c1)).heap[w.heap.size + 1]? = _) := put4_row hrs _ _ _ _
    have hd : (decide (k = 5) && decide ((ps.length : Int) = 1)) = false := by
      simp only [Bool.and_eq_false_iff, decide_eq_false_iff_not]; omega
    have hcases : k ≠ 5 ∨ (k = 5 ∧ ps.length ≠ 1) := by omega
    clear hua hua1 huL ho huS hbx hrs hbw hsp
    rcases hcases with h5 | ⟨rfl, h1⟩
    · have e5 : decide (k = 5) = false := by simp [h5]
      go_wp2_with fail
      show bodyPost _ _ _ _ _ (put4 w1 (w.heap.size + 1) (.int .i64 5) (.int .u64 0) (.int .u64 0) (.slice A1 1 c1))
      have HR2 := HR.out
      have HF2 := HF.out
      clear HR HF c0 c1' c2 c3 z0 z1 z2 z3
      generalize put4 w1 (w.heap.size + 1) (.int .i64 5) (.int .u64 0) (.int .u64 0) (.slice A1 1 c1) = W at *
      have d0 : W.cell? ⟨w.heap.size + 1, 0, none⟩ = some (.int .i64 5) := cell_of_row W _ 0 _ _ _ HR2
      have d1 : W.cell? ⟨w.heap.size + 1, 1, none⟩ = some (.int .u64 0) := cell_of_row W _ 1 _ _ _ HR2
      have d2 : W.cell? ⟨w.heap.size + 1, 2, none⟩ = some (.int .u64 0) := cell_of_row W _ 2 _ _ _ HR2
      have d3 : W.cell? ⟨w.heap.size + 1, 3, none⟩ = some (.slice A1 1 c1) := cell_of_row W _ 3 _ _ _ HR2
      exact bodyPost_ret (v := .agg #[.int .i64 5, .int .u64 0, .int .u64 0, .slice A1 1 c1]) (by simp [results, Tryz.results13, go_sem, d0, d1, d2, d3]) rfl HF2
    · have e1 : decide ((ps.length : Int) = 1) = false := by simp; omega
      go_wp2_with fail
      show bodyPost _ _ _ _ _ (put4 w1 (w.heap.size + 1) (.int .i64 5) (.int .u64 0) (.int .u64 0) (.slice A1 1 c1))
      have HR2 := HR.out
      have HF2 := HF.out
      clear HR HF c0 c1' c2 c3 z0 z1 z2 z3
      generalize put4 w1 (w.heap.size + 1) (.int .i64 5) (.int .u64 0) (.int .u64 0) (.slice A1 1 c1) = W at *
      have d0 : W.cell? ⟨w.heap.size + 1, 0, none⟩ = some (.int .i64 5) := cell_of_row W _ 0 _ _ _ HR2
      have d1 : W.cell? ⟨w.heap.size + 1, 1, none⟩ = some (.int .u64 0) := cell_of_row W _ 1 _ _ _ HR2
      have d2 : W.cell? ⟨w.heap.size + 1, 2, none⟩ = some (.int .u64 0) := cell_of_row W _ 2 _ _ _ HR2
      have d3 : W.cell? ⟨w.heap.size + 1, 3, none⟩ = some (.slice A1 1 c1) := cell_of_row W _ 3 _ _ _ HR2
      exact bodyPost_ret (v := .agg #[.int .i64 5, .int .u64 0, .int .u64 0, .slice A1 1 c1]) (by simp [results, Tryz.results13, go_sem, d0, d1, d2, d3]) rfl HF2

end Go.Proofs.YtiijdacnfhiagaaGreatDoor

namespace Go.Proofs.YtiijdacnfhiagaaGreatDoor
open Go Go.RowKit
set_option linter.unusedVariables false

/-- A tree comes back that lies from lo on. -/
def LieEnd (t : T) (lo : Nat) (w : World) (e : Ending) (w' : World) : Prop :=
  ∃ u : V, e = .returned u.val ∧ u.abs = t ∧ Lies w' lo w'.heap.size u ∧ Below w.heap.size w w'

set_option maxRecDepth 100000 in
set_option maxHeartbeats 1600000 in
theorem rturn_any (k : Int) (a b : Nat) (A : Option Addr) (c : Nat) (ps : List V) (w : World) (lo hi : Nat) (hL : Lies w lo hi (.node k a b A c ps)) (hhi : hi ≤ w.heap.size) (hlo : lo ≤ w.heap.size) :
    Calls Tryz.prog 17 #[(V.node k a b A c ps).val] w (LieEnd (V.node k a b A c ps).abs.turn lo w) := by
  obtain ⟨hlen, hcap', hk, ha, hb⟩ := hL.caps
  have r1 := heap_alloc_new w (.cells #[.int .i64 k, .int .u64 (a : Int), .int .u64 (b : Int), .slice A ps.length c] 30)
  have b1 := below_new w (.cells #[.int .i64 k, .int .u64 (a : Int), .int .u64 (b : Int), .slice A ps.length c] 30)
  have s1 : (w.alloc (.cells #[.int .i64 k, .int .u64 (a : Int), .int .u64 (b : Int), .slice A ps.length c] 30)).heap.size = w.heap.size + 1 := by simp
  have r2 := heap_alloc_new (w.alloc (.cells #[.int .i64 k, .int .u64 (a : Int), .int .u64 (b : Int), .slice A ps.length c] 30)) (.cells #[.int .i64 0, .int .u64 0, .int .u64 0, .slice none 0 0] 30)
  have b2 := below_new (w.alloc (.cells #[.int .i64 k, .int .u64 (a : Int), .int .u64 (b : Int), .slice A ps.length c] 30)) (.cells #[.int .i64 0, .int .u64 0, .int .u64 0, .slice none 0 0] 30)
  rw [s1] at r2 b2
  have s2 : ((w.alloc (.cells #[.int .i64 k, .int .u64 (a : Int), .int .u64 (b : Int), .slice A ps.length c] 30)).alloc (.cells #[.int .i64 0, .int .u64 0, .int .u64 0, .slice none 0 0] 30)).heap.size = w.heap.size + 2 := by simp
  have r12 := (b2.block _ (by omega)).trans r1
  have hbw := b1.trans (b2.mono (by omega))
  have hL2 := hL.under (hbw.mono hhi)
  clear r1 b1 s1 b2 hL
  simp only [V.val, V.kind, V.a, V.b, V.sl, V.addr, V.parts, V.cap]
  go_enter Tryz.func17, Tryz.ntmps17
  go_upto_region 1 with (fail)
  generalize (w.alloc (.cells #[.int .i64 k, .int .u64 (a : Int), .int .u64 (b : Int), .slice A ps.length c] 30)).alloc (.cells #[.int .i64 0, .int .u64 0, .int .u64 0, .slice none 0 0] 30) = w1 at *
  have b0 : w1.cell? ⟨w.heap.size, 0, none⟩ = some (.int .i64 k) := cell_of_row w1 _ 0 _ _ _ r12
  have b1 : w1.cell? ⟨w.heap.size, 1, none⟩ = some (.int .u64 (a : Int)) := cell_of_row w1 _ 1 _ _ _ r12
  have b2 : w1.cell? ⟨w.heap.size, 2, none⟩ = some (.int .u64 (b : Int)) := cell_of_row w1 _ 2 _ _ _ r12
  have b3 : w1.cell? ⟨w.heap.size, 3, none⟩ = some (.slice A ps.length c) := cell_of_row w1 _ 3 _ _ _ r12
  have hgl := (Array.getElem?_eq_some_iff.1 r2).1
  by_cases hsp : k = 5 ∧ ps.length = 1
  · obtain ⟨rfl, h1⟩ := hsp
    obtain ⟨q, rfl⟩ : ∃ q, ps = [q] := by
      match ps, h1 with
      | [q], _ => exact ⟨q, rfl⟩
    obtain ⟨bb, off, q', eA, hbb, hlb, hq', hLq, d0, d1, d2, d3⟩ := hL2.nth (i := 0) (by simp)
    obtain rfl : q' = q := by simpa using hq'.symm
    subst eA
    have c0 : w1.cell? ⟨w.heap.size + 1, 0, none⟩ = some (.int .i64 0) := cell_of_row w1 _ 0 _ _ _ r2
    have c1' : w1.cell? ⟨w.heap.size + 1, 1, none⟩ = some (.int .u64 0) := cell_of_row w1 _ 1 _ _ _ r2
    have c2 : w1.cell? ⟨w.heap.size + 1, 2, none⟩ = some (.int .u64 0) := cell_of_row w1 _ 2 _ _ _ r2
    have c3 : w1.cell? ⟨w.heap.size + 1, 3, none⟩ = some (.slice none 0 0) := cell_of_row w1 _ 3 _ _ _ r2
    have z0 := frozen_of_row w1 (w.heap.size + 1) 0 _ _ r2
    have z1 := frozen_of_row w1 (w.heap.size + 1) 1 _ _ r2
    have z2 := frozen_of_row w1 (w.heap.size + 1) 2 _ _ r2
    have z3 := frozen_of_row w1 (w.heap.size + 1) 3 _ _ r2
    have HF : Hid (LieEnd (V.node 5 a b (some ⟨bb, off, none⟩) c [q']).abs.turn lo w (.returned (.agg #[.int .i64 q'.kind, .int .u64 (q'.a : Int), .int .u64 (q'.b : Int), q'.sl])) (put4 w1 (w.heap.size + 1) (.int .i64 q'.kind) (.int .u64 (q'.a : Int)) (.int .u64 (q'.b : Int)) q'.sl)) := by
      refine ⟨q', rfl, by rw [V.abs, V.absL, V.absL, T.turn_one], ?_, put4_below hbw (by omega) _ _ _ _⟩
      rw [put4_size]
      exact (hLq.keep fun p _ h1 => World.cell?_of_block (put4_else w1 (by omega) _ _ _ _)).more (by omega) (by omega)
    have HR : Hid ((put4 w1 (w.heap.size + 1) (.int .i64 q'.kind) (.int .u64 (q'.a : Int)) (.int .u64 (q'.b : Int)) q'.sl).heap[w.heap.size + 1]? = _) := put4_row r2 _ _ _ _
    simp only [Nat.zero_mul, Nat.add_zero] at d0 d1 d2 d3
    have hps : q'.sl = .slice q'.addr q'.parts.length q'.cap := rfl
    rw [hps] at d3 HF HR
    clear hps hLq hL2 hbw r2 r12 hq'
    generalize q'.addr = pA at *
    generalize q'.cap = pc at *
    generalize q'.parts.length = pn at *
    generalize q'.kind = x0 at *
    generalize (q'.a : Int) = x1 at *
    generalize (q'.b : Int) = x2 at *
    go_wp2_with fail
    show bodyPost _ _ _ _ _ (put4 w1 (w.heap.size + 1) (.int .i64 x0) (.int .u64 x1) (.int .u64 x2) (.slice pA pn pc))
    have HR2 := HR.out
    have HF2 := HF.out
    clear HR HF c0 c1' c2 c3 z0 z1 z2 z3
    generalize put4 w1 (w.heap.size + 1) (.int .i64 x0) (.int .u64 x1) (.int .u64 x2) (.slice pA pn pc) = W at *
    have d0 : W.cell? ⟨w.heap.size + 1, 0, none⟩ = some (.int .i64 x0) := cell_of_row W _ 0 _ _ _ HR2
    have d1 : W.cell? ⟨w.heap.size + 1, 1, none⟩ = some (.int .u64 x1) := cell_of_row W _ 1 _ _ _ HR2
    have d2 : W.cell? ⟨w.heap.size + 1, 2, none⟩ = some (.int .u64 x2) := cell_of_row W _ 2 _ _ _ HR2
    have d3 : W.cell? ⟨w.heap.size + 1, 3, none⟩ = some (.slice pA pn pc) := cell_of_row W _ 3 _ _ _ HR2
    exact bodyPost_ret (v := .agg #[.int .i64 x0, .int .u64 x1, .int .u64 x2, .slice pA pn pc]) (by simp [results, Tryz.results17, go_sem, d0, d1, d2, d3]) rfl HF2
  · obtain ⟨W2, hW2⟩ : ∃ W2, W2 = w1.alloc (.cells #[.int .i64 k, .int .u64 (a : Int), .int .u64 (b : Int), .slice A ps.length c] 30) := ⟨_, rfl⟩
    have g3 := below_new w1 (.cells #[.int .i64 k, .int .u64 (a : Int), .int .u64 (b : Int), .slice A ps.length c] 30)
    have hs := hL2.single (by omega) (by omega) 30
    have hs2 : W2.heap.size = w.heap.size + 3 := by rw [hW2]; simp [s2]
    rw [← hW2] at g3 hs
    rw [s2] at g3 hs
    have r22 : W2.heap[w.heap.size + 1]? = _ := (g3.block _ (by omega)).trans r2
    have hbw2 := hbw.trans (g3.mono (by omega))
    have HF : Hid (LieEnd (V.node k a b A c ps).abs.turn lo w (.returned (.agg #[.int .i64 5, .int .u64 0, .int .u64 0, .slice (some ⟨w.heap.size + 2, 0, none⟩) 1 1])) (put4 W2 (w.heap.size + 1) (.int .i64 5) (.int .u64 0) (.int .u64 0) (.slice (some ⟨w.heap.size + 2, 0, none⟩) 1 1))) := by
      refine ⟨.node 5 0 0 (some ⟨w.heap.size + 2, 0, none⟩) 1 [.node k a b A c ps], rfl, by rw [V.abs, V.absL, V.absL, V.abs, T.turn_else _ _ _ _ (by rw [absL_length]; omega)], ?_, put4_below hbw2 (by omega) _ _ _ _⟩
      rw [put4_size]
      have ht := hs.top.2.2.2.2.2
      refine .mk _ _ _ _ _ _ (by omega) (by omega) (by omega) ⟨ht.len, fun hn => ?_⟩ (by simp) (fun ad e _ => by injection e with e; subst e; show lo ≤ w.heap.size + 2; omega) (fun q hq => ?_)
      · obtain ⟨ad, e, hb, hc⟩ := ht.lies hn
        refine ⟨ad, e, by omega, fun j u hu => ?_⟩
        have had : ad.block = w.heap.size + 2 := by have e' : some ⟨w.heap.size + 2, 0, none⟩ = some ad := e; injection e' with e'; rw [← e']
        exact (World.cell?_of_block (put4_else W2 (by rw [add_block]; omega) _ _ _ _)).trans (hc j u hu)
      · obtain rfl : q = .node k a b A c ps := by simpa using hq
        exact ((hL2.under (g3.mono (by omega))).keep fun p _ h1 => World.cell?_of_block (put4_else W2 (by omega) _ _ _ _)).more (Nat.le_refl _) (by omega)
    have HR : Hid ((put4 W2 (w.heap.size + 1) (.int .i64 5) (.int .u64 0) (.int .u64 0) (.slice (some ⟨w.heap.size + 2, 0, none⟩) 1 1)).heap[w.heap.size + 1]? = _) := put4_row r22 _ _ _ _
    have c0 : W2.cell? ⟨w.heap.size + 1, 0, none⟩ = some (.int .i64 0) := cell_of_row W2 _ 0 _ _ _ r22
    have c1' : W2.cell? ⟨w.heap.size + 1, 1, none⟩ = some (.int .u64 0) := cell_of_row W2 _ 1 _ _ _ r22
    have c2 : W2.cell? ⟨w.heap.size + 1, 2, none⟩ = some (.int .u64 0) := cell_of_row W2 _ 2 _ _ _ r22
    have c3 : W2.cell? ⟨w.heap.size + 1, 3, none⟩ = some (.slice none 0 0) := cell_of_row W2 _ 3 _ _ _ r22
    have z0 := frozen_of_row W2 (w.heap.size + 1) 0 _ _ r22
    have z1 := frozen_of_row W2 (w.heap.size + 1) 1 _ _ r22
    have z2 := frozen_of_row W2 (w.heap.size + 1) 2 _ _ r22
    have z3 := frozen_of_row W2 (w.heap.size + 1) 3 _ _ r22
    have e0 : w1.cell? ⟨w.heap.size + 1, 0, none⟩ = some (.int .i64 0) := cell_of_row w1 _ 0 _ _ _ r2
    have e1 : w1.cell? ⟨w.heap.size + 1, 1, none⟩ = some (.int .u64 0) := cell_of_row w1 _ 1 _ _ _ r2
    have e2 : w1.cell? ⟨w.heap.size + 1, 2, none⟩ = some (.int .u64 0) := cell_of_row w1 _ 2 _ _ _ r2
    have e3 : w1.cell? ⟨w.heap.size + 1, 3, none⟩ = some (.slice none 0 0) := cell_of_row w1 _ 3 _ _ _ r2
    have y0 := frozen_of_row w1 (w.heap.size + 1) 0 _ _ r2
    have y1 := frozen_of_row w1 (w.heap.size + 1) 1 _ _ r2
    have y2 := frozen_of_row w1 (w.heap.size + 1) 2 _ _ r2
    have y3 := frozen_of_row w1 (w.heap.size + 1) 3 _ _ r2
    have hcases : k ≠ 5 ∨ (k = 5 ∧ ps.length ≠ 1) := by omega
    subst hW2
    clear hs hs2 g3 r22 hbw2 hL2 hbw r2 r12 hsp
    rcases hcases with h5 | ⟨rfl, h1⟩
    · have e5 : decide (k = 5) = false := by simp [h5]
      go_wp2_with fail
      have hcm : (put4 w1 (w.heap.size + 1) (.int .i64 5) (.int .u64 0) (.int .u64 0) (.slice (some ⟨w.heap.size + 2, 0, none⟩) 1 1)).alloc (.cells #[.int .i64 k, .int .u64 (a : Int), .int .u64 (b : Int), .slice A ps.length c] 30) = put4 (w1.alloc (.cells #[.int .i64 k, .int .u64 (a : Int), .int .u64 (b : Int), .slice A ps.length c] 30)) (w.heap.size + 1) (.int .i64 5) (.int .u64 0) (.int .u64 0) (.slice (some ⟨w.heap.size + 2, 0, none⟩) 1 1) := by simp [put4, go_sem, hgl]
      show bodyPost _ _ _ _ _ ((put4 w1 (w.heap.size + 1) (.int .i64 5) (.int .u64 0) (.int .u64 0) (.slice (some ⟨w.heap.size + 2, 0, none⟩) 1 1)).alloc (.cells #[.int .i64 k, .int .u64 (a : Int), .int .u64 (b : Int), .slice A ps.length c] 30))
      rw [hcm]
      clear hcm
      have HR2 := HR.out
      have HF2 := HF.out
      clear HR HF c0 c1' c2 c3 z0 z1 z2 z3 e0 e1 e2 e3 y0 y1 y2 y3
      generalize put4 (w1.alloc _) (w.heap.size + 1) (.int .i64 5) (.int .u64 0) (.int .u64 0) (.slice (some ⟨w.heap.size + 2, 0, none⟩) 1 1) = W at *
      have d0 : W.cell? ⟨w.heap.size + 1, 0, none⟩ = some (.int .i64 5) := cell_of_row W _ 0 _ _ _ HR2
      have d1 : W.cell? ⟨w.heap.size + 1, 1, none⟩ = some (.int .u64 0) := cell_of_row W _ 1 _ _ _ HR2
      have d2 : W.cell? ⟨w.heap.size + 1, 2, none⟩ = some (.int .u64 0) := cell_of_row W _ 2 _ _ _ HR2
      have d3 : W.cell? ⟨w.heap.size + 1, 3, none⟩ = some (.slice (some ⟨w.heap.size + 2, 0, none⟩) 1 1) := cell_of_row W _ 3 _ _ _ HR2
      exact bodyPost_ret (v := .agg #[.int .i64 5, .int .u64 0, .int .u64 0, .slice (some ⟨w.heap.size + 2, 0, none⟩) 1 1]) (by simp [results, Tryz.results17, go_sem, d0, d1, d2, d3]) rfl HF2
    · have e5 : decide ((ps.length : Int) = 1) = false := by simp; omega
      go_wp2_with fail
      have hcm : (put4 w1 (w.heap.size + 1) (.int .i64 5) (.int .u64 0) (.int .u64 0) (.slice (some ⟨w.heap.size + 2, 0, none⟩) 1 1)).alloc (.cells #[.int .i64 5, .int .u64 (a : Int), .int .u64 (b : Int), .slice A ps.length c] 30) = put4 (w1.alloc (.cells #[.int .i64 5, .int .u64 (a : Int), .int .u64 (b : Int), .slice A ps.length c] 30)) (w.heap.size + 1) (.int .i64 5) (.int .u64 0) (.int .u64 0) (.slice (some ⟨w.heap.size + 2, 0, none⟩) 1 1) := by simp [put4, go_sem, hgl]
      show bodyPost _ _ _ _ _ ((put4 w1 (w.heap.size + 1) (.int .i64 5) (.int .u64 0) (.int .u64 0) (.slice (some ⟨w.heap.size + 2, 0, none⟩) 1 1)).alloc (.cells #[.int .i64 5, .int .u64 (a : Int), .int .u64 (b : Int), .slice A ps.length c] 30))
      rw [hcm]
      clear hcm
      have HR2 := HR.out
      have HF2 := HF.out
      clear HR HF c0 c1' c2 c3 z0 z1 z2 z3 e0 e1 e2 e3 y0 y1 y2 y3
      generalize put4 (w1.alloc _) (w.heap.size + 1) (.int .i64 5) (.int .u64 0) (.int .u64 0) (.slice (some ⟨w.heap.size + 2, 0, none⟩) 1 1) = W at *
      have d0 : W.cell? ⟨w.heap.size + 1, 0, none⟩ = some (.int .i64 5) := cell_of_row W _ 0 _ _ _ HR2
      have d1 : W.cell? ⟨w.heap.size + 1, 1, none⟩ = some (.int .u64 0) := cell_of_row W _ 1 _ _ _ HR2
      have d2 : W.cell? ⟨w.heap.size + 1, 2, none⟩ = some (.int .u64 0) := cell_of_row W _ 2 _ _ _ HR2
      have d3 : W.cell? ⟨w.heap.size + 1, 3, none⟩ = some (.slice (some ⟨w.heap.size + 2, 0, none⟩) 1 1) := cell_of_row W _ 3 _ _ _ HR2
      exact bodyPost_ret (v := .agg #[.int .i64 5, .int .u64 0, .int .u64 0, .slice (some ⟨w.heap.size + 2, 0, none⟩) 1 1]) (by simp [results, Tryz.results17, go_sem, d0, d1, d2, d3]) rfl HF2
end Go.Proofs.YtiijdacnfhiagaaGreatDoor

namespace Go.Proofs.YtiijdacnfhiagaaGreatDoor
open Go Go.RowKit
set_option linter.unusedVariables false

set_option maxRecDepth 100000 in
theorem few_any (v : V) (w : World) (lo hi : Nat) (hL : Lies w lo hi v) (hhi : hi ≤ w.heap.size) :
    Calls Tryz.prog 8 #[v.val] w fun e w' => e = .returned (.bool (decide (v.abs.count ≤ 60))) ∧ Below w.heap.size w w' := by
  have hb0 := below_new w (.cells #[.int .i64 v.kind, .int .u64 (v.a : Int), .int .u64 (v.b : Int), v.sl] 25)
  have DN := dnodes_any v 60 (w.alloc (.cells #[.int .i64 v.kind, .int .u64 (v.a : Int), .int .u64 (v.b : Int), v.sl] 25)) lo hi (hL.under (hb0.mono hhi)) (by have := hb0.size; omega) (by omega) (by omega)
  have hn : decide ((0 : Int) ≤ nl v.abs.count 60) = decide (v.abs.count ≤ 60) := by
    by_cases h : v.abs.count ≤ 60
    · rw [nl_yes (by omega), decide_eq_true h, decide_eq_true (by omega)]
    · rw [nl_no (by omega), decide_eq_false h, decide_eq_false (by omega)]
  have HN := Lib_hid hn
  clear hn hL
  simp only [V.val, V.sl] at DN hb0 ⊢
  generalize v.kind = x0 at *
  generalize (v.a : Int) = x1 at *
  generalize (v.b : Int) = x2 at *
  generalize v.addr = pA at *
  generalize v.parts.length = pn at *
  generalize v.cap = pc at *
  generalize nl v.abs.count 60 = z at *
  generalize decide (v.abs.count ≤ 60) = r at *
  go_enter Tryz.func8, Tryz.ntmps8
  go_wp2_with fail
  refine DN.mono ?_
  rintro e w1 ⟨rfl, hb1⟩
  have hbw := hb0.trans (hb1.mono hb0.size)
  clear DN hb1 hb0
  go_wp2_with fail
  go_ret
  exact ⟨ret_b HN.out, hbw⟩

theorem raw_row2 {w : World} {g : Nat} {E : TypeId} {x0 x1 x2 x3 x4 x5 x6 x7 : Value} (hr : w.heap[g]? = some (.cells #[x0, x1, x2, x3, x4, x5, x6, x7] E (0, 0))) : Rd w (g + 1) 4 (some ⟨g, 0, none⟩) 2 [x0, x1, x2, x3, x4, x5, x6, x7] := by
  refine ⟨rfl, fun _ => ⟨_, rfl, by simp, fun j x hx => ?_⟩⟩
  have e : (⟨g, 0, none⟩ : Addr).add j = ⟨g, j, none⟩ := by unfold Addr.add; split <;> simp_all
  rw [e, cell_of_row _ _ j _ _ _ hr, ← hx]
  simp
/-- Two trees in a row that lies. -/
theorem pair_lies {w : World} {g lp hp lq hq hi : Nat} {E : TypeId} {p q : V} {k : Int} (hk : 0 ≤ k ∧ k ≤ 100) (hr : w.heap[g]? = some (.cells #[.int .i64 p.kind, .int .u64 (p.a : Int), .int .u64 (p.b : Int), .slice p.addr p.parts.length p.cap, .int .i64 q.kind, .int .u64 (q.a : Int), .int .u64 (q.b : Int), .slice q.addr q.parts.length q.cap] E (0, 0))) (h1 : Lies w lp hp p) (h2 : Lies w lq hq q) (h3 : hp ≤ hi) (h4 : hq ≤ hi) (h5 : g < hi) :
    Lies w 0 hi (.node k 0 0 (some ⟨g, 0, none⟩) 2 [p, q]) := by
  refine .mk _ _ _ _ _ _ (by omega) (by omega) (by omega) ((raw_row2 hr).more (by omega)) (by simp) (fun _ _ _ => Nat.zero_le _) (fun x hx => ?_)
  simp only [List.mem_cons, List.not_mem_nil, or_false] at hx
  rcases hx with rfl | rfl
  · exact h1.more (Nat.zero_le _) h3
  · exact h2.more (Nat.zero_le _) h4
theorem turn_count (t : T) : t.turn.count ≤ t.count + 1 := by
  obtain ⟨k, a, b, ps⟩ := t
  by_cases h : k ≠ 5 ∨ ps.length ≠ 1
  · rw [T.turn_else k a b ps h]
    simp only [T.count, T.countL]
    omega
  · have h5 : k = 5 := by omega
    obtain ⟨q, rfl⟩ : ∃ q, ps = [q] := by
      match ps, (show ps.length = 1 by omega) with
      | [q], _ => exact ⟨q, rfl⟩
    subst h5
    rw [T.turn_one]
    simp only [T.count, T.countL]
    omega
theorem turnV_any (p : V) (w : World) (lo hi : Nat) (hL : Lies w lo hi p) (hhi : hi ≤ w.heap.size) (hlo : lo ≤ w.heap.size) (hct : p.abs.count ≤ 900) :
    Calls Tryz.prog 13 #[p.val] w (TreeEnd p.abs.turn w) := by
  obtain ⟨k, a, b, A, c, ps⟩ := p
  exact turn_any k a b A c ps w lo hi hL hhi hlo hct
theorem rturnV_any (p : V) (w : World) (lo hi : Nat) (hL : Lies w lo hi p) (hhi : hi ≤ w.heap.size) (hlo : lo ≤ w.heap.size) :
    Calls Tryz.prog 17 #[p.val] w (LieEnd p.abs.turn lo w) := by
  obtain ⟨k, a, b, A, c, ps⟩ := p
  exact rturn_any k a b A c ps w lo hi hL hhi hlo

end Go.Proofs.YtiijdacnfhiagaaGreatDoor
