/-
  Layer 4: the statements' SpoilExpr, over any tree in new memory.
-/
import Derived.Test.YtpbmgbeiieapiaaGreatDoorTcl
namespace Go.Proofs.YtpbmgbeiieapiaaGreatDoor
open Go Go.RowKit
set_option linter.unusedVariables false

/-- A step that writes kinds and numbers over, in blocks from lo on and below hi, and makes memory. -/
structure Spo (E : TypeId) (lo hi : Nat) (w w' : World) : Prop where
  shp : ∀ (lo' : Nat) (u : V), Shp E w lo' u → Shp E w' lo' u
  below : Below lo w w'
  keep : ∀ k, k < w.heap.size → (k < lo ∨ hi ≤ k) → w'.heap[k]? = w.heap[k]?
theorem Spo.refl (E : TypeId) (lo hi : Nat) (w : World) : Spo E lo hi w w := ⟨fun _ _ h => h, Below.refl _ _, fun _ _ _ => rfl⟩
theorem Spo.trans {E : TypeId} {lo hi : Nat} {a b c : World} (h : Spo E lo hi a b) (k : Spo E lo hi b c) : Spo E lo hi a c :=
  ⟨fun l u x => k.shp l u (h.shp l u x), h.below.trans k.below, fun i hi' ho => (k.keep i (Nat.lt_of_lt_of_le hi' h.below.size) ho).trans (h.keep i hi' ho)⟩
theorem Spo.new (E : TypeId) {lo hi : Nat} {w w' : World} (h : Below w.heap.size w w') (hl : lo ≤ w.heap.size) : Spo E lo hi w w' :=
  ⟨fun _ _ x => x.under h, h.mono hl, fun k hk _ => h.block k hk⟩
theorem Spo.over {E : TypeId} {lo hi : Nat} {a w : World} (h : Spo E lo hi a w) {g i : Nat} {x : Value} (h1 : lo ≤ g) (h2 : g < hi) (hx : (∃ j, i = j * 4 ∧ ∃ z, x = .int .i64 z) ∨ (∃ j, i = j * 4 + 1 ∧ ∃ z, x = .int .u64 z)) : Spo E lo hi a (w.setCell ⟨g, i, none⟩ x) :=
  ⟨fun l u k => (h.shp l u k).over hx, h.below.setCell (p := ⟨g, i, none⟩) h1 x, fun k hk ho => (Below.heap_setCell w ⟨g, i, none⟩ x k (by show k ≠ g; omega)).trans (h.keep k hk ho)⟩
theorem Spo.drew {E : TypeId} {lo hi : Nat} {a w : World} (h : Spo E lo hi a w) : Spo E lo hi a w.drew :=
  ⟨fun l u k => (h.shp l u k).keep fun _ _ _ => rfl, h.below.drew, h.keep⟩

set_option maxRecDepth 100000 in
set_option maxHeartbeats 1600000 in
theorem spoil_expr : ∀ (v : V) (w0 w : World) (lo : Nat) (x y z : Int), Shp 25 w0 lo v → Shp 25 w lo v → w0.heap.size ≤ w.heap.size → lo ≤ w.heap.size → v.abs.count ≤ 1000 →
    Calls Tryz.prog 19 #[.agg #[.int .i64 x, .int .u64 y, .int .u64 z, v.sl]] w fun e w' => e = .returned (.tuple #[]) ∧ Spo 25 lo w0.heap.size w w' := by
  refine V.ind fun k a b A c ps ih w0 w lo x y z h0 hS hw0 hlo hct => ?_
  have hlc : ps.length ≤ 1000 := by
    rw [V.count_node] at hct
    have := length_le_countL (V.absL ps)
    rw [absL_length] at this
    omega
  have IH : Hid (∀ (i : Nat) (p : V), ps[i]? = some p → ∀ (W : World) (x y z : Int), Spo 25 lo w0.heap.size w W → Calls Tryz.prog 19 #[.agg #[.int .i64 x, .int .u64 y, .int .u64 z, p.sl]] W fun e w' => e = .returned (.tuple #[]) ∧ Spo 25 lo w0.heap.size W w') := fun i p hp W x y z hW => by
    have hm := List.mem_of_getElem? hp
    refine ih p hm w0 W lo x y z (h0.part hm) (hW.shp _ _ (hS.part hm)) (Nat.le_trans hw0 hW.below.size) (Nat.le_trans hlo hW.below.size) ?_
    have := count_le hp
    rw [V.count_node] at hct
    omega
  have HS : Hid (∀ W, Spo 25 lo w0.heap.size w W → Shp 25 W lo (V.node k a b A c ps)) := fun W hW => hW.shp _ _ hS
  have H0 := Lib_hid h0
  have hbx := heap_alloc_new w (.cells #[.int .i64 x, .int .u64 y, .int .u64 z, .slice A ps.length c] 25)
  have hb0 : Spo 25 lo w0.heap.size w (w.alloc (.cells #[.int .i64 x, .int .u64 y, .int .u64 z, .slice A ps.length c] 25)) := Spo.new _ (below_new w _) hlo
  clear ih hS hct h0
  show Calls Tryz.prog 19 #[.agg #[.int .i64 x, .int .u64 y, .int .u64 z, .slice A ps.length c]] w _
  go_enter Tryz.func19, Tryz.ntmps19
  go_wp2
  go_loopw [2] (fun t wr => ∃ (i : Nat), t = .int .i64 i ∧ i ≤ ps.length ∧ wr.heap[w.heap.size]? = some (.cells #[.int .i64 x, .int .u64 y, .int .u64 z, .slice A ps.length c] 25 (0, 0)) ∧ Spo 25 lo w0.heap.size w wr) (fun t _ => ps.length - (intOf t).toNat)
  case atStart => exact ⟨0, rfl, Nat.zero_le _, hbx, hb0⟩
  case round =>
    clear hbx hb0
    obtain ⟨i, rfl, hi1, hbx, hsp⟩ := hrel
    have c3 : wr.cell? ⟨w.heap.size, 3, none⟩ = some (.slice A ps.length c) := cell_of_row wr _ 3 _ _ _ hbx
    have hgl := (Array.getElem?_eq_some_iff.1 hbx).1
    by_cases hlt : i < ps.length
    · obtain ⟨p, hp⟩ : ∃ p, ps[i]? = some p := ⟨_, List.getElem?_eq_getElem hlt⟩
      obtain ⟨g, rfl, hg1, hg2, -⟩ := H0.out.nth hp
      obtain ⟨g', e, -, hgw, -, -, ⟨x0, d0⟩, ⟨x1, d1⟩, ⟨x2, d2⟩, d3⟩ := (HS.out wr hsp).nth hp
      injection e with e
      injection e with e
      subst e
      have CH := IH.out i p hp wr x0 x1 x2 hsp
      have HP := Lib_hid hp
      have hps : p.sl = .slice p.addr p.parts.length p.cap := rfl
      rw [hps] at d3 CH
      clear hp hps
      generalize p.addr = pA at *
      generalize p.cap = pc at *
      generalize p.parts.length = pn at *
      go_wp2_with fail
      refine CH.mono ?_
      rintro e w1 ⟨rfl, hsp1⟩
      have hsp2 := hsp.trans hsp1
      have hbx1 := (hsp1.keep _ hgl (.inr hw0)).trans hbx
      have hgl1 := (Array.getElem?_eq_some_iff.1 hbx1).1
      have c31 : w1.cell? ⟨w.heap.size, 3, none⟩ = some (.slice (some ⟨g, 0, none⟩) ps.length c) := cell_of_row w1 _ 3 _ _ _ hbx1
      obtain ⟨g', e, -, hgw1, -, hfr, ⟨y0, f0⟩, ⟨y1, f1⟩, -, -⟩ := (HS.out w1 hsp2).nth HP.out
      injection e with e
      injection e with e
      subst e
      have z0 := hfr (i * 4)
      have z1 := hfr (i * 4 + 1)
      have hne : w.heap.size ≠ g := by omega
      clear CH hsp hsp1 hbx hgl c3 d0 d1 d2 d3 hfr
      have hsp3 := hsp2.over (x := .int .i64 77) hg1 hg2 (.inl ⟨i, rfl, 77, rfl⟩)
      go_upto_region 6 with (fail)
      have hg3 := HS.out _ hsp3
      have hbx3 : (w1.setCell ⟨g, i * 4, none⟩ (.int .i64 77)).heap[w.heap.size]? = _ := (Below.heap_setCell w1 ⟨g, i * 4, none⟩ (.int .i64 77) w.heap.size hne).trans hbx1
      clear hbx1 c31 hgl1 hgw1 f0 f1 z0 z1 hsp2
      generalize w1.setCell ⟨g, i * 4, none⟩ (.int .i64 77) = w2 at *
      have c32 : w2.cell? ⟨w.heap.size, 3, none⟩ = some (.slice (some ⟨g, 0, none⟩) ps.length c) := cell_of_row w2 _ 3 _ _ _ hbx3
      obtain ⟨g', e, -, hgw2, -, hfr, -, ⟨y2, f2⟩, -, -⟩ := hg3.nth HP.out
      injection e with e
      injection e with e
      subst e
      have z2 := hfr (i * 4 + 1)
      have hsp4 := hsp3.over (x := .int .u64 (IntKind.u64.wrap (y2 + 7))) hg1 hg2 (.inr ⟨i, rfl, _, rfl⟩)
      have hbx4 : (w2.setCell ⟨g, i * 4 + 1, none⟩ (.int .u64 (IntKind.u64.wrap (y2 + 7)))).heap[w.heap.size]? = _ := (Below.heap_setCell w2 ⟨g, i * 4 + 1, none⟩ (.int .u64 (IntKind.u64.wrap (y2 + 7))) w.heap.size hne).trans hbx3
      clear hfr hg3 hbx3 hsp3
      go_region
      have hsp5 := hsp4.drew
      have hbx5 : (w2.setCell ⟨g, i * 4 + 1, none⟩ (.int .u64 (IntKind.u64.wrap (y2 + 7)))).drew.heap[w.heap.size]? = _ := hbx4
      clear hbx4 hsp4
      generalize IntKind.u64.wrap (y2 + 7) = y3 at *
      generalize (w2.setCell ⟨g, i * 4 + 1, none⟩ (.int .u64 y3)).drew = w9 at *
      go_wp2
      go_roundw
      case rel => exact ⟨i + 1, by go_num, by omega, hbx5, hsp5⟩
      case measure => simp [intOf]; omega
    · obtain rfl : i = ps.length := by omega
      go_wp2
      go_end0
      exact ⟨rfl, hsp⟩

end Go.Proofs.YtpbmgbeiieapiaaGreatDoor
