/-
  Layer 4: the statements' SpoilExpr, over any tree in new memory.
  Layer 4: Both.
  Layer 5: Copy, the program's; what a record is that lies apart from all else.
  Layer 5: the six functions that take a part of a payload. (Out of gen_vyw.py.)
-/
import Derived.Test.YtdmoknnnlfkfoaaGreatDoorZpTdt
import Derived.Test.YtdmoknnnlfkfoaaGreatDoorZpTp4
import Derived.Test.YtdmoknnnlfkfoaaGreatDoorZpIny
import Derived.Test.YtdmoknnnlfkfoaaGreatDoorZpVlq
import Derived.Test.YtdmoknnnlfkfoaaGreatDoorZpVcm

namespace Go.Proofs.YtdmoknnnlfkfoaaGreatDoor
open Go Go.RowKit
set_option linter.unusedVariables false
structure Spo (E : TypeId) (lo hi : Nat) (w w' : World) : Prop where
  shp : ∀ (lo' : Nat) (u : V), Shp E w lo' u → Shp E w' lo' u
  below : Below lo w w'
  keep : ∀ k, k < w.heap.size → (k < lo ∨ hi ≤ k) → w'.heap[k]? = w.heap[k]?
theorem Spo.refl (E : TypeId) (lo hi : Nat) (w : World) : Spo E lo hi w w := ⟨fun _ _ h => h, Below.refl _ _, fun _ _ _ => rfl⟩
theorem Spo.trans {E : TypeId} {lo hi : Nat} {a b c : World} (h : Spo E lo hi a b) (k : Spo E lo hi b c) : Spo E lo hi a c :=
  ⟨fun l u x => k.shp l u (h.shp l u x), h.below.trans k.below, fun i hi' ho => (k.keep i (Nat.lt_of_lt_of_le hi' h.below.size) ho).trans (h.keep i hi' ho)⟩
theorem Spo.new (E : TypeId) {lo hi : Nat} {w w' : World} (h : Below w.heap.size w w') (hl : lo ≤ w.heap.size) : Spo E lo hi w w' :=
  ⟨fun _ _ x => x.under h, h.mono hl, fun k hk _ => h.block k hk⟩
theorem Spo.over {E : TypeId} {lo hi : Nat} {a w : World} (h : Spo E lo hi a w) {g i : Nat} {x : Value} (h1 : lo ≤ g) (h2 : g < hi) (hx : (∃ j, i = j * 4 ∧ ∃ z, x = .int .i64 z) ∨ (∃ j, i = j * 4 + 1 ∧ ∃ z, x = .int .u64 z)) : Spo E lo hi a (w.setCell ⟨g, i, none⟩ x) :=
  ⟨fun l u k => (h.shp l u k).over hx, h.below.setCell (p := ⟨g, i, none⟩) h1 x, fun k hk ho => (Below.heap_setCell w ⟨g, i, none⟩ x k (by show k ≠ g; omega)).trans (h.keep k hk ho)⟩
theorem Spo.drew {E : TypeId} {lo hi : Nat} {a w : World} (h : Spo E lo hi a w) : Spo E lo hi a w.drew :=
  ⟨fun l u k => (h.shp l u k).keep fun _ _ _ => rfl, h.below.drew, h.keep⟩
set_option maxRecDepth 100000 in
set_option maxHeartbeats 1600000 in
theorem spoil_expr : ∀ (v : V) (w0 w : World) (lo : Nat) (x y z : Int), Shp 44 w0 lo v → Shp 44 w lo v → w0.heap.size ≤ w.heap.size → lo ≤ w.heap.size → v.abs.count ≤ 1000 →
    Calls Tryz.prog 31 #[.agg #[.int .i64 x, .int .u64 y, .int .u64 z, v.sl]] w fun e w' => e = .returned (.tuple #[]) ∧ Spo 44 lo w0.heap.size w w' := by
  refine V.ind fun k a b A c ps ih w0 w lo x y z h0 hS hw0 hlo hct => ?_
  have hlc : ps.length ≤ 1000 := by
    rw [V.count_node] at hct
    have := length_le_countL (V.absL ps)
    rw [absL_length] at this
    omega
  have IH : Hid (∀ (i : Nat) (p : V), ps[i]? = some p → ∀ (W : World) (x y z : Int), Spo 44 lo w0.heap.size w W → Calls Tryz.prog 31 #[.agg #[.int .i64 x, .int .u64 y, .int .u64 z, p.sl]] W fun e w' => e = .returned (.tuple #[]) ∧ Spo 44 lo w0.heap.size W w') := fun i p hp W x y z hW => by
    have hm := List.mem_of_getElem? hp
    refine ih p hm w0 W lo x y z (h0.part hm) (hW.shp _ _ (hS.part hm)) (Nat.le_trans hw0 hW.below.size) (Nat.le_trans hlo hW.below.size) ?_
    have := count_le hp
    rw [V.count_node] at hct
    omega
  have HS : Hid (∀ W, Spo 44 lo w0.heap.size w W → Shp 44 W lo (V.node k a b A c ps)) := fun W hW => hW.shp _ _ hS
  have H0 := Lib_hid h0
  have hbx := heap_alloc_new w (.cells #[.int .i64 x, .int .u64 y, .int .u64 z, .slice A ps.length c] 44)
  have hb0 : Spo 44 lo w0.heap.size w (w.alloc (.cells #[.int .i64 x, .int .u64 y, .int .u64 z, .slice A ps.length c] 44)) := Spo.new _ (below_new w _) hlo
  clear ih hS hct h0
  show Calls Tryz.prog 31 #[.agg #[.int .i64 x, .int .u64 y, .int .u64 z, .slice A ps.length c]] w _
  go_enter Tryz.func31, Tryz.ntmps31
  go_wp2
  go_loopw [2] (fun t wr => ∃ (i : Nat), t = .int .i64 i ∧ i ≤ ps.length ∧ wr.heap[w.heap.size]? = some (.cells #[.int .i64 x, .int .u64 y, .int .u64 z, .slice A ps.length c] 44 (0, 0)) ∧ Spo 44 lo w0.heap.size w wr) (fun t _ => ps.length - (intOf t).toNat)
  case atStart => exact ⟨0, rfl, Nat.zero_le _, hbx, hb0⟩
  case round =>
    clear hbx hb0
    obtain ⟨i, rfl, hi1, hbx, hsp⟩ := hrel
    have c3 : wr.cell? ⟨w.heap.size, 3, none⟩ = some (.slice A ps.length c) := cell_of_row wr _ 3 _ _ _ hbx
    have hgl := (Array.getElem?_eq_some_iff.1 hbx).1
    by_cases hlt : i < ps.length
    · obtain ⟨p, hp⟩ : ∃ p, ps[i]? = some p := ⟨_, List.getElem?_eq_getElem hlt⟩
      obtain ⟨g, rfl, hg1, hg2, -⟩ := H0.out.nth hp
      obtain ⟨g', e, -, hgw, -, -, ⟨x0, d0⟩, ⟨x1, d1⟩, ⟨x2, d2⟩, d3⟩ := (HS.out wr hsp).nth hp
      injection e with e
      injection e with e
      subst e
      have CH := IH.out i p hp wr x0 x1 x2 hsp
      have HP := Lib_hid hp
      have hps : p.sl = .slice p.addr p.parts.length p.cap := rfl
      rw [hps] at d3 CH
      clear hp hps
      generalize p.addr = pA at *
      generalize p.cap = pc at *
      generalize p.parts.length = pn at *
      go_wp2_with fail
      refine CH.mono ?_
      rintro e w1 ⟨rfl, hsp1⟩
      have hsp2 := hsp.trans hsp1
      have hbx1 := (hsp1.keep _ hgl (.inr hw0)).trans hbx
      have hgl1 := (Array.getElem?_eq_some_iff.1 hbx1).1
      have c31 : w1.cell? ⟨w.heap.size, 3, none⟩ = some (.slice (some ⟨g, 0, none⟩) ps.length c) := cell_of_row w1 _ 3 _ _ _ hbx1
      obtain ⟨g', e, -, hgw1, -, hfr, ⟨y0, f0⟩, ⟨y1, f1⟩, -, -⟩ := (HS.out w1 hsp2).nth HP.out
      injection e with e
      injection e with e
      subst e
      have z0 := hfr (i * 4)
      have z1 := hfr (i * 4 + 1)
      have hne : w.heap.size ≠ g := by omega
      clear CH hsp hsp1 hbx hgl c3 d0 d1 d2 d3 hfr
      have hsp3 := hsp2.over (x := .int .i64 77) hg1 hg2 (.inl ⟨i, rfl, 77, rfl⟩)
      go_upto_region 6 with (fail)
      have hg3 := HS.out _ hsp3
      have hbx3 : (w1.setCell ⟨g, i * 4, none⟩ (.int .i64 77)).heap[w.heap.size]? = _ := (Below.heap_setCell w1 ⟨g, i * 4, none⟩ (.int .i64 77) w.heap.size hne).trans hbx1
      clear hbx1 c31 hgl1 hgw1 f0 f1 z0 z1 hsp2
      generalize w1.setCell ⟨g, i * 4, none⟩ (.int .i64 77) = w2 at *
      have c32 : w2.cell? ⟨w.heap.size, 3, none⟩ = some (.slice (some ⟨g, 0, none⟩) ps.length c) := cell_of_row w2 _ 3 _ _ _ hbx3
      obtain ⟨g', e, -, hgw2, -, hfr, -, ⟨y2, f2⟩, -, -⟩ := hg3.nth HP.out
      injection e with e
      injection e with e
      subst e
      have z2 := hfr (i * 4 + 1)
      have hsp4 := hsp3.over (x := .int .u64 (IntKind.u64.wrap (y2 + 7))) hg1 hg2 (.inr ⟨i, rfl, _, rfl⟩)
      have hbx4 : (w2.setCell ⟨g, i * 4 + 1, none⟩ (.int .u64 (IntKind.u64.wrap (y2 + 7)))).heap[w.heap.size]? = _ := (Below.heap_setCell w2 ⟨g, i * 4 + 1, none⟩ (.int .u64 (IntKind.u64.wrap (y2 + 7))) w.heap.size hne).trans hbx3
      clear hfr hg3 hbx3 hsp3
      go_region
      have hsp5 := hsp4.drew
      have hbx5 : (w2.setCell ⟨g, i * 4 + 1, none⟩ (.int .u64 (IntKind.u64.wrap (y2 + 7)))).drew.heap[w.heap.size]? = _ := hbx4
      clear hbx4 hsp4
      generalize IntKind.u64.wrap (y2 + 7) = y3 at *
      generalize (w2.setCell ⟨g, i * 4 + 1, none⟩ (.int .u64 y3)).drew = w9 at *
      go_wp2
      go_roundw
      case rel => exact ⟨i + 1, by go_num, by omega, hbx5, hsp5⟩
      case measure => simp [intOf]; omega
    · obtain rfl : i = ps.length := by omega
      go_wp2
      go_end0
      exact ⟨rfl, hsp⟩
end Go.Proofs.YtdmoknnnlfkfoaaGreatDoor

namespace Go.Proofs.YtdmoknnnlfkfoaaGreatDoor
open Go Go.RowKit
set_option linter.unusedVariables false
end Go.Proofs.YtdmoknnnlfkfoaaGreatDoor

namespace Go.Proofs.YtdmoknnnlfkfoaaGreatDoor
open Go Go.RowKit
set_option linter.unusedVariables false
def SpR (lo : Nat) (r : Rv) (w : World) : Prop :=
  ∃ (l1 : Nat) (w0 : World), lo ≤ l1 ∧ l1 ≤ w.heap.size ∧ w0.heap.size ≤ w.heap.size ∧ Shp 44 w0 l1 r.p ∧ Shp 44 w l1 r.p ∧ w.ownsRow lo 67 4 (.slice r.A r.es.length r.c) r.es.length (enCells r.es) ∧
    ∀ k, (Value.slice r.A r.es.length r.c).ownBlock = some k → k < l1 ∨ w0.heap.size ≤ k
theorem SpR.under {lo : Nat} {r : Rv} {w w' : World} (h : SpR lo r w) (hb : Below w.heap.size w w') : SpR lo r w' := by
  obtain ⟨l1, w0, h1, h2, h3, h4, h5, h6, h7⟩ := h
  exact ⟨l1, w0, h1, Nat.le_trans h2 hb.size, Nat.le_trans h3 hb.size, h4, h5.under hb, own_below h6 hb (own_lt h6), h7⟩
theorem SpR.more {lo lo' : Nat} {r : Rv} {w : World} (h : SpR lo r w) (hl : lo' ≤ lo) : SpR lo' r w := by
  obtain ⟨l1, w0, h1, h2, h3, h4, h5, h6, h7⟩ := h
  exact ⟨l1, w0, Nat.le_trans hl h1, h2, h3, h4, h5, own_base h6 fun k hk => Nat.le_trans hl (own_ge h6 k hk), h7⟩
end Go.Proofs.YtdmoknnnlfkfoaaGreatDoor

namespace Go.Proofs.YtdmoknnnlfkfoaaGreatDoor
open Go Go.RowKit
set_option linter.unusedVariables false
theorem SpR.stay {lo : Nat} {r : Rv} {w w' : World} (h : SpR lo r w) (hs : w.heap.size ≤ w'.heap.size) (hk : ∀ k, lo ≤ k → k < w.heap.size → w'.heap[k]? = w.heap[k]?) : SpR lo r w' := by
  obtain ⟨l1, w0, h1, h2, h3, h4, h5, h6, h7⟩ := h
  exact ⟨l1, w0, h1, Nat.le_trans h2 hs, Nat.le_trans h3 hs, h4, h5.keep fun k k1 k2 => hk k (by omega) k2, own_keep h6 fun k k1 => hk k (own_ge h6 k k1) (own_lt h6 k k1), h7⟩
theorem RLies.stay {w w' : World} {lo : Nat} {r : Rv} (h : RLies w lo w.heap.size r) (hs : w.heap.size ≤ w'.heap.size) (hk : ∀ k, lo ≤ k → k < w.heap.size → w'.heap[k]? = w.heap[k]?) : RLies w' lo w'.heap.size r :=
  (h.keep fun p h1 h2 => World.cell?_of_block (hk p.block h1 h2)).more (Nat.le_refl _) hs
structure Grow3 (w w' : World) (a g h : Nat) : Prop where
  os : w'.os = w.os
  tape : w'.tape = w.tape
  output : w'.output = w.output
  size : w.heap.size ≤ w'.heap.size
  block : ∀ k, k < w.heap.size → k ≠ a → k ≠ g → k ≠ h → w'.heap[k]? = w.heap[k]?
theorem Grow3.refl (w : World) (a g h : Nat) : Grow3 w w a g h := ⟨rfl, rfl, rfl, Nat.le_refl _, fun _ _ _ _ _ => rfl⟩
theorem Grow3.trans {u v w : World} {a g h : Nat} (x : Grow3 u v a g h) (k : Grow3 v w a g h) : Grow3 u w a g h := ⟨k.os.trans x.os, k.tape.trans x.tape, k.output.trans x.output, Nat.le_trans x.size k.size, fun i hi h1 h2 h3 => (k.block i (Nat.lt_of_lt_of_le hi x.size) h1 h2 h3).trans (x.block i hi h1 h2 h3)⟩
theorem Grow3.ofB {w w' : World} {a g h : Nat} (k : Below w.heap.size w w') : Grow3 w w' a g h := ⟨k.os, k.tape, k.output, k.size, fun i hi _ _ _ => k.block i hi⟩
theorem Grow3.of2 {w w' : World} {a g h : Nat} (k : Grow2 w w' g h) : Grow3 w w' a g h := ⟨k.os, k.tape, k.output, k.size, fun i hi _ h2 h3 => k.block i hi h2 h3⟩
theorem Grow3.ofR {w w' : World} {a g h : Nat} {arr : Array Value} {E : TypeId} (k : RowSet w w' a arr E) : Grow3 w w' a g h := ⟨k.os, k.tape, k.output, Nat.le_of_eq k.size.symm, fun i _ h1 _ _ => k.other i h1⟩
theorem Grow3.below {w w' : World} {a g h B : Nat} (k : Grow3 w w' a g h) (hB : B ≤ w.heap.size) (h1 : B ≤ a) (h2 : B ≤ g) (h3 : B ≤ h) : Below B w w' := ⟨k.os, k.tape, k.output, k.size, fun i hi => k.block i (by omega) (by omega) (by omega) (by omega)⟩
structure TkS (lo a g h : Nat) (A : Option Addr) (n c : Nat) (l : List Nat) (r : Rv) (ac e : Nat) (bad : Bool) (w : World) : Prop where
  box : w.heap[a]? = some (.cells r.arr 47 (0, 0))
  pl : PlS g h A n c l ac e bad w
  lies : RLies w lo w.heap.size r
  al : a < lo
  gl : g < lo
  ne : a ≠ g
  ne2 : a ≠ h
  sep : ∀ ad, A = some ad → 0 < n → ad.block ≠ a
  hi : lo ≤ w.heap.size
  sp : SpR lo r w
  few : 4 * r.es.length ≤ l.length + 4
def TakEnd (i lo a g h : Nat) (A : Option Addr) (n c : Nat) (l : List Nat) (r : Rv) (ac e : Nat) (bad : Bool) (w : World) (en : Ending) (w' : World) : Prop :=
  en = .returned (.tuple #[]) ∧ Grow3 w w' a g h ∧ ∃ (r' : Rv) (ac' e' : Nat) (bad' : Bool), TkS lo a g h A n c l r' ac' e' bad' w' ∧ r'.kind = r.kind ∧ Took (r.abs.takeP l ac i) e bad r'.abs ac' e' bad'
section
variable {lo a g h n c ac e ac' e' : Nat} {A : Option Addr} {l : List Nat} {bad bad' : Bool} {r r' : Rv} {w W W' : World}
theorem PlS.off {arr : Array Value} {E : TypeId} (p : PlS g h A n c l ac e bad W) (hr : RowSet W W' a arr E) (h1 : a ≠ g) (h2 : a ≠ h) (hs : ∀ ad, A = some ad → 0 < n → ad.block ≠ a) : PlS g h A n c l ac e bad W' :=
  ⟨(hr.other g (fun x => h1 x.symm)).trans p.box, ⟨(hr.other h (fun x => h2 x.symm)).trans p.rd.blk, (by
    rcases Nat.eq_zero_or_pos n with rfl | hn
    · have hl := p.rd.rd.count
      rw [List.eq_nil_of_length_eq_zero hl]
      exact Rd.zero
    · exact p.rd.rd.off (fun ad x _ => hr.other ad.block (hs ad x hn)) (Nat.le_refl _)), p.rd.nc, p.rd.b8, p.rd.len, p.rd.place, p.rd.err⟩, p.lt⟩
theorem TkS.kept (t : TkS lo a g h A n c l r ac e bad w) (hb : Below w.heap.size w W) : TkS lo a g h A n c l r ac e bad W :=
  ⟨(hb.block a (lt_of_block t.box)).trans t.box, t.pl.kept hb, t.lies.stay hb.size fun k _ k2 => hb.block k k2, t.al, t.gl, t.ne, t.ne2, t.sep, Nat.le_trans t.hi hb.size, t.sp.under hb, t.few⟩
theorem tk_fin {i : Nat} (t : TkS lo a g h A n c l r ac e bad w) (hp : PlS g h A n c l ac' e' bad' W) (hG : Grow2 w W g h) (hR : RowSet W W' a r'.arr 47) (hk : r'.kind = r.kind)
    (hl : (∀ k, lo ≤ k → k < w.heap.size → W'.heap[k]? = w.heap[k]?) → w.heap.size ≤ W'.heap.size → RLies W' lo W'.heap.size r' ∧ SpR lo r' W') (hf : 4 * r'.es.length ≤ l.length + 4) (ht : Took (r.abs.takeP l ac i) e bad r'.abs ac' e' bad') :
    TakEnd i lo a g h A n c l r ac e bad w (.returned (.tuple #[])) W' := by
  have h1 := t.al
  have h2 := t.gl
  have h3 := t.pl.lt
  have hs : w.heap.size ≤ W'.heap.size := by rw [hR.size]; exact hG.size
  obtain ⟨k1, k2⟩ := hl (fun k k1 k2 => (hR.other k (by omega)).trans (hG.block k k2 (by omega) (by omega))) hs
  exact ⟨rfl, (Grow3.of2 hG).trans (Grow3.ofR hR), r', ac', e', bad', ⟨hR.row, hp.off hR t.ne t.ne2 t.sep, k1, t.al, t.gl, t.ne, t.ne2, t.sep, Nat.le_trans t.hi hs, k2, hf⟩, hk, ht⟩
theorem TkS.bx (t : TkS lo a g h A n c l r ac e bad w) (hG : Grow2 w W g h) : W.heap[a]? = some (.cells r.arr 47 (0, 0)) := (hG.block a (lt_of_block t.box) t.ne t.ne2).trans t.box
theorem rowone {w : World} {g i : Nat} {arr : Array Value} {E : TypeId} (v : Value) (h : w.heap[g]? = some (.cells arr E (0, 0))) : RowSet w (w.setCell ⟨g, i, none⟩ v) g (arr.setIfInBounds i v) E :=
  ⟨rfl, rfl, rfl, by simp [World.setCell], heap_setCell_same w g i _ E v h, fun k hk => Below.heap_setCell _ ⟨g, i, none⟩ _ k hk⟩
theorem RowSet.trans {w w' w2 : World} {g : Nat} {arr brr : Array Value} {E F : TypeId} (h : RowSet w w' g arr E) (k : RowSet w' w2 g brr F) : RowSet w w2 g brr F :=
  ⟨k.os.trans h.os, k.tape.trans h.tape, k.output.trans h.output, k.size.trans h.size, k.row, fun i hi => (k.other i hi).trans (h.other i hi)⟩
set_option maxRecDepth 100000 in
set_option maxHeartbeats 1600000 in
theorem takeT_any (t : TkS lo a g h A n c l r ac e bad w) : Calls Tryz.prog 109 #[.pointer (some ⟨a, 0, none⟩), .pointer (some ⟨g, 0, none⟩)] w (TakEnd 0 lo a g h A n c l r ac e bad w) := by
  have PN := pnum_any t.pl
  have FIN : Hid (∀ (W : World) (v ac' e' : Nat), v < 18446744073709551616 → PlS g h A n c l ac' e' bad W → RStp w W h → Took (numT l ac) e bad v ac' e' bad → TakEnd 0 lo a g h A n c l r ac e bad w (.returned (.tuple #[])) (W.setCell ⟨a, 1, none⟩ (.int .u64 (v : Int)))) := fun W v ac' e' hv h1 h2 h3 => by
    have hG := h2.grow2 g
    have hbx := t.bx hG
    have hL := t.lies
    have hS := t.sp
    have hf := t.few
    refine tk_fin (r' := { r with t := v }) t h1 hG (rowone _ hbx) rfl (fun k1 k2 => ?_) hf (Took.map (fun v => ({ r with t := v } : Rv).abs) (g := fun x : Nat × Nat => (({ r with t := x.1 } : Rv).abs, x.2)) (fun _ _ => rfl) h3)
    have hL2 := hL.stay k2 k1
    exact ⟨⟨hL2.kind, (by show (v : Int) ≤ _; omega), hL2.x, hL2.wn, hL2.n, hL2.v, hL2.p, hL2.es, hL2.cap, hL2.ok, hL2.lo⟩, hS.stay k2 k1⟩
  have CC : Hid (∀ W, RStp w W h → ∃ u, W.cell? ⟨a, 1, none⟩ = some u ∧ W.frozen? ⟨a, 1, none⟩ = false) := fun W h1 => by
    have hbx := t.bx (h1.grow2 g)
    exact ⟨_, cell_of_row W a 1 _ _ _ hbx, frozen_of_row W a 1 _ _ hbx⟩
  obtain ⟨c0, -, -, -⟩ := t.pl.cells
  clear t
  go_enter Tryz.func109, Tryz.ntmps109
  go_wp2_with fail
  refine PN.mono ?_
  rintro en w2 ⟨v, ac', e', rfl, hv, h1, h2, h3⟩
  have HF := Lib_hid (FIN.out w2 v ac' e' hv h1 h2 h3)
  obtain ⟨u, cu, zu⟩ := CC.out w2 h2
  clear FIN CC h1 h2 h3 PN c0
  go_wp2
  go_end0
  exact HF.out
set_option maxRecDepth 100000 in
set_option maxHeartbeats 1600000 in
theorem takeX_any (t : TkS lo a g h A n c l r ac e bad w) : Calls Tryz.prog 118 #[.pointer (some ⟨a, 0, none⟩), .pointer (some ⟨g, 0, none⟩)] w (TakEnd 1 lo a g h A n c l r ac e bad w) := by
  have PN := pnum_any t.pl
  have FIN : Hid (∀ (W : World) (v ac' e' : Nat), v < 18446744073709551616 → PlS g h A n c l ac' e' bad W → RStp w W h → Took (numT l ac) e bad v ac' e' bad → TakEnd 1 lo a g h A n c l r ac e bad w (.returned (.tuple #[])) (W.setCell ⟨a, 2, none⟩ (.int .u64 (v : Int)))) := fun W v ac' e' hv h1 h2 h3 => by
    have hG := h2.grow2 g
    have hbx := t.bx hG
    have hL := t.lies
    have hS := t.sp
    have hf := t.few
    refine tk_fin (r' := { r with x := v }) t h1 hG (rowone _ hbx) rfl (fun k1 k2 => ?_) hf (Took.map (fun v => ({ r with x := v } : Rv).abs) (g := fun x : Nat × Nat => (({ r with x := x.1 } : Rv).abs, x.2)) (fun _ _ => rfl) h3)
    have hL2 := hL.stay k2 k1
    exact ⟨⟨hL2.kind, hL2.t, (by show (v : Int) ≤ _; omega), hL2.wn, hL2.n, hL2.v, hL2.p, hL2.es, hL2.cap, hL2.ok, hL2.lo⟩, hS.stay k2 k1⟩
  have CC : Hid (∀ W, RStp w W h → ∃ u, W.cell? ⟨a, 2, none⟩ = some u ∧ W.frozen? ⟨a, 2, none⟩ = false) := fun W h1 => by
    have hbx := t.bx (h1.grow2 g)
    exact ⟨_, cell_of_row W a 2 _ _ _ hbx, frozen_of_row W a 2 _ _ hbx⟩
  obtain ⟨c0, -, -, -⟩ := t.pl.cells
  clear t
  go_enter Tryz.func118, Tryz.ntmps118
  go_wp2_with fail
  refine PN.mono ?_
  rintro en w2 ⟨v, ac', e', rfl, hv, h1, h2, h3⟩
  have HF := Lib_hid (FIN.out w2 v ac' e' hv h1 h2 h3)
  obtain ⟨u, cu, zu⟩ := CC.out w2 h2
  clear FIN CC h1 h2 h3 PN c0
  go_wp2
  go_end0
  exact HF.out
set_option maxRecDepth 100000 in
set_option maxHeartbeats 1600000 in
theorem takeValue_any (t : TkS lo a g h A n c l r ac e bad w) : Calls Tryz.prog 132 #[.pointer (some ⟨a, 0, none⟩), .pointer (some ⟨g, 0, none⟩)] w (TakEnd 3 lo a g h A n c l r ac e bad w) := by
  have PN := pnum_any t.pl
  have FIN : Hid (∀ (W : World) (v ac' e' : Nat), v < 18446744073709551616 → PlS g h A n c l ac' e' bad W → RStp w W h → Took (numT l ac) e bad v ac' e' bad → TakEnd 3 lo a g h A n c l r ac e bad w (.returned (.tuple #[])) (W.setCell ⟨a, 5, none⟩ (.int .u64 (v : Int)))) := fun W v ac' e' hv h1 h2 h3 => by
    have hG := h2.grow2 g
    have hbx := t.bx hG
    have hL := t.lies
    have hS := t.sp
    have hf := t.few
    refine tk_fin (r' := { r with v := v }) t h1 hG (rowone _ hbx) rfl (fun k1 k2 => ?_) hf (Took.map (fun v => ({ r with v := v } : Rv).abs) (g := fun x : Nat × Nat => (({ r with v := x.1 } : Rv).abs, x.2)) (fun _ _ => rfl) h3)
    have hL2 := hL.stay k2 k1
    exact ⟨⟨hL2.kind, hL2.t, hL2.x, hL2.wn, hL2.n, (by show (v : Int) ≤ _; omega), hL2.p, hL2.es, hL2.cap, hL2.ok, hL2.lo⟩, hS.stay k2 k1⟩
  have CC : Hid (∀ W, RStp w W h → ∃ u, W.cell? ⟨a, 5, none⟩ = some u ∧ W.frozen? ⟨a, 5, none⟩ = false) := fun W h1 => by
    have hbx := t.bx (h1.grow2 g)
    exact ⟨_, cell_of_row W a 5 _ _ _ hbx, frozen_of_row W a 5 _ _ hbx⟩
  obtain ⟨c0, -, -, -⟩ := t.pl.cells
  clear t
  go_enter Tryz.func132, Tryz.ntmps132
  go_wp2_with fail
  refine PN.mono ?_
  rintro en w2 ⟨v, ac', e', rfl, hv, h1, h2, h3⟩
  have HF := Lib_hid (FIN.out w2 v ac' e' hv h1 h2 h3)
  obtain ⟨u, cu, zu⟩ := CC.out w2 h2
  clear FIN CC h1 h2 h3 PN c0
  go_wp2
  go_end0
  exact HF.out
set_option maxRecDepth 100000 in
set_option maxHeartbeats 1600000 in
theorem takeV_any (t : TkS lo a g h A n c l r ac e bad w) : Calls Tryz.prog 124 #[.pointer (some ⟨a, 0, none⟩), .pointer (some ⟨g, 0, none⟩)] w (TakEnd 2 lo a g h A n c l r ac e bad w) := by
  have PN := pver_any t.pl
  have FIN : Hid (∀ (W : World) (v1 v2 ac' e' : Nat), v1 < 18446744073709551616 ∧ v2 < 18446744073709551616 → PlS g h A n c l ac' e' bad W → Grow2 w W g h → Took (verT l ac) e bad (v1, v2) ac' e' bad → TakEnd 2 lo a g h A n c l r ac e bad w (.returned (.tuple #[])) ((W.setCell ⟨a, 3, none⟩ (.int .u64 (v1 : Int))).setCell ⟨a, 4, none⟩ (.int .u64 (v2 : Int)))) := fun W v1 v2 ac' e' hv h1 hG h3 => by
    have hbx := t.bx hG
    have hL := t.lies
    have hS := t.sp
    have hf := t.few
    have hr := rowone (i := 3) (.int .u64 (v1 : Int)) hbx
    have hT : r.abs.takeP l ac 2 = (verT l ac).map fun x => (({ r with w := x.1.1, n := x.1.2 } : Rv).abs, x.2) := by
      show ((numT l ac).bind fun x => (numT l x.2).map fun y => ({ r.abs with w := x.1, n := y.1 }, y.2)) = _
      unfold verT
      cases numT l ac with
      | none => rfl
      | some x =>
        simp only [Option.bind_some]
        cases numT l x.2 with
        | none => rfl
        | some y => rfl
    refine tk_fin (r' := { r with w := v1, n := v2 }) t h1 hG (hr.trans (rowone (i := 4) _ hr.row)) rfl (fun k1 k2 => ?_) hf ?_
    · have hL2 := hL.stay k2 k1
      exact ⟨⟨hL2.kind, hL2.t, hL2.x, (by show (v1 : Int) ≤ _; omega), (by show (v2 : Int) ≤ _; omega), hL2.v, hL2.p, hL2.es, hL2.cap, hL2.ok, hL2.lo⟩, hS.stay k2 k1⟩
    · rw [hT]
      exact Took.map (fun v : Nat × Nat => ({ r with w := v.1, n := v.2 } : Rv).abs) (fun _ _ => rfl) h3
  have CC : Hid (∀ W, Grow2 w W g h → ∃ u u2, W.cell? ⟨a, 3, none⟩ = some u ∧ W.frozen? ⟨a, 3, none⟩ = false ∧ W.cell? ⟨a, 4, none⟩ = some u2 ∧ W.frozen? ⟨a, 4, none⟩ = false) := fun W h1 => by
    have hbx := t.bx h1
    exact ⟨_, _, cell_of_row W a 3 _ _ _ hbx, frozen_of_row W a 3 _ _ hbx, cell_of_row W a 4 _ _ _ hbx, frozen_of_row W a 4 _ _ hbx⟩
  clear t
  go_enter Tryz.func124, Tryz.ntmps124
  go_wp2_with fail
  refine PN.mono ?_
  rintro en w2 ⟨v1, v2, ac', e', rfl, hv, h1, h2, h3⟩
  have HF := Lib_hid (FIN.out w2 v1 v2 ac' e' hv h1 h2 h3)
  obtain ⟨u, u2, cu, zu, cu2, zu2⟩ := CC.out w2 h2
  clear FIN CC h1 h2 h3 PN
  go_wp2
  go_end0
  exact HF.out
set_option maxRecDepth 100000 in
set_option maxHeartbeats 1600000 in
theorem takeP_any (t : TkS lo a g h A n c l r ac e bad w) : Calls Tryz.prog 140 #[.pointer (some ⟨a, 0, none⟩), .pointer (some ⟨g, 0, none⟩)] w (TakEnd 4 lo a g h A n c l r ac e bad w) := by
  have PN := ppred_any t.pl
  have FIN : Hid (∀ (W : World) (u : V) (ac' e' : Nat) (bad' : Bool), Lies W w.heap.size W.heap.size u → Shp 44 W w.heap.size u → PlS g h A n c l ac' e' bad' W → Grow2 w W g h → Took ((txtT l ac).bind fun x => (parseT x.1).map fun t => (t, x.2)) e bad u.abs ac' e' bad' →
      TakEnd 4 lo a g h A n c l r ac e bad w (.returned (.tuple #[])) ((((W.setCell ⟨a, 6, none⟩ (.int .i64 u.kind)).setCell ⟨a, 7, none⟩ (.int .u64 (u.a : Int))).setCell ⟨a, 8, none⟩ (.int .u64 (u.b : Int))).setCell ⟨a, 9, none⟩ u.sl)) := fun W u ac' e' bad' hu hus h1 hG h3 => by
    have hbx := t.bx hG
    have hL := t.lies
    have hS := t.sp
    have hf := t.few
    have hal := t.al
    have hhi := t.hi
    have hr6 := rowone (i := 6) (.int .i64 u.kind) hbx
    have hr7 := hr6.trans (rowone (i := 7) (.int .u64 (u.a : Int)) hr6.row)
    have hr8 := hr7.trans (rowone (i := 8) (.int .u64 (u.b : Int)) hr7.row)
    have hr9 := hr8.trans (rowone (i := 9) u.sl hr8.row)
    have hT : r.abs.takeP l ac 4 = ((txtT l ac).bind fun x => (parseT x.1).map fun t => (t, x.2)).map fun y => ({ r.abs with p := y.1 }, y.2) := by
      show ((txtT l ac).bind fun x => (parseT x.1).map fun t => ({ r.abs with p := t }, x.2)) = _
      cases txtT l ac with
      | none => rfl
      | some x =>
        simp only [Option.bind_some]
        cases parseT x.1 with
        | none => rfl
        | some y => rfl
    refine tk_fin (r' := { r with p := u }) t h1 hG hr9 rfl (fun k1 k2 => ?_) hf ?_
    · have hL2 := hL.stay k2 k1
      have hW : W.heap.size = ((((W.setCell ⟨a, 6, none⟩ (.int .i64 u.kind)).setCell ⟨a, 7, none⟩ (.int .u64 (u.a : Int))).setCell ⟨a, 8, none⟩ (.int .u64 (u.b : Int))).setCell ⟨a, 9, none⟩ u.sl).heap.size := hr9.size.symm
      refine ⟨⟨hL2.kind, hL2.t, hL2.x, hL2.wn, hL2.n, hL2.v, ((hu.keep fun p q1 q2 => World.cell?_of_block (hr9.other p.block (by omega))).more hhi (Nat.le_of_eq hW)), hL2.es, hL2.cap, hL2.ok, hL2.lo⟩, ?_⟩
      obtain ⟨l1, w0, s1, s2, s3, s4, s5, s6, s7⟩ := hS.stay k2 k1
      obtain ⟨-, -, -, -, -, -, -, y6, -⟩ := hS
      have hlt := own_lt y6
      exact ⟨w.heap.size, W, hhi, by rw [← hW]; exact hG.size, Nat.le_of_eq hW, hus, hus.keep fun k k1 k2 => hr9.other k (by omega), s6, fun k hk => .inl (hlt k hk)⟩
    · rw [hT]
      exact Took.map (fun u => ({ r.abs with p := u } : Rc)) (fun _ _ => rfl) h3
  have CC : Hid (∀ W, Grow2 w W g h → ∃ u u2 u3 u4, (W.cell? ⟨a, 6, none⟩ = some u ∧ W.frozen? ⟨a, 6, none⟩ = false ∧ W.cell? ⟨a, 7, none⟩ = some u2 ∧ W.frozen? ⟨a, 7, none⟩ = false) ∧ (W.cell? ⟨a, 8, none⟩ = some u3 ∧ W.frozen? ⟨a, 8, none⟩ = false ∧ W.cell? ⟨a, 9, none⟩ = some u4 ∧ W.frozen? ⟨a, 9, none⟩ = false)) := fun W h1 => by
    have hbx := t.bx h1
    exact ⟨_, _, _, _, ⟨cell_of_row W a 6 _ _ _ hbx, frozen_of_row W a 6 _ _ hbx, cell_of_row W a 7 _ _ _ hbx, frozen_of_row W a 7 _ _ hbx⟩, ⟨cell_of_row W a 8 _ _ _ hbx, frozen_of_row W a 8 _ _ hbx, cell_of_row W a 9 _ _ _ hbx, frozen_of_row W a 9 _ _ hbx⟩⟩
  clear t
  go_enter Tryz.func140, Tryz.ntmps140
  go_wp2_with fail
  refine PN.mono ?_
  rintro en w2 ⟨u, ac', e', bad', rfl, hu, hus, h1, h2, h3⟩
  have HF := Lib_hid (FIN.out w2 u ac' e' bad' hu hus h1 h2 h3)
  obtain ⟨u1, u2, u3, u4, ⟨cu, zu, cu2, zu2⟩, ⟨cu3, zu3, cu4, zu4⟩⟩ := CC.out w2 h2
  clear FIN CC h1 h2 h3 PN hu hus
  simp only [V.val, V.sl] at HF ⊢
  generalize u.addr = uA at *
  generalize u.parts.length = un at *
  generalize u.cap = uc at *
  generalize u.kind = uk at *
  generalize (u.a : Int) = ua at *
  generalize (u.b : Int) = ub at *
  go_wp2
  go_end0
  exact HF.out
set_option maxRecDepth 100000 in
set_option maxHeartbeats 1600000 in
theorem takeEntries_any (t : TkS lo a g h A n c l r ac e bad w) : Calls Tryz.prog 150 #[.pointer (some ⟨a, 0, none⟩), .pointer (some ⟨g, 0, none⟩)] w (TakEnd 5 lo a g h A n c l r ac e bad w) := by
  have PN := pents_any t.pl
  have FIN : Hid (∀ (W : World) (A' : Option Addr) (n' c' : Nat) (es' : List En) (ac' e' : Nat) (bad' : Bool), n' = es'.length → (∀ x ∈ es', x.ok) → 4 * es'.length ≤ l.length + 4 → W.ownsRow w.heap.size 67 4 (.slice A' n' c') n' (enCells es') → PlS g h A n c l ac' e' bad' W → Grow2 w W g h → Took ((numT l ac).bind fun x => entsT l x.1 x.2) e bad es' ac' e' bad' →
      TakEnd 5 lo a g h A n c l r ac e bad w (.returned (.tuple #[])) (W.setCell ⟨a, 10, none⟩ (.slice A' n' c'))) := fun W A' n' c' es' ac' e' bad' hn hok hfew hown h1 hG h3 => by
    subst hn
    have hbx := t.bx hG
    have hL := t.lies
    have hS := t.sp
    have hal := t.al
    have hhi := t.hi
    have hr := rowone (i := 10) (.slice A' es'.length c') hbx
    have hoW := own_keep hown (w' := W.setCell ⟨a, 10, none⟩ (.slice A' es'.length c')) fun k hk => hr.other k (by have := own_ge hown k hk; omega)
    have hOn := own_base (b' := lo) hoW (fun k hk => by have := own_ge hown k hk; omega)
    have hlo : ∀ ad, A' = some ad → 0 < es'.length → lo ≤ ad.block := fun ad e hn => by
      obtain ⟨gg, cap, hv, hgg, hlt⟩ := hown.form hn
      have hA : A' = some ⟨gg, 0, none⟩ := by injection hv
      rw [hA] at e
      injection e with e
      subst e
      have := own_ge hown gg (by rw [hA]; rfl)
      show lo ≤ gg
      omega
    have hT : r.abs.takeP l ac 5 = ((numT l ac).bind fun x => entsT l x.1 x.2).map fun y => ({ r.abs with es := y.1 }, y.2) := by
      show ((numT l ac).bind fun x => (entsT l x.1 x.2).map fun y => ({ r.abs with es := y.1 }, y.2)) = _
      cases numT l ac with
      | none => rfl
      | some x => rfl
    refine tk_fin (r' := { r with A := A', c := c', es := es' }) t h1 hG hr rfl (fun k1 k2 => ?_) hfew ?_
    · have hL2 := hL.stay k2 k1
      refine ⟨⟨hL2.kind, hL2.t, hL2.x, hL2.wn, hL2.n, hL2.v, hL2.p, Rd.own hoW, own_cap hown, hok, hlo⟩, ?_⟩
      have hge := own_ge hown
      obtain ⟨l1, w0, s1, s2, s3, s4, s5, s6, s7⟩ := hS
      refine ⟨l1, w0, s1, by rw [hr.size]; have := hG.size; omega, by rw [hr.size]; have := hG.size; omega, s4, s5.keep fun k j1 j2 => k1 k (by omega) j2, hOn, fun k hk => .inr (by have := hge k hk; omega)⟩
    · rw [hT]
      exact Took.map (fun u => ({ r.abs with es := u } : Rc)) (fun _ _ => rfl) h3
  have CC : Hid (∀ W, Grow2 w W g h → ∃ u, W.cell? ⟨a, 10, none⟩ = some u ∧ W.frozen? ⟨a, 10, none⟩ = false) := fun W h1 => by
    have hbx := t.bx h1
    exact ⟨_, cell_of_row W a 10 _ _ _ hbx, frozen_of_row W a 10 _ _ hbx⟩
  clear t
  go_enter Tryz.func150, Tryz.ntmps150
  go_wp2_with fail
  refine PN.mono ?_
  rintro en w2 ⟨A', c', es', ac', e', bad', rfl, hok, hfew, hown, h1, h2, h3⟩
  have HF := Lib_hid (FIN.out w2 A' _ c' es' ac' e' bad' rfl hok hfew hown h1 h2 h3)
  obtain ⟨u, cu, zu⟩ := CC.out w2 h2
  clear FIN CC h1 h2 h3 PN hok hown
  generalize es'.length = n' at *
  go_wp2
  go_end0
  exact HF.out
theorem take6_any (i : Nat) (hi6 : i < 6) (t : TkS lo a g h A n c l r ac e bad w) : Calls Tryz.prog (mtakeF i) #[.pointer (some ⟨a, 0, none⟩), .pointer (some ⟨g, 0, none⟩)] w (TakEnd i lo a g h A n c l r ac e bad w) := by
  have : i = 0 ∨ i = 1 ∨ i = 2 ∨ i = 3 ∨ i = 4 ∨ i = 5 := by omega
  rcases this with rfl | rfl | rfl | rfl | rfl | rfl
  · exact takeT_any t
  · exact takeX_any t
  · exact takeV_any t
  · exact takeValue_any t
  · exact takeP_any t
  · exact takeEntries_any t
set_option maxRecDepth 100000 in
theorem call_take {i : Nat} (hi6 : i < 6) : ∀ (args : Array Value) (wx : World), (callFunc (mtakeF i) args).run Tryz.prog wx = .ok (.enter (mtakeF i) args) wx := by
  have : i = 0 ∨ i = 1 ∨ i = 2 ∨ i = 3 ∨ i = 4 ∨ i = 5 := by omega
  rcases this with rfl | rfl | rfl | rfl | rfl | rfl <;> exact fun args wx => by kernel_rfl
end
end Go.Proofs.YtdmoknnnlfkfoaaGreatDoor
