/-
  Layer 13: where an edge stands is told anew (stands), for the rows of the edges from a node, and to it.
-/
import Derived.Test.YtopecdkkmbpnbaaGgh
namespace Go.Proofs.Ytopecdkkmbpnbaa
open Go Go.RowKit Go.Maps
set_option linter.unusedVariables false

/-- A graph's memory, whatever it says. -/
structure GmM (w : World) (p N m go gi : Nat) (So Si : Nat → Sl2) (R I : Nat → List Ed) (f : Ed → Option Pl) (tg : Nat → Nat) (n : Nat) : Prop where
  box : w.heap[p]? = some (.cells #[.int .i64 (N : Int), .map (some m), .slice (some ⟨go, 0, none⟩) N N, .slice (some ⟨gi, 0, none⟩) N N] 80 (0, 0))
  tgp : tg p = 1
  tgm : tg m = 2
  map : MapF w m f n
  out : Half w N go So R tg 3
  inn : Half w N gi Si I tg 4
  al : ∀ k, w.heap.size ≤ k → tg k = 0

section
variable {w w1 w' : World} {p N m go gi n : Nat} {So Si S' : Nat → Sl2} {R I R' : Nat → List Ed} {f f' : Ed → Option Pl} {tg tg1 : Nat → Nat} {L : List Ed}
theorem GmX.mem (h : GmX w p N m go gi So Si R I f tg L) : GmM w p N m go gi So Si R I f tg L.length := ⟨h.box, h.tgp, h.tgm, h.map, h.out, h.inn, h.al⟩
theorem GmM.gm (h : GmM w p N m go gi So Si R I f tg n) (hn : n = L.length) (hp : GrG N L R I f) (ho : ∀ e ∈ L, EdOk e) : GmX w p N m go gi So Si R I f tg L := by
  subst hn
  exact ⟨h.box, h.tgp, h.tgm, h.map, h.out, h.inn, hp, ho, h.al⟩
theorem GmM.plt (h : GmM w p N m go gi So Si R I f tg n) : p < w.heap.size := (Array.getElem?_eq_some_iff.1 h.box).1
theorem GmM.c1 (h : GmM w p N m go gi So Si R I f tg n) : w.cell? ⟨p, 1, none⟩ = some (.map (some m)) := cell_of_row w p 1 _ _ _ h.box
theorem GmM.c2 (h : GmM w p N m go gi So Si R I f tg n) : w.cell? ⟨p, 2, none⟩ = some (.slice (some ⟨go, 0, none⟩) N N) := cell_of_row w p 2 _ _ _ h.box
theorem GmM.c3 (h : GmM w p N m go gi So Si R I f tg n) : w.cell? ⟨p, 3, none⟩ = some (.slice (some ⟨gi, 0, none⟩) N N) := cell_of_row w p 3 _ _ _ h.box
theorem GmM.keep (h : GmM w p N m go gi So Si R I f tg n) (hs : w.heap.size ≤ w'.heap.size) (hk : ∀ k, k < w.heap.size → tg k ≠ 0 → w'.heap[k]? = w.heap[k]?) : GmM w' p N m go gi So Si R I f tg n where
  box := (hk p h.plt (by rw [h.tgp]; decide)).trans h.box
  tgp := h.tgp
  tgm := h.tgm
  map := h.map.keep (hk m h.map.lt (by rw [h.tgm]; decide))
  out := h.out.turn (by decide) (fun _ _ => rfl) fun k hk1 _ h3 => hk k hk1 (by omega)
  inn := h.inn.turn (by decide) (fun _ _ => rfl) fun k hk1 _ h3 => hk k hk1 (by omega)
  al k hk1 := h.al k (by omega)
/-- A step on the first half, on the second one, on the map. -/
theorem GmM.half1 (h : GmM w p N m go gi So Si R I f tg n) (h1 : HalfEnd w w1 N go S' R' tg tg1 3) : GmM w1 p N m go gi S' Si R' I f tg1 n := by
  have hplt := h.plt
  have hmlt := h.map.lt
  have hp := h1.turns.block p h.plt (fun hc => by have := h.tgp; have := hc.2; omega)
  have hm := h1.turns.block m h.map.lt (fun hc => by have := h.tgm; have := hc.2; omega)
  refine ⟨hp.trans h.box, (h1.old p h.plt).trans h.tgp, (h1.old m h.map.lt).trans h.tgm, h.map.keep hm, h1.half, h.inn.turn (by decide) h1.old fun k hk h2 h3 => h1.turns.block k hk fun hc => ?_, h1.al⟩
  have := hc.1
  omega
theorem GmM.half2 (h : GmM w p N m go gi So Si R I f tg n) (h1 : HalfEnd w w1 N gi S' R' tg tg1 4) : GmM w1 p N m go gi So S' R R' f tg1 n := by
  have hplt := h.plt
  have hmlt := h.map.lt
  have hp := h1.turns.block p h.plt (fun hc => by have := h.tgp; have := hc.2; omega)
  have hm := h1.turns.block m h.map.lt (fun hc => by have := h.tgm; have := hc.2; omega)
  refine ⟨hp.trans h.box, (h1.old p h.plt).trans h.tgp, (h1.old m h.map.lt).trans h.tgm, h.map.keep hm, h.out.turn (by decide) h1.old fun k hk h2 h3 => h1.turns.block k hk fun hc => ?_, h1.half, h1.al⟩
  have := hc.1
  omega
theorem GmM.mapped (h : GmM w p N m go gi So Si R I f tg n) {n' : Nat} (hm : MapF w' m f' n') (hg : w.grownBy w' (some m)) : GmM w' p N m go gi So Si R I f' tg n' := by
  have hk : ∀ k, k < w.heap.size → tg k ≠ 2 → w'.heap[k]? = w.heap[k]? := fun k hk h3 => hg.block k hk fun e => by
    have : k = m := by injection e
    subst this
    exact h3 h.tgm
  exact ⟨(hk p h.plt (by rw [h.tgp]; decide)).trans h.box, h.tgp, h.tgm, hm, h.out.turn (by decide) (fun _ _ => rfl) fun k hk1 _ h3 => hk k hk1 (by omega), h.inn.turn (by decide) (fun _ _ => rfl) fun k hk1 _ h3 => hk k hk1 (by omega), fun k hk1 => h.al k (by have := hg.size; omega)⟩
theorem HalfEnd.zero {c : Nat} (h : HalfEnd w w1 N go S' R' tg tg1 c) : ∀ k, k < w.heap.size → tg k = 0 → w1.heap[k]? = w.heap[k]? := fun k hk h0 => h.turns.block k hk fun hc => by have := hc.2; omega
end

theorem pclo0_any (w : World) (b x : Nat) (a v : Int) (h0 : w.cell? ⟨x, 0, none⟩ = some (.int .i64 a)) (h1 : w.cell? ⟨b, 0, none⟩ = some (.int .i64 v)) (hz : w.frozen? ⟨b, 0, none⟩ = false) :
    Calls Try.prog 46 #[.pointer (some ⟨b, 0, none⟩), .pointer (some ⟨x, 0, none⟩)] w fun r w' => r = .returned (.tuple #[]) ∧ w.setCell ⟨b, 0, none⟩ (.int .i64 a) = w' := by
  go_enter Try.func46, Try.ntmps46
  go_wp2
  go_end0
  exact ⟨rfl, rfl⟩

theorem pclo1_any (w : World) (b x : Nat) (a v : Int) (h0 : w.cell? ⟨x, 1, none⟩ = some (.int .i64 a)) (h1 : w.cell? ⟨b, 1, none⟩ = some (.int .i64 v)) (hz : w.frozen? ⟨b, 1, none⟩ = false) :
    Calls Try.prog 47 #[.pointer (some ⟨b, 0, none⟩), .pointer (some ⟨x, 0, none⟩)] w fun r w' => r = .returned (.tuple #[]) ∧ w.setCell ⟨b, 1, none⟩ (.int .i64 a) = w' := by
  go_enter Try.func47, Try.ntmps47
  go_wp2
  go_end0
  exact ⟨rfl, rfl⟩


/-- How stands ends: the map has the edge's place otherwise; else new blocks alone. -/
structure StEnd (w w' : World) (p N m go gi : Nat) (So Si : Nat → Sl2) (R I : Nat → List Ed) (f' : Ed → Option Pl) (tg : Nat → Nat) (n : Nat) : Prop where
  gm : GmM w' p N m go gi So Si R I f' tg n
  turns : Turns (fun k => k = m) w w'

set_option maxRecDepth 100000 in
set_option maxHeartbeats 1600000 in
theorem pstands0_any {w : World} {p N m go gi n x a : Nat} {So Si : Nat → Sl2} {R I : Nat → List Ed} {f : Ed → Option Pl} {tg : Nat → Nat} (h : GmM w p N m go gi So Si R I f tg n) {z : Ed} (hz : EdOk z) (hs : (f z).isSome = true) (hn : n ≤ 1000000000)
    (hx : w.cell? ⟨x, 0, none⟩ = some (.int .i64 (a : Int))) (hxt : tg x = 0) :
    Calls Try.prog 44 #[.pointer (some ⟨p, 0, none⟩), eV z, .func (.func 46) #[] #[.pointer (some ⟨x, 0, none⟩)]] w fun r w' => r = .returned (.tuple #[]) ∧ StEnd w w' p N m go gi So Si R I (upF f z (some (a, ((f z).getD (0, 0)).2))) tg n := by
  have hxl : x < w.heap.size := World.block_lt_of_cell? w ⟨x, 0, none⟩ hx
  have hb0 := below_new w (.cells #[.int .i64 z.1, .int .i64 z.2.1, .int .i64 z.2.2] 39)
  have hbx := heap_alloc_new w (.cells #[.int .i64 z.1, .int .i64 z.2.1, .int .i64 z.2.2] 39)
  have hsz : (w.alloc (.cells #[.int .i64 z.1, .int .i64 z.2.1, .int .i64 z.2.2] 39)).heap.size = w.heap.size + 1 := by simp
  have hpl := h.plt
  have hml := h.map.lt
  have h2 : GmM (w.alloc (.cells #[.int .i64 z.1, .int .i64 z.2.1, .int .i64 z.2.2] 39)) p N m go gi So Si R I f tg n := h.keep (by simp) fun k hk _ => hb0.block k hk
  have c1 := h2.c1
  have LK : Hid (∀ V : World, V.heap[m]? = (w.alloc (.cells #[.int .i64 z.1, .int .i64 z.2.1, .int .i64 z.2.2] 39)).heap[m]? → (Instr.lookup 73 (.map (some m)) (.agg #[.int .i64 z.1, .int .i64 z.2.1, .int .i64 z.2.2]) false).run Try.prog V = .ok (.agg #[.int .i64 (((f z).getD (0, 0)).1 : Int), .int .i64 (((f z).getD (0, 0)).2 : Int)]) V) := fun V hV => (h2.map.keep hV).look1 hz
  have e0 : (w.alloc (.cells #[.int .i64 z.1, .int .i64 z.2.1, .int .i64 z.2.2] 39)).cell? ⟨w.heap.size, 0, none⟩ = some (.int .i64 z.1) := cell_of_row _ w.heap.size 0 _ _ _ hbx
  have e1 : (w.alloc (.cells #[.int .i64 z.1, .int .i64 z.2.1, .int .i64 z.2.2] 39)).cell? ⟨w.heap.size, 1, none⟩ = some (.int .i64 z.2.1) := cell_of_row _ w.heap.size 1 _ _ _ hbx
  have e2 : (w.alloc (.cells #[.int .i64 z.1, .int .i64 z.2.1, .int .i64 z.2.2] 39)).cell? ⟨w.heap.size, 2, none⟩ = some (.int .i64 z.2.2) := cell_of_row _ w.heap.size 2 _ _ _ hbx
  have x0 := (hb0.cell (p := ⟨x, 0, none⟩) hxl).trans hx
  have ST : Hid (∀ V : World, GmM V p N m go gi So Si R I f tg n → ∃ w7, (Instr.mapUpdate 73 (.map (some m)) (.agg #[.int .i64 z.1, .int .i64 z.2.1, .int .i64 z.2.2]) (plV (a, ((f z).getD (0, 0)).2))).run Try.prog V = .ok () w7 ∧ GmM w7 p N m go gi So Si R I (upF f z (some (a, ((f z).getD (0, 0)).2))) tg n ∧ V.grownBy w7 (some m)) := fun V hV => by
    obtain ⟨w7, r1, r2, r3⟩ := hV.map.store hz (a, ((f z).getD (0, 0)).2) hn
    rw [hs, if_pos rfl, Nat.add_zero] at r2
    exact ⟨w7, r1, hV.mapped r2 r3, r3⟩
  have HB := Lib_hid (And.intro hb0 h2)
  clear h h2 hb0 hbx hz hs hn hx hxt
  unfold eV
  unfold plV at ST
  simp only at ST
  generalize hp1 : (((f z).getD (0, 0)).1 : Int) = p1 at *
  generalize hp2 : (((f z).getD (0, 0)).2 : Int) = p2 at *
  have HP := Lib_hid (And.intro hp1 hp2)
  clear hp1 hp2
  generalize z.1 = a1 at *
  generalize z.2.1 = a2 at *
  generalize z.2.2 = a3 at *
  go_enter Try.func44, Try.ntmps44
  go_upto_region 1 with (fail)
  have hpl2 : p < (w.alloc (.cells #[.int .i64 a1, .int .i64 a2, .int .i64 a3] 39)).heap.size := by omega
  have hml2 : m < (w.alloc (.cells #[.int .i64 a1, .int .i64 a2, .int .i64 a3] 39)).heap.size := by omega
  have hgl2 : w.heap.size < (w.alloc (.cells #[.int .i64 a1, .int .i64 a2, .int .i64 a3] 39)).heap.size := by omega
  have hxl2 : x < (w.alloc (.cells #[.int .i64 a1, .int .i64 a2, .int .i64 a3] 39)).heap.size := by omega
  clear hsz
  generalize w.alloc (.cells #[.int .i64 a1, .int .i64 a2, .int .i64 a3] 39) = W at *
  have KS : Hid (∀ V, Below W.heap.size W V → V.cell? ⟨p, 1, none⟩ = some (.map (some m)) ∧ V.cell? ⟨w.heap.size, 0, none⟩ = some (.int .i64 a1) ∧ V.cell? ⟨w.heap.size, 1, none⟩ = some (.int .i64 a2) ∧ V.cell? ⟨w.heap.size, 2, none⟩ = some (.int .i64 a3) ∧ (Instr.lookup 73 (.map (some m)) (.agg #[.int .i64 a1, .int .i64 a2, .int .i64 a3]) false).run Try.prog V = .ok (.agg #[.int .i64 p1, .int .i64 p2]) V) := fun V hV =>
    ⟨(hV.cell (p := ⟨p, 1, none⟩) hpl2).trans c1, (hV.cell (p := ⟨w.heap.size, 0, none⟩) hgl2).trans e0, (hV.cell (p := ⟨w.heap.size, 1, none⟩) hgl2).trans e1, (hV.cell (p := ⟨w.heap.size, 2, none⟩) hgl2).trans e2, LK.out V (hV.block m hml2)⟩
  have b0 := below_drew1 W
  have KX : Hid (∀ V, Below W.heap.size W V → V.cell? ⟨x, 0, none⟩ = some (.int .i64 (a : Int))) := fun V hV => (hV.cell (p := ⟨x, 0, none⟩) hxl2).trans x0
  clear x0
  go_region_held3 (fun V => V.cell? ⟨p, 1, none⟩ = some (.map (some m)) ∧ V.cell? ⟨w.heap.size, 0, none⟩ = some (.int .i64 a1) ∧ V.cell? ⟨w.heap.size, 1, none⟩ = some (.int .i64 a2) ∧ V.cell? ⟨w.heap.size, 2, none⟩ = some (.int .i64 a3) ∧ (Instr.lookup 73 (.map (some m)) (.agg #[.int .i64 a1, .int .i64 a2, .int .i64 a3]) false).run Try.prog V = .ok (.agg #[.int .i64 p1, .int .i64 p2]) V)
    (first | exact KS.out _ b0 | exact KS.out _ (b0.alloc (Nat.le_refl _) _))
    (fail)
  all_goals
    have hy := heap_alloc_new W (.cells #[.int .i64 p1, .int .i64 p2] 86)
    have bN : Below W.heap.size W (W.alloc (.cells #[.int .i64 p1, .int .i64 p2] 86)) := below_new W _
    have sN : (W.alloc (.cells #[.int .i64 p1, .int .i64 p2] 86)).heap.size = W.heap.size + 1 := by simp
    generalize W.alloc (.cells #[.int .i64 p1, .int .i64 p2] 86) = W2 at *
    have HC := Lib_hid (pclo0_any W2.drew W.heap.size x (a : Int) p1 (KX.out _ bN.drew) (cell_of_row _ _ 0 _ _ _ hy) (frozen_of_row _ _ 0 _ _ hy))
    have hy3 := heap_setCell_same W2 W.heap.size 0 _ _ (.int .i64 (a : Int)) hy
    have bN3 : Below W.heap.size W (W2.setCell ⟨W.heap.size, 0, none⟩ (.int .i64 (a : Int))) := bN.setCell (p := ⟨W.heap.size, 0, none⟩) (Nat.le_refl _) _
    have HN := Lib_hid (And.intro hy3 bN3)
    clear hy hy3 bN bN3 LK c1 e0 e1 e2 b0 KX
    go_wp2_with fail
    refine HC.out.mono ?_
    rintro r w3 ⟨rfl, rfl⟩
    have hV : W2.drew.setCell ⟨W.heap.size, 0, none⟩ (.int .i64 (a : Int)) = (W2.setCell ⟨W.heap.size, 0, none⟩ (.int .i64 (a : Int))).drew := rfl
    rw [hV]
    generalize W2.setCell ⟨W.heap.size, 0, none⟩ (.int .i64 (a : Int)) = V3 at *
    clear HC hV sN
    go_upto_region 3 with (fail)
    obtain ⟨k1, k2, k3, k4, -⟩ := KS.out V3 HN.out.2
    have y0 : V3.cell? ⟨W.heap.size, 0, none⟩ = some (.int .i64 (a : Int)) := cell_of_row _ _ 0 _ _ _ HN.out.1
    have y1 : V3.cell? ⟨W.heap.size, 1, none⟩ = some (.int .i64 p2) := cell_of_row _ _ 1 _ _ _ HN.out.1
    obtain ⟨w7, r1, r2, r3⟩ := ST.out V3.drew.drew (HB.out.2.keep HN.out.2.size fun k hk _ => HN.out.2.block k hk)
    have r1' : (Instr.mapUpdate 73 (.map (some m)) (.agg #[.int .i64 a1, .int .i64 a2, .int .i64 a3]) (.agg #[.int .i64 (a : Int), .int .i64 p2])).run Try.prog V3.drew.drew = .ok () w7 := r1
    have HF : Hid (StEnd w w7 p N m go gi So Si R I (upF f z (some (a, ((f z).getD (0, 0)).2))) tg n) := ⟨r2, (Turns.of_below (HB.out.1.trans (HN.out.2.mono HB.out.1.size))).trans (Turns.grown (S := fun k => k = m) ⟨r3.os, r3.tape, r3.output, r3.size, r3.block⟩ fun k e => .inl (by injection e with e; exact e.symm)) fun k e => .inl e⟩
    clear r1 r2 r3 KS HN ST HB
    go_region
    all_goals
      go_wp2
      go_end0
      exact ⟨rfl, HF.out⟩

set_option maxRecDepth 100000 in
set_option maxHeartbeats 1600000 in
theorem pstands1_any {w : World} {p N m go gi n x a : Nat} {So Si : Nat → Sl2} {R I : Nat → List Ed} {f : Ed → Option Pl} {tg : Nat → Nat} (h : GmM w p N m go gi So Si R I f tg n) {z : Ed} (hz : EdOk z) (hs : (f z).isSome = true) (hn : n ≤ 1000000000)
    (hx : w.cell? ⟨x, 1, none⟩ = some (.int .i64 (a : Int))) (hxt : tg x = 0) :
    Calls Try.prog 44 #[.pointer (some ⟨p, 0, none⟩), eV z, .func (.func 47) #[] #[.pointer (some ⟨x, 0, none⟩)]] w fun r w' => r = .returned (.tuple #[]) ∧ StEnd w w' p N m go gi So Si R I (upF f z (some (((f z).getD (0, 0)).1, a))) tg n := by
  have hxl : x < w.heap.size := World.block_lt_of_cell? w ⟨x, 1, none⟩ hx
  have hb0 := below_new w (.cells #[.int .i64 z.1, .int .i64 z.2.1, .int .i64 z.2.2] 39)
  have hbx := heap_alloc_new w (.cells #[.int .i64 z.1, .int .i64 z.2.1, .int .i64 z.2.2] 39)
  have hsz : (w.alloc (.cells #[.int .i64 z.1, .int .i64 z.2.1, .int .i64 z.2.2] 39)).heap.size = w.heap.size + 1 := by simp
  have hpl := h.plt
  have hml := h.map.lt
  have h2 : GmM (w.alloc (.cells #[.int .i64 z.1, .int .i64 z.2.1, .int .i64 z.2.2] 39)) p N m go gi So Si R I f tg n := h.keep (by simp) fun k hk _ => hb0.block k hk
  have c1 := h2.c1
  have LK : Hid (∀ V : World, V.heap[m]? = (w.alloc (.cells #[.int .i64 z.1, .int .i64 z.2.1, .int .i64 z.2.2] 39)).heap[m]? → (Instr.lookup 73 (.map (some m)) (.agg #[.int .i64 z.1, .int .i64 z.2.1, .int .i64 z.2.2]) false).run Try.prog V = .ok (.agg #[.int .i64 (((f z).getD (0, 0)).1 : Int), .int .i64 (((f z).getD (0, 0)).2 : Int)]) V) := fun V hV => (h2.map.keep hV).look1 hz
  have e0 : (w.alloc (.cells #[.int .i64 z.1, .int .i64 z.2.1, .int .i64 z.2.2] 39)).cell? ⟨w.heap.size, 0, none⟩ = some (.int .i64 z.1) := cell_of_row _ w.heap.size 0 _ _ _ hbx
  have e1 : (w.alloc (.cells #[.int .i64 z.1, .int .i64 z.2.1, .int .i64 z.2.2] 39)).cell? ⟨w.heap.size, 1, none⟩ = some (.int .i64 z.2.1) := cell_of_row _ w.heap.size 1 _ _ _ hbx
  have e2 : (w.alloc (.cells #[.int .i64 z.1, .int .i64 z.2.1, .int .i64 z.2.2] 39)).cell? ⟨w.heap.size, 2, none⟩ = some (.int .i64 z.2.2) := cell_of_row _ w.heap.size 2 _ _ _ hbx
  have x0 := (hb0.cell (p := ⟨x, 1, none⟩) hxl).trans hx
  have ST : Hid (∀ V : World, GmM V p N m go gi So Si R I f tg n → ∃ w7, (Instr.mapUpdate 73 (.map (some m)) (.agg #[.int .i64 z.1, .int .i64 z.2.1, .int .i64 z.2.2]) (plV (((f z).getD (0, 0)).1, a))).run Try.prog V = .ok () w7 ∧ GmM w7 p N m go gi So Si R I (upF f z (some (((f z).getD (0, 0)).1, a))) tg n ∧ V.grownBy w7 (some m)) := fun V hV => by
    obtain ⟨w7, r1, r2, r3⟩ := hV.map.store hz (((f z).getD (0, 0)).1, a) hn
    rw [hs, if_pos rfl, Nat.add_zero] at r2
    exact ⟨w7, r1, hV.mapped r2 r3, r3⟩
  have HB := Lib_hid (And.intro hb0 h2)
  clear h h2 hb0 hbx hz hs hn hx hxt
  unfold eV
  unfold plV at ST
  simp only at ST
  generalize hp1 : (((f z).getD (0, 0)).1 : Int) = p1 at *
  generalize hp2 : (((f z).getD (0, 0)).2 : Int) = p2 at *
  have HP := Lib_hid (And.intro hp1 hp2)
  clear hp1 hp2
  generalize z.1 = a1 at *
  generalize z.2.1 = a2 at *
  generalize z.2.2 = a3 at *
  go_enter Try.func44, Try.ntmps44
  go_upto_region 1 with (fail)
  have hpl2 : p < (w.alloc (.cells #[.int .i64 a1, .int .i64 a2, .int .i64 a3] 39)).heap.size := by omega
  have hml2 : m < (w.alloc (.cells #[.int .i64 a1, .int .i64 a2, .int .i64 a3] 39)).heap.size := by omega
  have hgl2 : w.heap.size < (w.alloc (.cells #[.int .i64 a1, .int .i64 a2, .int .i64 a3] 39)).heap.size := by omega
  have hxl2 : x < (w.alloc (.cells #[.int .i64 a1, .int .i64 a2, .int .i64 a3] 39)).heap.size := by omega
  clear hsz
  generalize w.alloc (.cells #[.int .i64 a1, .int .i64 a2, .int .i64 a3] 39) = W at *
  have KS : Hid (∀ V, Below W.heap.size W V → V.cell? ⟨p, 1, none⟩ = some (.map (some m)) ∧ V.cell? ⟨w.heap.size, 0, none⟩ = some (.int .i64 a1) ∧ V.cell? ⟨w.heap.size, 1, none⟩ = some (.int .i64 a2) ∧ V.cell? ⟨w.heap.size, 2, none⟩ = some (.int .i64 a3) ∧ (Instr.lookup 73 (.map (some m)) (.agg #[.int .i64 a1, .int .i64 a2, .int .i64 a3]) false).run Try.prog V = .ok (.agg #[.int .i64 p1, .int .i64 p2]) V) := fun V hV =>
    ⟨(hV.cell (p := ⟨p, 1, none⟩) hpl2).trans c1, (hV.cell (p := ⟨w.heap.size, 0, none⟩) hgl2).trans e0, (hV.cell (p := ⟨w.heap.size, 1, none⟩) hgl2).trans e1, (hV.cell (p := ⟨w.heap.size, 2, none⟩) hgl2).trans e2, LK.out V (hV.block m hml2)⟩
  have b0 := below_drew1 W
  have KX : Hid (∀ V, Below W.heap.size W V → V.cell? ⟨x, 1, none⟩ = some (.int .i64 (a : Int))) := fun V hV => (hV.cell (p := ⟨x, 1, none⟩) hxl2).trans x0
  clear x0
  go_region_held3 (fun V => V.cell? ⟨p, 1, none⟩ = some (.map (some m)) ∧ V.cell? ⟨w.heap.size, 0, none⟩ = some (.int .i64 a1) ∧ V.cell? ⟨w.heap.size, 1, none⟩ = some (.int .i64 a2) ∧ V.cell? ⟨w.heap.size, 2, none⟩ = some (.int .i64 a3) ∧ (Instr.lookup 73 (.map (some m)) (.agg #[.int .i64 a1, .int .i64 a2, .int .i64 a3]) false).run Try.prog V = .ok (.agg #[.int .i64 p1, .int .i64 p2]) V)
    (first | exact KS.out _ b0 | exact KS.out _ (b0.alloc (Nat.le_refl _) _))
    (fail)
  all_goals
    have hy := heap_alloc_new W (.cells #[.int .i64 p1, .int .i64 p2] 86)
    have bN : Below W.heap.size W (W.alloc (.cells #[.int .i64 p1, .int .i64 p2] 86)) := below_new W _
    have sN : (W.alloc (.cells #[.int .i64 p1, .int .i64 p2] 86)).heap.size = W.heap.size + 1 := by simp
    generalize W.alloc (.cells #[.int .i64 p1, .int .i64 p2] 86) = W2 at *
    have HC := Lib_hid (pclo1_any W2.drew W.heap.size x (a : Int) p2 (KX.out _ bN.drew) (cell_of_row _ _ 1 _ _ _ hy) (frozen_of_row _ _ 1 _ _ hy))
    have hy3 := heap_setCell_same W2 W.heap.size 1 _ _ (.int .i64 (a : Int)) hy
    have bN3 : Below W.heap.size W (W2.setCell ⟨W.heap.size, 1, none⟩ (.int .i64 (a : Int))) := bN.setCell (p := ⟨W.heap.size, 1, none⟩) (Nat.le_refl _) _
    have HN := Lib_hid (And.intro hy3 bN3)
    clear hy hy3 bN bN3 LK c1 e0 e1 e2 b0 KX
    go_wp2_with fail
    refine HC.out.mono ?_
    rintro r w3 ⟨rfl, rfl⟩
    have hV : W2.drew.setCell ⟨W.heap.size, 1, none⟩ (.int .i64 (a : Int)) = (W2.setCell ⟨W.heap.size, 1, none⟩ (.int .i64 (a : Int))).drew := rfl
    rw [hV]
    generalize W2.setCell ⟨W.heap.size, 1, none⟩ (.int .i64 (a : Int)) = V3 at *
    clear HC hV sN
    go_upto_region 3 with (fail)
    obtain ⟨k1, k2, k3, k4, -⟩ := KS.out V3 HN.out.2
    have y0 : V3.cell? ⟨W.heap.size, 0, none⟩ = some (.int .i64 p1) := cell_of_row _ _ 0 _ _ _ HN.out.1
    have y1 : V3.cell? ⟨W.heap.size, 1, none⟩ = some (.int .i64 (a : Int)) := cell_of_row _ _ 1 _ _ _ HN.out.1
    obtain ⟨w7, r1, r2, r3⟩ := ST.out V3.drew.drew (HB.out.2.keep HN.out.2.size fun k hk _ => HN.out.2.block k hk)
    have r1' : (Instr.mapUpdate 73 (.map (some m)) (.agg #[.int .i64 a1, .int .i64 a2, .int .i64 a3]) (.agg #[.int .i64 p1, .int .i64 (a : Int)])).run Try.prog V3.drew.drew = .ok () w7 := r1
    have HF : Hid (StEnd w w7 p N m go gi So Si R I (upF f z (some (((f z).getD (0, 0)).1, a))) tg n) := ⟨r2, (Turns.of_below (HB.out.1.trans (HN.out.2.mono HB.out.1.size))).trans (Turns.grown (S := fun k => k = m) ⟨r3.os, r3.tape, r3.output, r3.size, r3.block⟩ fun k e => .inl (by injection e with e; exact e.symm)) fun k e => .inl e⟩
    clear r1 r2 r3 KS HN ST HB
    go_region
    all_goals
      go_wp2
      go_end0
      exact ⟨rfl, HF.out⟩

end Go.Proofs.Ytopecdkkmbpnbaa
