/-
  Layer 5: Same, the document's.
  Layer 5: Right, the document's.
  Layer 5: Text, the document's.
  Layer 4: the document's row, where read is known.
  Layer 4: the document's read.
  Layer 4: the document's Read.
  Layer 5: the document's Line.
  A region that draws its order, whose operations each have one value whatever the order, with what holds of the memory while some of them are done. No program is
-/
import Derived.Test.YtdmoknnnlfkfoaaGreatDoorZpVsb
import Derived.BigQuiet
import Derived.Test.YtdmoknnnlfkfoaaGreatDoorZpUsl
import Derived.Test.YtdmoknnnlfkfoaaGreatDoorZpVcv
import Derived.Deep.RegionHeld3
import Derived.Test.YtdmoknnnlfkfoaaGreatDoorZpIny
import Derived.Test.YtdmoknnnlfkfoaaGreatDoorZpTdq
import Derived.Test.YtdmoknnnlfkfoaaGreatDoorZpGet
import Derived.Test.YtdmoknnnlfkfoaaGreatDoorZpTdk
import Derived.Test.YtdmoknnnlfkfoaaGreatDoorZpVdc

namespace Go.Proofs.YtdmoknnnlfkfoaaGreatDoor
open Go Go.RowKit
set_option linter.unusedVariables false
def Rc.sameB (r u : Rc) : Bool := decide (r.es = u.es) && (decide (r.kind = u.kind) && decide (r.t = u.t) && decide (r.x = u.x) && decide (r.w = u.w ∧ r.n = u.n) && decide (r.v = u.v) && r.p.sameB u.p)
set_option maxRecDepth 100000 in
set_option maxHeartbeats 3200000 in
theorem rsame5_any (r u : Rv) (w : World) (lo hi lo' hi' : Nat) (hL : RLies w lo hi r) (hhi : hi ≤ w.heap.size) (hL' : RLies w lo' hi' u) (hhi' : hi' ≤ w.heap.size) :
    Calls Tryz.prog 9 #[r.val, u.val] w fun e w' => e = .returned (.bool (r.abs.sameB u.abs)) ∧ Below w.heap.size w w' := by
  have RS : Hid (∀ W, Below w.heap.size w W → Calls Tryz.prog 28 #[r.p.val, u.p.val] W fun e w' => e = .returned (.bool (r.p.abs.sameB u.p.abs)) ∧ Below W.heap.size W w') := fun W hW => rsame_any r.p u.p W lo hi lo' hi' (hL.p.under (hW.mono hhi)) (Nat.le_trans hhi hW.size) (hL'.p.under (hW.mono hhi')) (Nat.le_trans hhi' hW.size)
  have HR : Hid (∀ W, Below w.heap.size w W → Rd W hi 4 r.A r.es.length (enCells r.es) ∧ Rd W hi' 4 u.A u.es.length (enCells u.es)) := fun W hW => ⟨hL.es.below (hW.mono hhi), hL'.es.below (hW.mono hhi')⟩
  have HS : Hid (r.abs.sameB u.abs = (decide (r.es = u.es) && (decide (r.kind = u.kind) && decide (r.t = u.t) && decide (r.x = u.x) && decide (r.w = u.w ∧ r.n = u.n) && decide (r.v = u.v) && r.p.abs.sameB u.p.abs))) := rfl
  have hc1 := hL.cap
  have hc2 := hL'.cap
  clear hL hL'
  generalize r.abs.sameB u.abs = sb at *
  obtain ⟨k, t, x, wn, nn, v, p, Ae, ce, es⟩ := r
  obtain ⟨k2, t2, x2, wn2, nn2, v2, p2, Ae2, ce2, es2⟩ := u
  generalize p.abs.sameB p2.abs = ps at *
  have h1 := heap_alloc_new w (.cells #[.int .i64 k, .int .u64 (t : Int), .int .u64 (x : Int), .int .u64 (wn : Int), .int .u64 (nn : Int), .int .u64 (v : Int), .int .i64 p.kind, .int .u64 (p.a : Int), .int .u64 (p.b : Int), .slice p.addr p.parts.length p.cap, .slice Ae es.length ce] 37)
  have b1 := below_new w (.cells #[.int .i64 k, .int .u64 (t : Int), .int .u64 (x : Int), .int .u64 (wn : Int), .int .u64 (nn : Int), .int .u64 (v : Int), .int .i64 p.kind, .int .u64 (p.a : Int), .int .u64 (p.b : Int), .slice p.addr p.parts.length p.cap, .slice Ae es.length ce] 37)
  have h2 := heap_alloc_new (w.alloc (.cells #[.int .i64 k, .int .u64 (t : Int), .int .u64 (x : Int), .int .u64 (wn : Int), .int .u64 (nn : Int), .int .u64 (v : Int), .int .i64 p.kind, .int .u64 (p.a : Int), .int .u64 (p.b : Int), .slice p.addr p.parts.length p.cap, .slice Ae es.length ce] 37)) (.cells #[.int .i64 k2, .int .u64 (t2 : Int), .int .u64 (x2 : Int), .int .u64 (wn2 : Int), .int .u64 (nn2 : Int), .int .u64 (v2 : Int), .int .i64 p2.kind, .int .u64 (p2.a : Int), .int .u64 (p2.b : Int), .slice p2.addr p2.parts.length p2.cap, .slice Ae2 es2.length ce2] 37)
  have h12 := (heap_alloc_old (w.alloc (.cells #[.int .i64 k, .int .u64 (t : Int), .int .u64 (x : Int), .int .u64 (wn : Int), .int .u64 (nn : Int), .int .u64 (v : Int), .int .i64 p.kind, .int .u64 (p.a : Int), .int .u64 (p.b : Int), .slice p.addr p.parts.length p.cap, .slice Ae es.length ce] 37)) (.cells #[.int .i64 k2, .int .u64 (t2 : Int), .int .u64 (x2 : Int), .int .u64 (wn2 : Int), .int .u64 (nn2 : Int), .int .u64 (v2 : Int), .int .i64 p2.kind, .int .u64 (p2.a : Int), .int .u64 (p2.b : Int), .slice p2.addr p2.parts.length p2.cap, .slice Ae2 es2.length ce2] 37) (lt_of_block h1)).trans h1
  have b2 := b1.alloc b1.size (.cells #[.int .i64 k2, .int .u64 (t2 : Int), .int .u64 (x2 : Int), .int .u64 (wn2 : Int), .int .u64 (nn2 : Int), .int .u64 (v2 : Int), .int .i64 p2.kind, .int .u64 (p2.a : Int), .int .u64 (p2.b : Int), .slice p2.addr p2.parts.length p2.cap, .slice Ae2 es2.length ce2] 37)
  rw [show (w.alloc (.cells #[.int .i64 k, .int .u64 (t : Int), .int .u64 (x : Int), .int .u64 (wn : Int), .int .u64 (nn : Int), .int .u64 (v : Int), .int .i64 p.kind, .int .u64 (p.a : Int), .int .u64 (p.b : Int), .slice p.addr p.parts.length p.cap, .slice Ae es.length ce] 37)).heap.size = w.heap.size + 1 by simp] at h2
  simp only [Rv.val, Rv.arr, Rv.sl, V.sl, V.val] at RS HR HS hc1 hc2 ⊢
  go_enter Tryz.func9, Tryz.ntmps9
  go_upto_region 1 with (fail)
  generalize (w.alloc (.cells #[.int .i64 k, .int .u64 (t : Int), .int .u64 (x : Int), .int .u64 (wn : Int), .int .u64 (nn : Int), .int .u64 (v : Int), .int .i64 p.kind, .int .u64 (p.a : Int), .int .u64 (p.b : Int), .slice p.addr p.parts.length p.cap, .slice Ae es.length ce] 37)).alloc (.cells #[.int .i64 k2, .int .u64 (t2 : Int), .int .u64 (x2 : Int), .int .u64 (wn2 : Int), .int .u64 (nn2 : Int), .int .u64 (v2 : Int), .int .i64 p2.kind, .int .u64 (p2.a : Int), .int .u64 (p2.b : Int), .slice p2.addr p2.parts.length p2.cap, .slice Ae2 es2.length ce2] 37) = w1 at *
  clear h1 b1
  have CC : Hid (∀ W, Below w1.heap.size w1 W → W.heap[w.heap.size]? = some (.cells #[.int .i64 k, .int .u64 (t : Int), .int .u64 (x : Int), .int .u64 (wn : Int), .int .u64 (nn : Int), .int .u64 (v : Int), .int .i64 p.kind, .int .u64 (p.a : Int), .int .u64 (p.b : Int), .slice p.addr p.parts.length p.cap, .slice Ae es.length ce] 37 (0, 0)) ∧ W.heap[w.heap.size + 1]? = some (.cells #[.int .i64 k2, .int .u64 (t2 : Int), .int .u64 (x2 : Int), .int .u64 (wn2 : Int), .int .u64 (nn2 : Int), .int .u64 (v2 : Int), .int .i64 p2.kind, .int .u64 (p2.a : Int), .int .u64 (p2.b : Int), .slice p2.addr p2.parts.length p2.cap, .slice Ae2 es2.length ce2] 37 (0, 0)) ∧ Below w.heap.size w W) := fun W hW => ⟨(hW.block _ (lt_of_block h12)).trans h12, (hW.block _ (lt_of_block h2)).trans h2, b2.trans (hW.mono b2.size)⟩
  have a10 : w1.cell? ⟨w.heap.size, 10, none⟩ = some (.slice Ae es.length ce) := cell_of_row w1 _ 10 _ _ _ h12
  have d10 : w1.cell? ⟨w.heap.size + 1, 10, none⟩ = some (.slice Ae2 es2.length ce2) := cell_of_row w1 _ 10 _ _ _ h2
  by_cases hlen : es.length = es2.length
  · have q4 : ((es.length : Int) != (es2.length : Int)) = false := by simp [hlen]
    have HQ := Lib_hid hlen
    clear hlen h12 h2
    go_wp2
    go_loopw [5] (fun z wr => ∃ i : Nat, z = .int .i64 i ∧ i ≤ es.length ∧ Hid (es.take i = es2.take i) ∧ Below w1.heap.size w1 wr) (fun z _ => es.length - (intOf z).toNat)
    case atStart => exact ⟨0, rfl, Nat.zero_le _, by simp [Hid], Below.refl _ _⟩
    case round =>
      clear q4 a10 d10 b2
      obtain ⟨i, rfl, hi1, hme, hbw⟩ := hrel
      obtain ⟨hx, hy, hbw2⟩ := CC.out wr hbw
      have a10 : wr.cell? ⟨w.heap.size, 10, none⟩ = some (.slice Ae es.length ce) := cell_of_row wr _ 10 _ _ _ hx
      have d10 : wr.cell? ⟨w.heap.size + 1, 10, none⟩ = some (.slice Ae2 es2.length ce2) := cell_of_row wr _ 10 _ _ _ hy
      by_cases hlt : i < es.length
      · have hlt2 : i < es2.length := by have := HQ.out; omega
        obtain ⟨hr1, hr2⟩ := HR.out wr hbw2
        obtain ⟨b, off, e, rfl, hbB, he, d0, d1, d2, d3⟩ := en_nth hr1 hlt
        obtain ⟨b', off', e', rfl, hbB', he', f0, f1, f2, f3⟩ := en_nth hr2 hlt2
        clear hr1 hr2 hx hy
        by_cases hee : e = e'
        · subst hee
          have HN : Hid (es.take (i + 1) = es2.take (i + 1)) := Lib_hid (by rw [take_one he, take_one he', hme.out])
          clear he he' hme
          go_wp2
          go_quiet (fail)
          go_wp2
          go_roundw
          case rel => exact ⟨i + 1, by go_num, by omega, HN, below_like4 hbw rfl rfl rfl rfl⟩
          case measure => simp [intOf]; omega
        · have HF : Hid (sb = false) := Lib_hid (by
            rw [HS.out]
            have : es ≠ es2 := fun h => hee (by rw [h] at he; rw [he] at he'; injection he')
            simp [this])
          clear he he' hme
          obtain ⟨ex, ew, en, em⟩ := e
          obtain ⟨ex', ew', en', em'⟩ := e'
          simp only at d0 d1 d2 d3 f0 f1 f2 f3
          by_cases gex : ex = ex'
          · subst gex
            by_cases gew : ew = ew'
            · subst gew
              by_cases gen : en = en'
              · subst gen
                cases em with
                | true =>
                  cases em' with
                  | true => exact absurd rfl hee
                  | false =>
                    clear hee
                    go_wp2
                    go_quiet (fail)
                    go_wp2
                    go_ret
                    exact ⟨ret_b HF.out.symm, below_like4 hbw2 rfl rfl rfl rfl⟩
                | false =>
                  cases em' with
                  | false => exact absurd rfl hee
                  | true =>
                    clear hee
                    go_wp2
                    go_quiet (fail)
                    go_wp2
                    go_ret
                    exact ⟨ret_b HF.out.symm, below_like4 hbw2 rfl rfl rfl rfl⟩
              · have c1 : ¬ (en : Int) = (en' : Int) := by omega
                clear hee
                go_wp2
                go_quiet (fail)
                go_wp2
                go_ret
                exact ⟨ret_b HF.out.symm, below_like4 hbw2 rfl rfl rfl rfl⟩
            · have c1 : ¬ (ew : Int) = (ew' : Int) := by omega
              clear hee
              go_wp2
              go_quiet (fail)
              go_wp2
              go_ret
              exact ⟨ret_b HF.out.symm, below_like4 hbw2 rfl rfl rfl rfl⟩
          · have c1 : ¬ (ex : Int) = (ex' : Int) := by omega
            clear hee
            go_wp2
            go_quiet (fail)
            go_wp2
            go_ret
            exact ⟨ret_b HF.out.symm, below_like4 hbw2 rfl rfl rfl rfl⟩
      · obtain rfl : i = es.length := by omega
        have hES : es = es2 := by have h := hme.out; rw [List.take_length, HQ.out, List.take_length] at h; exact h
        have HSB := Lib_hid (HS.out)
        subst hES
        clear a10 d10 hme HQ
        obtain ⟨a0, a1, a2, a3, a4, a5, a6, a7, a8, a9, a10⟩ := rec_cells hx
        obtain ⟨d0, d1, d2, d3, d4, d5, d6, d7, d8, d9, d10⟩ := rec_cells hy
        have RR := RS.out wr hbw2
        clear hx hy CC HR RS
        by_cases ek : k = k2
        · subst ek
          by_cases et : t = t2
          · subst et
            by_cases ex : x = x2
            · subst ex
              by_cases ewn : wn = wn2
              · subst ewn
                by_cases enn : nn = nn2
                · subst enn
                  by_cases ev : v = v2
                  · subst ev
                    have HF : Hid (sb = ps) := Lib_hid (by rw [HSB.out]; simp)
                    clear HSB HS
                    go_wp2_with fail
                    refine RR.mono ?_
                    rintro e w3 ⟨rfl, hb3⟩
                    have hb4 := hbw2.trans (hb3.mono hbw2.size)
                    clear hb3 RR
                    go_wp2
                    go_ret
                    exact ⟨ret_b HF.out.symm, hb4⟩
                  · have c1 : ((v : Int) == (v2 : Int)) = false := by simp; omega
                    have HF : Hid (sb = false) := Lib_hid (by rw [HSB.out]; simp [ev])
                    clear HSB HS RR
                    go_wp2
                    go_ret
                    exact ⟨ret_b HF.out.symm, hbw2⟩
                · have c1 : ((nn : Int) == (nn2 : Int)) = false := by simp; omega
                  have HF : Hid (sb = false) := Lib_hid (by rw [HSB.out]; simp [enn])
                  clear HSB HS RR
                  go_wp2
                  go_ret
                  exact ⟨ret_b HF.out.symm, hbw2⟩
              · have c1 : ((wn : Int) == (wn2 : Int)) = false := by simp; omega
                have HF : Hid (sb = false) := Lib_hid (by rw [HSB.out]; simp [ewn])
                clear HSB HS RR
                go_wp2
                go_ret
                exact ⟨ret_b HF.out.symm, hbw2⟩
            · have c1 : ((x : Int) == (x2 : Int)) = false := by simp; omega
              have HF : Hid (sb = false) := Lib_hid (by rw [HSB.out]; simp [ex])
              clear HSB HS RR
              go_wp2
              go_ret
              exact ⟨ret_b HF.out.symm, hbw2⟩
          · have c1 : ((t : Int) == (t2 : Int)) = false := by simp; omega
            have HF : Hid (sb = false) := Lib_hid (by rw [HSB.out]; simp [et])
            clear HSB HS RR
            go_wp2
            go_ret
            exact ⟨ret_b HF.out.symm, hbw2⟩
        · have c1 : (k == k2) = false := by simp [ek]
          have HF : Hid (sb = false) := Lib_hid (by rw [HSB.out]; simp [ek])
          clear HSB HS RR
          go_wp2
          go_ret
          exact ⟨ret_b HF.out.symm, hbw2⟩
  · have q4 : ((es.length : Int) != (es2.length : Int)) = true := by simp; omega
    have HF : Hid (sb = false) := Lib_hid (by
      rw [HS.out]
      have : es ≠ es2 := fun h => hlen (by rw [h])
      simp [this])
    clear hlen
    go_wp2
    go_ret
    exact ⟨ret_b HF.out.symm, b2⟩
end Go.Proofs.YtdmoknnnlfkfoaaGreatDoor

namespace Go.Proofs.YtdmoknnnlfkfoaaGreatDoor
open Go Go.RowKit
set_option linter.unusedVariables false
def Rv.bare (r : Rv) : Rv :=
  ⟨r.kind, r.t, if r.kind = 2 ∨ r.kind = 3 ∨ r.kind = 4 then r.x else 0, if r.kind = 2 then r.w else 0, if r.kind = 2 then r.n else 0, if r.kind = 3 then r.v else 0,
    if r.kind = 5 then r.p else .node 0 0 0 none 0 [], if r.kind = 5 then r.A else none, if r.kind = 5 then r.c else 0, if r.kind = 5 then r.es else []⟩
end Go.Proofs.YtdmoknnnlfkfoaaGreatDoor

namespace Go.Proofs.YtdmoknnnlfkfoaaGreatDoor
open Go Go.RowKit
set_option linter.unusedVariables false
end Go.Proofs.YtdmoknnnlfkfoaaGreatDoor

namespace Go.Proofs.YtdmoknnnlfkfoaaGreatDoor
open Go Go.RowKit
set_option linter.unusedVariables false
structure RrR (d : Nat) (s : List UInt8) (w w' : World) (k : Int) (a b n c : Nat) (A : Option Addr) (s' : List UInt8) (ok : Bool) : Prop where
  yes : ok = true → ∃ t us, rdS d s = some (t, s') ∧ (V.node k a b A c us).abs = t ∧ us.length = n ∧ Lies w' w.heap.size w'.heap.size (.node k a b A c us) ∧ Shp 34 w' w.heap.size (.node k a b A c us)
  no : ok = false → rdS d s = none
end Go.Proofs.YtdmoknnnlfkfoaaGreatDoor

namespace Go.Proofs.YtdmoknnnlfkfoaaGreatDoor
open Go Go.RowKit
set_option linter.unusedVariables false
end Go.Proofs.YtdmoknnnlfkfoaaGreatDoor

namespace Go.Proofs.YtdmoknnnlfkfoaaGreatDoor
open Go Go.RowKit
set_option linter.unusedVariables false
end Go.Proofs.YtdmoknnnlfkfoaaGreatDoor

namespace Go.Proofs.YtdmoknnnlfkfoaaGreatDoor
open Go Go.RowKit
set_option linter.unusedVariables false
def DEnd (o : Rc × Nat) (w : World) (e : Ending) (w' : World) : Prop :=
  ∃ r : Rv, e = .returned (.tuple #[r.val, .int .i64 (o.2 : Int)]) ∧ r.abs = o.1 ∧ RLies w' w.heap.size w'.heap.size r ∧ Below w.heap.size w w'
structure DLn (w : World) (b : Nat) (L : List (List UInt8)) (g : Nat) (r : Rv) (W : World) : Prop where
  out : W.heap[w.heap.size]? = some (.cells #[.int .i64 0, .int .u64 0, .int .u64 0, .int .u64 0, .int .u64 0, .int .u64 0, .int .i64 0, .int .u64 0, .int .u64 0, .slice none 0 0, .slice none 0 0] 37 (0, 0))
  box : W.heap[g]? = some (.cells r.arr 37 (0, 0))
  gl : w.heap.size < g
  bl : b < g
  wds : ∀ (i : Nat) (x : List UInt8), L[i]? = some x → W.cell? ⟨b, i, none⟩ = some (.string ⟨x.toArray⟩)
  lies : RLies W (g + 1) W.heap.size r
  shp : Shp 34 W (g + 1) r.p
  own : W.ownsRow (g + 1) 91 4 (.slice r.A r.es.length r.c) r.es.length (enCells r.es)
  below : Below w.heap.size w W
section
variable {w W W' : World} {b g : Nat} {L : List (List UInt8)} {r r' : Rv}
theorem DLn.under (h : DLn w b L g r W) (hb : Below W.heap.size W W') : DLn w b L g r W' := by
  have h1 := lt_of_block h.box
  have h2 := h.bl
  exact ⟨(hb.block _ (lt_of_block h.out)).trans h.out, (hb.block _ h1).trans h.box, h.gl, h.bl, fun i x hx => (World.cell?_of_block (hb.block b (by omega))).trans (h.wds i x hx),
    (h.lies.under hb).more (Nat.le_refl _) hb.size, h.shp.under hb, own_below h.own hb (own_lt h.own), h.below.trans (hb.mono h.below.size)⟩
theorem DLn.change (h : DLn w b L g r W) (hG : Grow2 W W' g g) (hbox : W'.heap[g]? = some (.cells r'.arr 37 (0, 0))) (hl : RLies W (g + 1) W.heap.size r')
    (hs : Shp 34 W (g + 1) r'.p) (ho : W.ownsRow (g + 1) 91 4 (.slice r'.A r'.es.length r'.c) r'.es.length (enCells r'.es)) : DLn w b L g r' W' := by
  have h1 := lt_of_block h.box
  have h2 := h.bl
  have h3 := h.gl
  have h4 := h.below.size
  exact ⟨(hG.block _ (by omega) (by omega) (by omega)).trans h.out, hbox, h.gl, h.bl, fun i x hx => (World.cell?_of_block (hG.block b (by omega) (by omega) (by omega))).trans (h.wds i x hx),
    hl.grow2 hG (by omega) (by omega) (Nat.le_refl _), hs.keep fun k k1 k2 => hG.block k k2 (by omega) (by omega),
    own_keep ho fun k hk => hG.block k (own_lt ho k hk) (by have := own_ge ho k hk; omega) (by have := own_ge ho k hk; omega), h.below.trans (hG.below (by omega) (by omega) (by omega))⟩
theorem DLn.num (h : DLn w b L g r W) (i : Nat) (v : Value) (r' : Rv) (harr : r.arr.setIfInBounds i v = r'.arr) (hp : r'.p = r.p ∧ r'.A = r.A ∧ r'.c = r.c ∧ r'.es = r.es) (hk : -9223372036854775808 ≤ r'.kind ∧ r'.kind ≤ 9223372036854775807)
    (ht : r'.t < 18446744073709551616) (hx : r'.x < 18446744073709551616) (hw : r'.w < 18446744073709551616) (hn : r'.n < 18446744073709551616) (hv : r'.v < 18446744073709551616) : DLn w b L g r' (W.setCell ⟨g, i, none⟩ v) := by
  obtain ⟨k', t', x', w', n', v', p', A', c', es'⟩ := r'
  obtain ⟨k, t, x, wn, n, vv, p, A, c, es⟩ := r
  simp only at hp hk ht hx hw hn hv
  obtain ⟨rfl, rfl, rfl, rfl⟩ := hp
  exact h.change (Grow2.set W g g i v) ((heap_setCell_same W g i _ _ v h.box).trans (by rw [harr]))
    ⟨hk, by show (t' : Int) ≤ _; omega, by show (x' : Int) ≤ _; omega, by show (w' : Int) ≤ _; omega, by show (n' : Int) ≤ _; omega, by show (v' : Int) ≤ _; omega, h.lies.p, h.lies.es, h.lies.cap, h.lies.ok, h.lies.lo⟩ h.shp h.own
theorem DLn.setT (h : DLn w b L g r W) {y : Nat} (hy : y < 18446744073709551616) : DLn w b L g { r with t := y } (W.setCell ⟨g, 1, none⟩ (.int .u64 (y : Int))) :=
  h.num 1 _ _ rfl ⟨rfl, rfl, rfl, rfl⟩ h.lies.kind hy (by have := h.lies.x; show r.x < _; omega) (by have := h.lies.wn; show r.w < _; omega) (by have := h.lies.n; show r.n < _; omega) (by have := h.lies.v; show r.v < _; omega)
theorem DLn.setX (h : DLn w b L g r W) {y : Nat} (hy : y < 18446744073709551616) : DLn w b L g { r with x := y } (W.setCell ⟨g, 2, none⟩ (.int .u64 (y : Int))) :=
  h.num 2 _ _ rfl ⟨rfl, rfl, rfl, rfl⟩ h.lies.kind (by have := h.lies.t; show r.t < _; omega) hy (by have := h.lies.wn; show r.w < _; omega) (by have := h.lies.n; show r.n < _; omega) (by have := h.lies.v; show r.v < _; omega)
theorem DLn.setW (h : DLn w b L g r W) {y : Nat} (hy : y < 18446744073709551616) : DLn w b L g { r with w := y } (W.setCell ⟨g, 3, none⟩ (.int .u64 (y : Int))) :=
  h.num 3 _ _ rfl ⟨rfl, rfl, rfl, rfl⟩ h.lies.kind (by have := h.lies.t; show r.t < _; omega) (by have := h.lies.x; show r.x < _; omega) hy (by have := h.lies.n; show r.n < _; omega) (by have := h.lies.v; show r.v < _; omega)
theorem DLn.setN (h : DLn w b L g r W) {y : Nat} (hy : y < 18446744073709551616) : DLn w b L g { r with n := y } (W.setCell ⟨g, 4, none⟩ (.int .u64 (y : Int))) :=
  h.num 4 _ _ rfl ⟨rfl, rfl, rfl, rfl⟩ h.lies.kind (by have := h.lies.t; show r.t < _; omega) (by have := h.lies.x; show r.x < _; omega) (by have := h.lies.wn; show r.w < _; omega) hy (by have := h.lies.v; show r.v < _; omega)
theorem DLn.setV (h : DLn w b L g r W) {y : Nat} (hy : y < 18446744073709551616) : DLn w b L g { r with v := y } (W.setCell ⟨g, 5, none⟩ (.int .u64 (y : Int))) :=
  h.num 5 _ _ rfl ⟨rfl, rfl, rfl, rfl⟩ h.lies.kind (by have := h.lies.t; show r.t < _; omega) (by have := h.lies.x; show r.x < _; omega) (by have := h.lies.wn; show r.w < _; omega) (by have := h.lies.n; show r.n < _; omega) hy
theorem DLn.pred (h : DLn w b L g r W) (u : V) (hu : Lies W (g + 1) W.heap.size u) (hS : Shp 34 W (g + 1) u) :
    DLn w b L g { r with p := u } ((((W.setCell ⟨g, 6, none⟩ (.int .i64 u.kind)).setCell ⟨g, 7, none⟩ (.int .u64 (u.a : Int))).setCell ⟨g, 8, none⟩ (.int .u64 (u.b : Int))).setCell ⟨g, 9, none⟩ u.sl) := by
  have e1 := heap_setCell_same W g 6 _ _ (.int .i64 u.kind) h.box
  have e2 := heap_setCell_same _ g 7 _ _ (.int .u64 (u.a : Int)) e1
  have e3 := heap_setCell_same _ g 8 _ _ (.int .u64 (u.b : Int)) e2
  have e4 := heap_setCell_same _ g 9 _ _ u.sl e3
  exact h.change ((((Grow2.set W g g 6 _).trans (Grow2.set _ g g 7 _)).trans (Grow2.set _ g g 8 _)).trans (Grow2.set _ g g 9 _)) e4
    ⟨h.lies.kind, h.lies.t, h.lies.x, h.lies.wn, h.lies.n, h.lies.v, hu, h.lies.es, h.lies.cap, h.lies.ok, h.lies.lo⟩ hS h.own
theorem DLn.cell (h : DLn w b L g r W) (i : Nat) (v : Value) (hv : r.arr[i]? = some v) : W.cell? ⟨g, i, none⟩ = some v := (cell_of_row W g i _ _ _ h.box).trans hv
theorem DLn.bad (h1 : Below w.heap.size w W) (h2 : W.heap[w.heap.size]? = some (.cells #[.int .i64 0, .int .u64 0, .int .u64 0, .int .u64 0, .int .u64 0, .int .u64 0, .int .i64 0, .int .u64 0, .int .u64 0, .slice none 0 0, .slice none 0 0] 37 (0, 0))) :
    DEnd (Rc.zero 0, 50) w (.returned (.tuple #[.agg #[.int .i64 0, .int .u64 0, .int .u64 0, .int .u64 0, .int .u64 0, .int .u64 0, .int .i64 0, .int .u64 0, .int .u64 0, .slice none 0 0, .slice none 0 0], .int .i64 50])) (put11 W w.heap.size (.int .i64 0) (.int .u64 0) (.int .u64 0) (.int .u64 0) (.int .u64 0) (.int .u64 0) (.int .i64 0) (.int .u64 0) (.int .u64 0) (.slice none 0 0) (.slice none 0 0)) ∧ (put11 W w.heap.size (.int .i64 0) (.int .u64 0) (.int .u64 0) (.int .u64 0) (.int .u64 0) (.int .u64 0) (.int .i64 0) (.int .u64 0) (.int .u64 0) (.slice none 0 0) (.slice none 0 0)).heap[w.heap.size]? = some (.cells #[.int .i64 0, .int .u64 0, .int .u64 0, .int .u64 0, .int .u64 0, .int .u64 0, .int .i64 0, .int .u64 0, .int .u64 0, .slice none 0 0, .slice none 0 0] 37 (0, 0)) := by
  refine ⟨?_, put11_row _ _ _ _ _ _ _ _ _ _ _ h2⟩
  exact ⟨⟨0, 0, 0, 0, 0, 0, .node 0 0 0 none 0 [], none, 0, []⟩, rfl, abs_zero 0, rlies_zero _ _ _ 0 (by omega), h1.trans ((put11_grow _ _ _ _ _ _ _ _ _ _ _ W w.heap.size).below h1.size (Nat.le_refl _) (Nat.le_refl _))⟩
end
end Go.Proofs.YtdmoknnnlfkfoaaGreatDoor

namespace Go.Proofs.YtdmoknnnlfkfoaaGreatDoor
open Go Go.RowKit
set_option linter.unusedVariables false
section
variable {P : Program} {ops : Array Oper} {Q : Exit → Act → World → Prop} {a0 : Act} {w0 : World}
def regionOk2 (ops : Array Oper) (N : Nat) : Bool :=
  decide (dsts ops).Nodup && (dsts ops).all (fun d => decide (d < N)) && (List.range ops.size).all fun i => ((ops[i]?).map fun o => o.after.all fun e => !Region.binds .any e || decide (e.on < i)).getD true
theorem regionOk2_back {N : Nat} (h : regionOk2 ops N = true) (i : Nat) (o : Oper) (ho : ops[i]? = some o) : ∀ e ∈ o.after, Region.binds .any e = true → e.on < i := by
  simp only [regionOk2, Bool.and_eq_true] at h
  have hlt := (Array.getElem?_eq_some_iff.1 ho).1
  have := (List.all_eq_true.1 h.2) i (by rw [List.mem_range]; exact hlt)
  rw [ho] at this
  intro e he hb
  simp only [Option.map_some, Option.getD_some] at this
  have h2 := (Array.all_eq_true_iff_forall_mem.1 this) e he
  rw [hb] at h2
  simpa using h2
theorem all_listed2 (hback : ∀ (i : Nat) (o : Oper), ops[i]? = some o → ∀ e ∈ o.after, Region.binds .any e = true → e.on < i) {listed : Array Bool} (hs : listed.size = ops.size) (hr : Region.ready .any ops listed = []) : ∀ i, i < ops.size → listed.getD i false = true := by
  intro i
  induction i using Nat.strongRecOn with
  | ind i ih =>
    intro hi
    cases h : listed.getD i false with
    | true => rfl
    | false =>
      exfalso
      have hm : i ∈ Region.ready .any ops listed := by
        rw [mem_ready]
        refine ⟨?_, ops[i], Array.getElem?_eq_getElem hi, fun e he hb => ih e.on (hback i _ (Array.getElem?_eq_getElem hi) e he hb) ?_⟩
        · have hi' : i < listed.size := by omega
          rw [Array.getD_eq_getD_getElem?, Array.getElem?_eq_getElem hi'] at h ⊢
          exact h
        · have := hback i _ (Array.getElem?_eq_getElem hi) e he hb
          omega
      rw [hr] at hm
      cases hm
theorem wpAny_gen4 (I : (Nat → Bool) → Act → World → Prop) (hback : ∀ (i : Nat) (o : Oper), ops[i]? = some o → ∀ e ∈ o.after, Region.binds .any e = true → e.on < i)
    (hop : ∀ i o L a w, ops[i]? = some o → L i = false → I L a w → (∀ e ∈ o.after, Region.binds .any e = true → L e.on = true) →
      (Region.wanted o (yielded ops a.tmps) = true ∧ o.wp P a w (fun a' w' => I (more L i) a' w') Q) ∨ (Region.wanted o (yielded ops a.tmps) = false ∧ I (more L i) (a.put o.dst undef) w))
    (hend : ∀ L a w, I L a w → (∀ i, i < ops.size → L i = true) → Q .normal a w) :
    ∀ (fuel : Nat) (listed : Array Bool) (a : Act) (w : World), listed.size = ops.size → listed.toList.count false ≤ fuel → I (fun k => listed.getD k false) a w → wpAny P .any ops Q fuel listed a w := by
  intro fuel
  induction fuel with
  | zero =>
    intro listed a w hs hc hI
    have hall : ∀ i, i < ops.size → listed.getD i false = true := by
      intro i hi
      cases h : listed.getD i false with
      | true => rfl
      | false =>
        exfalso
        have hi' : i < listed.size := by omega
        rw [Array.getD_eq_getD_getElem?, Array.getElem?_eq_getElem hi'] at h
        have : false ∈ listed.toList := by
          rw [← h]; simp
        have := List.count_pos_iff.2 this
        omega
    refine ⟨?_, hend _ a w hI hall⟩
    apply List.eq_nil_iff_forall_not_mem.2
    intro j hj
    rw [mem_ready] at hj
    obtain ⟨h1, o, ho, _⟩ := hj
    have hlt := (Array.getElem?_eq_some_iff.1 ho).1
    have h2 := hall j hlt
    have hi' : j < listed.size := by omega
    rw [Array.getD_eq_getD_getElem?, Array.getElem?_eq_getElem hi'] at h1 h2
    simp at h1 h2
    rw [h1] at h2; cases h2
  | succ fuel ih =>
    intro listed a w hs hc hI
    refine ⟨fun hr => hend _ a w hI (all_listed2 hback hs hr), fun i hi => ?_⟩
    rw [mem_ready] at hi
    obtain ⟨h1, o, ho, haf⟩ := hi
    have hlt' := (Array.getElem?_eq_some_iff.1 ho).1
    have hi' : i < listed.size := by omega
    have h1' : listed.getD i false = false := by
      rw [Array.getD_eq_getD_getElem?, Array.getElem?_eq_getElem hi'] at h1 ⊢
      exact h1
    have hnext : ∀ a' w', I (more (fun k => listed.getD k false) i) a' w' → wpAny P .any ops Q fuel (listed.setIfInBounds i true) a' w' := by
      intro a' w' hI'
      refine ih _ _ _ (by simpa using hs) ?_ ?_
      · have hf : listed.toList[i]'(by simpa using hi') = false := by
          rw [Array.getD_eq_getD_getElem?, Array.getElem?_eq_getElem hi'] at h1
          simpa using h1
        have : (listed.setIfInBounds i true).toList = listed.toList.set i true := by simp
        rw [this, List.count_set (by simpa using hi'), hf]
        have hpos : 0 < listed.toList.count false := List.count_pos_iff.2 (by rw [← hf]; exact List.getElem_mem _)
        have e1 : ((false == false) = true) := rfl
        have e2 : ¬ ((true == false) = true) := by decide
        rw [if_pos e1, if_neg e2]
        omega
      · have e : (fun k => (listed.setIfInBounds i true).getD k false) = more (fun k => listed.getD k false) i := by
          funext k
          unfold more
          rw [Array.getD_eq_getD_getElem?, Array.getElem?_setIfInBounds]
          by_cases hk : k = i
          · subst hk; simp [hi']
          · rw [if_neg (fun e => hk e.symm), if_neg hk]
            simp [Array.getD_eq_getD_getElem?]
        rw [e]
        exact hI'
    unfold wpOp
    rw [ho]
    rcases hop i o (fun k => listed.getD k false) a w ho h1' hI fun e he hb => haf e he hb with ⟨hw, hwp⟩ | ⟨hw, hI'⟩
    · simp only [hw, if_true]
      exact .inl (Oper.wp_mono hnext hwp)
    · simp only [hw]
      exact hnext _ _ hI'
theorem wp_region_fixJ {id N : Nat} (V : Nat → Value) (J : (Nat → Bool) → World → Prop) (hm : P.follows .mixedOrders = true) (hok : regionOk2 ops N = true) (hN : a0.tmps.size = N)
    (hst : J (fun _ => false) { w0 with drawn := w0.drawn + 1 })
    (hop : ∀ i o L a w, ops[i]? = some o → L i = false → J L w → (∀ s, s ∉ dsts ops → a.tmps.getD s undef = a0.tmps.getD s undef) → (∀ k, (o.after.any fun e => e.on == k && Region.binds .any e) = true → Fixed ops V k a) →
      (Region.wanted o (yielded ops a.tmps) = true ∧ o.wp P a w (fun a' w' => a' = a.put o.dst (V i) ∧ J (more L i) w') Q) ∨ (Region.wanted o (yielded ops a.tmps) = false ∧ V i = undef ∧ J (more L i) w))
    (hend : ∀ L a w, (∀ k, k < ops.size → L k = true) → a.tmps.size = a0.tmps.size → a.defers = a0.defers → (∀ s, s ∉ dsts ops → a.tmps.getD s undef = a0.tmps.getD s undef) → J L w → (∀ k, k < ops.size → Fixed ops V k a) → Q .normal a w) :
    (Code.region id ops true).wp P Q a0 w0 := by
  have hok' := hok
  simp only [regionOk2, Bool.and_eq_true, decide_eq_true_eq] at hok'
  have hput : ∀ (i : Nat) (o : Oper) (L : Nat → Bool) (a : Act), ops[i]? = some o → (a.tmps.size = a0.tmps.size ∧ a.defers = a0.defers ∧ (∀ s, s ∉ dsts ops → a.tmps.getD s undef = a0.tmps.getD s undef) ∧ ∀ k, L k = true → Fixed ops V k a) →
      ((a.put o.dst (V i)).tmps.size = a0.tmps.size ∧ (a.put o.dst (V i)).defers = a0.defers ∧ (∀ s, s ∉ dsts ops → (a.put o.dst (V i)).tmps.getD s undef = a0.tmps.getD s undef) ∧ ∀ k, more L i k = true → Fixed ops V k (a.put o.dst (V i))) := by
    intro i o L a ho ⟨h1, h2, h3, h5⟩
    refine ⟨put_size.trans h1, put_defers'.trans h2, fun s hs => (put_getD_ne (fun e => hs (mem_dsts ho e))).trans (h3 s hs), fun k hk o' d ho' hd => ?_⟩
    by_cases hki : k = i
    · subst hki
      obtain rfl : o' = o := Option.some.inj (ho'.symm.trans ho)
      rw [hd, put_getD_eq (by rw [h1, hN]; simpa using (List.all_eq_true.1 hok'.1.2) d (mem_dsts ho hd))]
    · have hk' : L k = true := by unfold more at hk; rwa [if_neg hki] at hk
      rw [put_getD_ne (fun e => hki (dst_inj hok'.1.1 ho' ho hd e))]
      exact h5 k hk' o' d ho' hd
  refine wp_region_any hm (wpAny_gen4 (fun L a w => J L w ∧ a.tmps.size = a0.tmps.size ∧ a.defers = a0.defers ∧ (∀ s, s ∉ dsts ops → a.tmps.getD s undef = a0.tmps.getD s undef) ∧ ∀ k, L k = true → Fixed ops V k a) (regionOk2_back hok) (fun i o L a w ho hL hI hD => ?_) (fun L a w hI hall => hend L a w hall hI.2.1 hI.2.2.1 hI.2.2.2.1 hI.1 fun k hk => hI.2.2.2.2 k (hall k hk)) _ _ _ _ (by simp) ?_ ?_)
  · have hD' : ∀ k, (o.after.any fun e => e.on == k && Region.binds .any e) = true → Fixed ops V k a := fun k hj => by
      rw [← Array.any_toList, List.any_eq_true] at hj
      obtain ⟨e, he, hj⟩ := hj
      have he := Array.mem_toList_iff.1 he
      simp only [Bool.and_eq_true, beq_iff_eq] at hj
      rw [← hj.1]
      exact hI.2.2.2.2 _ (hD e he hj.2)
    rcases hop i o L a w ho hL hI.1 hI.2.2.2.1 hD' with ⟨hw, hwp⟩ | ⟨hw, hv, hj⟩
    · refine .inl ⟨hw, Oper.wp_mono ?_ hwp⟩
      rintro a' w' ⟨rfl, hb⟩
      exact ⟨hb, hput i o L a ho hI.2⟩
    · refine .inr ⟨hw, hj, ?_⟩
      have := hput i o L a ho hI.2
      rwa [hv] at this
  · simp
  · have e : (fun k => (Array.replicate ops.size false).getD k false) = fun _ => false := by
      funext k
      rw [Array.getD_eq_getD_getElem?, Array.getElem?_replicate]
      split <;> rfl
    rw [e]
    exact ⟨hst, rfl, rfl, fun _ _ => rfl, fun k hk => by cases hk⟩
theorem more_ne {L : Nat → Bool} {i j : Nat} (h : j ≠ i) : more L i j = L j := by unfold more; rw [if_neg h]
theorem more_eq {L : Nat → Bool} {i : Nat} : more L i i = true := by unfold more; rw [if_pos rfl]
end
end Go.Proofs.YtdmoknnnlfkfoaaGreatDoor
