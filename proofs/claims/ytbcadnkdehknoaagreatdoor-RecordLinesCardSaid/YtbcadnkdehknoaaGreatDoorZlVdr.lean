/-
  Layer 5: Same, the document's.
  Layer 5: Right, the document's.
-/
import Derived.Test.YtbcadnkdehknoaaGreatDoorZlVpw
import Derived.BigQuiet
import Derived.Test.YtbcadnkdehknoaaGreatDoorZlVta

namespace Go.Proofs.YtbcadnkdehknoaaGreatDoor
open Go Go.RowKit
set_option linter.unusedVariables false

/-- Are two records the same? -/
def Rc.sameB (r u : Rc) : Bool := decide (r.es = u.es) && (decide (r.kind = u.kind) && decide (r.t = u.t) && decide (r.x = u.x) && decide (r.w = u.w ∧ r.n = u.n) && decide (r.v = u.v) && r.p.sameB u.p)

set_option maxRecDepth 100000 in
set_option maxHeartbeats 3200000 in
theorem rsame5_any (r u : Rv) (w : World) (lo hi lo' hi' : Nat) (hL : RLies w lo hi r) (hhi : hi ≤ w.heap.size) (hL' : RLies w lo' hi' u) (hhi' : hi' ≤ w.heap.size) :
    Calls Tryz.prog 21 #[r.val, u.val] w fun e w' => e = .returned (.bool (r.abs.sameB u.abs)) ∧ Below w.heap.size w w' := by
  have RS : Hid (∀ W, Below w.heap.size w W → Calls Tryz.prog 56 #[r.p.val, u.p.val] W fun e w' => e = .returned (.bool (r.p.abs.sameB u.p.abs)) ∧ Below W.heap.size W w') := fun W hW => rsame_any r.p u.p W lo hi lo' hi' (hL.p.under (hW.mono hhi)) (Nat.le_trans hhi hW.size) (hL'.p.under (hW.mono hhi')) (Nat.le_trans hhi' hW.size)
  have HR : Hid (∀ W, Below w.heap.size w W → Rd W hi 4 r.A r.es.length (enCells r.es) ∧ Rd W hi' 4 u.A u.es.length (enCells u.es)) := fun W hW => ⟨hL.es.below (hW.mono hhi), hL'.es.below (hW.mono hhi')⟩
  have HS : Hid (r.abs.sameB u.abs = (decide (r.es = u.es) && (decide (r.kind = u.kind) && decide (r.t = u.t) && decide (r.x = u.x) && decide (r.w = u.w ∧ r.n = u.n) && decide (r.v = u.v) && r.p.abs.sameB u.p.abs))) := rfl
  have hc1 := hL.cap
  have hc2 := hL'.cap
  clear hL hL'
  generalize r.abs.sameB u.abs = sb at *
  obtain ⟨k, t, x, wn, nn, v, p, Ae, ce, es⟩ := r
  obtain ⟨k2, t2, x2, wn2, nn2, v2, p2, Ae2, ce2, es2⟩ := u
  generalize p.abs.sameB p2.abs = ps at *
  have h1 := heap_alloc_new w (.cells #[.int .i64 k, .int .u64 (t : Int), .int .u64 (x : Int), .int .u64 (wn : Int), .int .u64 (nn : Int), .int .u64 (v : Int), .int .i64 p.kind, .int .u64 (p.a : Int), .int .u64 (p.b : Int), .slice p.addr p.parts.length p.cap, .slice Ae es.length ce] 39)
  have b1 := below_new w (.cells #[.int .i64 k, .int .u64 (t : Int), .int .u64 (x : Int), .int .u64 (wn : Int), .int .u64 (nn : Int), .int .u64 (v : Int), .int .i64 p.kind, .int .u64 (p.a : Int), .int .u64 (p.b : Int), .slice p.addr p.parts.length p.cap, .slice Ae es.length ce] 39)
  have h2 := heap_alloc_new (w.alloc (.cells #[.int .i64 k, .int .u64 (t : Int), .int .u64 (x : Int), .int .u64 (wn : Int), .int .u64 (nn : Int), .int .u64 (v : Int), .int .i64 p.kind, .int .u64 (p.a : Int), .int .u64 (p.b : Int), .slice p.addr p.parts.length p.cap, .slice Ae es.length ce] 39)) (.cells #[.int .i64 k2, .int .u64 (t2 : Int), .int .u64 (x2 : Int), .int .u64 (wn2 : Int), .int .u64 (nn2 : Int), .int .u64 (v2 : Int), .int .i64 p2.kind, .int .u64 (p2.a : Int), .int .u64 (p2.b : Int), .slice p2.addr p2.parts.length p2.cap, .slice Ae2 es2.length ce2] 39)
  have h12 := (heap_alloc_old (w.alloc (.cells #[.int .i64 k, .int .u64 (t : Int), .int .u64 (x : Int), .int .u64 (wn : Int), .int .u64 (nn : Int), .int .u64 (v : Int), .int .i64 p.kind, .int .u64 (p.a : Int), .int .u64 (p.b : Int), .slice p.addr p.parts.length p.cap, .slice Ae es.length ce] 39)) (.cells #[.int .i64 k2, .int .u64 (t2 : Int), .int .u64 (x2 : Int), .int .u64 (wn2 : Int), .int .u64 (nn2 : Int), .int .u64 (v2 : Int), .int .i64 p2.kind, .int .u64 (p2.a : Int), .int .u64 (p2.b : Int), .slice p2.addr p2.parts.length p2.cap, .slice Ae2 es2.length ce2] 39) (lt_of_block h1)).trans h1
  have b2 := b1.alloc b1.size (.cells #[.int .i64 k2, .int .u64 (t2 : Int), .int .u64 (x2 : Int), .int .u64 (wn2 : Int), .int .u64 (nn2 : Int), .int .u64 (v2 : Int), .int .i64 p2.kind, .int .u64 (p2.a : Int), .int .u64 (p2.b : Int), .slice p2.addr p2.parts.length p2.cap, .slice Ae2 es2.length ce2] 39)
  rw [show (w.alloc (.cells #[.int .i64 k, .int .u64 (t : Int), .int .u64 (x : Int), .int .u64 (wn : Int), .int .u64 (nn : Int), .int .u64 (v : Int), .int .i64 p.kind, .int .u64 (p.a : Int), .int .u64 (p.b : Int), .slice p.addr p.parts.length p.cap, .slice Ae es.length ce] 39)).heap.size = w.heap.size + 1 by simp] at h2
  simp only [Rv.val, Rv.arr, Rv.sl, V.sl, V.val] at RS HR HS hc1 hc2 ⊢
  go_enter Tryz.func21, Tryz.ntmps21
  go_upto_region 1 with (fail)
  generalize (w.alloc (.cells #[.int .i64 k, .int .u64 (t : Int), .int .u64 (x : Int), .int .u64 (wn : Int), .int .u64 (nn : Int), .int .u64 (v : Int), .int .i64 p.kind, .int .u64 (p.a : Int), .int .u64 (p.b : Int), .slice p.addr p.parts.length p.cap, .slice Ae es.length ce] 39)).alloc (.cells #[.int .i64 k2, .int .u64 (t2 : Int), .int .u64 (x2 : Int), .int .u64 (wn2 : Int), .int .u64 (nn2 : Int), .int .u64 (v2 : Int), .int .i64 p2.kind, .int .u64 (p2.a : Int), .int .u64 (p2.b : Int), .slice p2.addr p2.parts.length p2.cap, .slice Ae2 es2.length ce2] 39) = w1 at *
  clear h1 b1
  have CC : Hid (∀ W, Below w1.heap.size w1 W → W.heap[w.heap.size]? = some (.cells #[.int .i64 k, .int .u64 (t : Int), .int .u64 (x : Int), .int .u64 (wn : Int), .int .u64 (nn : Int), .int .u64 (v : Int), .int .i64 p.kind, .int .u64 (p.a : Int), .int .u64 (p.b : Int), .slice p.addr p.parts.length p.cap, .slice Ae es.length ce] 39 (0, 0)) ∧ W.heap[w.heap.size + 1]? = some (.cells #[.int .i64 k2, .int .u64 (t2 : Int), .int .u64 (x2 : Int), .int .u64 (wn2 : Int), .int .u64 (nn2 : Int), .int .u64 (v2 : Int), .int .i64 p2.kind, .int .u64 (p2.a : Int), .int .u64 (p2.b : Int), .slice p2.addr p2.parts.length p2.cap, .slice Ae2 es2.length ce2] 39 (0, 0)) ∧ Below w.heap.size w W) := fun W hW => ⟨(hW.block _ (lt_of_block h12)).trans h12, (hW.block _ (lt_of_block h2)).trans h2, b2.trans (hW.mono b2.size)⟩
  have a10 : w1.cell? ⟨w.heap.size, 10, none⟩ = some (.slice Ae es.length ce) := cell_of_row w1 _ 10 _ _ _ h12
  have d10 : w1.cell? ⟨w.heap.size + 1, 10, none⟩ = some (.slice Ae2 es2.length ce2) := cell_of_row w1 _ 10 _ _ _ h2
  by_cases hlen : es.length = es2.length
  · have q4 : ((es.length : Int) != (es2.length : Int)) = false := by simp [hlen]
    have HQ := Lib_hid hlen
    clear hlen h12 h2
    go_wp2
    go_loopw [5] (fun z wr => ∃ i : Nat, z = .int .i64 i ∧ i ≤ es.length ∧ Hid (es.take i = es2.take i) ∧ Below w1.heap.size w1 wr) (fun z _ => es.length - (intOf z).toNat)
    case atStart => exact ⟨0, rfl, Nat.zero_le _, by simp [Hid], Below.refl _ _⟩
    case round =>
      clear q4 a10 d10 b2
      obtain ⟨i, rfl, hi1, hme, hbw⟩ := hrel
      obtain ⟨hx, hy, hbw2⟩ := CC.out wr hbw
      have a10 : wr.cell? ⟨w.heap.size, 10, none⟩ = some (.slice Ae es.length ce) := cell_of_row wr _ 10 _ _ _ hx
      have d10 : wr.cell? ⟨w.heap.size + 1, 10, none⟩ = some (.slice Ae2 es2.length ce2) := cell_of_row wr _ 10 _ _ _ hy
      by_cases hlt : i < es.length
      · have hlt2 : i < es2.length := by have := HQ.out; omega
        obtain ⟨hr1, hr2⟩ := HR.out wr hbw2
        obtain ⟨b, off, e, rfl, hbB, he, d0, d1, d2, d3⟩ := en_nth hr1 hlt
        obtain ⟨b', off', e', rfl, hbB', he', f0, f1, f2, f3⟩ := en_nth hr2 hlt2
        clear hr1 hr2 hx hy
        by_cases hee : e = e'
        · subst hee
          have HN : Hid (es.take (i + 1) = es2.take (i + 1)) := Lib_hid (by rw [take_one he, take_one he', hme.out])
          clear he he' hme
          go_wp2
          go_quiet (fail)
          go_wp2
          go_roundw
          case rel => exact ⟨i + 1, by go_num, by omega, HN, below_like4 hbw rfl rfl rfl rfl⟩
          case measure => simp [intOf]; omega
        · have HF : Hid (sb = false) := Lib_hid (by
            rw [HS.out]
            have : es ≠ es2 := fun h => hee (by rw [h] at he; rw [he] at he'; injection he')
            simp [this])
          clear he he' hme
          obtain ⟨ex, ew, en, em⟩ := e
          obtain ⟨ex', ew', en', em'⟩ := e'
          simp only at d0 d1 d2 d3 f0 f1 f2 f3
          by_cases gex : ex = ex'
          · subst gex
            by_cases gew : ew = ew'
            · subst gew
              by_cases gen : en = en'
              · subst gen
                cases em with
                | true =>
                  cases em' with
                  | true => exact absurd rfl hee
                  | false =>
                    clear hee
                    go_wp2
                    go_quiet (fail)
                    go_wp2
                    go_ret
                    exact ⟨ret_b HF.out.symm, below_like4 hbw2 rfl rfl rfl rfl⟩
                | false =>
                  cases em' with
                  | false => exact absurd rfl hee
                  | true =>
                    clear hee
                    go_wp2
                    go_quiet (fail)
                    go_wp2
                    go_ret
                    exact ⟨ret_b HF.out.symm, below_like4 hbw2 rfl rfl rfl rfl⟩
              · have c1 : ¬ (en : Int) = (en' : Int) := by omega
                clear hee
                go_wp2
                go_quiet (fail)
                go_wp2
                go_ret
                exact ⟨ret_b HF.out.symm, below_like4 hbw2 rfl rfl rfl rfl⟩
            · have c1 : ¬ (ew : Int) = (ew' : Int) := by omega
              clear hee
              go_wp2
              go_quiet (fail)
              go_wp2
              go_ret
              exact ⟨ret_b HF.out.symm, below_like4 hbw2 rfl rfl rfl rfl⟩
          · have c1 : ¬ (ex : Int) = (ex' : Int) := by omega
            clear hee
            go_wp2
            go_quiet (fail)
            go_wp2
            go_ret
            exact ⟨ret_b HF.out.symm, below_like4 hbw2 rfl rfl rfl rfl⟩
      · obtain rfl : i = es.length := by omega
        have hES : es = es2 := by have h := hme.out; rw [List.take_length, HQ.out, List.take_length] at h; exact h
        have HSB := Lib_hid (HS.out)
        subst hES
        clear a10 d10 hme HQ
        obtain ⟨a0, a1, a2, a3, a4, a5, a6, a7, a8, a9, a10⟩ := rec_cells hx
        obtain ⟨d0, d1, d2, d3, d4, d5, d6, d7, d8, d9, d10⟩ := rec_cells hy
        have RR := RS.out wr hbw2
        clear hx hy CC HR RS
        by_cases ek : k = k2
        · subst ek
          by_cases et : t = t2
          · subst et
            by_cases ex : x = x2
            · subst ex
              by_cases ewn : wn = wn2
              · subst ewn
                by_cases enn : nn = nn2
                · subst enn
                  by_cases ev : v = v2
                  · subst ev
                    have HF : Hid (sb = ps) := Lib_hid (by rw [HSB.out]; simp)
                    clear HSB HS
                    go_wp2_with fail
                    refine RR.mono ?_
                    rintro e w3 ⟨rfl, hb3⟩
                    have hb4 := hbw2.trans (hb3.mono hbw2.size)
                    clear hb3 RR
                    go_wp2
                    go_ret
                    exact ⟨ret_b HF.out.symm, hb4⟩
                  · have c1 : ((v : Int) == (v2 : Int)) = false := by simp; omega
                    have HF : Hid (sb = false) := Lib_hid (by rw [HSB.out]; simp [ev])
                    clear HSB HS RR
                    go_wp2
                    go_ret
                    exact ⟨ret_b HF.out.symm, hbw2⟩
                · have c1 : ((nn : Int) == (nn2 : Int)) = false := by simp; omega
                  have HF : Hid (sb = false) := Lib_hid (by rw [HSB.out]; simp [enn])
                  clear HSB HS RR
                  go_wp2
                  go_ret
                  exact ⟨ret_b HF.out.symm, hbw2⟩
              · have c1 : ((wn : Int) == (wn2 : Int)) = false := by simp; omega
                have HF : Hid (sb = false) := Lib_hid (by rw [HSB.out]; simp [ewn])
                clear HSB HS RR
                go_wp2
                go_ret
                exact ⟨ret_b HF.out.symm, hbw2⟩
            · have c1 : ((x : Int) == (x2 : Int)) = false := by simp; omega
              have HF : Hid (sb = false) := Lib_hid (by rw [HSB.out]; simp [ex])
              clear HSB HS RR
              go_wp2
              go_ret
              exact ⟨ret_b HF.out.symm, hbw2⟩
          · have c1 : ((t : Int) == (t2 : Int)) = false := by simp; omega
            have HF : Hid (sb = false) := Lib_hid (by rw [HSB.out]; simp [et])
            clear HSB HS RR
            go_wp2
            go_ret
            exact ⟨ret_b HF.out.symm, hbw2⟩
        · have c1 : (k == k2) = false := by simp [ek]
          have HF : Hid (sb = false) := Lib_hid (by rw [HSB.out]; simp [ek])
          clear HSB HS RR
          go_wp2
          go_ret
          exact ⟨ret_b HF.out.symm, hbw2⟩
  · have q4 : ((es.length : Int) != (es2.length : Int)) = true := by simp; omega
    have HF : Hid (sb = false) := Lib_hid (by
      rw [HS.out]
      have : es ≠ es2 := fun h => hlen (by rw [h])
      simp [this])
    clear hlen
    go_wp2
    go_ret
    exact ⟨ret_b HF.out.symm, b2⟩

end Go.Proofs.YtbcadnkdehknoaaGreatDoor

namespace Go.Proofs.YtbcadnkdehknoaaGreatDoor
open Go Go.RowKit
set_option linter.unusedVariables false

/-- What the document holds a record against: its named parts alone. -/
def Rv.bare (r : Rv) : Rv :=
  ⟨r.kind, r.t, if r.kind = 2 ∨ r.kind = 3 ∨ r.kind = 4 then r.x else 0, if r.kind = 2 then r.w else 0, if r.kind = 2 then r.n else 0, if r.kind = 3 then r.v else 0,
    if r.kind = 5 then r.p else .node 0 0 0 none 0 [], if r.kind = 5 then r.A else none, if r.kind = 5 then r.c else 0, if r.kind = 5 then r.es else []⟩
theorem same_zero (t : T) : T.sameB (.node 0 0 0 []) t = t.sameB (.node 0 0 0 []) := by
  rw [Bool.eq_iff_iff, sameB_iff, sameB_iff]
  exact ⟨fun h => h.symm, fun h => h.symm⟩
theorem bare_same {r : Rv} (h : 1 ≤ r.kind ∧ r.kind ≤ 7) (h5 : r.kind = 5 → r.p.abs.rightB = true) : r.bare.abs.sameB r.abs = r.abs.rightB := by
  obtain ⟨k, t, x, wn, nn, v, p, Ae, ce, es⟩ := r
  simp only at h h5
  have hk : k = 1 ∨ k = 2 ∨ k = 3 ∨ k = 4 ∨ k = 5 ∨ k = 6 ∨ k = 7 := by omega
  have hz : (V.node 0 0 0 none 0 []).abs = .node 0 0 0 [] := by rw [V.abs, V.absL]
  have e0 : ∀ n : Nat, (0 = n) = (n = 0) := fun n => propext eq_comm
  rcases hk with rfl | rfl | rfl | rfl | rfl | rfl | rfl <;>
    (rw [Bool.eq_iff_iff]; simp [Rv.bare, Rv.abs, Rc.sameB, Rc.rightB, Rc.knownB, Rc.bareB, Rc.emptyB, ofB, List.range, List.range.loop, hz, same_zero, sameB_self, h5, e0, and_assoc]; try (constructor <;> (intro h; simp_all)))

theorem bare_lies {w : World} {lo hi : Nat} {r : Rv} (h : RLies w lo hi r) : RLies w lo hi r.bare := by
  refine ⟨h.kind, h.t, ?_, ?_, ?_, ?_, ?_, ?_, ?_, ?_, ?_⟩ <;> unfold Rv.bare <;> simp only
  · split; exact h.x; omega
  · split; exact h.wn; omega
  · split; exact h.n; omega
  · split; exact h.v; omega
  · split; exact h.p; exact lies_zero _ _ _
  · by_cases h5 : r.kind = 5
    · simp only [if_pos h5]; exact h.es
    · simp only [if_neg h5]; exact Rd.zero
  · by_cases h5 : r.kind = 5
    · simp only [if_pos h5]; exact h.cap
    · simp only [if_neg h5]; exact ⟨Nat.le_refl _, by omega⟩
  · by_cases h5 : r.kind = 5
    · simp only [if_pos h5]; exact h.ok
    · simp only [if_neg h5]; intro e he; cases he
  · by_cases h5 : r.kind = 5
    · simp only [if_pos h5]; exact h.lo
    · simp only [if_neg h5]; intro ad e; cases e

set_option maxRecDepth 100000 in
set_option maxHeartbeats 6400000 in
theorem rright5_any (r : Rv) (w : World) (lo hi : Nat) (hL : RLies w lo hi r) (hhi : hi ≤ w.heap.size) (hct : r.p.abs.count ≤ 1000) :
    Calls Tryz.prog 17 #[r.val] w fun e w' => e = .returned (.bool r.abs.rightB) ∧ Below w.heap.size w w' := by
  have SM : Hid (∀ W, Below w.heap.size w W → Calls Tryz.prog 21 #[r.bare.val, r.val] W fun e w' => e = .returned (.bool (r.bare.abs.sameB r.abs)) ∧ Below W.heap.size W w') := fun W hW => rsame5_any r.bare r W lo hi lo hi (bare_lies (hL.under (hW.mono hhi))) (Nat.le_trans hhi hW.size) (hL.under (hW.mono hhi)) (Nat.le_trans hhi hW.size)
  have PR : Hid (∀ W, Below w.heap.size w W → Calls Tryz.prog 51 #[r.p.val] W fun e w' => e = .returned (.bool r.p.abs.rightB) ∧ Below W.heap.size W w') := fun W hW => rright_any r.p W lo hi (hL.p.under (hW.mono hhi)) (Nat.le_trans hhi hW.size) hct
  have HB : Hid (1 ≤ r.kind ∧ r.kind ≤ 7 → (r.kind = 5 → r.p.abs.rightB = true) → r.bare.abs.sameB r.abs = r.abs.rightB) := fun h h5 => bare_same h h5
  have HN : Hid (¬ (1 ≤ r.kind ∧ r.kind ≤ 7) → r.abs.rightB = false) := fun h => (rightB_parts r.abs).1 (by show decide (1 ≤ r.kind ∧ r.kind ≤ 7) = false; simpa using h)
  have HP : Hid (r.kind = 5 → r.p.abs.rightB = false → r.abs.rightB = false) := fun h5 hp => by
    unfold Rc.rightB
    rw [show r.abs.p = r.p.abs from rfl, hp, show r.abs.kind = 5 from h5]
    simp
  clear hL hct
  generalize r.abs.rightB = rr at *
  generalize r.bare.abs.sameB r.abs = sb at *
  obtain ⟨k, t, x, wn, nn, v, p, Ae, ce, es⟩ := r
  generalize p.abs.rightB = pr at *
  simp only at HB HN HP
  simp only [Rv.val, Rv.arr, Rv.sl, V.sl]
  by_cases hk : 1 ≤ k ∧ k ≤ 7
  · have hk7 : k = 1 ∨ k = 2 ∨ k = 3 ∨ k = 4 ∨ k = 5 ∨ k = 6 ∨ k = 7 := by omega
    rcases hk7 with rfl | rfl | rfl | rfl | rfl | rfl | rfl
    · have hb2 := (below_new w (.cells #[.int .i64 1, .int .u64 (t : Int), .int .u64 (x : Int), .int .u64 (wn : Int), .int .u64 (nn : Int), .int .u64 (v : Int), .int .i64 p.kind, .int .u64 (p.a : Int), .int .u64 (p.b : Int), .slice p.addr p.parts.length p.cap, .slice Ae es.length ce] 39)).alloc (by simp) (.cells #[.int .i64 1, .int .u64 (t : Int), .int .u64 0, .int .u64 0, .int .u64 0, .int .u64 0, .int .i64 0, .int .u64 0, .int .u64 0, .slice none 0 0, .slice none 0 0] 39)
      have SK : Hid (∀ W, Below w.heap.size w W → Calls Tryz.prog 21 #[.agg #[.int .i64 1, .int .u64 (t : Int), .int .u64 0, .int .u64 0, .int .u64 0, .int .u64 0, .int .i64 0, .int .u64 0, .int .u64 0, .slice none 0 0, .slice none 0 0], .agg #[.int .i64 1, .int .u64 (t : Int), .int .u64 (x : Int), .int .u64 (wn : Int), .int .u64 (nn : Int), .int .u64 (v : Int), .int .i64 p.kind, .int .u64 (p.a : Int), .int .u64 (p.b : Int), .slice p.addr p.parts.length p.cap, .slice Ae es.length ce]] W fun e w' => e = .returned (.bool sb) ∧ Below W.heap.size W w') := SM
      have HF := Lib_hid (HB.out (by omega) (fun h => absurd h (by decide)))
      have hN1 : w.heap.size ≤ w.heap.size + 1 := by omega
      clear SM PR HN HP HB hk
      go_enter Tryz.func17, Tryz.ntmps17
      go_wp2_with fail
      refine (SK.out _ hb2).mono ?_
      rintro e w3 ⟨rfl, hb3⟩
      have hb4 : Below w.heap.size w w3 := hb2.trans (hb3.mono (by simp; omega))
      clear hb3 hb2 SK
      go_wp2
      go_ret
      exact ⟨ret_b HF.out, hb4⟩
    · have hb2 := (below_new w (.cells #[.int .i64 2, .int .u64 (t : Int), .int .u64 (x : Int), .int .u64 (wn : Int), .int .u64 (nn : Int), .int .u64 (v : Int), .int .i64 p.kind, .int .u64 (p.a : Int), .int .u64 (p.b : Int), .slice p.addr p.parts.length p.cap, .slice Ae es.length ce] 39)).alloc (by simp) (.cells #[.int .i64 2, .int .u64 (t : Int), .int .u64 (x : Int), .int .u64 (wn : Int), .int .u64 (nn : Int), .int .u64 0, .int .i64 0, .int .u64 0, .int .u64 0, .slice none 0 0, .slice none 0 0] 39)
      have SK : Hid (∀ W, Below w.heap.size w W → Calls Tryz.prog 21 #[.agg #[.int .i64 2, .int .u64 (t : Int), .int .u64 (x : Int), .int .u64 (wn : Int), .int .u64 (nn : Int), .int .u64 0, .int .i64 0, .int .u64 0, .int .u64 0, .slice none 0 0, .slice none 0 0], .agg #[.int .i64 2, .int .u64 (t : Int), .int .u64 (x : Int), .int .u64 (wn : Int), .int .u64 (nn : Int), .int .u64 (v : Int), .int .i64 p.kind, .int .u64 (p.a : Int), .int .u64 (p.b : Int), .slice p.addr p.parts.length p.cap, .slice Ae es.length ce]] W fun e w' => e = .returned (.bool sb) ∧ Below W.heap.size W w') := SM
      have HF := Lib_hid (HB.out (by omega) (fun h => absurd h (by decide)))
      have hN1 : w.heap.size ≤ w.heap.size + 1 := by omega
      clear SM PR HN HP HB hk
      go_enter Tryz.func17, Tryz.ntmps17
      go_wp2_with fail
      refine (SK.out _ hb2).mono ?_
      rintro e w3 ⟨rfl, hb3⟩
      have hb4 : Below w.heap.size w w3 := hb2.trans (hb3.mono (by simp; omega))
      clear hb3 hb2 SK
      go_wp2
      go_ret
      exact ⟨ret_b HF.out, hb4⟩
    · have hb2 := (below_new w (.cells #[.int .i64 3, .int .u64 (t : Int), .int .u64 (x : Int), .int .u64 (wn : Int), .int .u64 (nn : Int), .int .u64 (v : Int), .int .i64 p.kind, .int .u64 (p.a : Int), .int .u64 (p.b : Int), .slice p.addr p.parts.length p.cap, .slice Ae es.length ce] 39)).alloc (by simp) (.cells #[.int .i64 3, .int .u64 (t : Int), .int .u64 (x : Int), .int .u64 0, .int .u64 0, .int .u64 (v : Int), .int .i64 0, .int .u64 0, .int .u64 0, .slice none 0 0, .slice none 0 0] 39)
      have SK : Hid (∀ W, Below w.heap.size w W → Calls Tryz.prog 21 #[.agg #[.int .i64 3, .int .u64 (t : Int), .int .u64 (x : Int), .int .u64 0, .int .u64 0, .int .u64 (v : Int), .int .i64 0, .int .u64 0, .int .u64 0, .slice none 0 0, .slice none 0 0], .agg #[.int .i64 3, .int .u64 (t : Int), .int .u64 (x : Int), .int .u64 (wn : Int), .int .u64 (nn : Int), .int .u64 (v : Int), .int .i64 p.kind, .int .u64 (p.a : Int), .int .u64 (p.b : Int), .slice p.addr p.parts.length p.cap, .slice Ae es.length ce]] W fun e w' => e = .returned (.bool sb) ∧ Below W.heap.size W w') := SM
      have HF := Lib_hid (HB.out (by omega) (fun h => absurd h (by decide)))
      have hN1 : w.heap.size ≤ w.heap.size + 1 := by omega
      clear SM PR HN HP HB hk
      go_enter Tryz.func17, Tryz.ntmps17
      go_wp2_with fail
      refine (SK.out _ hb2).mono ?_
      rintro e w3 ⟨rfl, hb3⟩
      have hb4 : Below w.heap.size w w3 := hb2.trans (hb3.mono (by simp; omega))
      clear hb3 hb2 SK
      go_wp2
      go_ret
      exact ⟨ret_b HF.out, hb4⟩
    · have hb2 := (below_new w (.cells #[.int .i64 4, .int .u64 (t : Int), .int .u64 (x : Int), .int .u64 (wn : Int), .int .u64 (nn : Int), .int .u64 (v : Int), .int .i64 p.kind, .int .u64 (p.a : Int), .int .u64 (p.b : Int), .slice p.addr p.parts.length p.cap, .slice Ae es.length ce] 39)).alloc (by simp) (.cells #[.int .i64 4, .int .u64 (t : Int), .int .u64 (x : Int), .int .u64 0, .int .u64 0, .int .u64 0, .int .i64 0, .int .u64 0, .int .u64 0, .slice none 0 0, .slice none 0 0] 39)
      have SK : Hid (∀ W, Below w.heap.size w W → Calls Tryz.prog 21 #[.agg #[.int .i64 4, .int .u64 (t : Int), .int .u64 (x : Int), .int .u64 0, .int .u64 0, .int .u64 0, .int .i64 0, .int .u64 0, .int .u64 0, .slice none 0 0, .slice none 0 0], .agg #[.int .i64 4, .int .u64 (t : Int), .int .u64 (x : Int), .int .u64 (wn : Int), .int .u64 (nn : Int), .int .u64 (v : Int), .int .i64 p.kind, .int .u64 (p.a : Int), .int .u64 (p.b : Int), .slice p.addr p.parts.length p.cap, .slice Ae es.length ce]] W fun e w' => e = .returned (.bool sb) ∧ Below W.heap.size W w') := SM
      have HF := Lib_hid (HB.out (by omega) (fun h => absurd h (by decide)))
      have hN1 : w.heap.size ≤ w.heap.size + 1 := by omega
      clear SM PR HN HP HB hk
      go_enter Tryz.func17, Tryz.ntmps17
      go_wp2_with fail
      refine (SK.out _ hb2).mono ?_
      rintro e w3 ⟨rfl, hb3⟩
      have hb4 : Below w.heap.size w w3 := hb2.trans (hb3.mono (by simp; omega))
      clear hb3 hb2 SK
      go_wp2
      go_ret
      exact ⟨ret_b HF.out, hb4⟩
    · have hb2 := (below_new w (.cells #[.int .i64 5, .int .u64 (t : Int), .int .u64 (x : Int), .int .u64 (wn : Int), .int .u64 (nn : Int), .int .u64 (v : Int), .int .i64 p.kind, .int .u64 (p.a : Int), .int .u64 (p.b : Int), .slice p.addr p.parts.length p.cap, .slice Ae es.length ce] 39)).alloc (by simp) (.cells #[.int .i64 5, .int .u64 (t : Int), .int .u64 0, .int .u64 0, .int .u64 0, .int .u64 0, .int .i64 0, .int .u64 0, .int .u64 0, .slice none 0 0, .slice none 0 0] 39)
      have hx2 := (heap_alloc_old (w.alloc (.cells #[.int .i64 5, .int .u64 (t : Int), .int .u64 (x : Int), .int .u64 (wn : Int), .int .u64 (nn : Int), .int .u64 (v : Int), .int .i64 p.kind, .int .u64 (p.a : Int), .int .u64 (p.b : Int), .slice p.addr p.parts.length p.cap, .slice Ae es.length ce] 39)) (.cells #[.int .i64 5, .int .u64 (t : Int), .int .u64 0, .int .u64 0, .int .u64 0, .int .u64 0, .int .i64 0, .int .u64 0, .int .u64 0, .slice none 0 0, .slice none 0 0] 39) (by simp)).trans (heap_alloc_new w (.cells #[.int .i64 5, .int .u64 (t : Int), .int .u64 (x : Int), .int .u64 (wn : Int), .int .u64 (nn : Int), .int .u64 (v : Int), .int .i64 p.kind, .int .u64 (p.a : Int), .int .u64 (p.b : Int), .slice p.addr p.parts.length p.cap, .slice Ae es.length ce] 39))
      have hy2 := heap_alloc_new (w.alloc (.cells #[.int .i64 5, .int .u64 (t : Int), .int .u64 (x : Int), .int .u64 (wn : Int), .int .u64 (nn : Int), .int .u64 (v : Int), .int .i64 p.kind, .int .u64 (p.a : Int), .int .u64 (p.b : Int), .slice p.addr p.parts.length p.cap, .slice Ae es.length ce] 39)) (.cells #[.int .i64 5, .int .u64 (t : Int), .int .u64 0, .int .u64 0, .int .u64 0, .int .u64 0, .int .i64 0, .int .u64 0, .int .u64 0, .slice none 0 0, .slice none 0 0] 39)
      rw [show (w.alloc (.cells #[.int .i64 5, .int .u64 (t : Int), .int .u64 (x : Int), .int .u64 (wn : Int), .int .u64 (nn : Int), .int .u64 (v : Int), .int .i64 p.kind, .int .u64 (p.a : Int), .int .u64 (p.b : Int), .slice p.addr p.parts.length p.cap, .slice Ae es.length ce] 39)).heap.size = w.heap.size + 1 by simp] at hy2
      have P1 := PR.out _ hb2
      have SK : Hid (∀ W, Below w.heap.size w W → Calls Tryz.prog 21 #[.agg #[.int .i64 5, .int .u64 (t : Int), .int .u64 0, .int .u64 0, .int .u64 0, .int .u64 0, .int .i64 p.kind, .int .u64 (p.a : Int), .int .u64 (p.b : Int), .slice p.addr p.parts.length p.cap, .slice Ae es.length ce], .agg #[.int .i64 5, .int .u64 (t : Int), .int .u64 (x : Int), .int .u64 (wn : Int), .int .u64 (nn : Int), .int .u64 (v : Int), .int .i64 p.kind, .int .u64 (p.a : Int), .int .u64 (p.b : Int), .slice p.addr p.parts.length p.cap, .slice Ae es.length ce]] W fun e w' => e = .returned (.bool sb) ∧ Below W.heap.size W w') := SM
      simp only [V.val, V.sl] at P1
      clear SM PR HN
      go_enter Tryz.func17, Tryz.ntmps17
      go_wp2_with fail
      refine P1.mono ?_
      rintro e w3 ⟨rfl, hb3⟩
      have hx3 := (hb3.block _ (lt_of_block hx2)).trans hx2
      have hy3 := (hb3.block _ (lt_of_block hy2)).trans hy2
      replace hb3 := hb2.trans (hb3.mono hb2.size)
      clear P1 hx2 hy2 hb2
      cases pr with
      | false =>
        have HF : Hid (rr = false) := Lib_hid (HP.out (by trivial) (by trivial))
        go_wp2
        go_ret
        exact ⟨ret_b HF.out.symm, hb3⟩
      | true =>
        have HF : Hid (sb = rr) := Lib_hid (HB.out (by omega) (by simp))
        have hN1 : w.heap.size ≤ w.heap.size + 1 := by omega
        have hb4 := ((((hb3.setCell (p := ⟨w.heap.size + 1, 6, none⟩) hN1 (.int .i64 p.kind)).setCell (p := ⟨w.heap.size + 1, 7, none⟩) hN1 (.int .u64 (p.a : Int))).setCell (p := ⟨w.heap.size + 1, 8, none⟩) hN1 (.int .u64 (p.b : Int))).setCell (p := ⟨w.heap.size + 1, 9, none⟩) hN1 (.slice p.addr p.parts.length p.cap)).setCell (p := ⟨w.heap.size + 1, 10, none⟩) hN1 (.slice Ae es.length ce)
        have S1 := SK.out _ hb4
        obtain ⟨a0, a1, a2, a3, a4, a5, a6, a7, a8, a9, a10⟩ := rec_cells hx3
        obtain ⟨d0, d1, d2, d3, d4, d5, d6, d7, d8, d9, d10⟩ := rec_cells hy3
        have z6 := frozen_of_row w3 _ 6 _ _ hy3
        have z7 := frozen_of_row w3 _ 7 _ _ hy3
        have z8 := frozen_of_row w3 _ 8 _ _ hy3
        have z9 := frozen_of_row w3 _ 9 _ _ hy3
        have z10 := frozen_of_row w3 _ 10 _ _ hy3
        clear hx3 hy3 hb3 SK HB HP hk
        go_wp2_with fail
        refine S1.mono ?_
        rintro e w4 ⟨rfl, hb5⟩
        have hb6 := hb4.trans (hb5.mono hb4.size)
        clear hb4 hb5 S1
        go_wp2
        go_ret
        exact ⟨ret_b HF.out, hb6⟩
    · have hb2 := (below_new w (.cells #[.int .i64 6, .int .u64 (t : Int), .int .u64 (x : Int), .int .u64 (wn : Int), .int .u64 (nn : Int), .int .u64 (v : Int), .int .i64 p.kind, .int .u64 (p.a : Int), .int .u64 (p.b : Int), .slice p.addr p.parts.length p.cap, .slice Ae es.length ce] 39)).alloc (by simp) (.cells #[.int .i64 6, .int .u64 (t : Int), .int .u64 0, .int .u64 0, .int .u64 0, .int .u64 0, .int .i64 0, .int .u64 0, .int .u64 0, .slice none 0 0, .slice none 0 0] 39)
      have SK : Hid (∀ W, Below w.heap.size w W → Calls Tryz.prog 21 #[.agg #[.int .i64 6, .int .u64 (t : Int), .int .u64 0, .int .u64 0, .int .u64 0, .int .u64 0, .int .i64 0, .int .u64 0, .int .u64 0, .slice none 0 0, .slice none 0 0], .agg #[.int .i64 6, .int .u64 (t : Int), .int .u64 (x : Int), .int .u64 (wn : Int), .int .u64 (nn : Int), .int .u64 (v : Int), .int .i64 p.kind, .int .u64 (p.a : Int), .int .u64 (p.b : Int), .slice p.addr p.parts.length p.cap, .slice Ae es.length ce]] W fun e w' => e = .returned (.bool sb) ∧ Below W.heap.size W w') := SM
      have HF := Lib_hid (HB.out (by omega) (fun h => absurd h (by decide)))
      have hN1 : w.heap.size ≤ w.heap.size + 1 := by omega
      clear SM PR HN HP HB hk
      go_enter Tryz.func17, Tryz.ntmps17
      go_wp2_with fail
      refine (SK.out _ hb2).mono ?_
      rintro e w3 ⟨rfl, hb3⟩
      have hb4 : Below w.heap.size w w3 := hb2.trans (hb3.mono (by simp; omega))
      clear hb3 hb2 SK
      go_wp2
      go_ret
      exact ⟨ret_b HF.out, hb4⟩
    · have hb2 := (below_new w (.cells #[.int .i64 7, .int .u64 (t : Int), .int .u64 (x : Int), .int .u64 (wn : Int), .int .u64 (nn : Int), .int .u64 (v : Int), .int .i64 p.kind, .int .u64 (p.a : Int), .int .u64 (p.b : Int), .slice p.addr p.parts.length p.cap, .slice Ae es.length ce] 39)).alloc (by simp) (.cells #[.int .i64 7, .int .u64 (t : Int), .int .u64 0, .int .u64 0, .int .u64 0, .int .u64 0, .int .i64 0, .int .u64 0, .int .u64 0, .slice none 0 0, .slice none 0 0] 39)
      have SK : Hid (∀ W, Below w.heap.size w W → Calls Tryz.prog 21 #[.agg #[.int .i64 7, .int .u64 (t : Int), .int .u64 0, .int .u64 0, .int .u64 0, .int .u64 0, .int .i64 0, .int .u64 0, .int .u64 0, .slice none 0 0, .slice none 0 0], .agg #[.int .i64 7, .int .u64 (t : Int), .int .u64 (x : Int), .int .u64 (wn : Int), .int .u64 (nn : Int), .int .u64 (v : Int), .int .i64 p.kind, .int .u64 (p.a : Int), .int .u64 (p.b : Int), .slice p.addr p.parts.length p.cap, .slice Ae es.length ce]] W fun e w' => e = .returned (.bool sb) ∧ Below W.heap.size W w') := SM
      have HF := Lib_hid (HB.out (by omega) (fun h => absurd h (by decide)))
      have hN1 : w.heap.size ≤ w.heap.size + 1 := by omega
      clear SM PR HN HP HB hk
      go_enter Tryz.func17, Tryz.ntmps17
      go_wp2_with fail
      refine (SK.out _ hb2).mono ?_
      rintro e w3 ⟨rfl, hb3⟩
      have hb4 : Below w.heap.size w w3 := hb2.trans (hb3.mono (by simp; omega))
      clear hb3 hb2 SK
      go_wp2
      go_ret
      exact ⟨ret_b HF.out, hb4⟩
  · have HF := Lib_hid (HN.out hk)
    have hb2 := (below_new w (.cells #[.int .i64 k, .int .u64 (t : Int), .int .u64 (x : Int), .int .u64 (wn : Int), .int .u64 (nn : Int), .int .u64 (v : Int), .int .i64 p.kind, .int .u64 (p.a : Int), .int .u64 (p.b : Int), .slice p.addr p.parts.length p.cap, .slice Ae es.length ce] 39)).alloc (by simp) (.cells #[.int .i64 k, .int .u64 (t : Int), .int .u64 0, .int .u64 0, .int .u64 0, .int .u64 0, .int .i64 0, .int .u64 0, .int .u64 0, .slice none 0 0, .slice none 0 0] 39)
    have n1 : ¬ k = 1 := by omega
    have n2 : ¬ k = 2 := by omega
    have n3 : ¬ k = 3 := by omega
    have n4 : ¬ k = 4 := by omega
    have n5 : ¬ k = 5 := by omega
    have n6 : ¬ k = 6 := by omega
    have n7 : ¬ k = 7 := by omega
    clear SM PR HN HP HB hk
    go_enter Tryz.func17, Tryz.ntmps17
    go_wp2
    go_ret
    exact ⟨ret_b HF.out.symm, hb2⟩

end Go.Proofs.YtbcadnkdehknoaaGreatDoor
