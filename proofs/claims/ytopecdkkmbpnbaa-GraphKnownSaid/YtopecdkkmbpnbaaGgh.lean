/-
  Layer 13: an edge taken out of a row of edges (rows.drop).
-/
import Derived.Test.YtopecdkkmbpnbaaGgf
namespace Go.Proofs.Ytopecdkkmbpnbaa
open Go Go.RowKit Go.Maps
set_option linter.unusedVariables false

theorem ec_set (z : Ed) : ∀ (l : List Ed) (a : Nat), a < l.length → (((ec l).set (a * 3) (.int .i64 z.1)).set (a * 3 + 1) (.int .i64 z.2.1)).set (a * 3 + 2) (.int .i64 z.2.2) = ec (l.set a z)
  | x :: l, 0, _ => by simp [ec, eC]
  | x :: l, a + 1, h => by
    have ih := ec_set z l a (by simpa using h)
    have e : ec (x :: l) = eC x ++ ec l := rfl
    have hx : (eC x).length = 3 := rfl
    rw [List.set_cons_succ, show ec (x :: l.set a z) = eC x ++ ec (l.set a z) from rfl, ← ih, e]
    rw [List.set_append_right _ _ (by omega), List.set_append_right _ _ (by omega), List.set_append_right _ _ (by omega), hx]
    rw [show (a + 1) * 3 - 3 = a * 3 by omega, show (a + 1) * 3 + 1 - 3 = a * 3 + 1 by omega, show (a + 1) * 3 + 2 - 3 = a * 3 + 2 by omega]
theorem ec_take : ∀ (l : List Ed) (m : Nat), (ec l).take (m * 3) = ec (l.take m)
  | [], m => by simp [ec]
  | x :: l, 0 => by simp [ec]
  | x :: l, m + 1 => by
    have e : ec (x :: l) = eC x ++ ec l := rfl
    have hx : (eC x).length = 3 := rfl
    rw [List.take_succ_cons, show ec (x :: l.take m) = eC x ++ ec (l.take m) from rfl, ← ec_take l m, e, List.take_append, hx, List.take_of_length_le (by omega), show (m + 1) * 3 - 3 = m * 3 by omega]
theorem own_take {w : World} {base size n c g m : Nat} {e : TypeId} {xs : List Value} (h : w.ownsRow base e size (.slice (some ⟨g, 0, none⟩) n c) n xs) (hm : m ≤ n) : w.ownsRow base e size (.slice (some ⟨g, 0, none⟩) m c) m (xs.take (m * size)) := by
  rcases h.2 with ⟨h', _⟩ | ⟨g', cap', cur, h', hb, hg, hnc, hcm, hcs, htake⟩
  · simp at h'
  · simp only [Value.slice.injEq, Option.some.injEq, Addr.mk.injEq, and_true, true_and] at h'
    obtain ⟨rfl, rfl⟩ := h'
    have hmn : m * size ≤ n * size := Nat.mul_le_mul_right _ hm
    refine ⟨by rw [List.length_take, h.1]; omega, .inr ⟨g, c, cur, rfl, hb, hg, by omega, hcm, hcs, ?_⟩⟩
    rw [← htake, List.take_take, Nat.min_eq_left hmn]

/-- A row's own step is written into its cell, its step given as a step on blocks. -/
theorem stp_of {w w1 : World} {b n n' c c' : Nat} (h : Turns (fun k => k = b) w w1) (hs : ∀ k, w.heap.size ≤ k → True) : Stp w w1 (.slice (some ⟨b, 0, none⟩) n c) (.slice (some ⟨b, 0, none⟩) n' c') :=
  ⟨⟨h.os, h.tape, h.output, h.size, fun k hk hne => h.block k hk (fun e => hne (by rw [e]; rfl))⟩, .inl rfl⟩

/-- The three cells of an edge are written. -/
def setE (w : World) (b a : Nat) (z : Ed) : World := ((w.setCell ⟨b, a * 3, none⟩ (.int .i64 z.1)).setCell ⟨b, a * 3 + 1, none⟩ (.int .i64 z.2.1)).setCell ⟨b, a * 3 + 2, none⟩ (.int .i64 z.2.2)
theorem own_setE {w : World} {base n c b a : Nat} {l : List Ed} (h : w.ownsRow base 39 3 (.slice (some ⟨b, 0, none⟩) n c) n (ec l)) (ha : a < n) (z : Ed) :
    (setE w b a z).ownsRow base 39 3 (.slice (some ⟨b, 0, none⟩) n c) n (ec (l.set a z)) ∧ Turns (fun k => k = b) w (setE w b a z) := by
  have hl : l.length = n := by have := h.1; rw [ec_length] at this; omega
  rw [← ec_set z l a (by omega)]
  unfold setE
  have h1 := (h.stored (a * 3) (.int .i64 z.1)).1
  have h2 := (h1.stored (a * 3 + 1) (.int .i64 z.2.1)).1
  exact ⟨(h2.stored (a * 3 + 2) (.int .i64 z.2.2)).1, ((turns_setCell w b _ _).trans (turns_setCell _ b _ _) fun k e => .inl e).trans (turns_setCell _ b _ _) fun k e => .inl e⟩

theorem HalfEnd.aside {w w1 w2 : World} {N g c q : Nat} {S' : Nat → Sl2} {R' : Nat → List Ed} {tg tg' : Nat → Nat} (h : HalfEnd w w1 N g S' R' tg tg' c) (hc : 3 ≤ c) (t : Turns (fun k => k = q) w1 w2) (hq : tg' q = 0) (hw : w.heap.size ≤ q) : HalfEnd w w2 N g S' R' tg tg' c :=
  ⟨h.half.turn hc (fun _ _ => rfl) fun k hk _ h3 => t.block k hk (fun e => by rw [e] at h3; omega), h.old, fun k hk => h.al k (by have := t.size; omega), h.turns.trans t fun k e => .inr (by rw [e]; exact hw)⟩

set_option maxRecDepth 100000 in
set_option maxHeartbeats 1600000 in
theorem pdrop_any {w : World} {N g c n a : Nat} {S : Nat → Sl2} {R : Nat → List Ed} {tg : Nat → Nat} (h : Half w N g S R tg c) (hc : 3 ≤ c) (hn : n < N) (hN : N ≤ 65536) (hal : ∀ k, w.heap.size ≤ k → tg k = 0) {z : Ed} (hz : (R n)[(R n).length - 1]? = some z) (ha : a < (R n).length) (hl : (R n).length ≤ 1000000000) :
    Calls Try.prog 45 #[.slice (some ⟨g, 0, none⟩) N N, .int .i64 (n : Int), .int .i64 (a : Int)] w fun r w' => r = .returned (eV z) ∧ ∃ S' tg', HalfEnd w w' N g S' (upR R n (dropAt (R n) a z)) tg tg' c := by
  obtain ⟨b, cp, hv⟩ := Joins.ownsRow_form (h.row n hn) (by omega)
  simp only [Value.slice.injEq] at hv
  obtain ⟨hA, _, hcp⟩ := hv
  have ho := h.row n hn
  rw [hA] at ho
  have hb := h.rlt hn (show ob (S n).1 = some b by rw [hA]; rfl)
  have htb := h.tgr n hn b (by rw [hA]; rfl)
  have hgb : g ≠ b := fun e => by have := h.tgt; subst e; omega
  have c0 := h.cell hn
  unfold sv at c0
  rw [hA] at c0
  have hcap := own_cap ho
  have hgl := h.glt
  obtain ⟨k, hk⟩ : ∃ k, (R n).length = k + 1 := ⟨(R n).length - 1, by omega⟩
  rw [hk, Nat.add_sub_cancel] at hz
  obtain ⟨b', off, e, _, l0, l1, l2⟩ := e_at (Rd.own ho) (show k < (R n).length by omega)
  simp only [Option.some.injEq, Addr.mk.injEq, and_true] at e
  obtain ⟨rfl, rfl⟩ := e
  rw [show at3 (R n) k = z by rw [at3_get (l := R n) (k := k) (by omega)] at hz; exact Option.some.inj hz] at l0 l1 l2
  obtain ⟨-, -⟩ : True ∧ True := ⟨trivial, trivial⟩
  have hnI : (n : Int) < (N : Int) := by omega
  have haI : (a : Int) < (k : Int) + 1 := by omega
  have ha0 : (0 : Int) ≤ (a : Int) := by omega
  rw [hk] at ho c0 hcap
  obtain ⟨cq, hcq⟩ : ∃ cq, cq = (S n).2 := ⟨_, rfl⟩
  rw [← hcq] at ho c0 hcap
  have H0 := Lib_hid (And.intro h (And.intro hc (And.intro hn (And.intro hal (And.intro hk (And.intro hA (And.intro ho (And.intro ha hcq))))))))
  have hzz := below_new w (.cells #[.int .i64 0, .int .i64 0, .int .i64 0] 39)
  have k0 := (hzz.cell (p := ⟨g, n, none⟩) hgl).trans c0
  have m0 := (hzz.cell (p := ⟨b, 0 + k * 3, none⟩) hb).trans l0
  have m1 := (hzz.cell (p := ⟨b, 0 + k * 3 + 1, none⟩) hb).trans l1
  have m2 := (hzz.cell (p := ⟨b, 0 + k * 3 + 2, none⟩) hb).trans l2
  have hsz : (w.alloc (.cells #[.int .i64 0, .int .i64 0, .int .i64 0] 39)).heap.size = w.heap.size + 1 := by simp
  rw [Nat.zero_add] at m0 m1 m2
  clear h hc hn hal hk hA ho ha hcp hl htb c0 l0 l1 l2 hzz
  clear hcq
  go_enter Try.func45, Try.ntmps45
  go_upto_region 3 with (fail)
  have hB1 : Below w.heap.size w ((w.alloc (.cells #[.int .i64 0, .int .i64 0, .int .i64 0] 39)).alloc (.cells #[.int .i64 z.1, .int .i64 z.2.1, .int .i64 z.2.2] 39)) := (below_new w _).alloc (by omega) _
  have x0 : ((w.alloc (.cells #[.int .i64 0, .int .i64 0, .int .i64 0] 39)).alloc (.cells #[.int .i64 z.1, .int .i64 z.2.1, .int .i64 z.2.2] 39)).heap[w.heap.size]? = some (.cells #[.int .i64 0, .int .i64 0, .int .i64 0] 39 (0, 0)) := ((below_new (w.alloc (.cells #[.int .i64 0, .int .i64 0, .int .i64 0] 39)) (.cells #[.int .i64 z.1, .int .i64 z.2.1, .int .i64 z.2.2] 39)).block w.heap.size (by omega)).trans (heap_alloc_new w _)
  have x1 := heap_alloc_new (w.alloc (.cells #[.int .i64 0, .int .i64 0, .int .i64 0] 39)) (.cells #[.int .i64 z.1, .int .i64 z.2.1, .int .i64 z.2.2] 39)
  rw [hsz] at x1
  have hs2 : ((w.alloc (.cells #[.int .i64 0, .int .i64 0, .int .i64 0] 39)).alloc (.cells #[.int .i64 z.1, .int .i64 z.2.1, .int .i64 z.2.2] 39)).heap.size = w.heap.size + 2 := by simp
  clear k0 m0 m1 m2 hsz
  generalize (w.alloc (.cells #[.int .i64 0, .int .i64 0, .int .i64 0] 39)).alloc (.cells #[.int .i64 z.1, .int .i64 z.2.1, .int .i64 z.2.2] 39) = W1 at *
  obtain ⟨h, hc, hn, hal, hk, hA, ho, ha, hcq⟩ := H0.out
  have hW : Half W1 N g S R tg c := h.turn hc (fun _ _ => rfl) fun k hk _ _ => hB1.block k hk
  have hr : W1.ownsRow 0 39 3 (.slice (some ⟨b, 0, none⟩) (k + 1) cq) (k + 1) (ec (R n)) := own_keep ho fun q e => hB1.block q (Nat.lt_of_le_of_lt (Nat.le_of_eq (show q = b from (by injection e with e; exact e.symm))) hb)
  have cG : W1.cell? ⟨g, n, none⟩ = some (.slice (some ⟨b, 0, none⟩) (k + 1) cq) := by
    have := (hB1.cell (p := ⟨g, n, none⟩) hgl).trans (h.cell hn)
    unfold sv at this
    rw [hA, hk, ← hcq] at this
    exact this
  have f0 := hr.frozenAt (a * 3)
  have f1 := hr.frozenAt (a * 3 + 1)
  have f2 := hr.frozenAt (a * 3 + 2)
  obtain ⟨b', off, e, _, y0, y1, y2⟩ := e_at (Rd.own hr) (show a < k + 1 by omega)
  simp only [Option.some.injEq, Addr.mk.injEq, and_true] at e
  obtain ⟨rfl, rfl⟩ := e
  rw [Nat.zero_add] at y0 y1 y2
  have w0 : W1.cell? ⟨w.heap.size + 1, 0, none⟩ = some (.int .i64 z.1) := cell_of_row _ _ 0 _ _ _ x1
  have w1 : W1.cell? ⟨w.heap.size + 1, 1, none⟩ = some (.int .i64 z.2.1) := cell_of_row _ _ 1 _ _ _ x1
  have w2 : W1.cell? ⟨w.heap.size + 1, 2, none⟩ = some (.int .i64 z.2.2) := cell_of_row _ _ 2 _ _ _ x1
  have hcap := own_cap ho
  have HH := Lib_hid (And.intro hW (And.intro hr (And.intro hB1 (And.intro x0 (And.intro x1 hs2)))))
  clear h hc hn hal hk hA ho ha hcq hW hr hB1 x0 x1 hs2
  go_region
  all_goals
    obtain ⟨W3, hW3⟩ : ∃ W3, W3 = setE W1 b a z := ⟨_, rfl⟩
    have hW3' : ((W1.setCell ⟨b, a * 3, none⟩ (.int .i64 z.1)).setCell ⟨b, a * 3 + 1, none⟩ (.int .i64 z.2.1)).setCell ⟨b, a * 3 + 2, none⟩ (.int .i64 z.2.2) = W3 := hW3.symm
    rw [hW3']
    obtain ⟨h, hc, hn, hal, hk, hA, ho, ha, hcq⟩ := H0.out
    obtain ⟨hW, hr, hB1, x0, x1, hs2⟩ := HH.out
    obtain ⟨o3, t3⟩ := own_setE hr (show a < k + 1 by omega) z
    rw [← hW3] at o3 t3
    have hrl : (R n).length = k + 1 := hk
    have hdl : (dropAt (R n) a z).length = k := by simp [dropAt, hrl]
    have o4 := own_take o3 (show k ≤ k + 1 by omega)
    rw [ec_take, show ((R n).set a z).take k = dropAt (R n) a z by unfold dropAt; rw [List.dropLast_eq_take, List.length_set, hrl]; rfl] at o4
    have st := stp_of (n := k + 1) (n' := k) (c := cq) (c' := cq) t3 (fun _ _ => trivial)
    obtain ⟨tg', P⟩ := hW.put (w1 := W3) (n := n) (l' := dropAt (R n) a z) (v := (some ⟨b, 0, none⟩, cq)) hc hn (fun q hq => hal q (by omega)) (by unfold sv; rw [hA, hk, hdl, ← hcq]; exact st) (by rw [hdl]; exact o4)
    rw [hdl] at P
    have tq : tg' w.heap.size = 0 := (P.old _ (by omega)).trans (hal _ (Nat.le_refl _))
    have HP := Lib_hid (And.intro (P.later (Turns.of_below (S := fun k => tg k % 2 = c % 2 ∧ 3 ≤ tg k) hB1)) tq)
    have hbk : ∀ q, q < W1.heap.size → q ≠ b → W3.heap[q]? = W1.heap[q]? := fun q h1 h2 => t3.block q h1 h2
    have g3 : W3.heap[g]? = W1.heap[g]? := hbk g (by omega) hgb
    have cG3 : W3.cell? ⟨g, n, none⟩ = some (.slice (some ⟨b, 0, none⟩) (k + 1) cq) := (World.cell?_of_block g3).trans cG
    have zG3 : W3.frozen? ⟨g, n, none⟩ = false := (World.frozen?_of_block (a := ⟨g, n, none⟩) g3).trans (hW.frozen n)
    have x03 := (hbk w.heap.size (by omega) (by omega)).trans x0
    have x13 := (hbk (w.heap.size + 1) (by omega) (by omega)).trans x1
    have d03 := (heap_setCell_other W3 ⟨g, n, none⟩ w.heap.size (.slice (some ⟨b, 0, none⟩) k cq) (by show w.heap.size ≠ g; omega)).trans x03
    have d13 := (heap_setCell_other W3 ⟨g, n, none⟩ (w.heap.size + 1) (.slice (some ⟨b, 0, none⟩) k cq) (by show w.heap.size + 1 ≠ g; omega)).trans x13
    have HD := Lib_hid (And.intro d03 d13)
    have HWS := Lib_hid (And.intro hc (show w.heap.size ≤ w.heap.size from Nat.le_refl _))
    clear cG f0 f1 f2 y0 y1 y2 w0 w1 w2 hW3 hW3' h hc hn hal hk hA ho ha hcq hW hr hB1 x0 x1 hs2 o3 t3 o4 st P tq hbk g3 x03 x13 d03 d13 H0 HH hrl hdl hz
    go_upto_region 5 with (fail)
    generalize W3.setCell ⟨g, n, none⟩ (.slice (some ⟨b, 0, none⟩) k cq) = W4 at *
    have q0 : W4.cell? ⟨w.heap.size, 0, none⟩ = some (.int .i64 0) := cell_of_row _ _ 0 _ _ _ HD.out.1
    have q1 : W4.cell? ⟨w.heap.size, 1, none⟩ = some (.int .i64 0) := cell_of_row _ _ 1 _ _ _ HD.out.1
    have q2 : W4.cell? ⟨w.heap.size, 2, none⟩ = some (.int .i64 0) := cell_of_row _ _ 2 _ _ _ HD.out.1
    have z0 : W4.frozen? ⟨w.heap.size, 0, none⟩ = false := frozen_of_row _ _ 0 _ _ HD.out.1
    have z1 : W4.frozen? ⟨w.heap.size, 1, none⟩ = false := frozen_of_row _ _ 1 _ _ HD.out.1
    have z2 : W4.frozen? ⟨w.heap.size, 2, none⟩ = false := frozen_of_row _ _ 2 _ _ HD.out.1
    have w0 : W4.cell? ⟨w.heap.size + 1, 0, none⟩ = some (.int .i64 z.1) := cell_of_row _ _ 0 _ _ _ HD.out.2
    have w1 : W4.cell? ⟨w.heap.size + 1, 1, none⟩ = some (.int .i64 z.2.1) := cell_of_row _ _ 1 _ _ _ HD.out.2
    have w2 : W4.cell? ⟨w.heap.size + 1, 2, none⟩ = some (.int .i64 z.2.2) := cell_of_row _ _ 2 _ _ _ HD.out.2
    have HT : Hid (Turns (fun k => k = w.heap.size) W4 (((W4.setCell ⟨w.heap.size, 0, none⟩ (.int .i64 z.1)).setCell ⟨w.heap.size, 1, none⟩ (.int .i64 z.2.1)).setCell ⟨w.heap.size, 2, none⟩ (.int .i64 z.2.2)).drew) := (((turns_setCell W4 _ _ _).trans (turns_setCell _ _ _ _) fun k e => .inl e).trans (turns_setCell _ _ _ _) fun k e => .inl e).drewN 1
    have hx := heap_setCell_same _ w.heap.size 2 _ _ (.int .i64 z.2.2) (heap_setCell_same _ w.heap.size 1 _ _ (.int .i64 z.2.1) (heap_setCell_same W4 w.heap.size 0 _ _ (.int .i64 z.1) HD.out.1))
    have HX := Lib_hid hx
    clear hx
    go_wp2
    have HE : ∃ S' tg', HalfEnd w (((W4.setCell ⟨w.heap.size, 0, none⟩ (.int .i64 z.1)).setCell ⟨w.heap.size, 1, none⟩ (.int .i64 z.2.1)).setCell ⟨w.heap.size, 2, none⟩ (.int .i64 z.2.2)).drew N g S' (upR R n (dropAt (R n) a z)) tg tg' c := ⟨_, _, HP.out.1.aside HWS.out.1 HT.out HP.out.2 (Nat.le_refl _)⟩
    have r0 := cell_of_row _ _ 0 _ _ _ HX.out
    have r1 := cell_of_row _ _ 1 _ _ _ HX.out
    have r2 := cell_of_row _ _ 2 _ _ _ HX.out
    simp at r0 r1 r2
    exact bodyPost_ret (v := eV z) (by simp [results, Try.results45, go_sem, r0, r1, r2, eV]) rfl ⟨rfl, HE⟩

end Go.Proofs.Ytopecdkkmbpnbaa
