/-
  Layer 13: the document's with: an edge laid into a graph.
-/
import Derived.Test.YtopecdkkmbpnbaaGda
import Derived.Test.YtopecdkkmbpnbaaGgs
import Derived.Deep.RegionLaw
namespace Go.Proofs.Ytopecdkkmbpnbaa
open Go Go.RowKit Go.Maps
set_option linter.unusedVariables false

theorem mx_room {m : Nat} (h : m ≤ 1000001) : m + 1 ≤ maxLen ∧ (m + 1) * 24 ≤ 140737488355328 ∧ m + 1 + 1 ≤ maxLen ∧ (m + 1 + 1) * 24 ≤ 140737488355328 := by unfold maxLen; omega
theorem ec_newD (w : World) (q : Ed) : Rd (w.alloc (.cells #[.int .i64 q.1, .int .i64 q.2.1, .int .i64 q.2.2] 48)) (w.heap.size + 1) 3 (some ⟨w.heap.size, 0, none⟩) 1 (ec [q]) := rd_edge w q _ _ _ rfl rfl
/-- Behind an append to the row in a graph's box, and its store. -/
theorem out_push {w w6 : World} {q m c c6 : Nat} {N : Int} {A A6 : Option Addr} {xs ys : List Value} (hb : w.heap[q]? = some (.cells #[.int .i64 N, .slice A m c] 31 (0, 0))) (ho : w.ownsRow (q + 1) 48 3 (.slice A m c) m xs)
    (ho6 : w6.ownsRow (q + 1) 48 3 (.slice A6 (m + 1) c6) (m + 1) ys) (hst : Stp w w6 (.slice A m c) (.slice A6 (m + 1) c6)) :
    ((∃ v, w6.cell? ⟨q, 1, none⟩ = some v) ∧ w6.frozen? ⟨q, 1, none⟩ = false) ∧ (w6.setCell ⟨q, 1, none⟩ (.slice A6 (m + 1) c6)).heap[q]? = some (.cells #[.int .i64 N, .slice A6 (m + 1) c6] 31 (0, 0)) ∧ (w6.setCell ⟨q, 1, none⟩ (.slice A6 (m + 1) c6)).ownsRow (q + 1) 48 3 (.slice A6 (m + 1) c6) (m + 1) ys ∧ Below q w (w6.setCell ⟨q, 1, none⟩ (.slice A6 (m + 1) c6)) := by
  have hq := (Array.getElem?_eq_some_iff.1 hb).1
  have h6 := (hst.grow.block q hq (fun e => by have := own_ge ho q e.symm; omega)).trans hb
  refine ⟨⟨⟨_, cell_of_row _ _ 1 _ _ _ h6⟩, frozen_of_row _ _ 1 _ _ h6⟩, ?_, ?_, ?_⟩
  · rw [heap_setCell_same _ q 1 _ _ _ h6]; rfl
  · exact own_keep ho6 fun k hk => heap_setCell_other _ ⟨q, 1, none⟩ k _ (fun e => by have := own_ge ho6 k hk; have e : k = q := e; omega)
  · exact (hst.below (B := q) (by omega) fun k hk => by have := own_ge ho k hk; omega).setCell (p := ⟨q, 1, none⟩) (Nat.le_refl _) _

/-- How the document's with ends. -/
def WiEnd (N : Int) (l : List Ed) (w : World) (r : Ending) (w' : World) : Prop := ∃ (A : Option Addr) (c : Nat), r = .returned (.agg #[.int .i64 N, .slice A l.length c]) ∧ w'.ownsRow w.heap.size 48 3 (.slice A l.length c) l.length (ec l) ∧ Below w.heap.size w w'

set_option maxRecDepth 100000 in
set_option maxHeartbeats 3200000 in
theorem rwith_any {w : World} {B n c : Nat} {A : Option Addr} {L : List Ed} (N : Int) (h : Rd w B 3 A n (ec L)) (hB : B ≤ w.heap.size) (hn : n ≤ 1000000) (e : Ed) :
    Calls Try.prog 41 #[.agg #[.int .i64 N, .slice A n c], eV e] w (WiEnd N (insE L e) w) := by
  have HC := Lib_hid (rde_count h)
  have HI := Lib_hid (fun (W : World) (hW : Below w.heap.size w W) (i : Nat) (hi : i < n) => e_at (h.below (hW.mono hB)) hi)
  obtain ⟨i0, hi, hz0, hz1, hz2⟩ := info_parts Try.infoD
  have HC4 := Lib_hid (four_new w (.cells #[.int .i64 N, .slice A n c] 31) (.cells #[.int .i64 e.1, .int .i64 e.2.1, .int .i64 e.2.2] 48) (.cells #[.int .i64 0, .slice none 0 0] 31) (.cells #[.int .i64 N, .slice none 0 0] 31))
  have b4 := four_below w (.cells #[.int .i64 N, .slice A n c] 31) (.cells #[.int .i64 e.1, .int .i64 e.2.1, .int .i64 e.2.2] 48) (.cells #[.int .i64 0, .slice none 0 0] 31) (.cells #[.int .i64 N, .slice none 0 0] 31)
  have HB4 : Hid (Below w.heap.size w ((((w.alloc (.cells #[.int .i64 N, .slice A n c] 31)).alloc (.cells #[.int .i64 e.1, .int .i64 e.2.1, .int .i64 e.2.2] 48)).alloc (.cells #[.int .i64 0, .slice none 0 0] 31)).alloc (.cells #[.int .i64 N, .slice none 0 0] 31))) := ⟨b4.os, b4.tape, b4.output, b4.size, b4.block⟩
  clear b4
  have hs4 : ((((w.alloc (.cells #[.int .i64 N, .slice A n c] 31)).alloc (.cells #[.int .i64 e.1, .int .i64 e.2.1, .int .i64 e.2.2] 48)).alloc (.cells #[.int .i64 0, .slice none 0 0] 31)).alloc (.cells #[.int .i64 N, .slice none 0 0] 31)).heap.size = w.heap.size + 4 := by simp
  have HCM := Lib_hid (fun (x : Ed) (V : World) => rcmp_any e x V)
  have HWD : Hid (∀ k, k < n → (wiD L e k = true → wiE L e (k + 1) = wiE L e k ++ [at3 L k] ∧ wiD L e (k + 1) = true) ∧ (wiD L e k = false → ltE e (at3 L k) → wiE L e (k + 1) = wiE L e k ++ [e] ++ [at3 L k] ∧ wiD L e (k + 1) = true) ∧ (wiD L e k = false → ¬ ltE e (at3 L k) → wiE L e (k + 1) = wiE L e k ++ [at3 L k] ∧ wiD L e (k + 1) = false)) := fun k hk =>
    ⟨wi_done (by rw [HC.out]; exact hk), wi_here (by rw [HC.out]; exact hk), wi_not (by rw [HC.out]; exact hk)⟩
  have HWL : Hid (∀ k, (wiE L e k).length ≤ n + 1) := fun k => by have := wi_len (L := L) (e := e) k; rw [HC.out] at this; exact this
  have HN := Lib_hid hn
  clear h
  unfold eV at HCM ⊢
  go_enter Try.func41, Try.ntmps41
  go_wp2
  generalize ((((w.alloc (.cells #[.int .i64 N, .slice A n c] 31)).alloc (.cells #[.int .i64 e.1, .int .i64 e.2.1, .int .i64 e.2.2] 48)).alloc (.cells #[.int .i64 0, .slice none 0 0] 31)).alloc (.cells #[.int .i64 N, .slice none 0 0] 31)) = W4 at *
  have HQ : Hid ((W4.heap[w.heap.size]? = some (.cells #[.int .i64 N, .slice A n c] 31 (0, 0)) ∧ W4.heap[w.heap.size + 1]? = some (.cells #[.int .i64 e.1, .int .i64 e.2.1, .int .i64 e.2.2] 48 (0, 0)) ∧ W4.heap[w.heap.size + 1 + 1]? = some (.cells #[.int .i64 0, .slice none 0 0] 31 (0, 0)) ∧ W4.heap[w.heap.size + 1 + 1 + 1]? = some (.cells #[.int .i64 N, .slice none 0 0] 31 (0, 0))) ∧ Below w.heap.size w W4 ∧ W4.heap.size = w.heap.size + 4) := ⟨HC4.out, HB4.out, hs4⟩
  clear HC4 HB4 hs4
  go_loopw [6, 7] (fun dn i wr => ∃ (k m' c' : Nat) (A' : Option Addr) (X : List Ed), dn = .bool (wiD L e k) ∧ i = .int .i64 k ∧ k ≤ n ∧ Hid (X = wiE L e k ∧ m' = X.length) ∧ Hid (wr.heap[w.heap.size + 1 + 1 + 1]? = some (.cells #[.int .i64 N, .slice A' m' c'] 31 (0, 0)) ∧ wr.ownsRow (w.heap.size + 1 + 1 + 1 + 1) 48 3 (.slice A' m' c') m' (ec X) ∧ Below (w.heap.size + 1 + 1 + 1) W4 wr)) (fun _ i _ => n - (intOf i).toNat)
  case atStart => exact ⟨0, 0, 0, none, [], by rw [(wi_zero L e).2], rfl, Nat.zero_le _, ⟨by rw [(wi_zero L e).1], rfl⟩, ⟨HQ.out.1.2.2.2, own_zero _ _ _ _, Below.refl _ _⟩⟩
  case round =>
    obtain ⟨k, m', c', A', X, rfl, rfl, hk, hX, hV⟩ := hrel
    have KW : Hid (∀ V : World, Below (w.heap.size + 1 + 1 + 1) W4 V → V.cell? ⟨w.heap.size, 0, none⟩ = some (.int .i64 N) ∧ V.cell? ⟨w.heap.size, 1, none⟩ = some (.slice A n c) ∧ V.cell? ⟨w.heap.size + 1, 0, none⟩ = some (.int .i64 e.1) ∧ V.cell? ⟨w.heap.size + 1, 1, none⟩ = some (.int .i64 e.2.1) ∧ V.cell? ⟨w.heap.size + 1, 2, none⟩ = some (.int .i64 e.2.2) ∧ Below w.heap.size w V) := fun V hb => by
      have h1 := (hb.block w.heap.size (by omega)).trans HQ.out.1.1
      have h2 := (hb.block (w.heap.size + 1) (by omega)).trans HQ.out.1.2.1
      exact ⟨cell_of_row _ _ 0 _ _ _ h1, cell_of_row _ _ 1 _ _ _ h1, cell_of_row _ _ 0 _ _ _ h2, cell_of_row _ _ 1 _ _ _ h2, cell_of_row _ _ 2 _ _ _ h2, HQ.out.2.1.trans (hb.mono (by omega))⟩
    obtain ⟨g0, g1, x0, x1, x2, hbw⟩ := KW.out wr hV.out.2.2
    by_cases hlt : k < n
    · obtain ⟨w1, w2, w3⟩ := HWD.out k hlt
      have hWL := HWL.out (k + 1)
      have HMB := Lib_hid (mx_room (show m' ≤ 1000001 by have h8 := HWL.out k; rw [← hX.out.1, ← hX.out.2] at h8; have := HN.out; exact Nat.le_trans h8 (by omega)))
      cases hd : wiD L e k with
      | true =>
        have hw := w1 hd
        have HW2 := Lib_hid hw
        have hm1 : m' + 1 ≤ maxLen := by have := hX.out.2; have := HN.out; have h8 := HWL.out k; rw [← hX.out.1] at h8; unfold maxLen; omega
        have hmb : (m' + 1) * 24 ≤ 140737488355328 := by have := hX.out.2; have := HN.out; have h8 := HWL.out k; rw [← hX.out.1] at h8; omega
        obtain ⟨bk, off, hA, _, c0, c1, c2⟩ := HI.out _ hbw k hlt
        have q1 := cell_of_row _ _ 1 _ _ _ hV.out.1
        clear hw w1 w2 w3 hd hWL
        subst hA
        have hxx : Hid (at3 L k = ((at3 L k).1, (at3 L k).2.1, (at3 L k).2.2)) := rfl
        have HIK := Lib_hid (fun (W : World) (hW : Below w.heap.size w W) => HI.out W hW k hlt)
        generalize (at3 L k).1 = a1 at *
        generalize (at3 L k).2.1 = a2 at *
        generalize (at3 L k).2.2 = a3 at *
        have hki : (k : Int) < (n : Int) := by omega
        have hk0 : (0 : Int) ≤ (k : Int) := by omega
        have hn6 : n ≤ 1000000 := HN.out
        go_wp2
        go_quiet (fail)
        go_wp2
        have hV2 : Hid ((wr.drewN nq).heap[w.heap.size + 1 + 1 + 1]? = some (.cells #[.int .i64 N, .slice A' m' c'] 31 (0, 0)) ∧ (wr.drewN nq).ownsRow (w.heap.size + 1 + 1 + 1 + 1) 48 3 (.slice A' m' c') m' (ec X) ∧ Below (w.heap.size + 1 + 1 + 1) W4 (wr.drewN nq)) := ⟨hV.out.1, hV.out.2.1, below_drew_ hV.out.2.2⟩
        have hbw2 : Below w.heap.size w (wr.drewN nq) := below_drew_ hbw
        have HAT := Lib_hid (HIK.out (wr.drewN nq) hbw2)
        clear g0 g1 x0 x1 x2 hbw c0 c1 c2 q1 hV
        generalize wr.drewN nq = V at *
        obtain ⟨g0, g1, x0, x1, x2, hbw⟩ := KW.out V hV2.out.2.2
        have ovd : V.drew.ownsRow (w.heap.size + 1 + 1 + 1 + 1) 48 3 (.slice A' m' c') m' (ec (X)) := hV2.out.2.1
        have oE := own_below ovd (below_new V.drew (.cells #[.int .i64 a1, .int .i64 a2, .int .i64 a3] 48)) (own_lt ovd)
        have rE := ec_newD V.drew (a1, a2, a3)
        have hvs := (Array.getElem?_eq_some_iff.1 hV2.out.1).1
        have hbs : w.heap.size + 1 + 1 + 1 + 1 ≤ (V.drew.alloc (.cells #[.int .i64 a1, .int .i64 a2, .int .i64 a3] 48)).heap.size := by simp; omega
        have HO := Lib_hid (And.intro oE rE)
        have v1 := cell_of_row _ _ 1 _ _ _ hV2.out.1
        have PU0 : Hid (∀ (w6 : World) (A6 : Option Addr) (c6 : Nat), w6.ownsRow (w.heap.size + 1 + 1 + 1 + 1) 48 3 (.slice A6 (m' + 1) c6) (m' + 1) (ec (X) ++ ec [(a1, a2, a3)]) → Stp (V.drew.alloc (.cells #[.int .i64 a1, .int .i64 a2, .int .i64 a3] 48)) w6 (.slice A' m' c') (.slice A6 (m' + 1) c6) →
            ((∃ v, w6.cell? ⟨w.heap.size + 1 + 1 + 1, 1, none⟩ = some v) ∧ w6.frozen? ⟨w.heap.size + 1 + 1 + 1, 1, none⟩ = false) ∧ (w6.setCell ⟨w.heap.size + 1 + 1 + 1, 1, none⟩ (.slice A6 (m' + 1) c6)).heap[w.heap.size + 1 + 1 + 1]? = some (.cells #[.int .i64 N, .slice A6 (m' + 1) c6] 31 (0, 0)) ∧ (w6.setCell ⟨w.heap.size + 1 + 1 + 1, 1, none⟩ (.slice A6 (m' + 1) c6)).ownsRow (w.heap.size + 1 + 1 + 1 + 1) 48 3 (.slice A6 (m' + 1) c6) (m' + 1) (ec (X) ++ ec [(a1, a2, a3)]) ∧ Below (w.heap.size + 1 + 1 + 1) V.drew (w6.setCell ⟨w.heap.size + 1 + 1 + 1, 1, none⟩ (.slice A6 (m' + 1) c6))) := fun w6 A6 c6 ho hst =>
          out_push (q := w.heap.size + 1 + 1 + 1) (w := V.drew) hV2.out.1 hV2.out.2.1 ho ((Stp.alloc V.drew (.cells #[.int .i64 a1, .int .i64 a2, .int .i64 a3] 48) (.slice A' m' c')).trans hst)
        obtain ⟨bk', off', hA', _, c0, c1, c2⟩ := HAT.out
        simp only [Option.some.injEq, Addr.mk.injEq, and_true] at hA'
        obtain ⟨rfl, rfl⟩ := hA'
        clear oE rE ovd
        go_region_law
          ((refine step_app rfl (.tmp 37) (.tmp 43) 29 rfl (w.heap.size + 1 + 1 + 1 + 1) 48 i0 (.agg #[.int .i64 0, .int .i64 0, .int .i64 0]) 3 24 Try.underlying29 hi hz0 hz1 hz2 rfl (by decide) (.slice A' m' c') m' (ec (X)) (by go_simp) HO.out.1 (V.heap.size + 1) (some ⟨V.heap.size, 0, none⟩) 1 1 (ec [(a1, a2, a3)]) (by go_simp) HO.out.2 (ec_one _) hm1 hmb hbs ?_); intro v' w6 hown6 hst; obtain ⟨A6, cw6, rfl⟩ := own_form' hown6; have PU := PU0.out w6 A6 cw6 hown6 hst; obtain ⟨⟨⟨vv, p0⟩, p1⟩, PU1⟩ := PU; have PUH := Lib_hid PU1; clear PU1 hown6 hst)
        all_goals
          clear c0 c1 c2 g0 g1 x0 x1 x2 hbw v1 p0 p1
          obtain ⟨u1, u2, u3⟩ := PUH.out
          rw [← ec_append] at u2
          have HU := Lib_hid (And.intro u1 (And.intro u2 (hV2.out.2.2.drew.trans u3)))
          clear u1 u2 u3 PUH PU0 HO hV2 HAT
          generalize w6.setCell ⟨w.heap.size + 1 + 1 + 1, 1, none⟩ (.slice A6 (m' + 1) cw6) = V6 at *
          go_wp2
          go_roundw
          case rel => exact ⟨k + 1, m' + 1, cw6, A6, X ++ [(a1, a2, a3)], by rw [HW2.out.2], by go_num, by omega, ⟨by rw [HW2.out.1, ← hX.out.1, hxx.out], by rw [List.length_append, ← hX.out.2]; rfl⟩, HU.out⟩
          case measure => simp [intOf]; omega
      | false =>
        by_cases hle : ltE e (at3 L k)
        · have hw := w2 hd hle
          have HW2 := Lib_hid hw
          have d0 : decide (cmpE e (at3 L k) < 0) = true := decide_eq_true (cmpE_neg.2 hle)
          obtain ⟨hn1, hnb, hm1, hmb⟩ := HMB.out
          clear hw hle
          have hxx : Hid (at3 L k = ((at3 L k).1, (at3 L k).2.1, (at3 L k).2.2)) := rfl
          have HIK := Lib_hid (fun (W : World) (hW : Below w.heap.size w W) => HI.out W hW k hlt)
          have CM := Lib_hid (fun (V : World) => HCM.out (at3 L k) V)
          have hki : (k : Int) < (n : Int) := by omega
          have hk0 : (0 : Int) ≤ (k : Int) := by omega
          have hn6 : n ≤ 1000000 := HN.out
          obtain ⟨bk, off, hA, _, c0, c1, c2⟩ := HIK.out _ hbw
          subst hA
          generalize hcv : cmpE e (at3 L k) = cv at *
          clear hcv w1 w2 w3 hd hWL
          generalize (at3 L k).1 = a1 at *
          generalize (at3 L k).2.1 = a2 at *
          generalize (at3 L k).2.2 = a3 at *
          have KC : Hid (∀ V : World, Below wr.drew.heap.size wr.drew V → V.cell? ⟨w.heap.size, 1, none⟩ = some (.slice (some ⟨bk, off, none⟩) n c) ∧ V.cell? ⟨w.heap.size + 1, 0, none⟩ = some (.int .i64 e.1) ∧ V.cell? ⟨w.heap.size + 1, 1, none⟩ = some (.int .i64 e.2.1) ∧ V.cell? ⟨w.heap.size + 1, 2, none⟩ = some (.int .i64 e.2.2) ∧ V.cell? ⟨bk, off + k * 3, none⟩ = some (.int .i64 a1) ∧ V.cell? ⟨bk, off + k * 3 + 1, none⟩ = some (.int .i64 a2) ∧ V.cell? ⟨bk, off + k * 3 + 2, none⟩ = some (.int .i64 a3)) := fun V hb => by
            obtain ⟨_, g1, x0, x1, x2, hbw⟩ := KW.out V (hV.out.2.2.drew.trans (hb.mono (by have := (Array.getElem?_eq_some_iff.1 hV.out.1).1; show _ ≤ wr.heap.size; omega)))
            obtain ⟨b', o', e', _, c0, c1, c2⟩ := HIK.out V hbw
            simp only [Option.some.injEq, Addr.mk.injEq, and_true] at e'
            obtain ⟨rfl, rfl⟩ := e'
            exact ⟨g1, x0, x1, x2, c0, c1, c2⟩
          go_wp2
          go_region_held3 (fun V => V.cell? ⟨w.heap.size, 1, none⟩ = some (.slice (some ⟨bk, off, none⟩) n c) ∧ V.cell? ⟨w.heap.size + 1, 0, none⟩ = some (.int .i64 e.1) ∧ V.cell? ⟨w.heap.size + 1, 1, none⟩ = some (.int .i64 e.2.1) ∧ V.cell? ⟨w.heap.size + 1, 2, none⟩ = some (.int .i64 e.2.2) ∧ V.cell? ⟨bk, off + k * 3, none⟩ = some (.int .i64 a1) ∧ V.cell? ⟨bk, off + k * 3 + 1, none⟩ = some (.int .i64 a2) ∧ V.cell? ⟨bk, off + k * 3 + 2, none⟩ = some (.int .i64 a3))
            (first | exact KC.out _ (Below.refl _ _) | exact KC.out _ hbc)
            (first | (go_at_call 29; ((with_reducible refine (CM.out _).mono ?_); rintro r V ⟨rfl, hbc⟩)))
          have hV2 : Hid (V.heap[w.heap.size + 1 + 1 + 1]? = some (.cells #[.int .i64 N, .slice A' m' c'] 31 (0, 0)) ∧ V.ownsRow (w.heap.size + 1 + 1 + 1 + 1) 48 3 (.slice A' m' c') m' (ec X) ∧ Below (w.heap.size + 1 + 1 + 1) W4 V) :=
            ⟨(hbc.block _ (Array.getElem?_eq_some_iff.1 hV.out.1).1).trans hV.out.1, own_below (w := wr.drew) hV.out.2.1 hbc (own_lt (w := wr) hV.out.2.1), hV.out.2.2.drew.trans (hbc.mono (by have := (Array.getElem?_eq_some_iff.1 hV.out.1).1; show _ ≤ wr.heap.size; omega))⟩
          obtain ⟨_, _, y0, y1, y2, hbw2⟩ := KW.out V hV2.out.2.2
          have v1 := cell_of_row _ _ 1 _ _ _ hV2.out.1
          clear hbc g0 g1 x0 x1 x2 hbw c0 c1 c2 hV KC
          have oE := own_below hV2.out.2.1 (below_new V (.cells #[.int .i64 e.1, .int .i64 e.2.1, .int .i64 e.2.2] 48)) (own_lt hV2.out.2.1)
          have rE := ec_newD V e
          have hvs := (Array.getElem?_eq_some_iff.1 hV2.out.1).1
          have hbs : w.heap.size + 1 + 1 + 1 + 1 ≤ (V.alloc (.cells #[.int .i64 e.1, .int .i64 e.2.1, .int .i64 e.2.2] 48)).heap.size := by simp; omega
          have PU0 : Hid (∀ (w6 : World) (A6 : Option Addr) (c6 : Nat), w6.ownsRow (w.heap.size + 1 + 1 + 1 + 1) 48 3 (.slice A6 (m' + 1) c6) (m' + 1) (ec X ++ ec [e]) → Stp (V.alloc (.cells #[.int .i64 e.1, .int .i64 e.2.1, .int .i64 e.2.2] 48)) w6 (.slice A' m' c') (.slice A6 (m' + 1) c6) →
              ((∃ v, w6.cell? ⟨w.heap.size + 1 + 1 + 1, 1, none⟩ = some v) ∧ w6.frozen? ⟨w.heap.size + 1 + 1 + 1, 1, none⟩ = false) ∧ (w6.setCell ⟨w.heap.size + 1 + 1 + 1, 1, none⟩ (.slice A6 (m' + 1) c6)).heap[w.heap.size + 1 + 1 + 1]? = some (.cells #[.int .i64 N, .slice A6 (m' + 1) c6] 31 (0, 0)) ∧ (w6.setCell ⟨w.heap.size + 1 + 1 + 1, 1, none⟩ (.slice A6 (m' + 1) c6)).ownsRow (w.heap.size + 1 + 1 + 1 + 1) 48 3 (.slice A6 (m' + 1) c6) (m' + 1) (ec X ++ ec [e]) ∧ Below (w.heap.size + 1 + 1 + 1) V (w6.setCell ⟨w.heap.size + 1 + 1 + 1, 1, none⟩ (.slice A6 (m' + 1) c6))) := fun w6 A6 c6 ho hst =>
            out_push (q := w.heap.size + 1 + 1 + 1) (w := V) hV2.out.1 hV2.out.2.1 ho ((Stp.alloc V (.cells #[.int .i64 e.1, .int .i64 e.2.1, .int .i64 e.2.2] 48) (.slice A' m' c')).trans hst)
          go_wp2_with (at_builtin; (refine wpList_app rfl _ _ 29 rfl (w.heap.size + 1 + 1 + 1 + 1) 48 i0 (.agg #[.int .i64 0, .int .i64 0, .int .i64 0]) 3 24 Try.underlying29 hi hz0 hz1 hz2 rfl (by decide) _ m' _ rfl oE (V.heap.size + 1) (some ⟨V.heap.size, 0, none⟩) 1 1 (ec [e]) rfl rE (ec_one _) hn1 hnb hbs ?_); intro v' w6 hown6 hst; obtain ⟨Ah, ch, rfl⟩ := own_form' hown6; have PU := PU0.out w6 Ah ch hown6 hst; obtain ⟨⟨⟨vv, p0⟩, p1⟩, PU1⟩ := PU; have PUH := Lib_hid PU1; clear PU1 hown6 hst)
          obtain ⟨u1, u2, u3⟩ := PUH.out
          rw [← ec_append] at u2
          have hV3 := Lib_hid (And.intro u1 (And.intro u2 (hV2.out.2.2.trans u3)))
          clear u1 u2 u3 PUH PU0 oE rE hV2 p0 p1 v1 y0 y1 y2 hvs hbs hbw2
          generalize w6.setCell ⟨w.heap.size + 1 + 1 + 1, 1, none⟩ (.slice Ah (m' + 1) ch) = V5 at *
          obtain ⟨V, rfl⟩ : ∃ V, V = V5 := ⟨V5, rfl⟩
          have hV2 := hV3
          clear hV3
          obtain ⟨m1, hm1e⟩ : ∃ m1, m1 = m' + 1 := ⟨_, rfl⟩
          rw [← hm1e] at hV2 hm1 hmb ⊢
          have HME := Lib_hid hm1e
          clear hm1e
          obtain ⟨g0, g1, x0, x1, x2, hbw⟩ := KW.out V hV2.out.2.2
          have HAT := Lib_hid (HIK.out V hbw)
          have ovd : V.drew.ownsRow (w.heap.size + 1 + 1 + 1 + 1) 48 3 (.slice Ah m1 ch) m1 (ec (X ++ [e])) := hV2.out.2.1
          have oE := own_below ovd (below_new V.drew (.cells #[.int .i64 a1, .int .i64 a2, .int .i64 a3] 48)) (own_lt ovd)
          have rE := ec_newD V.drew (a1, a2, a3)
          have hvs := (Array.getElem?_eq_some_iff.1 hV2.out.1).1
          have hbs : w.heap.size + 1 + 1 + 1 + 1 ≤ (V.drew.alloc (.cells #[.int .i64 a1, .int .i64 a2, .int .i64 a3] 48)).heap.size := by simp; omega
          have HO := Lib_hid (And.intro oE rE)
          have v1 := cell_of_row _ _ 1 _ _ _ hV2.out.1
          have PU0 : Hid (∀ (w6 : World) (A6 : Option Addr) (c6 : Nat), w6.ownsRow (w.heap.size + 1 + 1 + 1 + 1) 48 3 (.slice A6 (m1 + 1) c6) (m1 + 1) (ec (X ++ [e]) ++ ec [(a1, a2, a3)]) → Stp (V.drew.alloc (.cells #[.int .i64 a1, .int .i64 a2, .int .i64 a3] 48)) w6 (.slice Ah m1 ch) (.slice A6 (m1 + 1) c6) →
              ((∃ v, w6.cell? ⟨w.heap.size + 1 + 1 + 1, 1, none⟩ = some v) ∧ w6.frozen? ⟨w.heap.size + 1 + 1 + 1, 1, none⟩ = false) ∧ (w6.setCell ⟨w.heap.size + 1 + 1 + 1, 1, none⟩ (.slice A6 (m1 + 1) c6)).heap[w.heap.size + 1 + 1 + 1]? = some (.cells #[.int .i64 N, .slice A6 (m1 + 1) c6] 31 (0, 0)) ∧ (w6.setCell ⟨w.heap.size + 1 + 1 + 1, 1, none⟩ (.slice A6 (m1 + 1) c6)).ownsRow (w.heap.size + 1 + 1 + 1 + 1) 48 3 (.slice A6 (m1 + 1) c6) (m1 + 1) (ec (X ++ [e]) ++ ec [(a1, a2, a3)]) ∧ Below (w.heap.size + 1 + 1 + 1) V.drew (w6.setCell ⟨w.heap.size + 1 + 1 + 1, 1, none⟩ (.slice A6 (m1 + 1) c6))) := fun w6 A6 c6 ho hst =>
            out_push (q := w.heap.size + 1 + 1 + 1) (w := V.drew) hV2.out.1 hV2.out.2.1 ho ((Stp.alloc V.drew (.cells #[.int .i64 a1, .int .i64 a2, .int .i64 a3] 48) (.slice Ah m1 ch)).trans hst)
          obtain ⟨bk', off', hA', _, c0, c1, c2⟩ := HAT.out
          simp only [Option.some.injEq, Addr.mk.injEq, and_true] at hA'
          obtain ⟨rfl, rfl⟩ := hA'
          clear oE rE ovd
          go_region_law
            ((refine step_app rfl (.tmp 37) (.tmp 43) 29 rfl (w.heap.size + 1 + 1 + 1 + 1) 48 i0 (.agg #[.int .i64 0, .int .i64 0, .int .i64 0]) 3 24 Try.underlying29 hi hz0 hz1 hz2 rfl (by decide) (.slice Ah m1 ch) m1 (ec (X ++ [e])) (by go_simp) HO.out.1 (V.heap.size + 1) (some ⟨V.heap.size, 0, none⟩) 1 1 (ec [(a1, a2, a3)]) (by go_simp) HO.out.2 (ec_one _) hm1 hmb hbs ?_); intro v' w6 hown6 hst; obtain ⟨A6, cw6, rfl⟩ := own_form' hown6; have PU := PU0.out w6 A6 cw6 hown6 hst; obtain ⟨⟨⟨vv, p0⟩, p1⟩, PU1⟩ := PU; have PUH := Lib_hid PU1; clear PU1 hown6 hst)
          all_goals
            clear c0 c1 c2 g0 g1 x0 x1 x2 hbw v1 p0 p1
            obtain ⟨u1, u2, u3⟩ := PUH.out
            rw [← ec_append] at u2
            have HU := Lib_hid (And.intro u1 (And.intro u2 (hV2.out.2.2.drew.trans u3)))
            clear u1 u2 u3 PUH PU0 HO hV2 HAT
            generalize w6.setCell ⟨w.heap.size + 1 + 1 + 1, 1, none⟩ (.slice A6 (m1 + 1) cw6) = V6 at *
            go_wp2
            go_roundw
            case rel => exact ⟨k + 1, m1 + 1, cw6, A6, X ++ [e] ++ [(a1, a2, a3)], by rw [HW2.out.2], by go_num, by omega, ⟨by rw [HW2.out.1, ← hX.out.1, hxx.out], by rw [List.length_append, List.length_append, ← hX.out.2, HME.out]; rfl⟩, HU.out⟩
            case measure => simp [intOf]; omega
        · have hw := w3 hd hle
          have HW2 := Lib_hid hw
          have d0 : decide (cmpE e (at3 L k) < 0) = false := decide_eq_false fun hc => hle (cmpE_neg.1 hc)
          obtain ⟨hm1, hmb, _, _⟩ := HMB.out
          clear hw hle
          have hxx : Hid (at3 L k = ((at3 L k).1, (at3 L k).2.1, (at3 L k).2.2)) := rfl
          have HIK := Lib_hid (fun (W : World) (hW : Below w.heap.size w W) => HI.out W hW k hlt)
          have CM := Lib_hid (fun (V : World) => HCM.out (at3 L k) V)
          have hki : (k : Int) < (n : Int) := by omega
          have hk0 : (0 : Int) ≤ (k : Int) := by omega
          have hn6 : n ≤ 1000000 := HN.out
          obtain ⟨bk, off, hA, _, c0, c1, c2⟩ := HIK.out _ hbw
          subst hA
          generalize hcv : cmpE e (at3 L k) = cv at *
          clear hcv w1 w2 w3 hd hWL
          generalize (at3 L k).1 = a1 at *
          generalize (at3 L k).2.1 = a2 at *
          generalize (at3 L k).2.2 = a3 at *
          have KC : Hid (∀ V : World, Below wr.drew.heap.size wr.drew V → V.cell? ⟨w.heap.size, 1, none⟩ = some (.slice (some ⟨bk, off, none⟩) n c) ∧ V.cell? ⟨w.heap.size + 1, 0, none⟩ = some (.int .i64 e.1) ∧ V.cell? ⟨w.heap.size + 1, 1, none⟩ = some (.int .i64 e.2.1) ∧ V.cell? ⟨w.heap.size + 1, 2, none⟩ = some (.int .i64 e.2.2) ∧ V.cell? ⟨bk, off + k * 3, none⟩ = some (.int .i64 a1) ∧ V.cell? ⟨bk, off + k * 3 + 1, none⟩ = some (.int .i64 a2) ∧ V.cell? ⟨bk, off + k * 3 + 2, none⟩ = some (.int .i64 a3)) := fun V hb => by
            obtain ⟨_, g1, x0, x1, x2, hbw⟩ := KW.out V (hV.out.2.2.drew.trans (hb.mono (by have := (Array.getElem?_eq_some_iff.1 hV.out.1).1; show _ ≤ wr.heap.size; omega)))
            obtain ⟨b', o', e', _, c0, c1, c2⟩ := HIK.out V hbw
            simp only [Option.some.injEq, Addr.mk.injEq, and_true] at e'
            obtain ⟨rfl, rfl⟩ := e'
            exact ⟨g1, x0, x1, x2, c0, c1, c2⟩
          go_wp2
          go_region_held3 (fun V => V.cell? ⟨w.heap.size, 1, none⟩ = some (.slice (some ⟨bk, off, none⟩) n c) ∧ V.cell? ⟨w.heap.size + 1, 0, none⟩ = some (.int .i64 e.1) ∧ V.cell? ⟨w.heap.size + 1, 1, none⟩ = some (.int .i64 e.2.1) ∧ V.cell? ⟨w.heap.size + 1, 2, none⟩ = some (.int .i64 e.2.2) ∧ V.cell? ⟨bk, off + k * 3, none⟩ = some (.int .i64 a1) ∧ V.cell? ⟨bk, off + k * 3 + 1, none⟩ = some (.int .i64 a2) ∧ V.cell? ⟨bk, off + k * 3 + 2, none⟩ = some (.int .i64 a3))
            (first | exact KC.out _ (Below.refl _ _) | exact KC.out _ hbc)
            (first | (go_at_call 29; ((with_reducible refine (CM.out _).mono ?_); rintro r V ⟨rfl, hbc⟩)))
          have hV2 : Hid (V.heap[w.heap.size + 1 + 1 + 1]? = some (.cells #[.int .i64 N, .slice A' m' c'] 31 (0, 0)) ∧ V.ownsRow (w.heap.size + 1 + 1 + 1 + 1) 48 3 (.slice A' m' c') m' (ec X) ∧ Below (w.heap.size + 1 + 1 + 1) W4 V) :=
            ⟨(hbc.block _ (Array.getElem?_eq_some_iff.1 hV.out.1).1).trans hV.out.1, own_below (w := wr.drew) hV.out.2.1 hbc (own_lt (w := wr) hV.out.2.1), hV.out.2.2.drew.trans (hbc.mono (by have := (Array.getElem?_eq_some_iff.1 hV.out.1).1; show _ ≤ wr.heap.size; omega))⟩
          obtain ⟨_, _, y0, y1, y2, hbw2⟩ := KW.out V hV2.out.2.2
          have v1 := cell_of_row _ _ 1 _ _ _ hV2.out.1
          clear hbc g0 g1 x0 x1 x2 hbw c0 c1 c2 hV KC
          go_wp2
          clear v1 y0 y1 y2 hbw2
          obtain ⟨g0, g1, x0, x1, x2, hbw⟩ := KW.out V hV2.out.2.2
          have HAT := Lib_hid (HIK.out V hbw)
          have ovd : V.drew.ownsRow (w.heap.size + 1 + 1 + 1 + 1) 48 3 (.slice A' m' c') m' (ec (X)) := hV2.out.2.1
          have oE := own_below ovd (below_new V.drew (.cells #[.int .i64 a1, .int .i64 a2, .int .i64 a3] 48)) (own_lt ovd)
          have rE := ec_newD V.drew (a1, a2, a3)
          have hvs := (Array.getElem?_eq_some_iff.1 hV2.out.1).1
          have hbs : w.heap.size + 1 + 1 + 1 + 1 ≤ (V.drew.alloc (.cells #[.int .i64 a1, .int .i64 a2, .int .i64 a3] 48)).heap.size := by simp; omega
          have HO := Lib_hid (And.intro oE rE)
          have v1 := cell_of_row _ _ 1 _ _ _ hV2.out.1
          have PU0 : Hid (∀ (w6 : World) (A6 : Option Addr) (c6 : Nat), w6.ownsRow (w.heap.size + 1 + 1 + 1 + 1) 48 3 (.slice A6 (m' + 1) c6) (m' + 1) (ec (X) ++ ec [(a1, a2, a3)]) → Stp (V.drew.alloc (.cells #[.int .i64 a1, .int .i64 a2, .int .i64 a3] 48)) w6 (.slice A' m' c') (.slice A6 (m' + 1) c6) →
              ((∃ v, w6.cell? ⟨w.heap.size + 1 + 1 + 1, 1, none⟩ = some v) ∧ w6.frozen? ⟨w.heap.size + 1 + 1 + 1, 1, none⟩ = false) ∧ (w6.setCell ⟨w.heap.size + 1 + 1 + 1, 1, none⟩ (.slice A6 (m' + 1) c6)).heap[w.heap.size + 1 + 1 + 1]? = some (.cells #[.int .i64 N, .slice A6 (m' + 1) c6] 31 (0, 0)) ∧ (w6.setCell ⟨w.heap.size + 1 + 1 + 1, 1, none⟩ (.slice A6 (m' + 1) c6)).ownsRow (w.heap.size + 1 + 1 + 1 + 1) 48 3 (.slice A6 (m' + 1) c6) (m' + 1) (ec (X) ++ ec [(a1, a2, a3)]) ∧ Below (w.heap.size + 1 + 1 + 1) V.drew (w6.setCell ⟨w.heap.size + 1 + 1 + 1, 1, none⟩ (.slice A6 (m' + 1) c6))) := fun w6 A6 c6 ho hst =>
            out_push (q := w.heap.size + 1 + 1 + 1) (w := V.drew) hV2.out.1 hV2.out.2.1 ho ((Stp.alloc V.drew (.cells #[.int .i64 a1, .int .i64 a2, .int .i64 a3] 48) (.slice A' m' c')).trans hst)
          obtain ⟨bk', off', hA', _, c0, c1, c2⟩ := HAT.out
          simp only [Option.some.injEq, Addr.mk.injEq, and_true] at hA'
          obtain ⟨rfl, rfl⟩ := hA'
          clear oE rE ovd
          go_region_law
            ((refine step_app rfl (.tmp 37) (.tmp 43) 29 rfl (w.heap.size + 1 + 1 + 1 + 1) 48 i0 (.agg #[.int .i64 0, .int .i64 0, .int .i64 0]) 3 24 Try.underlying29 hi hz0 hz1 hz2 rfl (by decide) (.slice A' m' c') m' (ec (X)) (by go_simp) HO.out.1 (V.heap.size + 1) (some ⟨V.heap.size, 0, none⟩) 1 1 (ec [(a1, a2, a3)]) (by go_simp) HO.out.2 (ec_one _) hm1 hmb hbs ?_); intro v' w6 hown6 hst; obtain ⟨A6, cw6, rfl⟩ := own_form' hown6; have PU := PU0.out w6 A6 cw6 hown6 hst; obtain ⟨⟨⟨vv, p0⟩, p1⟩, PU1⟩ := PU; have PUH := Lib_hid PU1; clear PU1 hown6 hst)
          all_goals
            clear c0 c1 c2 g0 g1 x0 x1 x2 hbw v1 p0 p1
            obtain ⟨u1, u2, u3⟩ := PUH.out
            rw [← ec_append] at u2
            have HU := Lib_hid (And.intro u1 (And.intro u2 (hV2.out.2.2.drew.trans u3)))
            clear u1 u2 u3 PUH PU0 HO hV2 HAT
            generalize w6.setCell ⟨w.heap.size + 1 + 1 + 1, 1, none⟩ (.slice A6 (m' + 1) cw6) = V6 at *
            go_wp2
            go_roundw
            case rel => exact ⟨k + 1, m' + 1, cw6, A6, X ++ [(a1, a2, a3)], by rw [HW2.out.2], by go_num, by omega, ⟨by rw [HW2.out.1, ← hX.out.1, hxx.out], by rw [List.length_append, ← hX.out.2]; rfl⟩, HU.out⟩
            case measure => simp [intOf]; omega
    · obtain rfl : k = n := by omega
      have hWE := wi_end L e
      rw [HC.out] at hWE
      obtain ⟨V, rfl⟩ : ∃ V, V = wr := ⟨wr, rfl⟩
      have hV2 := hV
      clear hV
      cases hd : wiD L e k with
      | true =>
        rw [hd, if_pos rfl] at hWE
        have HX : Hid (insE L e = X ∧ m' = (insE L e).length) := ⟨by rw [hWE, hX.out.1], by rw [hWE, ← hX.out.1]; exact hX.out.2⟩
        clear hWE hd
        have r2 := (hV2.out.2.2.block (w.heap.size + 1 + 1) (by omega)).trans HQ.out.1.2.2.1
        have v0 := cell_of_row _ _ 0 _ _ _ hV2.out.1
        have v1 := cell_of_row _ _ 1 _ _ _ hV2.out.1
        have r0 := cell_of_row _ _ 0 _ _ _ r2
        have r1 := cell_of_row _ _ 1 _ _ _ r2
        have z0 := frozen_of_row _ _ 0 _ _ r2
        have z1 := frozen_of_row _ _ 1 _ _ r2
        have hx := heap_setCell_same _ (w.heap.size + 1 + 1) 1 _ _ (.slice A' m' c') (heap_setCell_same V (w.heap.size + 1 + 1) 0 _ _ (.int .i64 N) r2)
        have hbb := ((HQ.out.2.1.trans (hV2.out.2.2.mono (by omega))).setCell (p := ⟨w.heap.size + 1 + 1, 0, none⟩) (by show w.heap.size ≤ w.heap.size + 1 + 1; omega) (.int .i64 N)).setCell (p := ⟨w.heap.size + 1 + 1, 1, none⟩) (by show w.heap.size ≤ w.heap.size + 1 + 1; omega) (.slice A' m' c')
        have hoo : ((V.setCell ⟨w.heap.size + 1 + 1, 0, none⟩ (.int .i64 N)).setCell ⟨w.heap.size + 1 + 1, 1, none⟩ (.slice A' m' c')).ownsRow w.heap.size 48 3 (.slice A' m' c') m' (ec (insE L e)) := by
          rw [HX.out.1]
          refine own_base (own_keep hV2.out.2.1 fun q hq => ?_) fun q hq => by have := own_ge hV2.out.2.1 q hq; omega
          have hge := own_ge hV2.out.2.1 q hq
          exact (heap_setCell_other _ ⟨w.heap.size + 1 + 1, 1, none⟩ q _ (by show q ≠ w.heap.size + 1 + 1; omega)).trans (heap_setCell_other _ ⟨w.heap.size + 1 + 1, 0, none⟩ q _ (by show q ≠ w.heap.size + 1 + 1; omega))
        have HF := Lib_hid (And.intro hx (And.intro hbb hoo))
        clear hx hbb hoo r2
        go_wp2
        have HM2 := HX.out.2
        have t0 := cell_of_row _ _ 0 _ _ _ HF.out.1
        have t1 := cell_of_row _ _ 1 _ _ _ HF.out.1
        simp at t0 t1
        have hfin : WiEnd N (insE L e) w (.returned (.agg #[.int .i64 N, .slice A' m' c'])) ((V.setCell ⟨w.heap.size + 1 + 1, 0, none⟩ (.int .i64 N)).setCell ⟨w.heap.size + 1 + 1, 1, none⟩ (.slice A' m' c')) := ⟨A', c', by rw [← HM2], by rw [← HM2]; exact HF.out.2.2, HF.out.2.1⟩
        exact bodyPost_ret (v := .agg #[.int .i64 N, .slice A' m' c']) (by simp [results, Try.results41, go_sem, t0, t1]) rfl hfin
      | false =>
        rw [hd, if_neg (by decide)] at hWE
        have hm7 := HWL.out k
        rw [← hX.out.1, ← hX.out.2] at hm7
        obtain ⟨hn1, hnb, _, _⟩ := mx_room (show m' ≤ 1000001 from Nat.le_trans hm7 (by have := HN.out; omega))
        have HX0 : Hid (insE L e = X ++ [e] ∧ m' + 1 = (insE L e).length) := ⟨by rw [hWE, hX.out.1], by rw [hWE, ← hX.out.1, List.length_append, ← hX.out.2]; rfl⟩
        clear hWE hd hm7
        have v1 := cell_of_row _ _ 1 _ _ _ hV2.out.1
        have oE := own_below hV2.out.2.1 (below_new V (.cells #[.int .i64 e.1, .int .i64 e.2.1, .int .i64 e.2.2] 48)) (own_lt hV2.out.2.1)
        have rE := ec_newD V e
        have hvs := (Array.getElem?_eq_some_iff.1 hV2.out.1).1
        have hbs : w.heap.size + 1 + 1 + 1 + 1 ≤ (V.alloc (.cells #[.int .i64 e.1, .int .i64 e.2.1, .int .i64 e.2.2] 48)).heap.size := by simp; omega
        have PU0 : Hid (∀ (w6 : World) (A6 : Option Addr) (c6 : Nat), w6.ownsRow (w.heap.size + 1 + 1 + 1 + 1) 48 3 (.slice A6 (m' + 1) c6) (m' + 1) (ec X ++ ec [e]) → Stp (V.alloc (.cells #[.int .i64 e.1, .int .i64 e.2.1, .int .i64 e.2.2] 48)) w6 (.slice A' m' c') (.slice A6 (m' + 1) c6) →
            ((∃ v, w6.cell? ⟨w.heap.size + 1 + 1 + 1, 1, none⟩ = some v) ∧ w6.frozen? ⟨w.heap.size + 1 + 1 + 1, 1, none⟩ = false) ∧ (w6.setCell ⟨w.heap.size + 1 + 1 + 1, 1, none⟩ (.slice A6 (m' + 1) c6)).heap[w.heap.size + 1 + 1 + 1]? = some (.cells #[.int .i64 N, .slice A6 (m' + 1) c6] 31 (0, 0)) ∧ (w6.setCell ⟨w.heap.size + 1 + 1 + 1, 1, none⟩ (.slice A6 (m' + 1) c6)).ownsRow (w.heap.size + 1 + 1 + 1 + 1) 48 3 (.slice A6 (m' + 1) c6) (m' + 1) (ec X ++ ec [e]) ∧ Below (w.heap.size + 1 + 1 + 1) V (w6.setCell ⟨w.heap.size + 1 + 1 + 1, 1, none⟩ (.slice A6 (m' + 1) c6))) := fun w6 A6 c6 ho hst =>
          out_push (q := w.heap.size + 1 + 1 + 1) (w := V) hV2.out.1 hV2.out.2.1 ho ((Stp.alloc V (.cells #[.int .i64 e.1, .int .i64 e.2.1, .int .i64 e.2.2] 48) (.slice A' m' c')).trans hst)
        have hpre := KW.out V hV2.out.2.2
        obtain ⟨_, _, y0, y1, y2, hbw2⟩ := hpre
        go_upto_region 12 with (at_builtin; (refine wpList_app rfl _ _ 29 rfl (w.heap.size + 1 + 1 + 1 + 1) 48 i0 (.agg #[.int .i64 0, .int .i64 0, .int .i64 0]) 3 24 Try.underlying29 hi hz0 hz1 hz2 rfl (by decide) _ m' _ rfl oE (V.heap.size + 1) (some ⟨V.heap.size, 0, none⟩) 1 1 (ec [e]) rfl rE (ec_one _) hn1 hnb hbs ?_); intro v' w6 hown6 hst; obtain ⟨A6, cw6, rfl⟩ := own_form' hown6; have PU := PU0.out w6 A6 cw6 hown6 hst; obtain ⟨⟨⟨vv, p0⟩, p1⟩, PU1⟩ := PU; have PUH := Lib_hid PU1; clear PU1 hown6 hst)
        obtain ⟨u1, u2, u3⟩ := PUH.out
        rw [← ec_append] at u2
        have hV3 := Lib_hid (And.intro u1 (And.intro u2 (hV2.out.2.2.trans u3)))
        clear u1 u2 u3 PUH PU0 oE rE hV2 p0 p1 v1 y0 y1 y2 hvs hbs hbw2 g0 g1 x0 x1 x2 hbw
        generalize w6.setCell ⟨w.heap.size + 1 + 1 + 1, 1, none⟩ (.slice A6 (m' + 1) cw6) = V5 at *
        obtain ⟨V, rfl⟩ : ∃ V, V = V5 := ⟨V5, rfl⟩
        have hV2 := hV3
        clear hV3
        obtain ⟨m1, hm1e⟩ : ∃ m1, m1 = m' + 1 := ⟨_, rfl⟩
        rw [← hm1e] at hV2 HX0 ⊢
        clear hm1e
        have HX := HX0
        clear HX0
        have r2 := (hV2.out.2.2.block (w.heap.size + 1 + 1) (by omega)).trans HQ.out.1.2.2.1
        have v0 := cell_of_row _ _ 0 _ _ _ hV2.out.1
        have v1 := cell_of_row _ _ 1 _ _ _ hV2.out.1
        have r0 := cell_of_row _ _ 0 _ _ _ r2
        have r1 := cell_of_row _ _ 1 _ _ _ r2
        have z0 := frozen_of_row _ _ 0 _ _ r2
        have z1 := frozen_of_row _ _ 1 _ _ r2
        have hx := heap_setCell_same _ (w.heap.size + 1 + 1) 1 _ _ (.slice A6 m1 cw6) (heap_setCell_same V (w.heap.size + 1 + 1) 0 _ _ (.int .i64 N) r2)
        have hbb := ((HQ.out.2.1.trans (hV2.out.2.2.mono (by omega))).setCell (p := ⟨w.heap.size + 1 + 1, 0, none⟩) (by show w.heap.size ≤ w.heap.size + 1 + 1; omega) (.int .i64 N)).setCell (p := ⟨w.heap.size + 1 + 1, 1, none⟩) (by show w.heap.size ≤ w.heap.size + 1 + 1; omega) (.slice A6 m1 cw6)
        have hoo : ((V.setCell ⟨w.heap.size + 1 + 1, 0, none⟩ (.int .i64 N)).setCell ⟨w.heap.size + 1 + 1, 1, none⟩ (.slice A6 m1 cw6)).ownsRow w.heap.size 48 3 (.slice A6 m1 cw6) m1 (ec (insE L e)) := by
          rw [HX.out.1]
          refine own_base (own_keep hV2.out.2.1 fun q hq => ?_) fun q hq => by have := own_ge hV2.out.2.1 q hq; omega
          have hge := own_ge hV2.out.2.1 q hq
          exact (heap_setCell_other _ ⟨w.heap.size + 1 + 1, 1, none⟩ q _ (by show q ≠ w.heap.size + 1 + 1; omega)).trans (heap_setCell_other _ ⟨w.heap.size + 1 + 1, 0, none⟩ q _ (by show q ≠ w.heap.size + 1 + 1; omega))
        have HF := Lib_hid (And.intro hx (And.intro hbb hoo))
        clear hx hbb hoo r2
        go_wp2
        have HM2 := HX.out.2
        have t0 := cell_of_row _ _ 0 _ _ _ HF.out.1
        have t1 := cell_of_row _ _ 1 _ _ _ HF.out.1
        simp at t0 t1
        have hfin : WiEnd N (insE L e) w (.returned (.agg #[.int .i64 N, .slice A6 m1 cw6])) ((V.setCell ⟨w.heap.size + 1 + 1, 0, none⟩ (.int .i64 N)).setCell ⟨w.heap.size + 1 + 1, 1, none⟩ (.slice A6 m1 cw6)) := ⟨A6, cw6, by rw [← HM2], by rw [← HM2]; exact HF.out.2.2, HF.out.2.1⟩
        exact bodyPost_ret (v := .agg #[.int .i64 N, .slice A6 m1 cw6]) (by simp [results, Try.results41, go_sem, t0, t1]) rfl hfin

end Go.Proofs.Ytopecdkkmbpnbaa
