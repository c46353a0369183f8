/-
  Layer 8: the statements' does: a Join, a Meet, a Less: the walk.
-/
import Derived.Test.YtiembenkdldklaaDoorYah
import Derived.Test.YtiembenkdldklaaDoorInz
import Derived.Deep.DeepCutAuto
import Derived.Deep.CutBlock
namespace Go.Proofs.YtiembenkdldklaaDoor
open Go Go.RowKit
set_option linter.unusedVariables false

set_option maxRecDepth 100000 in
set_option maxHeartbeats 4000000 in
theorem does_do0 (lo hi p B n m c c2 : Nat) (d i z : Int) (Al Am : Option Addr) (L M : List Int) (own : Bool) (v : Value) (l : List Bool) (w : World) (hd : d = 3) (hz : -9223372036854775808 ≤ z ∧ z ≤ 400) (hL : Rd w B 1 Al n (iz L)) (hM : Rd w B 1 Am m (iz M)) (hn : n ≤ 40) (hm : m ≤ 40)
    (hc1 : n ≤ c ∧ c ≤ 9223372036854775807) (hc2 : m ≤ c2 ∧ c2 ≤ 9223372036854775807) (hT : BTab w) (h0 : 0 < lo) (h : BZ w lo hi p l) (hhi : hi ≤ w.heap.size) (hs : DS w B v l) (hB : B ≤ w.heap.size) (hap : Ap lo hi v) :
    Calls Tryd.prog 17 #[pv p, v, .agg #[.int .i64 d, .int .i64 i, .int .i64 z, .slice Al n c, .slice Am m c2, .bool own]] w (DoesEnd lo hi p v (doB (d - 3).toNat l [ofB (clampN z) L, if own then l else ofB (clampN (z + 9)) M]) w) := by
  have hds := hs
  obtain ⟨A, cc, rfl, hr, hc, hle⟩ := hs
  obtain ⟨W, hW, hsz, hb, y0, y1, y2⟩ := three_blocks w (.slice A l.length cc) #[.int .i64 d, .int .i64 i, .int .i64 z, .slice Al n c, .slice Am m c2, .bool own] 33 39
  have hz9 : IntKind.i64.wrap (z + 9) = z + 9 := IntWalk.i64_in _ (by omega)
  have OX := Lib_hid (fun (X : World) (hX : Below w.heap.size w X) => pof_any B n c z Al L X (hL.below (hX.mono hB)) (Nat.le_trans hB hX.size) (by omega))
  have OY := Lib_hid (fun (X : World) (hX : Below w.heap.size w X) => pof_any B m c2 (z + 9) Am M X (hM.below (hX.mono hB)) (Nat.le_trans hB hX.size) (by omega))
  have DX := Lib_hid (fun (X : World) (hX : Below w.heap.size w X) => dof_new B n c z Al L X (hL.below (hX.mono hB)) (Nat.le_trans hB hX.size) (by omega))
  have DY := Lib_hid (fun (X : World) (hX : Below w.heap.size w X) => dof_new B m c2 (z + 9) Am M X (hM.below (hX.mono hB)) (Nat.le_trans hB hX.size) (by omega))
  have c0 := cell_of_row _ _ 0 _ _ _ y0
  have c2' := cell_of_row _ _ 0 _ _ _ y1
  have HW := Lib_hid hW
  have KA : Hid (∀ X, Below W.heap.size W X → X.cell? ⟨w.heap.size, 0, none⟩ = some (.slice A l.length cc) ∧ X.cell? ⟨w.heap.size + 1, 0, none⟩ = some (.int .i64 d) ∧ X.cell? ⟨w.heap.size + 1, 2, none⟩ = some (.int .i64 z) ∧ X.cell? ⟨w.heap.size + 1, 3, none⟩ = some (.slice Al n c) ∧ X.cell? ⟨w.heap.size + 1, 4, none⟩ = some (.slice Am m c2) ∧ X.cell? ⟨w.heap.size + 1, 5, none⟩ = some (.bool own) ∧ Below w.heap.size w X) := fun X hX =>
    have e := (hX.block (w.heap.size + 1) (by omega)).trans y1
    ⟨cell_of_row _ _ 0 _ _ _ ((hX.block w.heap.size (by omega)).trans y0), cell_of_row _ _ 0 _ _ _ e, cell_of_row _ _ 2 _ _ _ e, cell_of_row _ _ 3 _ _ _ e, cell_of_row _ _ 4 _ _ _ e, cell_of_row _ _ 5 _ _ _ e, hb.trans (hX.mono (by omega))⟩
  have HBB := Lib_hid (And.intro hb (And.intro y1 (And.intro y2 hsz)))
  clear hW hr hc hle y0 y1 y2 hsz hL hM
  obtain ⟨mm, hmm⟩ : ∃ mm, mm = doB (d - 3).toNat l [ofB (clampN z) L, if own = true then l else ofB (clampN (z + 9)) M] := ⟨_, rfl⟩
  rw [← hmm]
  have HMM := Lib_hid hmm
  clear hmm
  have go : True := trivial
  subst hd
  all_goals
    go_enter Tryd.func17, Tryd.ntmps17
    go_upto_region 12 with (fail)
    rw [← HW.out]
    go_region_held3 (fun X => X.cell? ⟨w.heap.size + 1, 2, none⟩ = some (.int .i64 z) ∧ X.cell? ⟨w.heap.size + 1, 3, none⟩ = some (.slice Al n c) ∧ X.cell? ⟨w.heap.size + 1, 4, none⟩ = some (.slice Am m c2))
      (first | exact ⟨(KA.out _ hby).2.2.1, (KA.out _ hby).2.2.2.1, (KA.out _ hby).2.2.2.2.1⟩ | exact ⟨(KA.out _ hbs).2.2.1, (KA.out _ hbs).2.2.2.1, (KA.out _ hbs).2.2.2.2.1⟩ | exact ⟨(KA.out _ (below_d1 _)).2.2.1, (KA.out _ (below_d1 _)).2.2.2.1, (KA.out _ (below_d1 _)).2.2.2.2.1⟩)
      ((go_at_call 14; first
        | ((with_reducible refine (OX.out _ (KA.out _ (by exact below_d1 _)).2.2.2.2.2.2).mono ?_); rintro e ws ⟨px, rfl, hzx, hbs'⟩; have hbs : Below W.heap.size W ws := ⟨hbs'.os, hbs'.tape, hbs'.output, hbs'.size, hbs'.block⟩)
        | ((with_reducible refine (OY.out _ (KA.out _ (by exact hbs)).2.2.2.2.2.2).mono ?_); rintro e wy ⟨py, rfl, hzy, hby'⟩; have hby := hbs.trans (hby'.mono hbs.size))))
    all_goals
      go_upto_region 13 with (fail)
      have KC : Hid (∀ X, Below wy.heap.size wy X → (X.cell? ⟨w.heap.size + 1, 2, none⟩ = some (.int .i64 z) ∧ X.cell? ⟨w.heap.size + 1, 3, none⟩ = some (.slice Al n c) ∧ X.cell? ⟨w.heap.size + 1, 4, none⟩ = some (.slice Am m c2)) ∧ Below w.heap.size w X) := fun X hX =>
        have h := KA.out _ (hby.trans (hX.mono hby.size))
        ⟨⟨h.2.2.1, h.2.2.2.1, h.2.2.2.2.1⟩, h.2.2.2.2.2.2⟩
      have HX := Lib_hid (And.intro hzx (And.intro hbs' (And.intro hzy (And.intro hby' (And.intro hbs hby)))))
      clear hzx hbs' hzy hby' hbs hby
      go_cut [14, 15] from 69 to 79 (fun x1 x2 W9 => ∃ (g1 g2 : Nat) (A3 : Option Addr) (c3 : Nat) (A4 : Option Addr) (c4 : Nat), x1 = .pointer (some ⟨g1, 0, none⟩) ∧ x2 = .pointer (some ⟨g2, 0, none⟩) ∧ Hid (Two wy W9 g1 g2 A3 c3 A4 c4 (ofB (clampN z) L) (ofB (clampN (z + 9)) M)) ∧ Hid (Fr wy.heap.size (.agg #[.slice A3 (ofB (clampN z) L).length c3])) ∧ Hid (Fr wy.heap.size (.agg #[.slice A4 (ofB (clampN (z + 9)) M).length c4])))
      case first =>
        go_region_held3 (fun X => X.cell? ⟨w.heap.size + 1, 2, none⟩ = some (.int .i64 z) ∧ X.cell? ⟨w.heap.size + 1, 3, none⟩ = some (.slice Al n c) ∧ X.cell? ⟨w.heap.size + 1, 4, none⟩ = some (.slice Am m c2))
          (exact (KC.out _ (by (repeat' (first | exact below_d1 _ | exact hu2 | exact hu1 | exact Below.refl _ _ | refine below_dr ?_ | refine Below.alloc ?_ ?_ _ | refine Below.setCell ?_ ?_ _ | refine Below.size (B := wy.heap.size) ?_ | (have hs1 := hu1.size; have hs2 := hu2.size; simp <;> omega) | (have hs1 := hu1.size; simp <;> omega))))).1)
          ((go_at_call 15; first
            | ((with_reducible refine (DX.out _ (KC.out _ (by (repeat' (first | exact below_d1 _ | exact hu2 | exact hu1 | exact Below.refl _ _ | refine below_dr ?_ | refine Below.alloc ?_ ?_ _ | refine Below.setCell ?_ ?_ _ | refine Below.size (B := wy.heap.size) ?_ | (have hs1 := hu1.size; have hs2 := hu2.size; simp <;> omega) | (have hs1 := hu1.size; simp <;> omega))))).2).mono ?_); rintro e u1 ⟨v1, rfl, ⟨⟨A3, c3, rfl, hd1⟩, hf1⟩, hu1'⟩; have hg1 : Fr wy.heap.size (.agg #[.slice A3 (ofB (clampN z) L).length c3]) := hf1.less (Below.size (B := wy.heap.size) (by (repeat' (first | exact below_d1 _ | exact hu2 | exact hu1 | exact Below.refl _ _ | refine below_dr ?_ | refine Below.alloc ?_ ?_ _ | refine Below.setCell ?_ ?_ _ | refine Below.size (B := wy.heap.size) ?_ | (have hs1 := hu1.size; have hs2 := hu2.size; simp <;> omega) | (have hs1 := hu1.size; simp <;> omega))))); have hu1 : Below wy.heap.size wy u1 := Below.trans (by (repeat' (first | exact below_d1 _ | exact hu2 | exact hu1 | exact Below.refl _ _ | refine below_dr ?_ | refine Below.alloc ?_ ?_ _ | refine Below.setCell ?_ ?_ _ | refine Below.size (B := wy.heap.size) ?_ | (have hs1 := hu1.size; have hs2 := hu2.size; simp <;> omega) | (have hs1 := hu1.size; simp <;> omega)))) (hu1'.mono (Below.size (B := wy.heap.size) (by (repeat' (first | exact below_d1 _ | exact hu2 | exact hu1 | exact Below.refl _ _ | refine below_dr ?_ | refine Below.alloc ?_ ?_ _ | refine Below.setCell ?_ ?_ _ | refine Below.size (B := wy.heap.size) ?_ | (have hs1 := hu1.size; have hs2 := hu2.size; simp <;> omega) | (have hs1 := hu1.size; simp <;> omega)))))); (first | (have m12 : Bx u1 wy.heap.size ∧ Bx u1 (wy.heap.size + 1) := two_kept (V := wy) ⟨hu1'.os, hu1'.tape, hu1'.output, hu1'.size, hu1'.block⟩) | (have m11 : Bx u1 wy.heap.size := one_kept (V := wy) ⟨hu1'.os, hu1'.tape, hu1'.output, hu1'.size, hu1'.block⟩) | skip))
            | ((with_reducible refine (DY.out _ (KC.out _ (by (repeat' (first | exact below_d1 _ | exact hu2 | exact hu1 | exact Below.refl _ _ | refine below_dr ?_ | refine Below.alloc ?_ ?_ _ | refine Below.setCell ?_ ?_ _ | refine Below.size (B := wy.heap.size) ?_ | (have hs1 := hu1.size; have hs2 := hu2.size; simp <;> omega) | (have hs1 := hu1.size; simp <;> omega))))).2).mono ?_); rintro e u2 ⟨v2, rfl, ⟨⟨A4, c4, rfl, hd2⟩, hf2⟩, hu2'⟩; have hg2 : Fr wy.heap.size (.agg #[.slice A4 (ofB (clampN (z + 9)) M).length c4]) := hf2.less (Below.size (B := wy.heap.size) (by (repeat' (first | exact below_d1 _ | exact hu2 | exact hu1 | exact Below.refl _ _ | refine below_dr ?_ | refine Below.alloc ?_ ?_ _ | refine Below.setCell ?_ ?_ _ | refine Below.size (B := wy.heap.size) ?_ | (have hs1 := hu1.size; have hs2 := hu2.size; simp <;> omega) | (have hs1 := hu1.size; simp <;> omega))))); have hu2 : Below wy.heap.size wy u2 := Below.trans (by (repeat' (first | exact below_d1 _ | exact hu2 | exact hu1 | exact Below.refl _ _ | refine below_dr ?_ | refine Below.alloc ?_ ?_ _ | refine Below.setCell ?_ ?_ _ | refine Below.size (B := wy.heap.size) ?_ | (have hs1 := hu1.size; have hs2 := hu2.size; simp <;> omega) | (have hs1 := hu1.size; simp <;> omega)))) (hu2'.mono (Below.size (B := wy.heap.size) (by (repeat' (first | exact below_d1 _ | exact hu2 | exact hu1 | exact Below.refl _ _ | refine below_dr ?_ | refine Below.alloc ?_ ?_ _ | refine Below.setCell ?_ ?_ _ | refine Below.size (B := wy.heap.size) ?_ | (have hs1 := hu1.size; have hs2 := hu2.size; simp <;> omega) | (have hs1 := hu1.size; simp <;> omega)))))); (first | (have bx1 : Bx u2 wy.heap.size := m12.1.below hu2'; have bx2 : Bx u2 (wy.heap.size + 1) := m12.2.below hu2'; have hBF := bf2 (.slice A3 (ofB (clampN z) L).length c3) bx1 bx2 (by omega)) | (have bx1 : Bx u2 wy.heap.size := (m11.old _).below hu2'; have bx2 : Bx u2 u1.heap.size := one_kept (V := u1) hu2'; have hlt := m11.lt; have hBF := bf2 (.slice A3 (ofB (clampN z) L).length c3) bx1 bx2 (by omega)) | (have bx1 : Bx u2 wy.heap.size := m11.below hu2'; have hBF := bf1 (.slice A3 (ofB (clampN z) L).length c3) bx1; have r9 := (bf9 (.slice A3 (ofB (clampN z) L).length c3) (m11.below hu2')).1; have r10 := (bf9 (.slice A3 (ofB (clampN z) L).length c3) (m11.below hu2')).2) | (have bx1 : Bx u2 u1.heap.size := (two_kept (V := u1) hu2').1; have bx2 : Bx u2 (u1.heap.size + 1) := (two_kept (V := u1) hu2').2; have hBF := bf2 (.slice A3 (ofB (clampN z) L).length c3) bx1 bx2 (by omega)) | (have bx1 : Bx u2 u1.heap.size := one_kept (V := u1) hu2'; have hBF := bf1 (.slice A3 (ofB (clampN z) L).length c3) bx1; have r9 := (bf9 (.slice A3 (ofB (clampN z) L).length c3) (one_kept (V := u1) hu2')).1; have r10 := (bf9 (.slice A3 (ofB (clampN z) L).length c3) (one_kept (V := u1) hu2')).2) | (have hBF := bf0 u2 (.slice A3 (ofB (clampN z) L).length c3))); obtain ⟨r1, r2, r3, r4, r5, r6, r7, r8⟩ := hBF; have hd0 : DS u1 u1.heap.size (.agg #[.slice A3 (ofB (clampN z) L).length c3]) (ofB (clampN z) L) := ⟨A3, c3, rfl, hd1⟩; have hd1' : DS u2 u2.heap.size (.agg #[.slice A3 (ofB (clampN z) L).length c3]) (ofB (clampN z) L) := (by first | exact (hd0.below hu2').more hu2'.size | exact ((hd0.alloced _).below hu2').more hu2'.size | exact (((hd0.alloced _).alloced _).below hu2').more hu2'.size); clear hd0)))
        all_goals
          have hs1 := hu1.size
          try go_step
          try go_step
          go_meet
          first
          | exact ⟨_, _, A3, c3, A4, c4, rfl, rfl, Lib_hid (two5 hu2 bx1 bx2 (by omega) (by omega) (by omega) hd1' ⟨A4, c4, rfl, hd2⟩), Lib_hid hg1, Lib_hid hg2⟩
          | exact ⟨_, _, A3, c3, A4, c4, rfl, rfl, Lib_hid (two5 hu2 bx2 bx1 (by omega) (by omega) (by omega) hd1' ⟨A4, c4, rfl, hd2⟩), Lib_hid hg1, Lib_hid hg2⟩
          | exact ⟨_, _, A3, c3, A4, c4, rfl, rfl, Lib_hid (two3 hu2 bx1 (by omega) hd1' ⟨A4, c4, rfl, hd2⟩), Lib_hid hg1, Lib_hid hg2⟩
          | exact ⟨_, _, A3, c3, A4, c4, rfl, rfl, Lib_hid (two4 hu2 bx1 (by omega) hd1' ⟨A4, c4, rfl, hd2⟩), Lib_hid hg1, Lib_hid hg2⟩
          | exact ⟨_, _, A3, c3, A4, c4, rfl, rfl, Lib_hid (two1 hu2 hd1' ⟨A4, c4, rfl, hd2⟩), Lib_hid hg1, Lib_hid hg2⟩
          | exact ⟨_, _, A3, c3, A4, c4, rfl, rfl, Lib_hid (two2 hu2 hd1' ⟨A4, c4, rfl, hd2⟩), Lib_hid hg1, Lib_hid hg2⟩
      case rest =>
        obtain ⟨g1, g2, A3, c3, A4, c4, rfl, rfl, hT2, hf1, hf2⟩ := hcut
        obtain ⟨wq, rfl⟩ : ∃ wq, wq = wc := ⟨_, rfl⟩
        have hby := HX.out.2.2.2.2.2
        have b9 := hby.trans (hT2.out.b.mono hby.size)
        have hsW := HBB.out.2.2.2
        have bw := HBB.out.1.trans (b9.mono (by omega))
        have hsz1 := hby.size
        have hsz2 := hT2.out.b.size
        have hgg := hT2.out.ne
        have hsx : W.heap.size ≤ ws.heap.size := HX.out.2.2.2.2.1.size
        have hxw : ∃ lo1 hi1, hi ≤ lo1 ∧ w.heap.size + 3 ≤ lo1 ∧ hi1 ≤ wy.heap.size ∧ BZ wy lo1 hi1 px (ofB (clampN z) L) := ⟨_, _, (by show hi ≤ W.heap.size; omega), (by show w.heap.size + 3 ≤ W.heap.size; omega), HX.out.2.2.2.1.size, HX.out.1.below HX.out.2.2.2.1 (Nat.le_refl _)⟩
        obtain ⟨lo1, hi1, hx1, hx3, hx2, hxy⟩ := hxw
        have hyw : ∃ lo2 hi2, hi ≤ lo2 ∧ hi2 ≤ wy.heap.size ∧ BZ wy lo2 hi2 py (ofB (clampN (z + 9)) M) := ⟨_, _, (by show hi ≤ ws.heap.size; omega), Nat.le_refl _, HX.out.2.2.1⟩
        obtain ⟨lo2, hi2, hy1, hy2, hyy⟩ := hyw
        have HXQ := Lib_hid (hxy.below hT2.out.b hx2)
        have HYQ := Lib_hid (hyy.below hT2.out.b hy2)
        have HZQ := Lib_hid (h.below bw hhi)
        have HDQ := Lib_hid ((hds.below (bw.mono hB)).more (Nat.le_trans hB bw.size))
        have HY1 := Lib_hid ((b9.block (w.heap.size + 1) (by omega)).trans HBB.out.2.1)
        have HY2 := Lib_hid ((b9.block (w.heap.size + 2) (by omega)).trans HBB.out.2.2.1)
        have hA4 : Ap lo hi (.agg #[.slice A4 (ofB (clampN (z + 9)) M).length c4]) := hf2.out.ap (by omega)
        have hA3 : Ap lo hi (.agg #[.slice A3 (ofB (clampN z) L).length c3]) := hf1.out.ap (by omega)
        have HAA := Lib_hid (And.intro hA3 hA4)
        have HAP := Lib_hid hap
        obtain ⟨k1, k2, _, _, _, k6, _⟩ := KA.out wq b9
        have k7 := cell_of_row _ _ 0 _ _ _ hT2.out.h2
        have k8 := frozen_of_row _ _ 0 _ _ hT2.out.h2
        have HBW := Lib_hid bw
        clear hby b9 bw hxy hyy hA3 hA4 hap h hds hsW hsz1 hsz2 hsx
        go_upto_if 81 with (fail)
        go_cut [13] from 81 to 83 (fun y W9 => ∃ (s2 : Value) (A6 : Option Addr) (c6 : Nat) (m2 : List Bool), y = s2 ∧ Hid (m2 = if own then l else ofB (clampN (z + 9)) M) ∧ Hid (YS wq W9 lo hi g1 g2 A3 c3 (ofB (clampN z) L) A6 c6 m2) ∧ Hid (SS W9 lo hi p l own s2 m2) ∧ Hid (DS W9 W9.heap.size (.agg #[.slice A l.length cc]) l))
        case first =>
          cases own with
          | false =>
            go_wp2_with fail
            go_meet
            exact ⟨pv py, A4, c4, _, rfl, rfl, Lib_hid (hT2.out.stay HAA.out.2), Lib_hid (.inr ⟨rfl, py, lo2, hi2, rfl, HYQ.out, hy1, by have := hT2.out.b.size; omega⟩), HDQ⟩
          | true =>
            go_wp2_with fail
            go_meet
            exact ⟨pv p, A, cc, l, rfl, rfl, Lib_hid (hT2.out.owns HDQ.out HAP.out), Lib_hid (.inl ⟨rfl, rfl, rfl⟩), Lib_hid ((HDQ.out.setBox hT2.out.h2).more (turns_setCell wq g2 0 _).size)⟩
        case rest =>
          obtain ⟨s2, A6, c6, m2, hs2, hm2, hY, hS, hD⟩ := hcut
          obtain ⟨q', hq'⟩ : ∃ q', s2 = pv q' := by
            rcases hS.out with ⟨_, e, _⟩ | ⟨_, q', _, _, e, _⟩
            · exact ⟨_, e⟩
            · exact ⟨_, e⟩
          subst hq' hs2
          have hs0 : w.heap.size ≤ wy.heap.size := Nat.le_trans HBB.out.1.size HX.out.2.2.2.2.2.size
          have hs1 : w.heap.size + 3 ≤ wy.heap.size := by have := HX.out.2.2.2.2.2.size; have := HBB.out.2.2.2; omega
          have hs2 : wy.heap.size ≤ wq.heap.size := hT2.out.b.size
          have hle : l.length ≤ 65536 := by obtain ⟨_, _, _, _, _, h⟩ := hD.out; exact h
          have hl1 : (ofB (clampN z) L).length ≤ 65536 := by rw [ofB_len]; exact clampN_le _
          have hl2 : m2.length ≤ 65536 := by
            rw [hm2.out]
            cases own with
            | false => rw [if_neg (by simp), ofB_len]; exact clampN_le _
            | true => rw [if_pos rfl]; exact hle
          have k1' := (hY.out.t.cell (p := ⟨w.heap.size, 0, none⟩) (by show w.heap.size < wq.heap.size; omega) (by show ¬ w.heap.size = g2; omega)).trans k1
          have k2' := (hY.out.t.cell (p := ⟨w.heap.size + 1, 0, none⟩) (by show w.heap.size + 1 < wq.heap.size; omega) (by show ¬ w.heap.size + 1 = g2; omega)).trans k2
          have k3 := cell_of_row _ _ 0 _ _ _ hY.out.h1
          have k4 := cell_of_row _ _ 0 _ _ _ hY.out.h2
          have hY1 := (hY.out.t.block (w.heap.size + 1) (by omega) (by show ¬ w.heap.size + 1 = g2; omega)).trans HY1.out
          have hY2 := (hY.out.t.block (w.heap.size + 2) (by omega) (by show ¬ w.heap.size + 2 = g2; omega)).trans HY2.out
          have hbc : Below w.heap.size w wc := HBW.out.trans (hY.out.t.below (by omega) (fun k e => by omega))
          have hzc : BZ wc lo hi p l := HZQ.out.turns hY.out.t (fun k h1 h2 e => by omega)
          have hxc : BZ wc lo1 hi1 px (ofB (clampN z) L) := HXQ.out.turns hY.out.t (fun k h1 h2 e => by omega)
          have hrow := lit_vs wc [.slice A3 (ofB (clampN z) L).length c3, .slice A6 m2.length c6] 33
          have hbr := below_new wc (.cells #[.slice A3 (ofB (clampN z) L).length c3, .slice A6 m2.length c6] 33)
          have DOC : Hid (Calls Tryd.prog 39 #[.agg #[.slice A l.length cc], .int .i64 0, .slice (some ⟨wc.heap.size, 0, none⟩) 2 2] (wc.alloc (.cells #[.slice A3 (ofB (clampN z) L).length c3, .slice A6 m2.length c6] 33)) (DDo 0 l [ofB (clampN z) L, m2] (wc.alloc (.cells #[.slice A3 (ofB (clampN z) L).length c3, .slice A6 m2.length c6] 33)))) :=
            ddo_any 0 (by decide) _ _ 2 2 _ _ l [.slice A3 (ofB (clampN z) L).length c3, .slice A6 m2.length c6] [ofB (clampN z) L, m2] _ (hD.out.below hbr) hrow ⟨rfl, fun j hj => by
              have : j = 0 ∨ j = 1 := by simp at hj; omega
              rcases this with rfl | rfl
              · exact ⟨A3, c3, rfl, (hY.out.d1.below hbr).more (by simp)⟩
              · exact ⟨A6, c6, rfl, (hY.out.d2.below hbr).more (by simp)⟩⟩ hbr.size (by simp) (by decide)
          have GO := Lib_hid (fun (w11 : World) (A5 : Option Addr) (c5 : Nat) hd5 hf5 hb11 => do_world lo hi p lo1 hi1 px g1 g2 cc c3 c5 c6 A A3 A5 A6 3 i z _ _ (pv q') own l (ofB (clampN z) L) m2 (doB 0 l [ofB (clampN z) L, m2]) w wq wc w11 hT h0 hhi hbc (by omega) (by omega) hY1 hY2 hY.out HAA.out.1 hzc hxc hx1 (by have := hY.out.t.size; omega) hS.out hl1 hl2 HAP.out hd5 hf5 hb11)
          have GO2 := Lib_hid (fun (w11 W13 : World) (A5 : Option Addr) (c5 : Nat) hW hd5 hf5 hb11 => do_own lo hi p lo1 hi1 px g1 g2 cc c3 c5 c6 A A3 A5 A6 3 i z _ _ (pv q') own l (ofB (clampN z) L) m2 (doB 0 l [ofB (clampN z) L, m2]) w wq wc w11 W13 hW hT h0 hhi hbc (by have := hY.out.t.size; omega) (by omega) (by omega) hY1 hY2 hY.out (hf1.out.less hs1) hzc hxc hx3 (by have := hY.out.t.size; omega) hl1 hd5 hf5 hb11)
          have HFR := Lib_hid hbr
          have HH := Lib_hid (And.intro hgg (And.intro hs1 hs2))
          have HEQ : Hid (mm = doB 0 l [ofB (clampN z) L, m2]) := by unfold Hid; rw [HMM.out, hm2.out]; rfl
          clear k1 k2 k6 k7 k8 hs0 hs1 hs2 hY1 hY2 hbc hzc hxc hrow hbr hgg
          go_wp2_with fail
          refine DOC.out.mono ?_
          rintro e w11 ⟨A5, c5, rfl, ⟨hd5, hf5⟩, hb11⟩
          obtain ⟨W13, nb, hW13, hnb, hp1, hKX, hKI, hKJ, hKE⟩ := GO.out w11 A5 c5 hd5 (hf5.less HFR.out.size) (HFR.out.trans (hb11.mono HFR.out.size))
          obtain ⟨v1, v2, v3, v4, v5⟩ := hp1
          obtain ⟨o1, o2, o3, o4⟩ := GO2.out w11 W13 A5 c5 hW13 hd5 (hf5.less HFR.out.size) (HFR.out.trans (hb11.mono HFR.out.size))
          have OW1 := Lib_hid o1
          have OW2 := Lib_hid o2
          have OW3 := Lib_hid o3
          have OW4 := Lib_hid o4
          have PJ : Hid (Calls Tryd.prog 24 #[pv p, .slice (some ⟨nb, 0, none⟩) 2 2] W13 (fun e w' => e = .returned (.int .i64 (difK (doR 0 l [ofB (clampN z) L, m2]) (bt l) l.length : Int)) ∧ BZ w' lo hi p (doB 0 l [ofB (clampN z) L, m2]) ∧ Turns (fun k => lo ≤ k ∧ k < hi) W13 w')) := pjoin_any lo hi p 2 2 _ l _ _ W13 v1 v2 v3 v4 (by decide) (by decide) v5
          have KX := Lib_hid hKX
          have KI := Lib_hid hKI
          have KJ := Lib_hid hKJ
          have KE := Lib_hid hKE
          have HHI := Lib_hid v2
          have hw113 : w.heap.size + 3 ≤ w11.heap.size := by have := HH.out; have := hY.out.t.size; have := hb11.size; have := HFR.out.size; omega
          have hw11 : w.heap.size + 1 < w11.heap.size := by have := HH.out; have := hY.out.t.size; have := hb11.size; have := HFR.out.size; omega
          have q2 : w11.cell? ⟨w.heap.size + 1, 0, none⟩ = some (.int .i64 3) := (hb11.cell (p := ⟨w.heap.size + 1, 0, none⟩) (by show w.heap.size + 1 < _; have := HH.out; have := hY.out.t.size; simp; omega)).trans ((HFR.out.cell (p := ⟨w.heap.size + 1, 0, none⟩) (by show w.heap.size + 1 < _; have := HH.out; have := hY.out.t.size; omega)).trans k2')
          subst hnb
          clear hKX hKI hKJ hKE hd5 hf5 hb11 v1 v2 v3 v4 v5 k1' k2' k3 k4 GO GO2 DOC o1 o2 o3 o4
          generalize doB 0 l [ofB (clampN z) L, m2] = l' at *
          generalize difK (doR 0 l [ofB (clampN z) L, m2]) (bt l) l.length = mb at *
          generalize (ofB (clampN z) L).length = n1 at *
          go_wp2_with fail
          rw [← hW13]
          refine PJ.out.mono ?_
          rintro e w14 ⟨rfl, hz14, t14⟩
          have SX : Hid (∀ X, Turns (fun k => lo ≤ k ∧ k < hi) W13 X → X.cell? ⟨w11.heap.size, 0, none⟩ = some (.slice A5 l'.length c5) ∧ X.cell? ⟨g1, 0, none⟩ = some (.slice A3 n1 c3) ∧ X.cell? ⟨g2, 0, none⟩ = some (.slice A6 m2.length c6) ∧ X.cell? ⟨w.heap.size + 1, 5, none⟩ = some (.bool own)) := fun X hX => ⟨(KX.out X hX).1, (KX.out X hX).2.1, (KX.out X hX).2.2.1, (KX.out X hX).2.2.2.1⟩
          have SXS : Hid (∀ X, Turns (fun k => lo ≤ k ∧ k < hi) W13 X → (X.setCell ⟨w.heap.size + 1 + 1, 0, none⟩ (.slice A5 l'.length c5)).cell? ⟨w11.heap.size, 0, none⟩ = some (.slice A5 l'.length c5) ∧ (X.setCell ⟨w.heap.size + 1 + 1, 0, none⟩ (.slice A5 l'.length c5)).cell? ⟨g1, 0, none⟩ = some (.slice A3 n1 c3) ∧ (X.setCell ⟨w.heap.size + 1 + 1, 0, none⟩ (.slice A5 l'.length c5)).cell? ⟨g2, 0, none⟩ = some (.slice A6 m2.length c6) ∧ (X.setCell ⟨w.heap.size + 1 + 1, 0, none⟩ (.slice A5 l'.length c5)).cell? ⟨w.heap.size + 1, 5, none⟩ = some (.bool own)) := fun X hX => by
            have hh := HH.out
            have hw : w.heap.size + 3 ≤ w11.heap.size := hw113
            obtain ⟨s1, s2, s3, s4⟩ := SX.out X hX
            exact ⟨(World.cell?_of_block (heap_setCell_other _ _ _ _ (by show w11.heap.size ≠ w.heap.size + 1 + 1; omega))).trans s1, (World.cell?_of_block (heap_setCell_other _ _ _ _ (by show g1 ≠ w.heap.size + 1 + 1; omega))).trans s2, (World.cell?_of_block (heap_setCell_other _ _ _ _ (by show g2 ≠ w.heap.size + 1 + 1; omega))).trans s3, (World.cell?_of_block (heap_setCell_other _ _ _ _ (by show w.heap.size + 1 ≠ w.heap.size + 1 + 1; omega))).trans s4⟩
          have HH2 := Lib_hid (show hi ≤ w14.heap.size from Nat.le_trans HHI.out t14.size)
          have HZ14 := Lib_hid hz14
          clear hz14 hW13
          go_upto_region 25 with (fail)
          cases own with
          | false =>
            replace KJ := Lib_hid (KJ.out rfl)
            go_region_held3 (fun X => X.cell? ⟨w11.heap.size, 0, none⟩ = some (.slice A5 l'.length c5) ∧ X.cell? ⟨g1, 0, none⟩ = some (.slice A3 n1 c3) ∧ X.cell? ⟨g2, 0, none⟩ = some (.slice A6 m2.length c6) ∧ X.cell? ⟨w.heap.size + 1, 5, none⟩ = some (.bool false))
              (first | exact SXS.out _ tb | exact SX.out _ tb | exact SX.out _ ta | exact SX.out _ (t14.trans_ (Turns.of_below (below_d1 _))))
              ((go_at_call 18; first
                | ((with_reducible refine (KI.out _ (t14.trans_ (Turns.of_below (below_d1 _)))).mono ?_); rintro e wa ⟨rfl, hba'⟩; have hba : Below w14.heap.size w14 wa := ⟨hba'.os, hba'.tape, hba'.output, hba'.size, hba'.block⟩; have ta : Turns (fun k => lo ≤ k ∧ k < hi) W13 wa := t14.trans_ (Turns.of_below hba))
                | ((with_reducible refine (KJ.out _ ta).mono ?_); rintro e wb ⟨rfl, hbb'⟩; have tb : Turns (fun k => lo ≤ k ∧ k < hi) W13 wb := ta.trans_ (Turns.of_below hbb'); have hzb : BZ wb lo hi p l' := (HZ14.out.below hba HH2.out).below hbb' (Nat.le_trans HH2.out hba.size); obtain ⟨-, -, -, -, q3, q4, q5⟩ := KX.out wb tb)))
            all_goals
              have q5' : (wb.setCell ⟨w.heap.size + 1 + 1, 0, none⟩ (.slice A5 l'.length c5)).cell? ⟨w.heap.size + 1 + 1, 0, none⟩ = some (.slice A5 l'.length c5) := q5
              have HFI := Lib_hid (KE.out wb tb hzb)
              clear q5 KE KX KI KJ hzb tb ta hba hba' hbb'
              go_wp2
              exact bodyPost_ret (v := .tuple #[.agg #[.slice A5 l'.length c5], .bool true]) (by simp [results, Tryd.results17, go_sem, q5']) rfl (by rw [HEQ.out]; exact HFI.out)
          | true =>
            clear KJ KX KI KE SX SXS
            have e8 : Tryd.prog.follows .mixedOrders = true := by kernel_rfl
            refine wp_region_fixJ (N := 135) (fun k => ([(.agg #[.slice A5 l'.length c5]), .int .i64 (mb : Int), .int .i64 (mb : Int), .bool true, .bool true, pv px, (.agg #[.slice A3 n1 c3]), .bool true, .bool true, .bool true, .pointer (some ⟨w.heap.size + 1, 5, none⟩), .bool true, .bool true, undef, undef, undef, .bool true, .bool true, undef, .bool true] : List Value).getD k undef) (fun L X => Turns (fun k => (lo ≤ k ∧ k < hi) ∨ k = w.heap.size + 2) W13 X ∧ BZ X lo hi p l' ∧ X.heap[w.heap.size + 2]? = some (.cells #[if L 18 = true then .slice A5 l'.length c5 else .slice none 0 0] 33 (0, 0))) e8 (by kernel_rfl) rfl ?_ ?_ ?_
            · exact ⟨⟨t14.os, t14.tape, t14.output, t14.size, fun k h1 h2 => t14.block k h1 (fun e => h2 (.inl e))⟩, HZ14.out.keep (fun _ _ _ _ => rfl), by rw [if_neg (by decide)]; exact (t14.block _ (Array.getElem?_eq_some_iff.1 OW1.out).1 (by show ¬ (lo ≤ w.heap.size + 2 ∧ w.heap.size + 2 < hi); omega)).trans OW1.out⟩
            · intro i o L a wx hii hL hJ hO hD
              have hi8 : i < 20 := (Array.getElem?_eq_some_iff.1 hii).1
              have hcase : i = 0 ∨ i = 1 ∨ i = 2 ∨ i = 3 ∨ i = 4 ∨ i = 5 ∨ i = 6 ∨ i = 7 ∨ i = 8 ∨ i = 9 ∨ i = 10 ∨ i = 11 ∨ i = 12 ∨ i = 13 ∨ i = 14 ∨ i = 15 ∨ i = 16 ∨ i = 17 ∨ i = 18 ∨ i = 19 := by omega
              clear hi8
              rcases hcase with rfl | rfl | rfl | rfl | rfl | rfl | rfl | rfl | rfl | rfl | rfl | rfl | rfl | rfl | rfl | rfl | rfl | rfl | rfl | rfl
              · obtain rfl := Option.some.inj hii
                have hJ' : (fun L X => Turns (fun k => (lo ≤ k ∧ k < hi) ∨ k = w.heap.size + 2) W13 X ∧ BZ X lo hi p l' ∧ X.heap[w.heap.size + 2]? = some (.cells #[if L 18 = true then .slice A5 l'.length c5 else .slice none 0 0] 33 (0, 0))) (more L 0) wx := ⟨hJ.1, hJ.2.1, by rw [more_ne (by decide)]; exact hJ.2.2⟩
                have e16 : a.tmps.getD 16 undef = .pointer (some ⟨w11.heap.size, 0, none⟩) := (hO 16 (by decide +kernel)).trans rfl
                obtain ⟨c0, c1, c2, h6, h7⟩ := OW2.out wx hJ.1
                refine .inl ⟨rfl, mid_step ((.agg #[.slice A5 l'.length c5])) wx (fun K hK => ?_) ⟨rfl, hJ'⟩⟩
                go_simp
                exact hK
              · obtain rfl := Option.some.inj hii
                have hJ' : (fun L X => Turns (fun k => (lo ≤ k ∧ k < hi) ∨ k = w.heap.size + 2) W13 X ∧ BZ X lo hi p l' ∧ X.heap[w.heap.size + 2]? = some (.cells #[if L 18 = true then .slice A5 l'.length c5 else .slice none 0 0] 33 (0, 0))) (more L 1) wx := ⟨hJ.1, hJ.2.1, by rw [more_ne (by decide)]; exact hJ.2.2⟩
                have e18 : a.tmps.getD 18 undef = .int .i64 (mb : Int) := (hO 18 (by decide +kernel)).trans rfl
                refine .inl ⟨rfl, mid_step (.int .i64 (mb : Int)) wx (fun K hK => ?_) ⟨rfl, hJ'⟩⟩
                go_simp
                exact hK
              · obtain rfl := Option.some.inj hii
                have hJ' : (fun L X => Turns (fun k => (lo ≤ k ∧ k < hi) ∨ k = w.heap.size + 2) W13 X ∧ BZ X lo hi p l' ∧ X.heap[w.heap.size + 2]? = some (.cells #[if L 18 = true then .slice A5 l'.length c5 else .slice none 0 0] 33 (0, 0))) (more L 2) wx := ⟨hJ.1, hJ.2.1, by rw [more_ne (by decide)]; exact hJ.2.2⟩
                have e17 : a.tmps.getD 17 undef = .int .i64 (mb : Int) := (hO 17 (by decide +kernel)).trans rfl
                refine .inl ⟨rfl, mid_step (.int .i64 (mb : Int)) wx (fun K hK => ?_) ⟨rfl, hJ'⟩⟩
                go_simp
                exact hK
              · obtain rfl := Option.some.inj hii
                have hJ' : (fun L X => Turns (fun k => (lo ≤ k ∧ k < hi) ∨ k = w.heap.size + 2) W13 X ∧ BZ X lo hi p l' ∧ X.heap[w.heap.size + 2]? = some (.cells #[if L 18 = true then .slice A5 l'.length c5 else .slice none 0 0] 33 (0, 0))) (more L 3) wx := ⟨hJ.1, hJ.2.1, by rw [more_ne (by decide)]; exact hJ.2.2⟩
                have e117 : a.tmps.getD 117 undef = .int .i64 (mb : Int) := hD 1 (by kernel_rfl) _ 117 rfl rfl
                have e118 : a.tmps.getD 118 undef = .int .i64 (mb : Int) := hD 2 (by kernel_rfl) _ 118 rfl rfl
                refine .inl ⟨rfl, mid_step (.bool true) wx (fun K hK => ?_) ⟨rfl, hJ'⟩⟩
                go_simp
                exact hK
              · obtain rfl := Option.some.inj hii
                have hJ' : (fun L X => Turns (fun k => (lo ≤ k ∧ k < hi) ∨ k = w.heap.size + 2) W13 X ∧ BZ X lo hi p l' ∧ X.heap[w.heap.size + 2]? = some (.cells #[if L 18 = true then .slice A5 l'.length c5 else .slice none 0 0] 33 (0, 0))) (more L 4) wx := ⟨hJ.1, hJ.2.1, by rw [more_ne (by decide)]; exact hJ.2.2⟩
                have e119 : a.tmps.getD 119 undef = .bool true := hD 3 (by kernel_rfl) _ 119 rfl rfl
                refine .inl ⟨rfl, mid_step (.bool true) wx (fun K hK => ?_) ⟨rfl, hJ'⟩⟩
                go_simp
                exact hK
              · obtain rfl := Option.some.inj hii
                have hJ' : (fun L X => Turns (fun k => (lo ≤ k ∧ k < hi) ∨ k = w.heap.size + 2) W13 X ∧ BZ X lo hi p l' ∧ X.heap[w.heap.size + 2]? = some (.cells #[if L 18 = true then .slice A5 l'.length c5 else .slice none 0 0] 33 (0, 0))) (more L 5) wx := ⟨hJ.1, hJ.2.1, by rw [more_ne (by decide)]; exact hJ.2.2⟩
                have eg : a.tmps.getD 120 undef = .bool true := hD 4 (by kernel_rfl) _ 120 rfl rfl
                have e12 : a.tmps.getD 12 undef = pv px := (hO 12 (by decide +kernel)).trans rfl
                refine .inl ⟨wanted_yes 4 120 rfl rfl rfl eg, mid_step (pv px) wx (fun K hK => ?_) ⟨rfl, hJ'⟩⟩
                go_simp
                exact hK
              · obtain rfl := Option.some.inj hii
                have hJ' : (fun L X => Turns (fun k => (lo ≤ k ∧ k < hi) ∨ k = w.heap.size + 2) W13 X ∧ BZ X lo hi p l' ∧ X.heap[w.heap.size + 2]? = some (.cells #[if L 18 = true then .slice A5 l'.length c5 else .slice none 0 0] 33 (0, 0))) (more L 6) wx := ⟨hJ.1, hJ.2.1, by rw [more_ne (by decide)]; exact hJ.2.2⟩
                have eg : a.tmps.getD 120 undef = .bool true := hD 4 (by kernel_rfl) _ 120 rfl rfl
                have e14 : a.tmps.getD 14 undef = .pointer (some ⟨g1, 0, none⟩) := (hO 14 (by decide +kernel)).trans rfl
                obtain ⟨c0, c1, c2, h6, h7⟩ := OW2.out wx hJ.1
                refine .inl ⟨wanted_yes 4 120 rfl rfl rfl eg, mid_step ((.agg #[.slice A3 n1 c3])) wx (fun K hK => ?_) ⟨rfl, hJ'⟩⟩
                go_simp
                exact hK
              · obtain rfl := Option.some.inj hii
                have hJ' : (fun L X => Turns (fun k => (lo ≤ k ∧ k < hi) ∨ k = w.heap.size + 2) W13 X ∧ BZ X lo hi p l' ∧ X.heap[w.heap.size + 2]? = some (.cells #[if L 18 = true then .slice A5 l'.length c5 else .slice none 0 0] 33 (0, 0))) (more L 7) wx := ⟨hJ.1, hJ.2.1, by rw [more_ne (by decide)]; exact hJ.2.2⟩
                have eg : a.tmps.getD 120 undef = .bool true := hD 4 (by kernel_rfl) _ 120 rfl rfl
                have e121 : a.tmps.getD 121 undef = pv px := hD 5 (by kernel_rfl) _ 121 rfl rfl
                have e122 : a.tmps.getD 122 undef = (.agg #[.slice A3 n1 c3]) := hD 6 (by kernel_rfl) _ 122 rfl rfl
                obtain ⟨c0, c1, c2, h6, h7⟩ := OW2.out wx hJ.1
                have DX := OW3.out wx hJ.1
                refine .inl ⟨wanted_yes 4 120 rfl rfl rfl eg, mid_call (fun v w' => v = .bool true ∧ Below wx.heap.size wx w') (fun K hK => ?_) (fun v w' h => ⟨congrArg (Act.put a _) h.1, hJ.1.trans_ (Turns.of_below h.2), hJ.2.1.below h.2 h6, by rw [more_ne (by decide)]; exact (h.2.block _ h7).trans hJ.2.2⟩)⟩
                go_simp
                refine DX.mono ?_
                rintro e w' ⟨rfl, k1⟩
                exact hK _ _ ⟨rfl, k1⟩
              · obtain rfl := Option.some.inj hii
                have hJ' : (fun L X => Turns (fun k => (lo ≤ k ∧ k < hi) ∨ k = w.heap.size + 2) W13 X ∧ BZ X lo hi p l' ∧ X.heap[w.heap.size + 2]? = some (.cells #[if L 18 = true then .slice A5 l'.length c5 else .slice none 0 0] 33 (0, 0))) (more L 8) wx := ⟨hJ.1, hJ.2.1, by rw [more_ne (by decide)]; exact hJ.2.2⟩
                have e120 : a.tmps.getD 120 undef = .bool true := hD 4 (by kernel_rfl) _ 120 rfl rfl
                have e123 : a.tmps.getD 123 undef = .bool true := hD 7 (by kernel_rfl) _ 123 rfl rfl
                refine .inl ⟨rfl, mid_step (.bool true) wx (fun K hK => ?_) ⟨rfl, hJ'⟩⟩
                go_simp
                exact hK
              · obtain rfl := Option.some.inj hii
                have hJ' : (fun L X => Turns (fun k => (lo ≤ k ∧ k < hi) ∨ k = w.heap.size + 2) W13 X ∧ BZ X lo hi p l' ∧ X.heap[w.heap.size + 2]? = some (.cells #[if L 18 = true then .slice A5 l'.length c5 else .slice none 0 0] 33 (0, 0))) (more L 9) wx := ⟨hJ.1, hJ.2.1, by rw [more_ne (by decide)]; exact hJ.2.2⟩
                have e124 : a.tmps.getD 124 undef = .bool true := hD 8 (by kernel_rfl) _ 124 rfl rfl
                refine .inl ⟨rfl, mid_step (.bool true) wx (fun K hK => ?_) ⟨rfl, hJ'⟩⟩
                go_simp
                exact hK
              · obtain rfl := Option.some.inj hii
                have hJ' : (fun L X => Turns (fun k => (lo ≤ k ∧ k < hi) ∨ k = w.heap.size + 2) W13 X ∧ BZ X lo hi p l' ∧ X.heap[w.heap.size + 2]? = some (.cells #[if L 18 = true then .slice A5 l'.length c5 else .slice none 0 0] 33 (0, 0))) (more L 10) wx := ⟨hJ.1, hJ.2.1, by rw [more_ne (by decide)]; exact hJ.2.2⟩
                have eg : a.tmps.getD 125 undef = .bool true := hD 9 (by kernel_rfl) _ 125 rfl rfl
                have e5 : a.tmps.getD 5 undef = .pointer (some ⟨w.heap.size + 1, 0, none⟩) := (hO 5 (by decide +kernel)).trans rfl
                refine .inl ⟨wanted_yes 9 125 rfl rfl rfl eg, mid_step (.pointer (some ⟨w.heap.size + 1, 5, none⟩)) wx (fun K hK => ?_) ⟨rfl, hJ'⟩⟩
                go_simp
                exact hK
              · obtain rfl := Option.some.inj hii
                have hJ' : (fun L X => Turns (fun k => (lo ≤ k ∧ k < hi) ∨ k = w.heap.size + 2) W13 X ∧ BZ X lo hi p l' ∧ X.heap[w.heap.size + 2]? = some (.cells #[if L 18 = true then .slice A5 l'.length c5 else .slice none 0 0] 33 (0, 0))) (more L 11) wx := ⟨hJ.1, hJ.2.1, by rw [more_ne (by decide)]; exact hJ.2.2⟩
                have eg : a.tmps.getD 125 undef = .bool true := hD 9 (by kernel_rfl) _ 125 rfl rfl
                have e126 : a.tmps.getD 126 undef = .pointer (some ⟨w.heap.size + 1, 5, none⟩) := hD 10 (by kernel_rfl) _ 126 rfl rfl
                obtain ⟨c0, c1, c2, h6, h7⟩ := OW2.out wx hJ.1
                refine .inl ⟨wanted_yes 9 125 rfl rfl rfl eg, mid_step (.bool true) wx (fun K hK => ?_) ⟨rfl, hJ'⟩⟩
                go_simp
                exact hK
              · obtain rfl := Option.some.inj hii
                have hJ' : (fun L X => Turns (fun k => (lo ≤ k ∧ k < hi) ∨ k = w.heap.size + 2) W13 X ∧ BZ X lo hi p l' ∧ X.heap[w.heap.size + 2]? = some (.cells #[if L 18 = true then .slice A5 l'.length c5 else .slice none 0 0] 33 (0, 0))) (more L 12) wx := ⟨hJ.1, hJ.2.1, by rw [more_ne (by decide)]; exact hJ.2.2⟩
                have eg : a.tmps.getD 125 undef = .bool true := hD 9 (by kernel_rfl) _ 125 rfl rfl
                have e127 : a.tmps.getD 127 undef = .bool true := hD 11 (by kernel_rfl) _ 127 rfl rfl
                refine .inl ⟨wanted_yes 9 125 rfl rfl rfl eg, mid_step (.bool true) wx (fun K hK => ?_) ⟨rfl, hJ'⟩⟩
                go_simp
                exact hK
              · obtain rfl := Option.some.inj hii
                have hJ' : (fun L X => Turns (fun k => (lo ≤ k ∧ k < hi) ∨ k = w.heap.size + 2) W13 X ∧ BZ X lo hi p l' ∧ X.heap[w.heap.size + 2]? = some (.cells #[if L 18 = true then .slice A5 l'.length c5 else .slice none 0 0] 33 (0, 0))) (more L 13) wx := ⟨hJ.1, hJ.2.1, by rw [more_ne (by decide)]; exact hJ.2.2⟩
                have eg : a.tmps.getD 128 undef = .bool true := hD 12 (by kernel_rfl) _ 128 rfl rfl
                exact .inr ⟨wanted_no 12 128 rfl rfl rfl eg (by decide), rfl, hJ'⟩
              · obtain rfl := Option.some.inj hii
                have hJ' : (fun L X => Turns (fun k => (lo ≤ k ∧ k < hi) ∨ k = w.heap.size + 2) W13 X ∧ BZ X lo hi p l' ∧ X.heap[w.heap.size + 2]? = some (.cells #[if L 18 = true then .slice A5 l'.length c5 else .slice none 0 0] 33 (0, 0))) (more L 14) wx := ⟨hJ.1, hJ.2.1, by rw [more_ne (by decide)]; exact hJ.2.2⟩
                have eg : a.tmps.getD 128 undef = .bool true := hD 12 (by kernel_rfl) _ 128 rfl rfl
                exact .inr ⟨wanted_no 12 128 rfl rfl rfl eg (by decide), rfl, hJ'⟩
              · obtain rfl := Option.some.inj hii
                have hJ' : (fun L X => Turns (fun k => (lo ≤ k ∧ k < hi) ∨ k = w.heap.size + 2) W13 X ∧ BZ X lo hi p l' ∧ X.heap[w.heap.size + 2]? = some (.cells #[if L 18 = true then .slice A5 l'.length c5 else .slice none 0 0] 33 (0, 0))) (more L 15) wx := ⟨hJ.1, hJ.2.1, by rw [more_ne (by decide)]; exact hJ.2.2⟩
                have eg : a.tmps.getD 128 undef = .bool true := hD 12 (by kernel_rfl) _ 128 rfl rfl
                exact .inr ⟨wanted_no 12 128 rfl rfl rfl eg (by decide), rfl, hJ'⟩
              · obtain rfl := Option.some.inj hii
                have hJ' : (fun L X => Turns (fun k => (lo ≤ k ∧ k < hi) ∨ k = w.heap.size + 2) W13 X ∧ BZ X lo hi p l' ∧ X.heap[w.heap.size + 2]? = some (.cells #[if L 18 = true then .slice A5 l'.length c5 else .slice none 0 0] 33 (0, 0))) (more L 16) wx := ⟨hJ.1, hJ.2.1, by rw [more_ne (by decide)]; exact hJ.2.2⟩
                have eg : a.tmps.getD 125 undef = .bool true := hD 9 (by kernel_rfl) _ 125 rfl rfl
                have e128 : a.tmps.getD 128 undef = .bool true := hD 12 (by kernel_rfl) _ 128 rfl rfl
                have e131 : a.tmps.getD 131 undef = undef := hD 15 (by kernel_rfl) _ 131 rfl rfl
                refine .inl ⟨wanted_yes 9 125 rfl rfl rfl eg, mid_step (.bool true) wx (fun K hK => ?_) ⟨rfl, hJ'⟩⟩
                go_simp
                exact hK
              · obtain rfl := Option.some.inj hii
                have hJ' : (fun L X => Turns (fun k => (lo ≤ k ∧ k < hi) ∨ k = w.heap.size + 2) W13 X ∧ BZ X lo hi p l' ∧ X.heap[w.heap.size + 2]? = some (.cells #[if L 18 = true then .slice A5 l'.length c5 else .slice none 0 0] 33 (0, 0))) (more L 17) wx := ⟨hJ.1, hJ.2.1, by rw [more_ne (by decide)]; exact hJ.2.2⟩
                have e125 : a.tmps.getD 125 undef = .bool true := hD 9 (by kernel_rfl) _ 125 rfl rfl
                have e132 : a.tmps.getD 132 undef = .bool true := hD 16 (by kernel_rfl) _ 132 rfl rfl
                refine .inl ⟨rfl, mid_step (.bool true) wx (fun K hK => ?_) ⟨rfl, hJ'⟩⟩
                go_simp
                exact hK
              · obtain rfl := Option.some.inj hii
                have e6 : a.tmps.getD 6 undef = .pointer (some ⟨w.heap.size + 1 + 1, 0, none⟩) := (hO 6 (by decide +kernel)).trans rfl
                have e116 : a.tmps.getD 116 undef = (.agg #[.slice A5 l'.length c5]) := hD 0 (by kernel_rfl) _ 116 rfl rfl
                have hjb : wx.heap[w.heap.size + 2]? = some (.cells #[.slice none 0 0] 33 (0, 0)) := by have := hJ.2.2; rwa [hL, if_neg (by decide)] at this
                have j1 : wx.cell? ⟨w.heap.size + 1 + 1, 0, none⟩ = some (.slice none 0 0) := cell_of_row _ _ 0 _ _ _ hjb
                have j2 : wx.frozen? ⟨w.heap.size + 1 + 1, 0, none⟩ = false := frozen_of_row _ _ 0 _ _ hjb
                refine .inl ⟨rfl, mid_step undef (wx.setCell ⟨w.heap.size + 1 + 1, 0, none⟩ (.slice A5 l'.length c5)) (fun K hK => ?_) ⟨rfl, hJ.1.trans_ ((turns_setCell wx (w.heap.size + 2) 0 _).mono fun k e => .inr e), hJ.2.1.turns (turns_setCell wx (w.heap.size + 2) 0 _) (fun k a b e => by omega), by rw [more_eq, if_pos rfl, heap_setCell_same wx (w.heap.size + 2) 0 _ _ _ hjb]; rfl⟩⟩
                go_simp
                exact hK
              · obtain rfl := Option.some.inj hii
                have hJ' : (fun L X => Turns (fun k => (lo ≤ k ∧ k < hi) ∨ k = w.heap.size + 2) W13 X ∧ BZ X lo hi p l' ∧ X.heap[w.heap.size + 2]? = some (.cells #[if L 18 = true then .slice A5 l'.length c5 else .slice none 0 0] 33 (0, 0))) (more L 19) wx := ⟨hJ.1, hJ.2.1, by rw [more_ne (by decide)]; exact hJ.2.2⟩
                have e133 : a.tmps.getD 133 undef = .bool true := hD 17 (by kernel_rfl) _ 133 rfl rfl
                refine .inl ⟨rfl, mid_step (.bool true) wx (fun K hK => ?_) ⟨rfl, hJ'⟩⟩
                go_simp
                exact hK
            · intro L a wx hall hsz hdf hO hJ hF
              have hact := act_puts (a := a) [(116, (.agg #[.slice A5 l'.length c5])), (117, .int .i64 (mb : Int)), (118, .int .i64 (mb : Int)), (119, .bool true), (120, .bool true), (121, pv px), (122, (.agg #[.slice A3 n1 c3])), (123, .bool true), (124, .bool true), (125, .bool true), (126, .pointer (some ⟨w.heap.size + 1, 5, none⟩)), (127, .bool true), (128, .bool true), (129, undef), (130, undef), (131, undef), (132, .bool true), (133, .bool true), (7, .bool true)] _ hsz hdf (by
                intro s v hm
                simp only [List.mem_cons, Prod.mk.injEq, List.not_mem_nil, or_false] at hm
                rcases hm with ⟨rfl, rfl⟩ | ⟨rfl, rfl⟩ | ⟨rfl, rfl⟩ | ⟨rfl, rfl⟩ | ⟨rfl, rfl⟩ | ⟨rfl, rfl⟩ | ⟨rfl, rfl⟩ | ⟨rfl, rfl⟩ | ⟨rfl, rfl⟩ | ⟨rfl, rfl⟩ | ⟨rfl, rfl⟩ | ⟨rfl, rfl⟩ | ⟨rfl, rfl⟩ | ⟨rfl, rfl⟩ | ⟨rfl, rfl⟩ | ⟨rfl, rfl⟩ | ⟨rfl, rfl⟩ | ⟨rfl, rfl⟩ | ⟨rfl, rfl⟩
                · exact ⟨(by show 116 < 135; decide), hF 0 (by decide) _ 116 rfl rfl⟩
                · exact ⟨(by show 117 < 135; decide), hF 1 (by decide) _ 117 rfl rfl⟩
                · exact ⟨(by show 118 < 135; decide), hF 2 (by decide) _ 118 rfl rfl⟩
                · exact ⟨(by show 119 < 135; decide), hF 3 (by decide) _ 119 rfl rfl⟩
                · exact ⟨(by show 120 < 135; decide), hF 4 (by decide) _ 120 rfl rfl⟩
                · exact ⟨(by show 121 < 135; decide), hF 5 (by decide) _ 121 rfl rfl⟩
                · exact ⟨(by show 122 < 135; decide), hF 6 (by decide) _ 122 rfl rfl⟩
                · exact ⟨(by show 123 < 135; decide), hF 7 (by decide) _ 123 rfl rfl⟩
                · exact ⟨(by show 124 < 135; decide), hF 8 (by decide) _ 124 rfl rfl⟩
                · exact ⟨(by show 125 < 135; decide), hF 9 (by decide) _ 125 rfl rfl⟩
                · exact ⟨(by show 126 < 135; decide), hF 10 (by decide) _ 126 rfl rfl⟩
                · exact ⟨(by show 127 < 135; decide), hF 11 (by decide) _ 127 rfl rfl⟩
                · exact ⟨(by show 128 < 135; decide), hF 12 (by decide) _ 128 rfl rfl⟩
                · exact ⟨(by show 129 < 135; decide), hF 13 (by decide) _ 129 rfl rfl⟩
                · exact ⟨(by show 130 < 135; decide), hF 14 (by decide) _ 130 rfl rfl⟩
                · exact ⟨(by show 131 < 135; decide), hF 15 (by decide) _ 131 rfl rfl⟩
                · exact ⟨(by show 132 < 135; decide), hF 16 (by decide) _ 132 rfl rfl⟩
                · exact ⟨(by show 133 < 135; decide), hF 17 (by decide) _ 133 rfl rfl⟩
                · exact ⟨(by show 7 < 135; decide), hF 19 (by decide) _ 7 rfl rfl⟩) (fun s hs => hO s (by exact hs))
              rw [hact]
              have hL18 := hall 18 (by decide)
              clear hact hF hO hsz hdf hall
              simp only [List.foldl, Act.put, List.setIfInBounds_toArray, List.set_cons_succ, List.set_cons_zero]
              have hjb := hJ.2.2
              rw [if_pos hL18] at hjb
              have q5' : wx.cell? ⟨w.heap.size + 1 + 1, 0, none⟩ = some (.slice A5 l'.length c5) := cell_of_row _ _ 0 _ _ _ hjb
              have HFI := Lib_hid (OW4.out wx hJ.1 hJ.2.1)
              clear hJ hjb hL18
              go_wp2
              exact bodyPost_ret (v := .tuple #[.agg #[.slice A5 l'.length c5], .bool true]) (by simp [results, Tryd.results17, go_sem, q5']) rfl (by rw [HEQ.out]; exact HFI.out)
end Go.Proofs.YtiembenkdldklaaDoor
