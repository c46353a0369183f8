/-
  Layer 8: the statements' is: is a set the reference's?
-/
import Derived.Test.YtiembenkdldklaaDoorYsw
import Derived.Deep.DeepCutAuto
import Derived.Deep.CutBlock
namespace Go.Proofs.YtiembenkdldklaaDoor
open Go Go.RowKit
set_option linter.unusedVariables false

/-- A set of the program's, and what it reads, in every world in which it lies so. -/
theorem nextB_le (l : List Bool) (i : Int) : (nextB l i).1 ≤ l.length := by
  unfold nextB
  split
  · rename_i k h
    have := List.mem_of_find?_eq_some h
    simp at this
    simp
    omega
  · simp

set_option maxRecDepth 100000 in
set_option maxHeartbeats 8000000 in
theorem is_any (lo hi p B : Nat) (l : List Bool) (v : Value) (w : World) (hT : BTab w) (h : BZ w lo hi p l) (hh : hi ≤ w.heap.size) (hd : DS w B v l) (hB : B ≤ w.heap.size) (hl : l.length ≤ 65536) :
    Calls Tryd.prog 18 #[pv p, v] w fun e w' => e = .returned (.bool true) ∧ Below w.heap.size w w' := by
  have hds := hd
  obtain ⟨A, c, rfl, hrd, hc, hle⟩ := hd
  have hb0 := below_new w (.cells #[.slice A l.length c] 33)
  have y0 := heap_alloc_new w (.cells #[.slice A l.length c] 33)
  have hs0 : (w.alloc (.cells #[.slice A l.length c] 33)).heap.size = w.heap.size + 1 := by simp
  have DA := Lib_hid (fun (X : World) (hX : Below w.heap.size w X) => dall_any B _ l X (hds.below (hX.mono hB)) (Nat.le_trans hB hX.size))
  have DN := Lib_hid (fun (i : Int) (X : World) (hX : Below w.heap.size w X) => dnext_any B _ l i X (hds.below (hX.mono hB)) (Nat.le_trans hB hX.size))
  have DH := Lib_hid (fun (i : Int) (X : World) (hX : Below w.heap.size w X) => dhas_any B _ l i X (hds.below (hX.mono hB)) (Nat.le_trans hB hX.size))
  have PA := Lib_hid (fun (X : World) (hX : Below w.heap.size w X) => pall_any lo hi p l X (h.below hX hh) (hT.below hX hT.1))
  have PN := Lib_hid (fun (i : Int) (hi9 : i ≤ 9223372036854775807) (X : World) (hX : Below w.heap.size w X) => pnext_any lo hi p l i X (h.below hX hh) (hT.below hX hT.1) hi9)
  have PH : Hid (∀ (i : Int) (X : World), Below w.heap.size w X → Calls Tryd.prog 27 #[pv p, .int .i64 i] X fun e w' => e = .returned (.bool (hasB l i)) ∧ Below X.heap.size X w') := fun i X hX => (phas_any lo hi p l i X (h.below hX hh)).mono (by rintro e w' ⟨rfl, q, rfl⟩; exact ⟨rfl, below_drew_ (Below.refl _ _)⟩)
  have PS := Lib_hid (fun (X : World) (hX : Below w.heap.size w X) => psize_any lo hi p l X (h.below hX hh))
  have PL := Lib_hid (fun (X : World) (hX : Below w.heap.size w X) => plen_any lo hi p l X (h.below hX hh))
  obtain ⟨xs, hxs⟩ : ∃ xs, xs = allB l := ⟨_, rfl⟩
  have hxl : xs.length ≤ 65536 := by rw [hxs]; exact Nat.le_trans (allB_len l) hl
  rw [← hxs] at DA PA PL
  obtain ⟨n, hn⟩ : ∃ n, n = xs.length := ⟨_, rfl⟩
  have HN := Lib_hid hn
  rw [← hn] at PL
  have hY := Lib_hid (And.intro y0 (And.intro hb0 hs0))
  have KB : Hid (∀ X, Below (w.heap.size + 1) (w.alloc (.cells #[.slice A l.length c] 33)) X → X.cell? ⟨w.heap.size, 0, none⟩ = some (.slice A l.length c) ∧ Below w.heap.size w X ∧ w.heap.size < X.heap.size) := fun X hX =>
    ⟨cell_of_row _ _ 0 _ _ _ ((hX.block _ (by omega)).trans hY.out.1), hY.out.2.1.trans (hX.mono (by omega)), by have := hX.size; have := hY.out.2.2; omega⟩
  have c0 := cell_of_row _ _ 0 _ _ _ y0
  clear hds hrd h hT y0 hb0 hxs
  go_enter Tryd.func18, Tryd.ntmps18
  go_wp2_with fail
  refine (DA.out _ hY.out.2.1).mono ?_
  intro e w1 hI
  obtain ⟨A1, c1, rfl, ho1, hb1⟩ := hI
  rw [hY.out.2.2] at hb1
  rw [← HN.out] at ho1 ⊢
  have hsz1 := hb1.size
  have HO1 := Lib_hid (And.intro (Rd.own ho1) (And.intro hb1 (own_cap ho1)))
  have KW : Hid (∀ X, Below w1.heap.size w1 X → Rd X w1.heap.size 1 A1 n (iz (xs.map fun (k : Nat) => (k : Int))) ∧ X.cell? ⟨w.heap.size, 0, none⟩ = some (.slice A l.length c) ∧ Below w.heap.size w X ∧ w.heap.size < X.heap.size) := fun X hX => by
    have hz : w.heap.size + 1 ≤ w1.heap.size := by omega
    obtain ⟨k1, k2, k3⟩ := KB.out X (HO1.out.2.1.trans (hX.mono hz))
    refine ⟨?_, k1, k2, k3⟩
    rw [← ic_iz]
    exact HO1.out.1.below hX
  have hn6 : n ≤ 65536 := by rw [HN.out]; exact hxl
  have hbw1 : Below w1.heap.size w1 w1 := Below.refl _ _
  clear DA hxl hn KB HO1
  go_wp2
  go_loopw [6] (fun t wr => ∃ k : Nat, t = .int .i64 k ∧ k ≤ 2 ∧ Below w1.heap.size w1 wr) (fun t _ => 2 - (intOf t).toNat)
  case atStart => exact ⟨0, rfl, by omega, hbw1⟩
  case round =>
    obtain ⟨k, rfl, hk2, hbr⟩ := hrel
    have hszr := hbr.size
    have HBR := Lib_hid hbr
    obtain ⟨r1, r2, r3, r4⟩ := KW.out wr hbr
    clear hbr hbw1
    by_cases hlt : k < 2
    · have HR1 := Lib_hid r1
      have HR3 := Lib_hid r3
      clear r1 r3 r2
      go_wp2_with fail
      refine (PA.out wr HR3.out).mono ?_
      intro e w3 hI
      obtain ⟨A2, c2, rfl, ho2, hb2⟩ := hI
      rw [← HN.out] at ho2 ⊢
      have hq1 := HR1.out.below (hb2.mono hszr)
      have hq2 := Rd.own ho2
      rw [ic_iz] at hq2
      have HQ := Lib_hid (And.intro hq1 hq2)
      have HO2 := Lib_hid (And.intro ho2 hb2)
      clear ho2 hb2 hq1 hq2
      go_wp2_with fail
      refine (sints_any _ _ _ _ _ _ _ _ _ _ HQ.out.2 HQ.out.1 (by omega)).mono ?_
      rintro e w4 ⟨rfl, q, rfl⟩
      have ho4 : (w3.drewN q).ownsRow wr.heap.size 3 1 (.slice A2 n c2) n (ic xs) := own_keep HO2.out.1 fun _ _ => rfl
      have hb4 : Below wr.heap.size wr (w3.drewN q) := below_drew_ HO2.out.2
      generalize w3.drewN q = w4 at *
      clear HQ HO2
      go_wp2
      go_loopw [8] (fun j X => ∃ (j' : Nat) (vs : List Value), j = .int .i64 j' ∧ j' ≤ n ∧ X.ownsRow wr.heap.size 3 1 (.slice A2 n c2) n vs ∧ Below wr.heap.size wr X) (fun j _ => n - (intOf j).toNat)
      case atStart => exact ⟨0, _, rfl, Nat.zero_le _, ho4, hb4⟩
      case round =>
        clear ho4 hb4
        obtain ⟨j, vs, rfl, hj, ho, hb⟩ := hrel
        by_cases hjn : j < n
        · obtain ⟨g, cap, hv, _, hgl⟩ := ho.form (by omega)
          obtain ⟨rfl, rfl⟩ : A2 = some ⟨g, 0, none⟩ ∧ c2 = cap := by injection hv with h1 _ h2; exact ⟨h1, h2⟩
          have hcp := own_cap ho
          have hvl : j < vs.length := by have := ho.1; omega
          have q1 := (ho.cellAt j (by omega)).trans (List.getElem?_eq_getElem hvl)
          have f1 := ho.frozenAt j
          have hst := ho.stored j (.int .i64 77)
          have hb3 := hb.grown hst.2 hb.size (own_ge ho)
          have HS := Lib_hid (And.intro hst.1 hb3)
          generalize vs[j] = u at *
          clear ho hb hst hb3 hv
          go_wp2
          go_roundw
          case rel => exact ⟨j + 1, _, by go_num, by omega, HS.out.1, HS.out.2⟩
          case measure => simp [intOf]; omega
        · obtain rfl : j = n := by omega
          have HB := Lib_hid (HBR.out.trans (hb.mono hszr))
          clear ho hb
          go_wp2
          go_roundw
          case rel => exact ⟨k + 1, by go_num, by omega, HB.out⟩
          case measure => simp [intOf]; omega
    · obtain rfl : k = 2 := by omega
      clear PA HN
      have KC : Hid (∀ X, Below wr.heap.size wr X → X.cell? ⟨w.heap.size, 0, none⟩ = some (.slice A l.length c) ∧ Below w.heap.size w X) := fun X hX => by
        obtain ⟨_, k1, k2, _⟩ := KW.out X (HBR.out.trans (hX.mono hszr))
        exact ⟨k1, k2⟩
      clear KW r1 r2 r3 hY
      go_wp2
      go_region_held3 (fun X => X.cell? ⟨w.heap.size, 0, none⟩ = some (.slice A l.length c))
        (first | exact (KC.out _ hbs).1 | exact (KC.out _ (below_d1 _)).1 | exact (KC.out _ (Below.refl _ _)).1)
        ((first
          | (go_at_call 11; first
            | ((with_reducible refine (PS.out _ (KC.out _ (by exact hbs)).2).mono ?_); rintro e ws ⟨rfl, rfl⟩)
            | ((with_reducible refine (PS.out _ (KC.out _ (by exact below_d1 _)).2).mono ?_); rintro e ws ⟨rfl, rfl⟩))
          | (go_at_call 13; (with_reducible refine (PL.out _ (KC.out _ (by exact below_d1 _)).2).mono ?_); rintro e ws ⟨rfl, hbs'⟩; have hbs : Below wr.heap.size wr ws := ⟨hbs'.os, hbs'.tape, hbs'.output, hbs'.size, hbs'.block⟩)))
      have hbq := hbs
      clear hbs hbs' PL PS
      go_wp2
      go_loopw [9, 10] (fun a i X => ∃ (k : Nat) (z : Int), a = .int .i64 z ∧ i = .int .i64 k ∧ k ≤ n + 1 ∧ -3 ≤ z ∧ z ≤ 65537 ∧ Below wr.heap.size wr X) (fun _ i _ => n + 1 - (intOf i).toNat)
      case atStart => exact ⟨0, -3, rfl, rfl, by omega, by omega, by omega, hbq⟩
      case round =>
        clear hbq
        obtain ⟨k, z, rfl, rfl, hk, hz1, hz2, hbx⟩ := hrel
        have c0 := (KC.out _ hbx).1
        by_cases hkn : k ≤ n
        · obtain ⟨v, b, hv⟩ : ∃ (v : Nat) (b : Bool), nextV l z = .tuple #[.int .i64 v, .bool b] ∧ v ≤ 65536 := ⟨_, _, rfl, Nat.le_trans (nextB_le l z) hl⟩
          obtain ⟨hv, hv6⟩ := hv
          have HBX := Lib_hid hbx
          clear hbx
          go_wp2_with fail
          refine (PN.out z (by omega) _ (KC.out _ HBX.out).2).mono ?_
          rintro e x1 ⟨he, hb1⟩
          rw [hv] at he
          subst he
          have HB1 := Lib_hid (HBX.out.trans (hb1.mono HBX.out.size))
          have c1 := (KC.out _ HB1.out).1
          clear c0 hb1
          go_wp2_with fail
          refine (DN.out z _ (KC.out _ HB1.out).2).mono ?_
          rintro e x2 ⟨he, hb2⟩
          rw [hv] at he
          subst he
          have HB2 := Lib_hid (HB1.out.trans (hb2.mono HB1.out.size))
          have c2 := (KC.out _ HB2.out).1
          clear c1 hb2
          have KX : Hid (∀ Y, Below x2.heap.size x2 Y → Y.cell? ⟨w.heap.size, 0, none⟩ = some (.slice A l.length c) ∧ Below w.heap.size w Y) := fun Y hY => KC.out _ (HB2.out.trans (hY.mono HB2.out.size))
          generalize hasB l v = hv1 at *
          generalize hasB l z = hz0 at *
          go_wp2
          go_region_held3 (fun X => X.cell? ⟨w.heap.size, 0, none⟩ = some (.slice A l.length c))
            (first | exact (KX.out _ hbs).1 | exact (KX.out _ (below_d1 _)).1 | exact (KX.out _ (Below.refl _ _)).1)
            ((first
              | (go_at_call 27; first
                | ((with_reducible refine (PH.out _ _ (KX.out _ (by exact hbs)).2).mono ?_); rintro e ws ⟨rfl, hbs'⟩; replace hbs := hbs.trans (hbs'.mono hbs.size))
                | ((with_reducible refine (PH.out _ _ (KX.out _ (by exact below_d1 _)).2).mono ?_); rintro e ws ⟨rfl, hbs'⟩; have hbs : Below x2.heap.size x2 ws := ⟨hbs'.os, hbs'.tape, hbs'.output, hbs'.size, hbs'.block⟩))
              | (go_at_call 42; first
                | ((with_reducible refine (DH.out _ _ (KX.out _ (by exact hbs)).2).mono ?_); rintro e ws ⟨rfl, hbs'⟩; replace hbs := hbs.trans (hbs'.mono hbs.size))
                | ((with_reducible refine (DH.out _ _ (KX.out _ (by exact below_d1 _)).2).mono ?_); rintro e ws ⟨rfl, hbs'⟩; have hbs : Below x2.heap.size x2 ws := ⟨hbs'.os, hbs'.tape, hbs'.output, hbs'.size, hbs'.block⟩))))
          all_goals
            have hbf := HB2.out.trans (hbs.mono HB2.out.size)
            clear hbs hbs'
            go_wp2
            go_roundw
            case rel => exact ⟨k + 1, v + 1, by go_num, by go_num, by omega, by omega, by omega, hbf⟩
            case measure => simp [intOf]; omega
        · obtain rfl : k = n + 1 := by omega
          have hfin := (KC.out _ hbx).2
          go_wp2
          go_ret
          exact ⟨rfl, hfin⟩

end Go.Proofs.YtiembenkdldklaaDoor
