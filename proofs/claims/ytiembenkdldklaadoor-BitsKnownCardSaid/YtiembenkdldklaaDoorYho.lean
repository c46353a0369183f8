/-
  Layer 8: BitsHolds: the walk.
-/
import Derived.Test.YtiembenkdldklaaDoorYnn
namespace Go.Proofs.YtiembenkdldklaaDoor
open Go Go.RowKit
set_option linter.unusedVariables false

theorem Oth.at_ {w X : World} {B : Nat} {s : Value} {m : List Bool} (h : Oth w B s m) (hb : Below B w X) (hB : B ≤ X.heap.size) : Oth X X.heap.size s m := by
  rcases h.below hb with h1 | ⟨q, lo, hi, e, hb, h2⟩
  · exact .inl h1
  · exact .inr ⟨q, lo, hi, e, hb, Nat.le_trans h2 hB⟩
theorem sameB_refl (l : List Bool) : sameB l l = true := by unfold sameB; simp
theorem withinB_refl (l : List Bool) : withinB l l = true := within_iff.2 fun _ h => h

set_option maxRecDepth 100000 in
set_option maxHeartbeats 8000000 in
theorem bholds_any (nk nl ck cl : Nat) (Ak Al : Option Addr) (n m : Int) (ks ls : List Int) (w : World) (hT : BTab w) (hr : Rd w w.heap.size 1 Ak nk (iz ks)) (hr' : Rd w w.heap.size 1 Al nl (iz ls)) :
    Calls Tryd.prog 4 #[.int .i64 n, .int .i64 m, .slice Ak nk ck, .slice Al nl cl] w fun e w' => e = .returned (.bool true) ∧ Below w.heap.size w w' := by
  have HWO := Lib_hid (fun (W : World) (hW : Below w.heap.size w W) => works_any W (hT.below hW hT.1))
  by_cases hall : n ≤ 400 ∧ m ≤ 400 ∧ nk ≤ 40 ∧ nl ≤ 40
  · have d1 : decide ((400 : Int) < n) = false := decide_eq_false (by omega)
    have d2 : decide ((400 : Int) < m) = false := decide_eq_false (by omega)
    have d3 : decide ((40 : Int) < (nk : Int)) = false := decide_eq_false (by omega)
    have d4 : decide ((40 : Int) < (nl : Int)) = false := decide_eq_false (by omega)
    obtain ⟨la, hla⟩ : ∃ l, l = ofB (clampN n) ks := ⟨_, rfl⟩
    obtain ⟨lb, hlb⟩ : ∃ l, l = ofB (clampN m) ls := ⟨_, rfl⟩
    have PA := Lib_hid (fun (W : World) (hW : Below w.heap.size w W) => hla ▸ pof_any w.heap.size nk ck n Ak ks W (hr.below hW) hW.size (by omega))
    have PB := Lib_hid (fun (W : World) (hW : Below w.heap.size w W) => hlb ▸ pof_any w.heap.size nl cl m Al ls W (hr'.below hW) hW.size (by omega))
    have DA := Lib_hid (fun (W : World) (hW : Below w.heap.size w W) => hla ▸ dof_any w.heap.size nk ck n Ak ks W (hr.below hW) hW.size (by omega))
    have DB := Lib_hid (fun (W : World) (hW : Below w.heap.size w W) => hlb ▸ dof_any w.heap.size nl cl m Al ls W (hr'.below hW) hW.size (by omega))
    clear hr hr' hT hall hla hlb
    go_enter Tryd.func4, Tryd.ntmps4
    go_wp2_with fail
    refine (PA.out w (Below.refl _ _)).mono ?_
    intro e w1 hN
    obtain ⟨p, loa, hia, rfl, hwa⟩ := hN.wsx (Below.refl _ _)
    have HA := Lib_hid hwa
    clear hwa hN
    go_wp2_with fail
    refine (PB.out w1 HA.out.b).mono ?_
    intro e w2 hN
    obtain ⟨q, lob, hib, rfl, hwb⟩ := hN.wsx HA.out.b
    obtain ⟨_, _, _, hb12⟩ := hN
    have HB := Lib_hid hwb
    replace HA := Lib_hid (HA.out.below hb12)
    clear hwb hb12
    go_wp2_with fail
    refine (DA.out w2 HB.out.b).mono ?_
    rintro e w3 ⟨v, rfl, hda, hb⟩
    obtain ⟨Aa, ca, rfl, hda'⟩ := hda
    have HX := Lib_hid (show DS w3 w3.heap.size (.agg #[.slice Aa la.length ca]) la from ⟨Aa, ca, rfl, hda'⟩)
    replace HA := Lib_hid (HA.out.below hb)
    replace HB := Lib_hid (HB.out.below hb)
    clear hda' hb
    go_wp2_with fail
    refine (DB.out w3 HB.out.b).mono ?_
    rintro e w4 ⟨v, rfl, hdb, hb⟩
    obtain ⟨Ab, cb, rfl, hdb'⟩ := hdb
    have HY := Lib_hid (show DS w4 w4.heap.size (.agg #[.slice Ab lb.length cb]) lb from ⟨Ab, cb, rfl, hdb'⟩)
    replace HA := Lib_hid (HA.out.below hb)
    replace HB := Lib_hid (HB.out.below hb)
    replace HX := Lib_hid ((HX.out.below hb).more hb.size)
    clear hdb' hb
    obtain ⟨W0, hW0, hs0, hb0, y0, y1⟩ := two_sets w4 (.slice Aa la.length ca) (.slice Ab lb.length cb) 33
    have HW := Lib_hid (And.intro hW0 (And.intro y0 (And.intro y1 hs0)))
    replace HA := Lib_hid (HA.out.below hb0)
    replace HB := Lib_hid (HB.out.below hb0)
    replace HX := Lib_hid ((HX.out.below hb0).more hb0.size)
    replace HY := Lib_hid ((HY.out.below hb0).more hb0.size)
    clear hW0 hs0 hb0 y0 y1
    go_upto_region 5 with (fail)
    rw [← HW.out.1]
    have KC : Hid (∀ X, Below W0.heap.size W0 X → X.cell? ⟨w4.heap.size, 0, none⟩ = some (.slice Aa la.length ca) ∧ X.cell? ⟨w4.heap.size + 1, 0, none⟩ = some (.slice Ab lb.length cb)) := fun X hX =>
      ⟨cell_of_row _ _ 0 _ _ _ ((hX.block _ (by have := HW.out.2.2.2; omega)).trans HW.out.2.1), cell_of_row _ _ 0 _ _ _ ((hX.block _ (by have := HW.out.2.2.2; omega)).trans HW.out.2.2.1)⟩
    have OA : Hid (∀ X, Below W0.heap.size W0 X → Oth X X.heap.size (pv p) la) := fun X hX => (show Oth W0 W0.heap.size (pv p) la from .inr ⟨p, loa, hia, rfl, HA.out.z, HA.out.le⟩).at_ hX hX.size
    have OB : Hid (∀ X, Below W0.heap.size W0 X → Oth X X.heap.size (pv q) lb) := fun X hX => (show Oth W0 W0.heap.size (pv q) lb from .inr ⟨q, lob, hib, rfl, HB.out.z, HB.out.le⟩).at_ hX hX.size
    have C1 : Hid (∀ X, Below W0.heap.size W0 X → Calls Tryd.prog 19 #[pv p, pv q] X fun e w' => e = .returned (.bool (sameB la lb)) ∧ Below X.heap.size X w') := fun X hX => psame_any _ _ la lb X (OA.out X hX) (OB.out X hX)
    have C2 : Hid (∀ X, Below W0.heap.size W0 X → Calls Tryd.prog 20 #[.agg #[.slice Aa la.length ca], .agg #[.slice Ab lb.length cb]] X fun e w' => e = .returned (.bool (sameB la lb)) ∧ Below X.heap.size X w') := fun X hX => dsame_any _ _ _ _ la lb X (HX.out.below hX) (HY.out.below hX) hX.size hX.size
    have C3 : Hid (∀ X, Below W0.heap.size W0 X → Calls Tryd.prog 22 #[pv p, pv q] X fun e w' => e = .returned (.bool (withinB la lb)) ∧ Below X.heap.size X w') := fun X hX => owithin_any _ _ la lb X (OA.out X hX) (OB.out X hX)
    have C4 : Hid (∀ X, Below W0.heap.size W0 X → Calls Tryd.prog 23 #[.agg #[.slice Aa la.length ca], .agg #[.slice Ab lb.length cb]] X fun e w' => e = .returned (.bool (withinB la lb)) ∧ Below X.heap.size X w') := fun X hX => dwithin_any _ _ _ _ la lb X (HX.out.below hX) (HY.out.below hX) hX.size hX.size
    have C5 : Hid (∀ X, Below W0.heap.size W0 X → Calls Tryd.prog 19 #[pv p, pv p] X fun e w' => e = .returned (.bool true) ∧ Below X.heap.size X w') := fun X hX => by
      have := psame_any _ _ la la X (OA.out X hX) (OA.out X hX)
      rwa [sameB_refl] at this
    have C6 : Hid (∀ X, Below W0.heap.size W0 X → Calls Tryd.prog 22 #[pv q, pv q] X fun e w' => e = .returned (.bool true) ∧ Below X.heap.size X w') := fun X hX => by
      have := owithin_any _ _ lb lb X (OB.out X hX) (OB.out X hX)
      rwa [withinB_refl] at this
    have C7 : Hid (∀ X, Below W0.heap.size W0 X → Calls Tryd.prog 10 #[.int .i64 0] X fun e w' => (∃ r, e = .returned (pv r) ∧ Calls Tryd.prog 19 #[.pointer none, pv r] w' fun e w'' => e = .returned (.bool true) ∧ Below w'.heap.size w' w'') ∧ Below X.heap.size X w') := fun X hX => by
      refine (pnew_any 0 X).mono ?_
      rintro e w' ⟨r, rfl, hz, hb⟩
      refine ⟨⟨r, rfl, ?_⟩, hb⟩
      have := psame_any (.pointer none) (pv r) [] (List.replicate (clampN 0) false) w' (.inl ⟨rfl, rfl⟩) (.inr ⟨r, _, _, rfl, hz, Nat.le_refl _⟩)
      have e0 : sameB [] (List.replicate (clampN 0) false) = true := by decide
      rwa [e0] at this
    have C8 : Hid (∀ X, Below W0.heap.size W0 X → Calls Tryd.prog 22 #[.pointer none, pv p] X fun e w' => e = .returned (.bool true) ∧ Below X.heap.size X w') := fun X hX => pwithin_nil _ la X (OA.out X hX)
    have C9 : Hid (∀ X, Below W0.heap.size W0 X → Calls Tryd.prog 9 #[] X fun e w' => e = .returned (.bool true) ∧ Below X.heap.size X w') := fun X hX => HWO.out X (HB.out.b.trans (hX.mono HB.out.b.size))
    have HBW := HB.out.b
    have HBB := Lib_hid HBW
    clear PA PB DA DB HWO HA HB HX HY HBW
    generalize sameB la lb = s1 at *
    generalize withinB la lb = s2 at *
    have hs4 : w4.heap.size + 1 < W0.heap.size := by have := HW.out.2.2.2; omega
    go_region_held3 (fun X => X.cell? ⟨w4.heap.size, 0, none⟩ = some (.slice Aa la.length ca) ∧ X.cell? ⟨w4.heap.size + 1, 0, none⟩ = some (.slice Ab lb.length cb))
      (first | exact KC.out _ (below_d1 _) | exact KC.out _ (Below.refl _ _) | exact KC.out _ hbs)
      ((first
        | (go_at_call 19; first
          | ((with_reducible refine (C1.out _ (by exact below_d1 _)).mono ?_); rintro e ws ⟨rfl, hbs'⟩; have hbs : Below W0.heap.size W0 ws := ⟨hbs'.os, hbs'.tape, hbs'.output, hbs'.size, hbs'.block⟩)
          | ((with_reducible refine (C5.out _ (by exact hbs)).mono ?_); rintro e ws ⟨rfl, hbs'⟩; replace hbs := hbs.trans (hbs'.mono hbs.size))
          | ((with_reducible refine hsr.mono ?_); rintro e ws ⟨rfl, hbs'⟩; replace hbs := hbs.trans (hbs'.mono hbs.size)))
        | (go_at_call 20; (with_reducible refine (C2.out _ (by exact hbs)).mono ?_); rintro e ws ⟨rfl, hbs'⟩; replace hbs := hbs.trans (hbs'.mono hbs.size))
        | (go_at_call 22; first
          | ((with_reducible refine (C3.out _ (by exact hbs)).mono ?_); rintro e ws ⟨rfl, hbs'⟩; replace hbs := hbs.trans (hbs'.mono hbs.size))
          | ((with_reducible refine (C6.out _ (by exact hbs)).mono ?_); rintro e ws ⟨rfl, hbs'⟩; replace hbs := hbs.trans (hbs'.mono hbs.size))
          | ((with_reducible refine (C8.out _ (by exact hbs)).mono ?_); rintro e ws ⟨rfl, hbs'⟩; replace hbs := hbs.trans (hbs'.mono hbs.size)))
        | (go_at_call 23; (with_reducible refine (C4.out _ (by exact hbs)).mono ?_); rintro e ws ⟨rfl, hbs'⟩; replace hbs := hbs.trans (hbs'.mono hbs.size))
        | (go_at_call 10; (with_reducible refine (C7.out _ (by exact hbs)).mono ?_); rintro e ws ⟨⟨r, rfl, hsr⟩, hbs'⟩; replace hbs := hbs.trans (hbs'.mono hbs.size))
        | (go_at_call 9; (with_reducible refine (C9.out _ (by exact hbs)).mono ?_); rintro e ws ⟨rfl, hbs'⟩; replace hbs := hbs.trans (hbs'.mono hbs.size))))
    all_goals
      have hfin := HBB.out.trans (hbs.mono HBB.out.size)
      go_wp2
      go_ret
      exact ⟨by simp, hfin⟩
  · have hcs : (400 < n) ∨ (n ≤ 400 ∧ 400 < m) ∨ (n ≤ 400 ∧ m ≤ 400 ∧ 40 < nk) ∨ (n ≤ 400 ∧ m ≤ 400 ∧ nk ≤ 40 ∧ 40 < nl) := by omega
    clear hr hr' hT hall
    rcases hcs with h1 | ⟨h1, h2⟩ | ⟨h1, h2, h3⟩ | ⟨h1, h2, h3, h4⟩
    · have d1 : decide ((400 : Int) < n) = true := decide_eq_true h1
      go_enter Tryd.func4, Tryd.ntmps4
      go_wp2_with fail
      refine (HWO.out w (Below.refl _ _)).mono ?_
      rintro e w1 ⟨rfl, hb⟩
      go_wp2
      go_ret
      exact ⟨rfl, hb⟩
    · have d1 : decide ((400 : Int) < n) = false := decide_eq_false (by omega)
      have d2 : decide ((400 : Int) < m) = true := decide_eq_true h2
      go_enter Tryd.func4, Tryd.ntmps4
      go_wp2_with fail
      refine (HWO.out w (Below.refl _ _)).mono ?_
      rintro e w1 ⟨rfl, hb⟩
      go_wp2
      go_ret
      exact ⟨rfl, hb⟩
    · have d1 : decide ((400 : Int) < n) = false := decide_eq_false (by omega)
      have d2 : decide ((400 : Int) < m) = false := decide_eq_false (by omega)
      have d3 : decide ((40 : Int) < (nk : Int)) = true := decide_eq_true (by omega)
      go_enter Tryd.func4, Tryd.ntmps4
      go_wp2_with fail
      refine (HWO.out w (Below.refl _ _)).mono ?_
      rintro e w1 ⟨rfl, hb⟩
      go_wp2
      go_ret
      exact ⟨rfl, hb⟩
    · have d1 : decide ((400 : Int) < n) = false := decide_eq_false (by omega)
      have d2 : decide ((400 : Int) < m) = false := decide_eq_false (by omega)
      have d3 : decide ((40 : Int) < (nk : Int)) = false := decide_eq_false (by omega)
      have d4 : decide ((40 : Int) < (nl : Int)) = true := decide_eq_true (by omega)
      go_enter Tryd.func4, Tryd.ntmps4
      go_wp2_with fail
      refine (HWO.out w (Below.refl _ _)).mono ?_
      rintro e w1 ⟨rfl, hb⟩
      go_wp2
      go_ret
      exact ⟨rfl, hb⟩

end Go.Proofs.YtiembenkdldklaaDoor
