/-
  Layer 8: the program's All.
-/
import Derived.Test.YtiembenkdldklaaDoorYu
import Derived.Deep.DeepCutAuto
import Derived.Deep.CutBlock
namespace Go.Proofs.YtiembenkdldklaaDoor
open Go Go.RowKit Go.Shelf
set_option linter.unusedVariables false

attribute [local go_sem] Oper.semAt_some

theorem and_pred (x : Nat) (h0 : x ≠ 0) (hx : x < 18446744073709551616) : bits BinOp.and IntKind.u64 (x : Int) (IntKind.u64.wrap ((x : Int) - 1)) = ((x &&& (x - 1) : Nat) : Int) := by
  have e : IntKind.u64.wrap ((x : Int) - 1) = ((x - 1 : Nat) : Int) := by rw [IntKind.wrap_u64]; omega
  rw [e]
  exact bits_and_u64_nat _ _ hx (by omega)
theorem and_pred_lt (x : Nat) (h0 : x ≠ 0) : x &&& (x - 1) < x := Nat.lt_of_le_of_lt Nat.and_le_right (by omega)

/-- The row so far, in its box. -/
structure AllK (w W3 : World) (A' : Option Addr) (c' : Nat) (ys : List Nat) (W : World) : Prop where
  box : W.heap[w.heap.size]? = some (.cells #[.slice A' ys.length c'] 22 (0, 0))
  row : W.ownsRow (W3.heap.size + 2) 3 1 (.slice A' ys.length c') ys.length (ic ys)
  t : Turns (fun k => k = w.heap.size) W3 W
theorem AllK.newer {w W3 X Y : World} {A' : Option Addr} {c' r : Nat} {ys : List Nat} (h : AllK w W3 A' c' ys X) (hw : w.heap.size < W3.heap.size) (hr1 : W3.heap.size ≤ r) (hr2 : r < W3.heap.size + 2) (hg : X.grownBy Y (some r)) : AllK w W3 A' c' ys Y :=
  ⟨(hg.block _ (Array.getElem?_eq_some_iff.1 h.box).1 (fun e => by injection e with e; omega)).trans h.box,
   own_keep h.row fun k hk => hg.block _ (own_lt h.row k hk) (fun e => by injection e with e; have := own_ge h.row k hk; omega), h.t.newer hg hr1⟩
theorem AllK.drew {w W3 X : World} {A' : Option Addr} {c' : Nat} {ys : List Nat} (h : AllK w W3 A' c' ys X) : AllK w W3 A' c' ys X.drew := ⟨h.box, own_keep h.row fun _ _ => rfl, h.t.drewN 1⟩
theorem AllK.push {w W3 X Y : World} {A' A2 : Option Addr} {c' c2 k : Nat} {ys : List Nat} {T : TypeId} (h : AllK w W3 A' c' ys X) (hw : w.heap.size < W3.heap.size) (ho : Y.ownsRow (W3.heap.size + 2) 3 1 (.slice A2 (ys.length + 1) c2) (ys.length + 1) (ic ys ++ ic [k]))
    (hst : Stp (X.alloc (.cells #[.int .i64 (k : Int)] T)) Y (.slice A' ys.length c') (.slice A2 (ys.length + 1) c2)) :
    AllK w W3 A2 c2 (ys ++ [k]) (Y.setCell ⟨w.heap.size, 0, none⟩ (.slice A2 (ys.length + 1) c2)) ∧ Y.heap[w.heap.size]? = some (.cells #[.slice A' ys.length c'] 22 (0, 0)) ∧
      ∀ H, W3.heap.size = H → X.heap.size ≥ H + 2 → KeepD H X (Y.setCell ⟨w.heap.size, 0, none⟩ (.slice A2 (ys.length + 1) c2)) := by
  have hX := (Array.getElem?_eq_some_iff.1 h.box).1
  have hge := own_ge h.row
  have hg := hst.grow
  have hz := hg.size
  simp only [World.size_alloc] at hz
  have hbx : Y.heap[w.heap.size]? = some (.cells #[.slice A' ys.length c'] 22 (0, 0)) := (hg.block _ (by simp; omega) (fun e => by have := hge _ e.symm; omega)).trans ((heap_alloc_old _ _ hX).trans h.box)
  have hl : (ys ++ [k]).length = ys.length + 1 := by simp
  refine ⟨⟨?_, ?_, ?_⟩, hbx, fun H e hH => ⟨by simp; omega, fun j hj hx => ?_⟩⟩
  · rw [heap_setCell_same _ w.heap.size 0 _ _ _ hbx, hl]; rfl
  · rw [hl, ic_append]
    exact own_keep ho fun j hj => heap_setCell_other _ _ _ _ (by have := own_ge ho j hj; show j ≠ w.heap.size; omega)
  · have t1 : Turns (fun k => W3.heap.size ≤ k) X Y := (turns_alloc (fun k => W3.heap.size ≤ k) X _).trans_ (Turns.grown hg fun k hk => .inl (by have := hge k hk; omega))
    exact (h.t.trans t1 fun k hk => .inr hk).trans_ (turns_setCell Y w.heap.size 0 _)
  · refine (heap_setCell_other _ _ _ _ (by show j ≠ w.heap.size; omega)).trans ((hg.block _ (by simp; omega) (fun e => ?_)).trans (heap_alloc_old _ _ hj))
    have := hge _ e.symm
    omega

set_option maxRecDepth 100000 in
set_option maxHeartbeats 4000000 in
theorem pall_any (lo hi p : Nat) (l : List Bool) (w : World) (h : BZ w lo hi p l) (hT : BTab w) : Calls Tryd.prog 30 #[pv p] w (IcEnd (allB l) w) := by
  obtain ⟨i0, hi0, hz0, hz1, hzb⟩ := info_parts Tryd.infoI
  obtain ⟨A, c, h, _⟩ := h
  have hb0 := below_new w (.cells #[.slice none 0 0] 22)
  have x0 := heap_alloc_new w (.cells #[.slice none 0 0] 22)
  obtain ⟨W3, hW3, hs3, hb3, hS3, x1, x2⟩ := words_world 0 h hb0 (by simp)
  simp only [World.size_alloc] at hs3 x1 x2 hb3
  have y0 : W3.heap[w.heap.size]? = some (.cells #[.slice none 0 0] 22 (0, 0)) := (hb3.block _ (by omega)).trans x0
  have hbW : Below w.heap.size w W3 := hb0.trans (hb3.mono (by omega))
  have hlt := h.lt
  have h6 := h.le
  have hcap := hS3.cap
  have hrl := fun k (hk : ob A = some k) => h.row_lt hk
  have hWC := fun W => words_any (pv p) 0 (.inr ⟨p, rfl⟩) W
  have HW3 := Lib_hid hW3
  have hT3 := hT.below hbW hT.1
  have hw1 := hT.1
  clear hW3 x0 hb0 hT
  have hn6 : nw l.length ≤ 1000000 := by unfold nw; omega
  have hK0 : AllK w W3 none 0 (allK l (64 * 0)) W3 := ⟨y0, World.ownsRow_nil _ _ _ _, Turns.refl _ _⟩
  refine (callsIn_wide (n := 3)).1 (callsIn_of_wp_marks Tryd.func30 rfl trivial ?_ rfl)
  simp only [Tryd.ntmps30, List.size_toArray, List.length_cons, List.length_nil, Nat.reduceAdd, Nat.reduceSub, Array.replicate_succ, Array.replicate_zero, List.push_toArray, List.append_toArray, List.nil_append, List.cons_append]
  gi_wp2
  refine ⟨trivial, (callsIn_wide.2 (hWC _)).mono ?_⟩
  rintro e w1 ⟨rfl, rfl⟩
  gi_wp2
  rw [← HW3.out]
  refine range_words (m := 3) (b1 := w.heap.size + 1) (b2 := w.heap.size + 1 + 1) (p := p) (n := nw l.length) (fr := 0) (c := c) (A := A) (ws := wl l) rfl rfl hn6 (by omega) hcap
    (fun j W => ∃ A' c', AllK w W3 A' c' (allK l (64 * j)) W) (fun _ _ _ => False) ?_ ?_ (fun _ _ _ _ _ h _ _ _ => h) ⟨none, 0, hK0⟩ ?_ ?_ (fun _ _ _ _ _ h _ => h.elim)
  · rintro j W ⟨A', c', hk⟩
    have t := hk.t
    exact it_of rfl (hS3.keep (t.block _ (by have := hS3.lt; omega) (by omega)) fun k hk => t.block _ (hS3.row_lt hk) (by have := hrl k hk; omega)) ((t.block _ (by omega) (by omega)).trans x1) ((t.block _ (by omega) (by omega)).trans x2) j
  · rintro j X Y r ⟨A', c', hk⟩ hr1 hr2 hg
    exact ⟨A', c', hk.newer (by omega) hr1 hr2 hg⟩
  · rintro j W ⟨A', c', hk⟩ hsz _ hj
    have hx := wl_lt l j
    have hsu := allK_word l j
    have HSU := Lib_hid hsu
    have hle := allK_len l (64 * (j + 1))
    have hj2 : j ≤ 1024 := by unfold nw at hj; omega
    have HLE := Lib_hid hle
    clear hsu h hS3 hrl x1 x2 y0 hK0 hle
    gi_wp2
    refine ⟨KeepD.refl _ _, fun w₂ hg2 => ?_⟩
    have hk2 := hk.newer (by omega) (by omega) (by omega) hg2
    have hz2 := hg2.size
    clear hk hg2
    have HK2 := Lib_hid hk2
    have hok0 : Hid (allK l (64 * j) ++ (bl (wl l j)).map (64 * j + ·) = allK l (64 * (j + 1))) := HSU.out.symm
    generalize (wl l j : Nat) = x at *
    gi_wp2
    gi_loopw [5] (fun v wr => ∃ (z : Nat) (ys : List Nat) (A2 : Option Addr) (c2 : Nat), v = .int .u64 z ∧ z < 18446744073709551616 ∧ Hid (ys ++ (bl z).map (64 * j + ·) = allK l (64 * (j + 1))) ∧ AllK w W3 A2 c2 ys wr ∧ KeepD W3.heap.size w₂ wr) (fun v _ => (intOf v).toNat)
    case atStart => exact ⟨x, _, A', c', rfl, hx, hok0, hk2, KeepD.refl _ _⟩
    case round =>
      clear hok0 hk2 HK2
      obtain ⟨z, ys, A2, c2, rfl, hzl, hys, hk, hkd⟩ := hrel
      have hsz9 := hkd.1
      by_cases hz : z = 0
      · have hd : ((z : Int) != 0) = false := by rw [hz]; rfl
        have hfin : ys = allK l (64 * (j + 1)) := by
          have := hys.out
          rw [hz, bl_zero] at this
          simpa using this
        have HF := Lib_hid hfin
        have HK := Lib_hid hk
        clear hz hfin hys hk
        gi_wp2
        exact ⟨hkd, A2, c2, by rw [← HF.out]; exact HK.out⟩
      · have hd : ((z : Int) != 0) = true := by simp; omega
        have hbs := bl_step hz hzl
        have hpl := and_pred_lt z hz
        have hpb := and_pred z hz hzl
        have hct := (ctz_spec hz hzl).1
        have hTT : BTab wr := hT3.turns hk.t (by omega)
        have hLE := fun (X : World) (hX : BTab X) => least_any j z hz hzl (by omega) X hX
        have hyl : ys.length + 1 ≤ 64 * (j + 1) := by
          have h1 := HLE.out
          rw [← hys.out, hbs] at h1
          simp at h1
          omega
        have HYS : Hid (ys ++ [64 * j + Lib.ctz 64 z] ++ (bl (z &&& (z - 1))).map (64 * j + ·) = allK l (64 * (j + 1))) := by
          have := hys.out
          rw [hbs] at this
          unfold Hid
          rw [← this]; simp
        have HLL := Lib_hid hLE
        have HK := Lib_hid hk
        have HP := Lib_hid (And.intro hpl (Nat.lt_trans hpl hzl))
        clear hbs hpl hct hLE hys hz
        generalize (64 * j + Lib.ctz 64 z : Nat) = k at *
        generalize (z &&& (z - 1) : Nat) = z2 at *
        have q0 := cell_of_row _ _ 0 _ _ _ hk.box
        have f0 := frozen_of_row _ _ 0 _ _ hk.box
        have hTD : BTab wr.drew := hTT
        have hlt9 : w.heap.size < wr.heap.size := (Array.getElem?_eq_some_iff.1 hk.box).1
        have hkD := hk.drew
        have hm1 : ys.length + 1 ≤ maxLen := by unfold maxLen; omega
        have hm2 : (ys.length + 1) * 8 ≤ 140737488355328 := by omega
        have ho1 := own_below hkD.row (below_new wr.drew (.cells #[.int .i64 (k : Int)] 3)) (own_lt hkD.row)
        have hr1 := rd_int wr.drew k 3
        have hsD : wr.drew.heap.size = wr.heap.size := rfl
        have hbs2 : W3.heap.size + 2 ≤ (wr.drew.alloc (.cells #[.int .i64 (k : Int)] 3)).heap.size := by simp; omega
        have HPU := Lib_hid (fun (A6 : Option Addr) (c6 : Nat) (w6 : World) ho hst => hkD.push (T := 3) (Y := w6) (A2 := A6) (c2 := c6) (k := k) (by omega) ho hst)
        have HB := Lib_hid (And.intro ho1 (And.intro hr1 hbs2))
        have HS := Lib_hid hsD
        clear hk hkD ho1 hr1 hbs2 hsD
        gi_wp2
        refine wpIn_region_of_any (by kernel_rfl) (by kernel_rfl) (fun _ _ h => h) ?_
        refine wpAny_take (i := 1) (v := ?_) rfl (by kernel_rfl) (by kernel_rfl) (by kernel_rfl) (fun _ _ _ h => h) (Or.inl ⟨by rfl, ?_⟩) ?_
        rotate_left
        · intro w; go_simp; try with_reducible rfl
        refine wpAny_take (i := 2) (v := ?_) rfl (by kernel_rfl) (by kernel_rfl) (by kernel_rfl) (fun _ _ _ h => h) (Or.inl ⟨by rfl, ?_⟩) ?_
        rotate_left
        · intro w; go_simp; try with_reducible rfl
        refine wpAny_ready (rs := [0, 3]) (by kernel_rfl) (by simp) ?_
        refine AllReady.cons rfl (fun K hK => ?_) (AllReady.cons rfl (fun K hK => ?_) AllReady.nil)
        rotate_left
        · -- the call first
          go_simp
          refine (HLL.out _ hTD).mono ?_
          rintro e w5 ⟨rfl, rfl⟩
          refine hK _ _ ?_
          clear hK K
          refine wpAny_ready (rs := [0, 4]) (by kernel_rfl) (by simp) ?_
          refine AllReady.cons rfl (fun K hK => ?_) (AllReady.cons rfl (fun K hK => ?_) AllReady.nil)
          · go_simp
            refine hK _ _ ?_
            clear hK K
            refine wpAny_ready (rs := [4]) (by kernel_rfl) (by simp) ?_
            refine AllReady.cons rfl (fun K hK => ?_) AllReady.nil
            go_simp
            refine hK _ _ ?_
            clear hK K
            refine wpAny_ready (rs := [5]) (by kernel_rfl) (by simp) ?_
            refine AllReady.cons rfl (fun K hK => ?_) AllReady.nil
            refine step_app rfl _ _ 22 rfl (W3.heap.size + 2) 3 i0 (.int .i64 0) 1 8 Tryd.underlying22 hi0 hz0 hz1 hzb rfl (by decide) _ ys.length _ rfl HB.out.1 (wr.drew.heap.size + 1) (some ⟨wr.drew.heap.size, 0, none⟩) 1 1 (ic [k]) rfl HB.out.2.1 (ic_one _) hm1 hm2 HB.out.2.2 ?_
            intro v' w6 hown hst
            obtain ⟨A6, c6, rfl, _⟩ := own_form hown
            obtain ⟨hp1, hp2, hp3⟩ := HPU.out A6 c6 w6 hown hst
            have e0 := cell_of_row _ _ 0 _ _ _ hp2
            have e1 := frozen_of_row _ _ 0 _ _ hp2
            have HP1 := Lib_hid (And.intro hp1 (hp3 W3.heap.size rfl (by rw [HS.out]; omega)))
            refine hK _ _ ?_
            clear hK K hown hst hp1 hp2 hp3
            refine wpAny_ready (rs := [6]) (by kernel_rfl) (by simp) ?_
            refine AllReady.cons rfl (fun K hK => ?_) AllReady.nil
            go_simp
            refine hK _ _ ?_
            clear hK K
            refine wpAny_done (by kernel_rfl) ?_ _
            gi_wp2
            go_roundw
            case rel => exact ⟨z2, ys ++ [k], A6, c6, rfl, HP.out.2, HYS, by simpa using HP1.out.1, ⟨Nat.le_trans hkd.1 HP1.out.2.1, fun q hq hx => (HP1.out.2.2 q (by have := hkd.1; rw [HS.out]; omega) hx).trans (hkd.2 q hq hx)⟩⟩
            case measure => simp [intOf]; have := HP.out.1; omega
          · go_simp
            refine hK _ _ ?_
            clear hK K
            refine wpAny_ready (rs := [0]) (by kernel_rfl) (by simp) ?_
            refine AllReady.cons rfl (fun K hK => ?_) AllReady.nil
            go_simp
            refine hK _ _ ?_
            clear hK K
            refine wpAny_ready (rs := [5]) (by kernel_rfl) (by simp) ?_
            refine AllReady.cons rfl (fun K hK => ?_) AllReady.nil
            refine step_app rfl _ _ 22 rfl (W3.heap.size + 2) 3 i0 (.int .i64 0) 1 8 Tryd.underlying22 hi0 hz0 hz1 hzb rfl (by decide) _ ys.length _ rfl HB.out.1 (wr.drew.heap.size + 1) (some ⟨wr.drew.heap.size, 0, none⟩) 1 1 (ic [k]) rfl HB.out.2.1 (ic_one _) hm1 hm2 HB.out.2.2 ?_
            intro v' w6 hown hst
            obtain ⟨A6, c6, rfl, _⟩ := own_form hown
            obtain ⟨hp1, hp2, hp3⟩ := HPU.out A6 c6 w6 hown hst
            have e0 := cell_of_row _ _ 0 _ _ _ hp2
            have e1 := frozen_of_row _ _ 0 _ _ hp2
            have HP1 := Lib_hid (And.intro hp1 (hp3 W3.heap.size rfl (by rw [HS.out]; omega)))
            refine hK _ _ ?_
            clear hK K hown hst hp1 hp2 hp3
            refine wpAny_ready (rs := [6]) (by kernel_rfl) (by simp) ?_
            refine AllReady.cons rfl (fun K hK => ?_) AllReady.nil
            go_simp
            refine hK _ _ ?_
            clear hK K
            refine wpAny_done (by kernel_rfl) ?_ _
            gi_wp2
            go_roundw
            case rel => exact ⟨z2, ys ++ [k], A6, c6, rfl, HP.out.2, HYS, by simpa using HP1.out.1, ⟨Nat.le_trans hkd.1 HP1.out.2.1, fun q hq hx => (HP1.out.2.2 q (by have := hkd.1; rw [HS.out]; omega) hx).trans (hkd.2 q hq hx)⟩⟩
            case measure => simp [intOf]; have := HP.out.1; omega
        · go_simp
          refine hK _ _ ?_
          clear hK K
          refine wpAny_ready (rs := [3]) (by kernel_rfl) (by simp) ?_
          refine AllReady.cons rfl (fun K hK => ?_) AllReady.nil
          go_simp
          refine (HLL.out _ hTD).mono ?_
          rintro e w5 ⟨rfl, rfl⟩
          refine hK _ _ ?_
          clear hK K
          refine wpAny_ready (rs := [4]) (by kernel_rfl) (by simp) ?_
          refine AllReady.cons rfl (fun K hK => ?_) AllReady.nil
          go_simp
          refine hK _ _ ?_
          clear hK K
          refine wpAny_ready (rs := [5]) (by kernel_rfl) (by simp) ?_
          refine AllReady.cons rfl (fun K hK => ?_) AllReady.nil
          refine step_app rfl _ _ 22 rfl (W3.heap.size + 2) 3 i0 (.int .i64 0) 1 8 Tryd.underlying22 hi0 hz0 hz1 hzb rfl (by decide) _ ys.length _ rfl HB.out.1 (wr.drew.heap.size + 1) (some ⟨wr.drew.heap.size, 0, none⟩) 1 1 (ic [k]) rfl HB.out.2.1 (ic_one _) hm1 hm2 HB.out.2.2 ?_
          intro v' w6 hown hst
          obtain ⟨A6, c6, rfl, _⟩ := own_form hown
          obtain ⟨hp1, hp2, hp3⟩ := HPU.out A6 c6 w6 hown hst
          have e0 := cell_of_row _ _ 0 _ _ _ hp2
          have e1 := frozen_of_row _ _ 0 _ _ hp2
          have HP1 := Lib_hid (And.intro hp1 (hp3 W3.heap.size rfl (by rw [HS.out]; omega)))
          refine hK _ _ ?_
          clear hK K hown hst hp1 hp2 hp3
          refine wpAny_ready (rs := [6]) (by kernel_rfl) (by simp) ?_
          refine AllReady.cons rfl (fun K hK => ?_) AllReady.nil
          go_simp
          refine hK _ _ ?_
          clear hK K
          refine wpAny_done (by kernel_rfl) ?_ _
          gi_wp2
          go_roundw
          case rel => exact ⟨z2, ys ++ [k], A6, c6, rfl, HP.out.2, HYS, by simpa using HP1.out.1, ⟨Nat.le_trans hkd.1 HP1.out.2.1, fun q hq hx => (HP1.out.2.2 q (by have := hkd.1; rw [HS.out]; omega) hx).trans (hkd.2 q hq hx)⟩⟩
          case measure => simp [intOf]; have := HP.out.1; omega
  · rintro W ⟨A', c', hk⟩ hD
    rw [show max 0 (nw l.length) = nw l.length by omega, allK_nw] at hk
    have q0 := cell_of_row _ _ 0 _ _ _ hk.box
    have hb9 := (hbW.trans (hk.t.below (by omega) (fun k e => by omega))).grown (putObj_grown W W3.heap.size (.deferred none)) (Nat.le_trans hbW.size hk.t.size) (fun k hk => by injection hk with hk; omega)
    have hro := own_base (own_keep hk.row fun k e => (putObj_grown W W3.heap.size (.deferred none)).block k (own_lt hk.row k e) (fun e2 => by injection e2 with e2; have := own_ge hk.row k e; omega)) (b' := w.heap.size) (fun k e => by have := own_ge hk.row k e; omega)
    have HR := Lib_hid (And.intro hro hb9)
    have HD := Lib_hid hD
    clear hk hro hb9 hD
    gi_wp2
    refine ⟨by simp, .inl ⟨_, _, rfl, run_takeDeferred HD.out, ?_⟩⟩
    exact ⟨_, results_tmp rfl _ _ _, A', c', rfl, HR.out.1, HR.out.2⟩

end Go.Proofs.YtiembenkdldklaaDoor
