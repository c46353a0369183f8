/-
  Layer 8: the program's Copy, Same, Of.
-/
import Derived.Test.YtiembenkdldklaaDoorYx
import Derived.Test.YtiembenkdldklaaDoorYk
import Derived.Deep.RegionHeld3
namespace Go.Proofs.YtiembenkdldklaaDoor
open Go Go.RowKit
set_option linter.unusedVariables false

set_option maxRecDepth 100000 in
theorem uclone_any (B n c : Nat) (A : Option Addr) (l : List Nat) (w : World) (h : Rd w B 1 A n (us l)) (hn : n ≤ 1000000000) :
    Calls Tryd.prog 37 #[.slice A n c] w fun e w' => ∃ A2 c2, e = .returned (.slice A2 n c2) ∧ w'.ownsRow w.heap.size 56 1 (.slice A2 n c2) n (us l) ∧ Below w.heap.size w w' := by
  have hnil : ∀ wx, (binOp .eql 53 (.slice A n c) (.slice none 0 0)).run Tryd.prog wx = .ok (.bool A.isNone) wx := fun wx => Lib.run_eql_slice_nil wx 53 56 A n c 0 0 Tryd.underlying53
  cases A with
  | none =>
    have h0 : n = 0 := by
      rcases Nat.eq_zero_or_pos n with h0 | h0
      · exact h0
      · obtain ⟨ad, e, _⟩ := h.lies h0; cases e
    subst h0
    have hv : us l = [] := List.eq_nil_of_length_eq_zero (by have := h.len; omega)
    have HV := Lib_hid hv
    clear h hv
    go_enter Tryd.func37, Tryd.ntmps37
    go_wp2
    go_ret
    exact ⟨none, 0, rfl, by rw [HV.out]; exact World.ownsRow_nil _ _ _ _, Below.refl _ _⟩
  | some ad =>
    obtain ⟨i0, hi, hz0, hz1, hz2⟩ := info_parts Tryd.infoU
    have hm1 : 0 + n ≤ maxLen := by unfold maxLen; omega
    have hm2 : (0 + n) * 8 ≤ 140737488355328 := by omega
    have hon : (w.alloc (.cells #[] 56)).ownsRow w.heap.size 56 1 (.slice (some ⟨w.heap.size, 0, none⟩) 0 0) 0 [] := World.ownsRow_lit w #[] 0 (Nat.le_refl _) (by decide) rfl
    have h2 : Rd (w.alloc (.cells #[] 56)) (w.heap.size + 1) 1 (some ad) n (us l) := by
      refine ⟨h.len, fun hn => ?_⟩
      obtain ⟨ad', e, hb, hc⟩ := h.lies hn
      have hlt : ad'.block < w.heap.size := by
        have := World.block_lt_of_cell? w _ (hc 0 ((us l)[0]'(by have := h.len; omega)) (List.getElem?_eq_getElem _))
        rwa [add_block] at this
      exact ⟨ad', e, by omega, fun j u hu => (World.cell?_alloc_lt w _ _ (by rw [add_block]; exact hlt)).trans (hc j u hu)⟩
    have hsz : w.heap.size ≤ (w.alloc (.cells #[] 56)).heap.size := by simp
    clear h
    go_enter Tryd.func37, Tryd.ntmps37
    go_wp2_with (at_builtin; (refine wpList_app rfl _ _ 53 rfl w.heap.size 56 i0 (.int .u64 0) 1 8 Tryd.underlying53 hi hz0 hz1 hz2 rfl (by decide) _ 0 [] rfl hon (w.heap.size + 1) (some ad) n c (us l) rfl h2 (us_one _) hm1 hm2 hsz ?_); intro v' w1 hown' hst; simp only [Nat.zero_add, List.nil_append] at hown'; obtain ⟨A2, c2, rfl, _⟩ := own_form hown')
    go_ret
    exact ⟨A2, c2, rfl, hown', ((Below.refl _ _).alloc (Nat.le_refl _) _).trans (hst.below hsz (fun k hk => by have : w.heap.size = k := Option.some.inj hk; omega))⟩

theorem below_d1 (W : World) : Below W.heap.size W W.drew := ⟨rfl, rfl, rfl, Nat.le_refl _, fun _ _ => rfl⟩

set_option maxRecDepth 100000 in
set_option maxHeartbeats 1000000 in
theorem pcopy_any (lo hi p : Nat) (l : List Bool) (w : World) (h : BZ w lo hi p l) : Calls Tryd.prog 16 #[pv p] w (NEnd l w) := by
  obtain ⟨A, c, h, _⟩ := h
  have h6 := h.le
  have KC : Hid (∀ W, Below w.heap.size w W → W.cell? ⟨p, 0, none⟩ = some (.int .i64 (l.length : Int)) ∧ W.cell? ⟨p, 1, none⟩ = some (.slice A (nw l.length) c)) := fun W hW =>
    ⟨(hW.cell (p := ⟨p, 0, none⟩) h.lt).trans h.c0, (hW.cell (p := ⟨p, 1, none⟩) h.lt).trans h.c1⟩
  have hrd : Rd w w.heap.size 1 A (nw l.length) (us (wds l)) := Rd.own h.row
  have CL : Hid (∀ W, Below w.heap.size w W → Calls Tryd.prog 37 #[.slice A (nw l.length) c] W fun e w' => ∃ A2 c2, e = .returned (.slice A2 (nw l.length) c2) ∧ w'.ownsRow W.heap.size 56 1 (.slice A2 (nw l.length) c2) (nw l.length) (us (wds l)) ∧ Below W.heap.size W w') := fun W hW =>
    uclone_any _ _ _ _ _ _ (hrd.below hW) (by unfold nw; omega)
  have HE : Hid (∀ W A2 c2, Below w.heap.size w W → W.ownsRow w.heap.size 56 1 (.slice A2 (nw l.length) c2) (nw l.length) (us (wds l)) →
      NEnd l w (.returned (pv W.heap.size)) (W.alloc (.cells #[.int .i64 (l.length : Int), .slice A2 (nw l.length) c2] 55))) := fun W A2 c2 hW ho =>
    ⟨W.heap.size, rfl, ⟨A2, c2, ⟨heap_alloc_new W _, own_base (own_keep ho fun j hj => heap_alloc_old _ _ (own_lt ho j hj)) (fun _ _ => Nat.zero_le _), fun e => by
      have := own_lt ho W.heap.size (by rw [ob_eq]; exact e)
      omega, h6⟩, ⟨hW.size, by simp⟩, fun k hk => by
      have h1 := own_ge ho k (by rw [ob_eq]; exact hk)
      have h2 := own_lt ho k (by rw [ob_eq]; exact hk)
      simp; omega⟩, hW.alloc hW.size _⟩
  clear h hrd
  generalize nw l.length = n at *
  go_enter Tryd.func16, Tryd.ntmps16
  go_wp2
  go_region_held3 (fun W => W.cell? ⟨p, 0, none⟩ = some (.int .i64 (l.length : Int)) ∧ W.cell? ⟨p, 1, none⟩ = some (.slice A n c))
    (first | exact KC.out _ (below_d1 _) | exact KC.out _ (Below.refl _ _) | exact KC.out _ hbs | exact KC.out _ (hbs.alloc hbs.size _))
    ((first | (go_at_call 37; ((with_reducible refine (CL.out _ (by exact below_d1 _)).mono ?_); rintro e ws ⟨A2, c2, rfl, ho, hbs'⟩; have hbs : Below w.heap.size w ws := ⟨hbs'.os, hbs'.tape, hbs'.output, hbs'.size, hbs'.block⟩))))
  all_goals go_wp2
  go_ret
  exact HE.out ws A2 c2 hbs ho

/-- Within, of whatever two. -/
theorem owithin_any (s u : Value) (l m : List Bool) (w : World) (h : Oth w w.heap.size s l) (h' : Oth w w.heap.size u m) : Calls Tryd.prog 22 #[s, u] w fun e w' => e = .returned (.bool (withinB l m)) ∧ Below w.heap.size w w' := by
  rcases h with ⟨rfl, rfl⟩ | ⟨q, lo, hi, rfl, h, _⟩
  · exact pwithin_nil u m w h'
  · exact pwithin_any lo hi q l m u w h h'

set_option maxRecDepth 100000 in
theorem psame_any (s u : Value) (l m : List Bool) (w : World) (h : Oth w w.heap.size s l) (h' : Oth w w.heap.size u m) : Calls Tryd.prog 19 #[s, u] w fun e w' => e = .returned (.bool (sameB l m)) ∧ Below w.heap.size w w' := by
  have HZ1 := Lib_hid (h.size)
  have HZ2 := Lib_hid (h'.size)
  have HF := Lib_hid (fun (X : World) (hX : Below w.heap.size w X) => owithin_any s u l m X (by
    have := h.below hX
    rcases this with h1 | ⟨q, lo, hi, e, hb, h2⟩
    · exact .inl h1
    · exact .inr ⟨q, lo, hi, e, hb, Nat.le_trans h2 hX.size⟩) (by
    have := h'.below hX
    rcases this with h1 | ⟨q, lo, hi, e, hb, h2⟩
    · exact .inl h1
    · exact .inr ⟨q, lo, hi, e, hb, Nat.le_trans h2 hX.size⟩))
  have HG := Lib_hid (fun (X : World) (hX : Below w.heap.size w X) => owithin_any u s m l X (by
    have := h'.below hX
    rcases this with h1 | ⟨q, lo, hi, e, hb, h2⟩
    · exact .inl h1
    · exact .inr ⟨q, lo, hi, e, hb, Nat.le_trans h2 hX.size⟩) (by
    have := h.below hX
    rcases this with h1 | ⟨q, lo, hi, e, hb, h2⟩
    · exact .inl h1
    · exact .inr ⟨q, lo, hi, e, hb, Nat.le_trans h2 hX.size⟩))
  have HS := Lib_hid (same_within l m)
  clear h h'
  by_cases he : l.length = m.length
  · have d1 : ((l.length : Int) == (m.length : Int)) = true := by rw [int_beq, he]; simp
    have d2 := HS.out
    rw [he] at d2
    simp only [decide_true, Bool.true_and] at d2
    cases e1 : withinB l m with
    | false =>
      rw [e1] at HF d2
      have D2 := Lib_hid d2
      clear e1 d2 he HG
      go_enter Tryd.func19, Tryd.ntmps19
      go_wp2_with fail
      refine HZ1.out.mono ?_
      rintro e w1 ⟨rfl, rfl⟩
      go_wp2_with fail
      refine HZ2.out.mono ?_
      rintro e w1 ⟨rfl, rfl⟩
      go_wp2_with fail
      refine (HF.out _ (Below.refl _ _)).mono ?_
      rintro e w1 ⟨rfl, hb1⟩
      go_wp2
      go_ret
      exact ⟨by rw [← D2.out]; rfl, hb1⟩
    | true =>
      rw [e1] at HF d2
      have D2 := Lib_hid d2
      clear e1 d2 he
      go_enter Tryd.func19, Tryd.ntmps19
      go_wp2_with fail
      refine HZ1.out.mono ?_
      rintro e w1 ⟨rfl, rfl⟩
      go_wp2_with fail
      refine HZ2.out.mono ?_
      rintro e w1 ⟨rfl, rfl⟩
      go_wp2_with fail
      refine (HF.out _ (Below.refl _ _)).mono ?_
      rintro e w1 ⟨rfl, hb1⟩
      have HB := Lib_hid hb1
      clear hb1
      go_wp2_with fail
      refine (HG.out w1 HB.out).mono ?_
      rintro e w2 ⟨rfl, hb3⟩
      have hb4 := HB.out.trans (hb3.mono HB.out.size)
      clear hb3
      go_wp2
      go_ret
      exact ⟨by rw [← D2.out]; simp, hb4⟩
  · have d1 : ((l.length : Int) == (m.length : Int)) = false := by rw [int_beq]; simpa using he
    have d2 := HS.out
    rw [decide_eq_false he] at d2
    have D2 := Lib_hid d2
    clear d2 he HF HG
    go_enter Tryd.func19, Tryd.ntmps19
    go_wp2_with fail
    refine HZ1.out.mono ?_
    rintro e w1 ⟨rfl, rfl⟩
    go_wp2_with fail
    refine HZ2.out.mono ?_
    rintro e w1 ⟨rfl, rfl⟩
    go_wp2
    go_ret
    exact ⟨by rw [← D2.out]; rfl, Below.refl _ _⟩

set_option maxRecDepth 100000 in
set_option maxHeartbeats 1000000 in
theorem pof_any (B n c : Nat) (sz : Int) (A : Option Addr) (xs : List Int) (w : World) (hr : Rd w B 1 A n (iz xs)) (hB : B ≤ w.heap.size) (hn : n ≤ 1000000) :
    Calls Tryd.prog 14 #[.int .i64 sz, .slice A n c] w (NEnd (ofB (clampN sz) xs) w) := by
  have hl : xs.length = n := by have := hr.len; rw [iz_length] at this; omega
  have HH := Lib_hid (fun (X : World) (hX : Below w.heap.size w X) (i : Nat) (hi : i < n) => iz_at (hr.below (hX.mono hB)) hi)
  have HNW := Lib_hid (pnew_any sz w)
  obtain ⟨m, hm⟩ : ∃ m, m = clampN sz := ⟨_, rfl⟩
  have hf : Hid (ofB m (xs.take 0) = List.replicate m false ∧ ofB m (xs.take n) = ofB m xs) := ⟨rfl, by rw [← hl, List.take_length]⟩
  have HL := Lib_hid hl
  rw [← hm] at HNW ⊢
  clear hr hl hm
  go_enter Tryd.func14, Tryd.ntmps14
  go_wp2_with fail
  refine HNW.out.mono ?_
  rintro e w1 ⟨p, rfl, hb0, hbw⟩
  rw [← hf.out.1] at hb0
  have hs1 := hbw.size
  have H1 := Lib_hid hbw
  clear HNW
  go_wp2
  go_loopw [12] (fun i wr => ∃ k : Nat, i = .int .i64 k ∧ k ≤ n ∧ BZ wr w.heap.size w1.heap.size p (ofB m (xs.take k)) ∧ Turns (fun k => w.heap.size ≤ k ∧ k < w1.heap.size) w1 wr) (fun i _ => n - (intOf i).toNat)
  case atStart => exact ⟨0, rfl, Nat.zero_le _, hb0, Turns.refl _ _⟩
  case round =>
    clear hb0
    obtain ⟨k, rfl, hk, hK, ht⟩ := hrel
    have hbX : Below w.heap.size w wr := H1.out.trans (ht.below H1.out.size (fun k e => e.1))
    by_cases hlt : k < n
    · obtain ⟨ad, rfl, hbl, c1⟩ := HH.out _ hbX k hlt
      have hst := ofB_take m (xs := xs) (k := k) (by rw [HL.out]; exact hlt)
      have HAD := Lib_hid (padd_any w.heap.size w1.heap.size p (ofB m (xs.take k)) (xs.getD k 0) wr hK)
      have HT := Lib_hid ht
      rw [← hst] at HAD
      have HSS := Lib_hid hst
      clear hst hK ht hbX hbw
      generalize xs.getD k 0 = x at *
      go_wp2_with fail
      refine HAD.out.mono ?_
      rintro e w2 ⟨rfl, hb2, ht2⟩
      have HB2 := Lib_hid (And.intro hb2 (HT.out.trans_ ht2))
      clear hb2 ht2
      go_wp2
      go_roundw
      case rel => exact ⟨k + 1, by go_num, by omega, HB2.out.1, HB2.out.2⟩
      case measure => simp [intOf]; omega
    · obtain rfl : k = n := by omega
      rw [hf.out.2] at hK
      have HK := Lib_hid (And.intro (hK.more (Nat.le_refl _) ht.size) hbX)
      clear hK ht hbX hbw
      go_wp2
      go_ret
      exact ⟨p, rfl, HK.out.1, HK.out.2⟩

end Go.Proofs.YtiembenkdldklaaDoor
