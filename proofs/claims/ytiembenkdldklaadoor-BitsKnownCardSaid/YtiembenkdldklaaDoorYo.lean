/-
  Layer 8: the program's Has, Add, Remove.
-/
import Derived.Test.YtiembenkdldklaaDoorYn
import Derived.Deep.DeepCutAuto
import Derived.Deep.CutBlock
namespace Go.Proofs.YtiembenkdldklaaDoor
open Go Go.RowKit
set_option linter.unusedVariables false

theorem and_has {f : Nat → Bool} {i : Nat} : ((((wd f (i / 64) &&& 2 ^ (i % 64) : Nat) : Int)) != 0) = f i := by
  have h := digit_has f i
  cases hf : f i with
  | false => rw [h.2 hf]; rfl
  | true =>
    have : ¬ (wd f (i / 64) &&& 2 ^ (i % 64) = 0) := fun e => by rw [h.1 e] at hf; cases hf
    simp only [bne_iff_ne, ne_eq]
    omega
theorem div64 (i : Nat) : ((i : Int) / 64) = ((i / 64 : Nat) : Int) := by omega

set_option maxRecDepth 100000 in
theorem phas_any (lo hi p : Nat) (l : List Bool) (i : Int) (w : World) (h : BZ w lo hi p l) : Calls Tryd.prog 27 #[pv p, .int .i64 i] w fun e w' => e = .returned (.bool (hasB l i)) ∧ ∃ q, w' = w.drewN q := by
  have HT := Lib_hid (fun q => ptakes_any lo hi p l i (w.drewN q) (h.drewN q))
  by_cases hi' : 0 ≤ i ∧ i < l.length
  · obtain ⟨k, rfl⟩ : ∃ k : Nat, i = k := ⟨i.toNat, by omega⟩
    have hk : k < l.length := by omega
    rw [inB_nat hk] at HT
    rw [hasB_nat]
    obtain ⟨A, c, h, _⟩ := h
    have c1 := h.c1
    have h6 := h.le
    obtain ⟨g, rfl, hc, _⟩ := h.word (at_nw hk)
    have hbd := at_nw hk
    have hx := wl_lt l (k / 64)
    have hand : bits BinOp.and IntKind.u64 ((wl l (k / 64) : Nat) : Int) ((2 ^ (k % 64) : Nat) : Int) = ((wl l (k / 64) &&& 2 ^ (k % 64) : Nat) : Int) := bits_and_u64_nat _ _ hx (pow_lt64 (by omega))
    have hbit := and_has (f := bt l) (i := k)
    have HDG := Lib_hid (fun q => digit_any k (w.drewN q))
    have hdv := div64 k
    have hcap := h.cap
    change (((wl l (k / 64) &&& 2 ^ (k % 64) : Nat) : Int) != 0) = bt l k at hbit
    clear h hi'
    generalize (wl l (k / 64) : Nat) = x at *
    generalize (2 ^ (k % 64) : Nat) = y at *
    generalize (x &&& y : Nat) = z at *
    generalize nw l.length = n at *
    generalize hm : k / 64 = m at *
    clear hm
    go_enter Tryd.func27, Tryd.ntmps27
    go_wp2
    go_quiet ((first | (go_at_call 32; refine (HT.out _).mono ?_; rintro e w1 ⟨rfl, rfl⟩; exact ⟨rfl, _, rfl⟩) | (go_at_call 33; refine (HDG.out _).mono ?_; rintro e w1 ⟨rfl, rfl⟩; exact ⟨rfl, _, rfl⟩)))
    go_wp2
    go_ret
    exact ⟨by rw [← hbit]; rfl, _, rfl⟩
  · rw [inB_no hi'] at HT
    rw [hasB_no hi']
    clear h hi'
    go_enter Tryd.func27, Tryd.ntmps27
    go_wp2
    go_quiet ((first | (go_at_call 32; refine (HT.out _).mono ?_; rintro e w1 ⟨rfl, rfl⟩; exact ⟨rfl, _, rfl⟩)))
    go_wp2
    go_ret
    exact ⟨rfl, _, rfl⟩

/-- A step on the set at p, in its own blocks. -/
def PSt (lo hi p : Nat) (l' : List Bool) (b : Bool) (w : World) (e : Ending) (w' : World) : Prop :=
  e = .returned (.bool b) ∧ BZ w' lo hi p l' ∧ Turns (fun k => lo ≤ k ∧ k < hi) w w'

/-- Behind a store of one number's digit. -/
theorem BZ.put {w : World} {lo hi p g c : Nat} {l : List Bool} (h : BS w p (some ⟨g, 0, none⟩) c l) (h1 : lo ≤ p ∧ p < hi) (h2 : ∀ k, ob (some ⟨g, 0, none⟩) = some k → lo ≤ k ∧ k < hi) {k : Nat} (hk : k < l.length) (b : Bool) (z : Nat) (hz : z = wd (upd (bt l) k b) (k / 64)) :
    BZ (w.setCell ⟨g, k / 64, none⟩ (.int .u64 (z : Int))) lo hi p (l.set k b) ∧ Turns (fun j => lo ≤ j ∧ j < hi) w (w.setCell ⟨g, k / 64, none⟩ (.int .u64 (z : Int))) := by
  have h5 := h.stored hk b
  rw [← hz] at h5
  have hg : lo ≤ g ∧ g < hi := h2 g rfl
  exact ⟨⟨some ⟨g, 0, none⟩, c, h5, h1, h2⟩, (turns_setCell w g (k / 64) _).mono fun j e => by rw [e]; exact hg⟩

theorem wp_region_tail {P : Program} {id : Nat} {Q : Exit → Act → World → Prop} {a : Act} {w : World} {l : List Oper} (n : Nat) (hm : P.follows .mixedOrders = true) (hB : Region.lexTailB .any l.toArray n = true)
    (h : wpStill P l.toArray w.drew (fun a' => wpList P l.toArray Q (l.drop n) a' w.drew) (l.take n) a) : (Code.region id l.toArray true).wp P Q a w := wp_region_still_tail n hm hB h

set_option maxRecDepth 100000 in
set_option maxHeartbeats 800000 in
theorem padd_any (lo hi p : Nat) (l : List Bool) (i : Int) (w : World) (h : BZ w lo hi p l) : Calls Tryd.prog 12 #[pv p, .int .i64 i] w (PSt lo hi p (addB l i) (newB l i) w) := by
  have HT := Lib_hid (fun q => ptakes_any lo hi p l i (w.drewN q) (h.drewN q))
  have HA := Lib_hid (fun q => phas_any lo hi p l i (w.drewN q) (h.drewN q))
  have HZ := Lib_hid h
  by_cases hi' : 0 ≤ i ∧ i < l.length
  · obtain ⟨k, rfl⟩ : ∃ k : Nat, i = k := ⟨i.toNat, by omega⟩
    have hk : k < l.length := by omega
    rw [inB_nat hk] at HT
    rw [hasB_nat] at HA
    cases hbt : bt l k with
    | true =>
      have e1 : addB l (k : Int) = l := addB_old (.inr (by rw [hasB_nat, hbt]))
      have e2 : newB l (k : Int) = false := by unfold newB; rw [hasB_nat, hbt]; simp
      rw [e1, e2]
      rw [hbt] at HA
      clear h hi' e1 e2 hbt
      go_enter Tryd.func12, Tryd.ntmps12
      go_wp2_with fail
      refine (HT.out 0).mono ?_
      rintro e w1 ⟨rfl, rfl⟩
      go_wp2_with fail
      refine (HA.out 0).mono ?_
      rintro e w1 ⟨rfl, q, rfl⟩
      go_wp2
      go_ret
      exact ⟨rfl, (HZ.out.drewN 0).drewN q, ((Turns.refl _ w).drewN 0).drewN q⟩
    | false =>
      have e1 : addB l (k : Int) = l.set k true := by unfold addB; rw [if_pos hi']; rfl
      have e2 : newB l (k : Int) = true := by unfold newB; rw [hasB_nat, hbt, inB_nat hk]; rfl
      rw [e1, e2]
      rw [hbt] at HA
      obtain ⟨A, c, h, hp1, hp2⟩ := h
      obtain ⟨g, rfl, hc, hz, hgl, hgp⟩ := h.word (at_nw hk)
      have c1 := h.c1
      have h6 := h.le
      have hcap := h.cap
      have hbd := at_nw hk
      have hx := wl_lt l (k / 64)
      have hand : bits BinOp.or IntKind.u64 ((wl l (k / 64) : Nat) : Int) ((2 ^ (k % 64) : Nat) : Int) = ((wl l (k / 64) ||| 2 ^ (k % 64) : Nat) : Int) := bits_or_u64_nat _ _ hx (pow_lt64 (by omega))
      have hzz : wl l (k / 64) ||| 2 ^ (k % 64) = wd (upd (bt l) k true) (k / 64) := digit_add (bt l) k
      have HPUT := Lib_hid (fun (q : Nat) => BZ.put (lo := lo) (hi := hi) (w := w.drewN q) (⟨h.box, own_keep h.row fun _ _ => rfl, h.ne, h.le⟩ : BS (w.drewN q) p (some ⟨g, 0, none⟩) c l) hp1 hp2 hk true _ hzz)
      have HDG := Lib_hid (fun (q : Nat) => digit_any k (w.drewN q))
      have hdv := div64 k
      clear h hi' e1 e2 hbt hp1 hp2 hzz
      generalize (wl l (k / 64) ||| 2 ^ (k % 64) : Nat) = z at *
      generalize (wl l (k / 64) : Nat) = x at *
      generalize (2 ^ (k % 64) : Nat) = y at *
      generalize nw l.length = n at *
      generalize hm : k / 64 = m at *
      clear hm
      have hmw : IntKind.i64.wrap (m : Int) = (m : Int) := i64_id (by omega)
      go_enter Tryd.func12, Tryd.ntmps12
      go_wp2_with fail
      refine (HT.out 0).mono ?_
      rintro e w1 ⟨rfl, rfl⟩
      go_wp2_with fail
      refine (HA.out 0).mono ?_
      rintro e w1 ⟨rfl, q, rfl⟩
      go_wp2
      (refine wp_region_tail 12 (by kernel_rfl) (by kernel_rfl) ?_
       simp only [List.take_succ_cons, List.take_zero, List.drop_succ_cons, List.drop_zero]
       repeat still_step)
      still_call (HDG.out (q + 1))
      repeat still_step
      try refine wpStill_nil ?_
      go_wp2
      go_ret
      exact ⟨rfl, (HPUT.out (q + 1)).1, (((Turns.refl _ w).drewN (q + 1)).trans_ (HPUT.out (q + 1)).2)⟩
  · rw [inB_no hi'] at HT
    have e1 : addB l i = l := addB_old (.inl (inB_no hi'))
    have e2 : newB l i = false := by unfold newB; rw [inB_no hi']; rfl
    rw [e1, e2]
    clear h hi' e1 e2
    go_enter Tryd.func12, Tryd.ntmps12
    go_wp2_with fail
    refine (HT.out 0).mono ?_
    rintro e w1 ⟨rfl, rfl⟩
    go_wp2
    go_ret
    exact ⟨rfl, HZ.out.drewN 0, (Turns.refl _ w).drewN 0⟩

set_option maxRecDepth 100000 in
set_option maxHeartbeats 800000 in
theorem prem_any (lo hi p : Nat) (l : List Bool) (i : Int) (w : World) (h : BZ w lo hi p l) : Calls Tryd.prog 29 #[pv p, .int .i64 i] w (PSt lo hi p (remB l i) (hasB l i) w) := by
  have HT := Lib_hid (fun q => ptakes_any lo hi p l i (w.drewN q) (h.drewN q))
  have HA := Lib_hid (fun q => phas_any lo hi p l i (w.drewN q) (h.drewN q))
  have HZ := Lib_hid h
  by_cases hi' : 0 ≤ i ∧ i < l.length
  · obtain ⟨k, rfl⟩ : ∃ k : Nat, i = k := ⟨i.toNat, by omega⟩
    have hk : k < l.length := by omega
    rw [inB_nat hk] at HT
    rw [hasB_nat] at HA
    cases hbt : bt l k with
    | false =>
      have e1 : remB l (k : Int) = l := remB_old (by rw [hasB_nat, hbt])
      have e2 : hasB l (k : Int) = false := by rw [hasB_nat, hbt]
      rw [e1, e2]
      rw [hbt] at HA
      clear h hi' e1 e2 hbt
      go_enter Tryd.func29, Tryd.ntmps29
      go_wp2_with fail
      refine (HA.out 0).mono ?_
      rintro e w1 ⟨rfl, q, rfl⟩
      go_wp2
      go_ret
      exact ⟨rfl, (HZ.out.drewN 0).drewN q, ((Turns.refl _ w).drewN 0).drewN q⟩
    | true =>
      have e1 : remB l (k : Int) = l.set k false := by unfold remB; rw [if_pos hi']; rfl
      have e2 : hasB l (k : Int) = true := by rw [hasB_nat, hbt]
      rw [e1, e2]
      rw [hbt] at HA
      obtain ⟨A, c, h, hp1, hp2⟩ := h
      obtain ⟨g, rfl, hc, hz, hgl, hgp⟩ := h.word (at_nw hk)
      have c1 := h.c1
      have h6 := h.le
      have hcap := h.cap
      have hbd := at_nw hk
      have hx := wl_lt l (k / 64)
      have hand : bits BinOp.andNot IntKind.u64 ((wl l (k / 64) : Nat) : Int) ((2 ^ (k % 64) : Nat) : Int) = ((andN (wl l (k / 64)) (2 ^ (k % 64)) : Nat) : Int) := bits_not_u64_nat _ _ hx (pow_lt64 (by omega))
      have hzz : andN (wl l (k / 64)) (2 ^ (k % 64)) = wd (upd (bt l) k false) (k / 64) := digit_rem (bt l) k
      have HPUT := Lib_hid (fun (q : Nat) => BZ.put (lo := lo) (hi := hi) (w := w.drewN q) (⟨h.box, own_keep h.row fun _ _ => rfl, h.ne, h.le⟩ : BS (w.drewN q) p (some ⟨g, 0, none⟩) c l) hp1 hp2 hk false _ hzz)
      have HDG := Lib_hid (fun (q : Nat) => digit_any k (w.drewN q))
      have hdv := div64 k
      clear h hi' e1 e2 hbt hp1 hp2 hzz
      generalize (andN (wl l (k / 64)) (2 ^ (k % 64)) : Nat) = z at *
      generalize (wl l (k / 64) : Nat) = x at *
      generalize (2 ^ (k % 64) : Nat) = y at *
      generalize nw l.length = n at *
      generalize hm : k / 64 = m at *
      clear hm
      have hmw : IntKind.i64.wrap (m : Int) = (m : Int) := i64_id (by omega)
      go_enter Tryd.func29, Tryd.ntmps29
      go_wp2_with fail
      refine (HA.out 0).mono ?_
      rintro e w1 ⟨rfl, q, rfl⟩
      go_wp2
      (refine wp_region_tail 12 (by kernel_rfl) (by kernel_rfl) ?_
       simp only [List.take_succ_cons, List.take_zero, List.drop_succ_cons, List.drop_zero]
       repeat still_step)
      still_call (HDG.out (q + 1))
      repeat still_step
      try refine wpStill_nil ?_
      go_wp2
      go_ret
      exact ⟨rfl, (HPUT.out (q + 1)).1, (((Turns.refl _ w).drewN (q + 1)).trans_ (HPUT.out (q + 1)).2)⟩
  · rw [hasB_no hi'] at HA
    have e1 : remB l i = l := remB_old (hasB_no hi')
    have e2 : hasB l i = false := by rw [hasB_no hi']
    rw [e1, e2]
    clear h hi' e1 e2
    go_enter Tryd.func29, Tryd.ntmps29
    go_wp2_with fail
    refine (HA.out 0).mono ?_
    rintro e w1 ⟨rfl, q, rfl⟩
    go_wp2
    go_ret
    exact ⟨rfl, (HZ.out.drewN 0).drewN q, ((Turns.refl _ w).drewN 0).drewN q⟩

end Go.Proofs.YtiembenkdldklaaDoor
