/-
  Reading several numbers: what it does; the program's Numbers.
-/
import Derived.Test.YtaafladmpdkfjaaReadB
namespace Go.Proofs.Ytaafladmpdkfjaa
open Go Go.RowKit
set_option linter.unusedVariables false

theorem Try.info22 : (Try.prog.info? 22).map (fun i => (i.zero, i.size, i.bytes)) = some (some (.int .u64 0), 1, 8) := by kernel_rfl

/-- Place, error, and the numbers, behind at most j numbers. -/
def numsUp (l : List Nat) (a : Nat) : Nat → Nat × Nat × List Nat
  | 0 => (a, 0, [])
  | j + 1 => if (numsUp l a j).2.1 ≠ 0 then numsUp l a j else
      if (numS l (numsUp l a j).1 0).2.1 ≠ 0 then ((numsUp l a j).1, (numS l (numsUp l a j).1 0).2.1, (numsUp l a j).2.2)
      else ((numS l (numsUp l a j).1 0).1, 0, (numsUp l a j).2.2 ++ [(numS l (numsUp l a j).1 0).2.2])
def numsS (l : List Nat) (a e : Nat) (n : Int) : Nat × Nat × List Nat :=
  if e ≠ 0 then (a, e, []) else if n < 0 then (a, 2, []) else if (numsUp l a n.toNat).2.1 ≠ 0 then (a, (numsUp l a n.toNat).2.1, []) else numsUp l a n.toNat

theorem numsUp_more {l : List Nat} {a j p p' v : Nat} {xs : List Nat} (h : numsUp l a j = (p, 0, xs)) (hS : numS l p 0 = (p', 0, v)) : numsUp l a (j + 1) = (p', 0, xs ++ [v]) := by
  simp only [numsUp, h, hS]
  rw [if_neg (by omega), if_neg (by omega)]
theorem numsUp_stop {l : List Nat} {a j p p' e' v : Nat} {xs : List Nat} (h : numsUp l a j = (p, 0, xs)) (hS : numS l p 0 = (p', e', v)) (he : e' ≠ 0) : ∀ k, (numsUp l a (j + 1 + k)).2.1 = e' := by
  intro k
  induction k with
  | zero =>
    show (numsUp l a (j + 1)).2.1 = e'
    simp only [numsUp, h, hS]
    rw [if_neg (by omega), if_pos he]
  | succ k ih =>
    show (numsUp l a (j + 1 + k + 1)).2.1 = e'
    rw [numsUp, if_pos (by rw [ih]; exact he)]
    exact ih
theorem got_ne (r : List Nat) : got r ≠ .err 0 := by
  have key : ∀ k i v (r : List Nat), scan k i v r ≠ .err 0 := by
    intro k
    induction k with
    | zero => intro i v r hh; simp [scan] at hh
    | succ k ih =>
      intro i v r hh
      cases r with
      | nil => simp [scan] at hh
      | cons c r =>
        simp only [scan] at hh
        split at hh
        · exact ih _ _ _ hh
        · split at hh <;> simp at hh
  exact key _ _ _ _
theorem numS_adv {l : List Nat} {p p' v : Nat} (hb : ∀ x ∈ l, x < 256) (hp : p ≤ l.length) (hS : numS l p 0 = (p', 0, v)) : p + 1 ≤ p' := by
  unfold numS at hS
  rw [if_neg (by omega)] at hS
  split at hS
  · simp only [Prod.mk.injEq] at hS; omega
  · rename_i hz
    simp only [Prod.mk.injEq] at hS
    unfold getS at hS hz
    rw [if_neg (by omega), Int.toNat_natCast] at hS hz
    cases hg : got (l.drop p) with
    | num v k =>
      rw [hg] at hS
      simp only [ans] at hS
      have h2 := got_put (fun x hx => hb x (List.mem_of_mem_drop hx)) hg
      have h3 := enc_pos v
      rw [h2.2.1, List.length_take] at h3
      omega
    | err e =>
      rw [hg] at hz
      simp only [ans, ne_eq, Decidable.not_not] at hz
      subst hz
      exact absurd hg (got_ne _)

/-- What a reader's call that tells numbers leaves. -/
def UPost (g : Nat) (A : Option Addr) (n c : Nat) (l : List Nat) (R : Nat × Nat × List Nat) (w : World) (en : Ending) (w' : World) : Prop :=
  ∃ A' c', en = .returned (.slice A' R.2.2.length c') ∧ w'.ownsRow w.heap.size 22 1 (.slice A' R.2.2.length c') R.2.2.length (us R.2.2) ∧ RLeft g A n c l R.1 R.2.1 w w'

theorem us_one (l : List Nat) : ∀ u ∈ us l, u.oneCell' = true := by
  intro u hu
  simp only [us, List.mem_map] at hu
  obtain ⟨n, _, rfl⟩ := hu
  rfl
theorem us_append (l m : List Nat) : us (l ++ m) = us l ++ us m := by simp [us]
theorem Rd.newu (w : World) (v : Nat) (t : TypeId) : Rd (w.alloc (.cells #[.int .u64 (v : Int)] t)) (w.heap.size + 1) 1 (some ⟨w.heap.size, 0, none⟩) 1 (us [v]) :=
  ⟨rfl, fun _ => ⟨_, rfl, by simp, fun j u hu => by
    match j, hu with
    | 0, hu => simp [us] at hu; subst hu; simp [Addr.add]⟩⟩
theorem own_rstp {w w' : World} {B g n : Nat} {E : TypeId} {v : Value} {xs : List Value} (h : w.ownsRow B E 1 v n xs) (hs : RStp w w' g) (hg : g < B) : w'.ownsRow B E 1 v n xs :=
  own_keep h fun k hk => hs.block k (own_lt h k hk) (by have := own_ge h k hk; omega)
theorem RStp.stp {w w' : World} {v v' : Value} (hs : Stp w w' v v') {B g : Nat} (hv : ∀ k, v.ownBlock = some k → B ≤ k) (w0 : World) (h0 : RStp w0 w g) (hB : w0.heap.size ≤ B) : RStp w0 w' g :=
  ⟨hs.grow.os.trans h0.os, hs.grow.tape.trans h0.tape, hs.grow.output.trans h0.output, Nat.le_trans h0.size hs.grow.size, fun k hk hg =>
    (hs.grow.block k (Nat.lt_of_lt_of_le hk h0.size) (fun e => by have := hv k e.symm; omega)).trans (h0.block k hk hg)⟩

set_option maxRecDepth 100000 in
set_option maxHeartbeats 1600000 in
theorem numbers_any (g : Nat) (A : Option Addr) (n c a e : Nat) (l : List Nat) (k : Int) (w : World) (h : Rr 72 w g A n c l a e) (hk64 : -9223372036854775808 ≤ k ∧ k ≤ 9223372036854775807) :
    Calls Try.prog 33 #[.pointer (some ⟨g, 0, none⟩), .int .i64 k] w (UPost g A n c l (numsS l a e k) w) := by
  obtain ⟨c0, c1, c2, f0, f1⟩ := h.cells
  have hpl := h.place
  have hlen := h.len
  have hgl := h.lt
  by_cases h0 : e = 0
  · subst h0
    by_cases hn : k < 0
    · have hs : numsS l a 0 k = (a, 2, []) := by unfold numsS; rw [if_neg (by omega), if_pos hn]
      rw [hs]
      go_enter Try.func33, Try.ntmps33
      go_wp2_with (first | (go_at_call 36; refine (err_any g A n c a 0 l w h).mono ?_; rintro en w1 ⟨rfl, rfl⟩) | (go_at_call 40; refine (fail_any g A n c a 0 l a 2 w h).mono ?_; rintro en w2 ⟨rfl, rfl⟩))
      go_ret
      exact ⟨none, 0, rfl, World.ownsRow_nil _ _ _ _, h.stored a 2 hpl (by omega), (RStp.store _ _ _ _).trans (RStp.store _ _ _ _)⟩
    · obtain ⟨m, rfl⟩ : ∃ m : Nat, k = m := ⟨k.toNat, by omega⟩
      obtain ⟨i0, hi, hz0, hz1, hz2⟩ := info_parts Try.info22
      have HB := Lib_hid h.b8
      obtain ⟨R, hR⟩ : ∃ R, R = numsS l a 0 m := ⟨_, rfl⟩
      rw [← hR]
      have HR : Hid (R = if (numsUp l a m).2.1 ≠ 0 then (a, (numsUp l a m).2.1, []) else numsUp l a m) := by
        unfold Hid; rw [hR]; unfold numsS; rw [if_neg (by omega), if_neg (by omega), Int.toNat_natCast]
      clear hR
      go_enter Try.func33, Try.ntmps33
      go_wp2_with (first | (go_at_call 36; refine (err_any g A n c a 0 l w h).mono ?_; rintro en w1 ⟨rfl, rfl⟩) | fail)
      go_loopw [6, 24] (fun s i wr => ∃ (j p : Nat) (xs : List Nat) (A' : Option Addr) (n' c' : Nat), i = .int .i64 j ∧ s = .slice A' n' c' ∧ j ≤ m ∧ Hid (numsUp l a j = (p, 0, xs)) ∧ Rr 72 wr g A n c l p 0 ∧
          wr.ownsRow w.heap.size 22 1 (.slice A' n' c') n' (us xs) ∧ RStp w wr g ∧ n' ≤ p) (fun _ i _ => m - (intOf i).toNat)
      case atStart => exact ⟨0, a, [], none, 0, 0, rfl, rfl, Nat.zero_le _, rfl, h, World.ownsRow_nil _ _ _ _, RStp.refl _ _, Nat.zero_le _⟩
      case round =>
        obtain ⟨j, p, xs, A', n', c', rfl, rfl, hj, hup, hr, ho, hs, hnp⟩ := hrel
        by_cases hlt : j < m
        · obtain ⟨⟨p', e', v⟩, hS⟩ : ∃ x, numS l p 0 = x := ⟨_, rfl⟩
          obtain ⟨hle, hee, hv⟩ := numS_le HB.out hr.place (by omega) hS
          have N := number_any g A n c p 0 l wr hr p' e' v hS
          have hpp := hr.place
          by_cases he : e' = 0
          · subst he
            have hadv := numS_adv HB.out hpp hS
            have hup' := Lib_hid (numsUp_more hup.out hS)
            have hm1 : n' + 1 ≤ maxLen := by unfold maxLen; omega
            have hm2 : (n' + 1) * 8 ≤ 140737488355328 := by omega
            clear hS hup c0 c1 c2 f0 f1
            go_wp2_with (first
              | (go_at_call 27; refine N.mono ?_; rintro en w1 ⟨rfl, hr1, hs1⟩; obtain ⟨d0, d1, d2, k0, k1⟩ := hr1.cells; have ho1 := own_rstp ho hs1 hgl; have hbs := Nat.le_trans hs.size hs1.size)
              | (at_builtin; (refine wpList_app rfl _ _ 38 rfl w.heap.size 22 i0 (.int .u64 0) 1 8 Try.underlying38 hi hz0 hz1 hz2 rfl (by decide) (.slice A' n' c') n' (us xs) rfl (ho1.alloc _) (w1.heap.size + 1) (some ⟨w1.heap.size, 0, none⟩) 1 1 (us [v]) rfl (Rd.newu w1 v 22) (us_one _) hm1 hm2 (by simp; omega) ?_); intro v2 w2 ho2 hs2; rw [← us_append] at ho2; obtain ⟨A2, c2', rfl, _⟩ := own_form ho2))
            go_roundw
            case rel =>
              refine ⟨j + 1, p', xs ++ [v], A2, n' + 1, c2', by go_num, rfl, by omega, hup', ?_, ho2, ?_, by omega⟩
              · have ha := hr1.kept ((Below.refl _ _).alloc (Nat.le_refl _) (.cells #[.int .u64 (v : Int)] 22))
                exact ha.kept' hs2 (fun k hk => by have := own_ge ho1 k hk; omega)
              · exact RStp.stp hs2 (own_ge ho1) w ((hs.trans hs1).trans (RStp.of ((Below.refl _ _).alloc (Nat.le_refl _) _) g)) (Nat.le_refl _)
            case measure => simp [intOf]; omega
          · have hstop := numsUp_stop hup.out hS he (m - (j + 1))
            rw [show j + 1 + (m - (j + 1)) = m by omega] at hstop
            have hR2 : R = (a, e', []) := by rw [HR.out, if_pos (by rw [hstop]; exact he), hstop]
            have HR2 := Lib_hid hR2
            have hz0 : ((e' : Int) != 0) = true := by simpa using he
            clear hS hup c0 c1 c2 f0 f1 hstop hR2 he
            go_wp2_with (first
              | (go_at_call 27; refine N.mono ?_; rintro en w1 ⟨rfl, hr1, hs1⟩; obtain ⟨d0, d1, d2, k0, k1⟩ := hr1.cells)
              | fail)
            go_region_held3 (fun W => W.cell? ⟨g, 1, none⟩ = some (.int .i64 (e' : Int))) (first | exact d1 | exact hst.cells.2.1)
              ((first | (go_at_call 40; refine (fail_any g A n c p' e' l a e' w1.drew (hr1.drewN 1)).mono ?_; rintro en w2 ⟨rfl, rfl⟩; have hst := (hr1.drewN 1).stored a e' hpl hee)))
            all_goals
              go_wp2
              go_ret
              rw [HR2.out]
              exact ⟨none, 0, rfl, World.ownsRow_nil _ _ _ _, (hr1.stored a e' hpl hee).drewN 1, (hs.trans hs1).trans (((RStp.store _ _ _ _).trans (RStp.store _ _ _ _)).trans (RStp.drewN _ _ 1))⟩
        · obtain rfl : j = m := by omega
          have hR2 : R = (p, 0, xs) := by rw [HR.out, hup.out, if_neg (by simp)]
          have hn' : n' = xs.length := by have := ho.1; rw [us_length] at this; omega
          subst hn'
          clear c0 c1 c2 f0 f1
          have HR2 := Lib_hid hR2
          clear hR2
          go_wp2
          go_ret
          rw [HR2.out]
          exact ⟨A', c', rfl, ho, hr, hs⟩
  · have h0' : ((e : Int) != 0) = true := by simpa using h0
    have hs : numsS l a e k = (a, e, []) := by unfold numsS; rw [if_pos h0]
    rw [hs]
    go_enter Try.func33, Try.ntmps33
    go_wp2_with (go_at_call 36; refine (err_any g A n c a e l w h).mono ?_; rintro en w1 ⟨rfl, rfl⟩)
    go_ret
    exact ⟨none, 0, rfl, World.ownsRow_nil _ _ _ _, h, RStp.refl _ _⟩

end Go.Proofs.Ytaafladmpdkfjaa
