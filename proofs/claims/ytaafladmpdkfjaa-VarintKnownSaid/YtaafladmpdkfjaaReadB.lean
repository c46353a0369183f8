/-
  Contracts of the program's Reader: Raw and Text, for every input.
-/
import Derived.Test.YtaafladmpdkfjaaRead
namespace Go.Proofs.Ytaafladmpdkfjaa
open Go Go.RowKit
set_option linter.unusedVariables false

/-- What a reader's call that tells bytes leaves. -/
def BPost (g : Nat) (A : Option Addr) (n c : Nat) (l : List Nat) (R : Nat × Nat × List Nat) (w : World) (en : Ending) (w' : World) : Prop :=
  ∃ A' c', en = .returned (.slice A' R.2.2.length c') ∧ w'.ownsRow w.heap.size 5 1 (.slice A' R.2.2.length c') R.2.2.length (bs R.2.2) ∧ RLeft g A n c l R.1 R.2.1 w w'

set_option maxRecDepth 100000 in
set_option maxHeartbeats 800000 in
theorem raw_any (g : Nat) (A : Option Addr) (n c a e : Nat) (l : List Nat) (k : Int) (w : World) (h : Rr 72 w g A n c l a e) (hk64 : -9223372036854775808 ≤ k ∧ k ≤ 9223372036854775807) :
    Calls Try.prog 29 #[.pointer (some ⟨g, 0, none⟩), .int .i64 k] w (BPost g A n c l (rawS l a e k) w) := by
  obtain ⟨c0, c1, c2, f0, f1⟩ := h.cells
  have hl := h.rd.count
  have hpl := h.place
  have hlen := h.len
  by_cases h0 : e = 0
  · subst h0
    by_cases hn : k < 0
    · have hs : rawS l a 0 k = (a, 2, []) := by unfold rawS; rw [if_neg (by omega), if_pos hn]
      rw [hs]
      clear hl
      go_enter Try.func29, Try.ntmps29
      go_wp2_with (go_at_call 36; refine (err_any g A n c a 0 l w h).mono ?_; rintro en w1 ⟨rfl, rfl⟩)
      go_region_held3 (fun W => W.cell? ⟨g, 0, none⟩ = some (.int .i64 (a : Int))) (first | exact c0 | exact hst.cells.1)
        ((first | (go_at_call 40; refine (fail_any g A n c a 0 l a 2 w.drew (h.drewN 1)).mono ?_; rintro en w2 ⟨rfl, rfl⟩; have hst := (h.drewN 1).stored a 2 hpl (by omega))))
      all_goals
        go_wp2
        go_ret
        exact ⟨none, 0, rfl, own_none _ _ _, (h.stored a 2 hpl (by omega)).drewN 1, ((RStp.store _ _ _ _).trans (RStp.store _ _ _ _)).trans (RStp.drewN _ _ 1)⟩
    · obtain ⟨m, rfl⟩ : ∃ m : Nat, k = m := ⟨k.toNat, by omega⟩
      by_cases hk : (l.length : Int) - a < m
      · have hs : rawS l a 0 m = (a, 4, []) := by unfold rawS; rw [if_neg (by omega), if_neg (by omega), if_pos hk]
        rw [hs]
        subst hl
        go_enter Try.func29, Try.ntmps29
        go_wp2_with (first | (go_at_call 36; refine (err_any g A _ c a 0 l w h).mono ?_; rintro en w1 ⟨rfl, rfl⟩) | (go_at_call 35; refine (left_any g A _ c a 0 l w h).mono ?_; rintro en w1 ⟨rfl, q1, rfl⟩))
        go_region_held3 (fun W => W.cell? ⟨g, 0, none⟩ = some (.int .i64 (a : Int))) (first | exact c0 | exact hst.cells.1)
          ((first | (go_at_call 40; refine (fail_any g A l.length c a 0 l a 4 (w.drewN (q1 + 1)) (h.drewN (q1 + 1))).mono ?_; rintro en w2 ⟨rfl, rfl⟩; have hst := (h.drewN (q1 + 1)).stored a 4 hpl (by omega))))
        all_goals
          go_wp2
          go_ret
          exact ⟨none, 0, rfl, own_none _ _ _, (h.stored a 4 hpl (by omega)).drewN (q1 + 1), ((RStp.store _ _ _ _).trans (RStp.store _ _ _ _)).trans (RStp.drewN _ _ (q1 + 1))⟩
      · obtain ⟨u, hu⟩ : ∃ u, u = (l.drop a).take m := ⟨_, rfl⟩
        have hs : rawS l a 0 m = (a + m, 0, u) := by unfold rawS; rw [if_neg (by omega), if_neg (by omega), if_neg hk, hu]; rfl
        rw [hs]
        subst hl
        have hul : u.length = m := by rw [hu, List.length_take, List.length_drop]; omega
        obtain ⟨A2, hsl, hr2⟩ := slice_lh (j := a) (k := a + m) h.rd (by omega) (by omega) h.nc.1
        rw [← bs_take, ← bs_drop, show (l.take (a + m)).drop a = u by rw [hu, List.take_drop]] at hr2
        rw [show a + m - a = m by omega] at hsl hr2
        have hcast : ((a + m : Nat) : Int) = (a : Int) + (m : Int) := by omega
        have hmv := fun q => (h.drewN q).moved (a + m) (by omega)
        have hmr : ∀ q, Rd ((w.drewN q).setCell ⟨g, 0, none⟩ (.int .i64 ((a : Int) + m))) g 1 A2 m (bs u) := fun q =>
          (hr2.drewN_ q).keep fun p hp => World.cell?_setCell_other _ _ _ _ (fun e => by rw [← e] at hp; simp at hp)
        have hms := fun q => (RStp.drewN w g q).trans (RStp.store (w.drewN q) g 0 (.int .i64 ((a : Int) + m)))
        rw [hcast] at hsl hmv
        have HUL := Lib_hid hul
        have HMV := Lib_hid hmv
        have HMR := Lib_hid hmr
        have HMS := Lib_hid hms
        clear hu hs hr2 hul hcast hmv hmr hms
        go_enter Try.func29, Try.ntmps29
        go_wp2_with (first | (go_at_call 36; refine (err_any g A _ c a 0 l w h).mono ?_; rintro en w1 ⟨rfl, rfl⟩) | (go_at_call 35; refine (left_any g A _ c a 0 l w h).mono ?_; rintro en w1 ⟨rfl, q1, rfl⟩))
        obtain ⟨W1, hW1⟩ : ∃ W1, W1 = (w.drewN q1).setCell ⟨g, 0, none⟩ (.int .i64 ((a : Int) + m)) := ⟨_, rfl⟩
        have R1 : Rr 72 W1 g A l.length c l (a + m) 0 := by rw [hW1]; exact HMV.out q1
        have R2 : Rd W1 g 1 A2 m (bs u) := by rw [hW1]; exact HMR.out q1
        have R3 : RStp w W1 g := by rw [hW1]; exact HMS.out q1
        rw [← hW1]
        clear hW1 HMV HMR HMS
        obtain ⟨d0, d1, d2, _, _⟩ := R1.cells
        rw [Int.natCast_add] at d0
        have hgl := R1.lt
        go_region_held3 (fun W => W.cell? ⟨g, 0, none⟩ = some (.int .i64 ((a : Int) + m)) ∧ W.cell? ⟨g, 2, none⟩ = some (.slice A l.length c)) (first | exact ⟨d0, d2⟩ | exact ⟨e0, e2⟩)
          ((first | (go_at_call 39; refine (clone_any g A2 m _ u W1.drew (R2.drewN_ 1) (by omega) (by simp; omega)).mono ?_; rintro en w2 ⟨A3, c3, rfl, ho3, hb3⟩; have hR4 := (R1.drewN 1).kept hb3; obtain ⟨e0, _, e2, _, _⟩ := hR4.cells; rw [Int.natCast_add] at e0)))
        all_goals
          go_wp2
          go_ret
          exact ⟨A3, c3, rfl, own_base ho3 (fun k hk => by have h9 : W1.heap.size ≤ k := own_ge ho3 k hk; have := R3.size; omega), hR4, R3.trans ((RStp.drewN W1 g 1).trans (RStp.of hb3 g))⟩
  · have h0' : ((e : Int) != 0) = true := by simpa using h0
    have hs : rawS l a e k = (a, e, []) := by unfold rawS; rw [if_pos h0]
    rw [hs]
    clear hl
    go_enter Try.func29, Try.ntmps29
    go_wp2_with (go_at_call 36; refine (err_any g A n c a e l w h).mono ?_; rintro en w1 ⟨rfl, rfl⟩)
    go_ret
    exact ⟨none, 0, rfl, own_none _ _ _, h, RStp.refl _ _⟩

theorem numS_err {l : List Nat} {a e a' e' v : Nat} (h : numS l a e = (a', e', v)) (he : e' ≠ 0) : a' = a := by
  unfold numS at h
  split at h
  · simp only [Prod.mk.injEq] at h; omega
  · split at h <;> (simp only [Prod.mk.injEq] at h; omega)

set_option maxRecDepth 100000 in
set_option maxHeartbeats 800000 in
theorem text_any (g : Nat) (A : Option Addr) (n c a e : Nat) (l : List Nat) (w : World) (h : Rr 72 w g A n c l a e) :
    Calls Try.prog 31 #[.pointer (some ⟨g, 0, none⟩)] w (BPost g A n c l (textS l a e) w) := by
  obtain ⟨⟨a', e', v⟩, hS⟩ : ∃ x, numS l a e = x := ⟨_, rfl⟩
  obtain ⟨hle, hee, hv⟩ := numS_le h.b8 h.place h.err hS
  have hT : textS l a e = if e' ≠ 0 then (a, e', []) else if (l.length : Int) - a' < v then (a, 4, []) else (a' + v, 0, (l.drop a').take v) := by unfold textS; rw [hS]
  have N := number_any g A n c a e l w h a' e' v hS
  have hea := numS_err hS
  have hl := h.rd.count
  have hlen := h.len
  have hpl := h.place
  subst hl
  by_cases h0 : e' = 0
  · subst h0
    have hr : Hid (textS l a e = if (l.length : Int) - a' < v then (a, 4, []) else (a' + v, 0, (l.drop a').take v)) := by unfold Hid; rw [hT, if_neg (by omega)]
    clear hT hS hea
    obtain ⟨R, hR⟩ : ∃ R, R = textS l a e := ⟨_, rfl⟩
    rw [← hR] at hr ⊢
    clear hR
    have hwr : IntKind.u64.wrap ((l.length : Int) - (a' : Int)) = (l.length : Int) - (a' : Int) := IntWalk.u64_in _ (by omega)
    by_cases hsh : (l.length : Int) - a' < v
    · have HR : Hid (R = (a, 4, [])) := by unfold Hid; rw [hr.out, if_pos hsh]
      clear hr
      go_enter Try.func31, Try.ntmps31
      go_wp2_with (first
        | (go_at_call 34; refine (at_any g A _ c a e l w h).mono ?_; rintro en w1 ⟨rfl, rfl⟩)
        | (go_at_call 27; refine N.mono ?_; rintro en w1 ⟨rfl, hn1, hs1⟩)
        | (go_at_call 36; refine (err_any g A _ c a' 0 l w1 hn1).mono ?_; rintro en w2 ⟨rfl, rfl⟩)
        | (go_at_call 35; refine (left_any g A _ c a' 0 l w1 hn1).mono ?_; rintro en w2 ⟨rfl, q2, rfl⟩)
        | (go_at_call 40; refine (fail_any g A _ c a' 0 l a 4 (w1.drewN q2) (hn1.drewN q2)).mono ?_; rintro en w3 ⟨rfl, rfl⟩))
      go_ret
      rw [HR.out]
      exact ⟨none, 0, rfl, own_none _ _ _, (hn1.drewN q2).stored a 4 hpl (by omega), hs1.trans ((RStp.drewN _ _ _).trans ((RStp.store _ _ _ _).trans (RStp.store _ _ _ _)))⟩
    · obtain ⟨u, hu⟩ : ∃ u, u = (l.drop a').take v := ⟨_, rfl⟩
      have HR : Hid (R = (a' + v, 0, u)) := by unfold Hid; rw [hr.out, if_neg hsh, hu]
      have hraw : rawS l a' 0 v = (a' + v, 0, u) := by unfold rawS; rw [if_neg (by omega), if_neg (by omega), if_neg hsh, hu]; rfl
      have hraw2 := fun W (hW : Rr 72 W g A l.length c l a' 0) => raw_any g A l.length c a' 0 l v W hW (by omega)
      rw [hraw] at hraw2
      have HRAW := Lib_hid hraw2
      clear hr hraw hraw2 hu
      go_enter Try.func31, Try.ntmps31
      go_wp2_with (first
        | (go_at_call 34; refine (at_any g A _ c a e l w h).mono ?_; rintro en w1 ⟨rfl, rfl⟩)
        | (go_at_call 27; refine N.mono ?_; rintro en w1 ⟨rfl, hn1, hs1⟩)
        | (go_at_call 36; refine (err_any g A _ c a' 0 l w1 hn1).mono ?_; rintro en w2 ⟨rfl, rfl⟩)
        | (go_at_call 35; refine (left_any g A _ c a' 0 l w1 hn1).mono ?_; rintro en w2 ⟨rfl, q2, rfl⟩)
        | (go_at_call 29; refine (HRAW.out (w1.drewN q2) (hn1.drewN q2)).mono ?_; rintro en w3 ⟨A3, c3, rfl, ho3, hr3, hs3⟩))
      go_ret
      rw [HR.out]
      exact ⟨A3, c3, rfl, own_base ho3 (fun k hk => by have h9 : w1.heap.size ≤ k := own_ge ho3 k hk; have := hs1.size; omega), hr3, hs1.trans ((RStp.drewN _ _ _).trans hs3)⟩
  · have hr : textS l a e = (a, e', []) := by rw [hT, if_pos h0]
    obtain rfl := hea h0
    rw [hr]
    have hz0 : ((e' : Int) != 0) = true := by simpa using h0
    clear hT hS hea hr h0
    go_enter Try.func31, Try.ntmps31
    go_wp2_with (first
      | (go_at_call 34; refine (at_any g A _ c _ e l w h).mono ?_; rintro en w1 ⟨rfl, rfl⟩)
      | (go_at_call 27; refine N.mono ?_; rintro en w1 ⟨rfl, hn1, hs1⟩)
      | (go_at_call 36; refine (err_any g A _ c _ e' l w1 hn1).mono ?_; rintro en w2 ⟨rfl, rfl⟩))
    go_ret
    exact ⟨none, 0, rfl, own_none _ _ _, hn1, hs1⟩

end Go.Proofs.Ytaafladmpdkfjaa
