/-
  Contracts of the program's Reader: Raw and Text, for every input.
  Layer 5: the program's payload, while parts are read of it: what its boxes hold; what was taken, or not.
-/
import Derived.Test.YtiiiklenhmhccaaGreatDoorZrSup
import Derived.Test.YtiiiklenhmhccaaGreatDoorZrRead
import Derived.Test.YtiiiklenhmhccaaGreatDoorZpTrw
import Derived.Test.YtiiiklenhmhccaaGreatDoorZpVls

namespace Go.Proofs.YtiiiklenhmhccaaGreatDoor
open Go Go.RowKit
set_option linter.unusedVariables false
def BPost (g : Nat) (A : Option Addr) (n c : Nat) (l : List Nat) (R : Nat × Nat × List Nat) (w : World) (en : Ending) (w' : World) : Prop :=
  ∃ A' c', en = .returned (.slice A' R.2.2.length c') ∧ w'.ownsRow w.heap.size 5 1 (.slice A' R.2.2.length c') R.2.2.length (bs R.2.2) ∧ RLeft g A n c l R.1 R.2.1 w w'
set_option maxRecDepth 100000 in
set_option maxHeartbeats 800000 in
theorem raw_any (g : Nat) (A : Option Addr) (n c a e : Nat) (l : List Nat) (k : Int) (w : World) (h : Rr 167 w g A n c l a e) (hk64 : -9223372036854775808 ≤ k ∧ k ≤ 9223372036854775807) :
    Calls Tryz.prog 201 #[.pointer (some ⟨g, 0, none⟩), .int .i64 k] w (BPost g A n c l (rawS l a e k) w) := by
  obtain ⟨c0, c1, c2, f0, f1⟩ := h.cells
  have hl := h.rd.count
  have hpl := h.place
  have hlen := h.len
  by_cases h0 : e = 0
  · subst h0
    by_cases hn : k < 0
    · have hs : rawS l a 0 k = (a, 2, []) := by unfold rawS; rw [if_neg (by omega), if_pos hn]
      rw [hs]
      clear hl
      go_enter Tryz.func201, Tryz.ntmps201
      go_wp2_with (go_at_call 96; refine (err_any g A n c a 0 l w h).mono ?_; rintro en w1 ⟨rfl, rfl⟩)
      go_region_held3 (fun W => W.cell? ⟨g, 0, none⟩ = some (.int .i64 (a : Int))) (first | exact c0 | exact hst.cells.1)
        ((first | (go_at_call 169; refine (fail_any g A n c a 0 l a 2 w.drew (h.drewN 1)).mono ?_; rintro en w2 ⟨rfl, rfl⟩; have hst := (h.drewN 1).stored a 2 hpl (by omega))))
      all_goals
        go_wp2
        go_ret
        exact ⟨none, 0, rfl, own_none _ _ _, (h.stored a 2 hpl (by omega)).drewN 1, ((RStp.store _ _ _ _).trans (RStp.store _ _ _ _)).trans (RStp.drewN _ _ 1)⟩
    · obtain ⟨m, rfl⟩ : ∃ m : Nat, k = m := ⟨k.toNat, by omega⟩
      by_cases hk : (l.length : Int) - a < m
      · have hs : rawS l a 0 m = (a, 4, []) := by unfold rawS; rw [if_neg (by omega), if_neg (by omega), if_pos hk]
        rw [hs]
        subst hl
        go_enter Tryz.func201, Tryz.ntmps201
        go_wp2_with (first | (go_at_call 96; refine (err_any g A _ c a 0 l w h).mono ?_; rintro en w1 ⟨rfl, rfl⟩) | (go_at_call 64; refine (left_any g A _ c a 0 l w h).mono ?_; rintro en w1 ⟨rfl, q1, rfl⟩))
        go_region_held3 (fun W => W.cell? ⟨g, 0, none⟩ = some (.int .i64 (a : Int))) (first | exact c0 | exact hst.cells.1)
          ((first | (go_at_call 169; refine (fail_any g A l.length c a 0 l a 4 (w.drewN (q1 + 1)) (h.drewN (q1 + 1))).mono ?_; rintro en w2 ⟨rfl, rfl⟩; have hst := (h.drewN (q1 + 1)).stored a 4 hpl (by omega))))
        all_goals
          go_wp2
          go_ret
          exact ⟨none, 0, rfl, own_none _ _ _, (h.stored a 4 hpl (by omega)).drewN (q1 + 1), ((RStp.store _ _ _ _).trans (RStp.store _ _ _ _)).trans (RStp.drewN _ _ (q1 + 1))⟩
      · obtain ⟨u, hu⟩ : ∃ u, u = (l.drop a).take m := ⟨_, rfl⟩
        have hs : rawS l a 0 m = (a + m, 0, u) := by unfold rawS; rw [if_neg (by omega), if_neg (by omega), if_neg hk, hu]; rfl
        rw [hs]
        subst hl
        have hul : u.length = m := by rw [hu, List.length_take, List.length_drop]; omega
        obtain ⟨A2, hsl, hr2⟩ := slice_lh (j := a) (k := a + m) h.rd (by omega) (by omega) h.nc.1
        rw [← bs_take, ← bs_drop, show (l.take (a + m)).drop a = u by rw [hu, List.take_drop]] at hr2
        rw [show a + m - a = m by omega] at hsl hr2
        have hcast : ((a + m : Nat) : Int) = (a : Int) + (m : Int) := by omega
        have hmv := fun q => (h.drewN q).moved (a + m) (by omega)
        have hmr : ∀ q, Rd ((w.drewN q).setCell ⟨g, 0, none⟩ (.int .i64 ((a : Int) + m))) g 1 A2 m (bs u) := fun q =>
          (hr2.drewNn q).keep fun p hp => World.cell?_setCell_other _ _ _ _ (fun e => by rw [← e] at hp; simp at hp)
        have hms := fun q => (RStp.drewN w g q).trans (RStp.store (w.drewN q) g 0 (.int .i64 ((a : Int) + m)))
        rw [hcast] at hsl hmv
        have HUL := Lib_hid hul
        have HMV := Lib_hid hmv
        have HMR := Lib_hid hmr
        have HMS := Lib_hid hms
        clear hu hs hr2 hul hcast hmv hmr hms
        go_enter Tryz.func201, Tryz.ntmps201
        go_wp2_with (first | (go_at_call 96; refine (err_any g A _ c a 0 l w h).mono ?_; rintro en w1 ⟨rfl, rfl⟩) | (go_at_call 64; refine (left_any g A _ c a 0 l w h).mono ?_; rintro en w1 ⟨rfl, q1, rfl⟩))
        obtain ⟨W1, hW1⟩ : ∃ W1, W1 = (w.drewN q1).setCell ⟨g, 0, none⟩ (.int .i64 ((a : Int) + m)) := ⟨_, rfl⟩
        have R1 : Rr 167 W1 g A l.length c l (a + m) 0 := by rw [hW1]; exact HMV.out q1
        have R2 : Rd W1 g 1 A2 m (bs u) := by rw [hW1]; exact HMR.out q1
        have R3 : RStp w W1 g := by rw [hW1]; exact HMS.out q1
        rw [← hW1]
        clear hW1 HMV HMR HMS
        obtain ⟨d0, d1, d2, _, _⟩ := R1.cells
        rw [Int.natCast_add] at d0
        have hgl := R1.lt
        go_region_held3 (fun W => W.cell? ⟨g, 0, none⟩ = some (.int .i64 ((a : Int) + m)) ∧ W.cell? ⟨g, 2, none⟩ = some (.slice A l.length c)) (first | exact ⟨d0, d2⟩ | exact ⟨e0, e2⟩)
          ((first | (go_at_call 75; refine (clone_any g A2 m _ u W1.drew (R2.drewNn 1) (by omega) (by simp; omega)).mono ?_; rintro en w2 ⟨A3, c3, rfl, ho3, hb3⟩; have hR4 := (R1.drewN 1).kept hb3; obtain ⟨e0, _, e2, _, _⟩ := hR4.cells; rw [Int.natCast_add] at e0)))
        all_goals
          go_wp2
          go_ret
          exact ⟨A3, c3, rfl, own_base ho3 (fun k hk => by have h9 : W1.heap.size ≤ k := own_ge ho3 k hk; have := R3.size; omega), hR4, R3.trans ((RStp.drewN W1 g 1).trans (RStp.of hb3 g))⟩
  · have h0' : ((e : Int) != 0) = true := by simpa using h0
    have hs : rawS l a e k = (a, e, []) := by unfold rawS; rw [if_pos h0]
    rw [hs]
    clear hl
    go_enter Tryz.func201, Tryz.ntmps201
    go_wp2_with (go_at_call 96; refine (err_any g A n c a e l w h).mono ?_; rintro en w1 ⟨rfl, rfl⟩)
    go_ret
    exact ⟨none, 0, rfl, own_none _ _ _, h, RStp.refl _ _⟩
theorem numR_err {l : List Nat} {a e a' e' v : Nat} (h : numR l a e = (a', e', v)) (he : e' ≠ 0) : a' = a := by
  unfold numR at h
  split at h
  · simp only [Prod.mk.injEq] at h; omega
  · split at h <;> (simp only [Prod.mk.injEq] at h; omega)
set_option maxRecDepth 100000 in
set_option maxHeartbeats 800000 in
theorem text_any (g : Nat) (A : Option Addr) (n c a e : Nat) (l : List Nat) (w : World) (h : Rr 167 w g A n c l a e) :
    Calls Tryz.prog 174 #[.pointer (some ⟨g, 0, none⟩)] w (BPost g A n c l (textS l a e) w) := by
  obtain ⟨⟨a', e', v⟩, hS⟩ : ∃ x, numR l a e = x := ⟨_, rfl⟩
  obtain ⟨hle, hee, hv⟩ := numR_le h.b8 h.place h.err hS
  have hT : textS l a e = if e' ≠ 0 then (a, e', []) else if (l.length : Int) - a' < v then (a, 4, []) else (a' + v, 0, (l.drop a').take v) := by unfold textS; rw [hS]
  have N := number_any g A n c a e l w h a' e' v hS
  have hea := numR_err hS
  have hl := h.rd.count
  have hlen := h.len
  have hpl := h.place
  subst hl
  by_cases h0 : e' = 0
  · subst h0
    have hr : Hid (textS l a e = if (l.length : Int) - a' < v then (a, 4, []) else (a' + v, 0, (l.drop a').take v)) := by unfold Hid; rw [hT, if_neg (by omega)]
    clear hT hS hea
    obtain ⟨R, hR⟩ : ∃ R, R = textS l a e := ⟨_, rfl⟩
    rw [← hR] at hr ⊢
    clear hR
    have hwr : IntKind.u64.wrap ((l.length : Int) - (a' : Int)) = (l.length : Int) - (a' : Int) := IntWalk.u64_in _ (by omega)
    by_cases hsh : (l.length : Int) - a' < v
    · have HR : Hid (R = (a, 4, [])) := by unfold Hid; rw [hr.out, if_pos hsh]
      clear hr
      go_enter Tryz.func174, Tryz.ntmps174
      go_wp2_with (first
        | (go_at_call 200; refine (at_any g A _ c a e l w h).mono ?_; rintro en w1 ⟨rfl, rfl⟩)
        | (go_at_call 107; refine N.mono ?_; rintro en w1 ⟨rfl, hn1, hs1⟩)
        | (go_at_call 96; refine (err_any g A _ c a' 0 l w1 hn1).mono ?_; rintro en w2 ⟨rfl, rfl⟩)
        | (go_at_call 64; refine (left_any g A _ c a' 0 l w1 hn1).mono ?_; rintro en w2 ⟨rfl, q2, rfl⟩)
        | (go_at_call 169; refine (fail_any g A _ c a' 0 l a 4 (w1.drewN q2) (hn1.drewN q2)).mono ?_; rintro en w3 ⟨rfl, rfl⟩))
      go_ret
      rw [HR.out]
      exact ⟨none, 0, rfl, own_none _ _ _, (hn1.drewN q2).stored a 4 hpl (by omega), hs1.trans ((RStp.drewN _ _ _).trans ((RStp.store _ _ _ _).trans (RStp.store _ _ _ _)))⟩
    · obtain ⟨u, hu⟩ : ∃ u, u = (l.drop a').take v := ⟨_, rfl⟩
      have HR : Hid (R = (a' + v, 0, u)) := by unfold Hid; rw [hr.out, if_neg hsh, hu]
      have hraw : rawS l a' 0 v = (a' + v, 0, u) := by unfold rawS; rw [if_neg (by omega), if_neg (by omega), if_neg hsh, hu]; rfl
      have hraw2 := fun W (hW : Rr 167 W g A l.length c l a' 0) => raw_any g A l.length c a' 0 l v W hW (by omega)
      rw [hraw] at hraw2
      have HRAW := Lib_hid hraw2
      clear hr hraw hraw2 hu
      go_enter Tryz.func174, Tryz.ntmps174
      go_wp2_with (first
        | (go_at_call 200; refine (at_any g A _ c a e l w h).mono ?_; rintro en w1 ⟨rfl, rfl⟩)
        | (go_at_call 107; refine N.mono ?_; rintro en w1 ⟨rfl, hn1, hs1⟩)
        | (go_at_call 96; refine (err_any g A _ c a' 0 l w1 hn1).mono ?_; rintro en w2 ⟨rfl, rfl⟩)
        | (go_at_call 64; refine (left_any g A _ c a' 0 l w1 hn1).mono ?_; rintro en w2 ⟨rfl, q2, rfl⟩)
        | (go_at_call 201; refine (HRAW.out (w1.drewN q2) (hn1.drewN q2)).mono ?_; rintro en w3 ⟨A3, c3, rfl, ho3, hr3, hs3⟩))
      go_ret
      rw [HR.out]
      exact ⟨A3, c3, rfl, own_base ho3 (fun k hk => by have h9 : w1.heap.size ≤ k := own_ge ho3 k hk; have := hs1.size; omega), hr3, hs1.trans ((RStp.drewN _ _ _).trans hs3)⟩
  · have hr : textS l a e = (a, e', []) := by rw [hT, if_pos h0]
    obtain rfl := hea h0
    rw [hr]
    have hz0 : ((e' : Int) != 0) = true := by simpa using h0
    clear hT hS hea hr h0
    go_enter Tryz.func174, Tryz.ntmps174
    go_wp2_with (first
      | (go_at_call 200; refine (at_any g A _ c _ e l w h).mono ?_; rintro en w1 ⟨rfl, rfl⟩)
      | (go_at_call 107; refine N.mono ?_; rintro en w1 ⟨rfl, hn1, hs1⟩)
      | (go_at_call 96; refine (err_any g A _ c _ e' l w1 hn1).mono ?_; rintro en w2 ⟨rfl, rfl⟩))
    go_ret
    exact ⟨none, 0, rfl, own_none _ _ _, hn1, hs1⟩
end Go.Proofs.YtiiiklenhmhccaaGreatDoor

namespace Go.Proofs.YtiiiklenhmhccaaGreatDoor
open Go Go.RowKit
set_option linter.unusedVariables false
def GoodB (e : Nat) (bad : Bool) : Prop := e = 0 ∧ bad = false
def Took {α : Type} (o : Option (α × Nat)) (e : Nat) (bad : Bool) (x : α) (a' e' : Nat) (bad' : Bool) : Prop :=
  (¬ GoodB e bad → ¬ GoodB e' bad') ∧ (GoodB e bad → (o = some (x, a') ∧ GoodB e' bad') ∨ (o = none ∧ ¬ GoodB e' bad'))
section
variable {α β : Type} {o : Option (α × Nat)} {e a' e' a2 e2 : Nat} {bad bad' bad2 : Bool} {x : α} {y : β}
theorem Took.bind {f : α × Nat → Option (β × Nat)} (h : Took o e bad x a' e' bad') (k : Took (f (x, a')) e' bad' y a2 e2 bad2) : Took (o.bind f) e bad y a2 e2 bad2 := by
  refine ⟨fun hn => k.1 (h.1 hn), fun hg => ?_⟩
  rcases h.2 hg with ⟨h1, h2⟩ | ⟨h1, h2⟩
  · rw [h1, Option.bind_some]
    exact k.2 h2
  · rw [h1]
    exact .inr ⟨rfl, k.1 h2⟩
theorem Took.map (f : α → β) {g : α × Nat → β × Nat} (hg : ∀ x r, g (x, r) = (f x, r)) (h : Took o e bad x a' e' bad') : Took (o.map g) e bad (f x) a' e' bad' := by
  refine ⟨h.1, fun hb => ?_⟩
  rcases h.2 hb with ⟨h1, h2⟩ | ⟨h1, h2⟩
  · exact .inl ⟨by rw [h1, Option.map_some, hg], h2⟩
  · exact .inr ⟨by rw [h1]; rfl, h2⟩
end
theorem num_took {l : List Nat} {a e a' e' v : Nat} (h : numR l a e = (a', e', v)) (bad : Bool) : Took (numT l a) e bad v a' e' bad := by
  unfold numR at h
  by_cases he : e = 0
  · subst he
    rw [if_neg (by omega)] at h
    unfold numT
    split at h
    · rename_i hz
      injection h with h1 h2
      injection h2 with h2 h3
      rw [if_neg hz]
      refine ⟨fun hn hg => hn ⟨rfl, hg.2⟩, fun _ => .inr ⟨rfl, fun hg => hz (h2.trans hg.1)⟩⟩
    · rename_i hz
      injection h with h1 h2
      injection h2 with h2 h3
      subst h1 h2 h3
      rw [if_pos (by omega)]
      exact ⟨fun hn => hn, fun hg => .inl ⟨rfl, hg⟩⟩
  · rw [if_pos he] at h
    injection h with h1 h2
    injection h2 with h2 h3
    exact ⟨fun hn hg => he (h2.trans hg.1), fun hg => absurd hg.1 he⟩
def matT (l : List Nat) (a : Nat) : Option (Bool × Nat) := if a < l.length ∧ l.getD a 0 ≤ 1 then some (l.getD a 0 == 1, a + 1) else none
theorem entT_eq (l : List Nat) (a : Nat) : entT l a = (numT l a).bind fun x => (numT l x.2).bind fun y => (numT l y.2).bind fun z => (matT l z.2).map fun m => (⟨x.1, y.1, z.1, m.1⟩, m.2) := by
  unfold entT matT
  congr 1; funext x
  congr 1; funext y
  congr 1; funext z
  split <;> rfl
def verT (l : List Nat) (a : Nat) : Option ((Nat × Nat) × Nat) := (numT l a).bind fun x => (numT l x.2).map fun y => ((x.1, y.1), y.2)
theorem raw_took {l : List Nat} {a e a' e' : Nat} {m : List Nat} (h : rawS l a e 1 = (a', e', m)) (ha : a ≤ l.length) (bad : Bool) :
    (m = [] ∧ ¬ GoodB e' true ∧ Took (matT l a) e bad false a' e' true) ∨ (∃ c, m = [c] ∧ e' = 0 ∧ e = 0 ∧ c = l.getD a 0 ∧ (1 < c → Took (matT l a) e bad false a' e' true) ∧ (c ≤ 1 → Took (matT l a) e bad (c == 1) a' e' bad)) := by
  have hnb : ∀ e', ¬ GoodB e' true := fun e' h => by cases h.2
  unfold rawS at h
  by_cases he : e = 0
  · subst he
    rw [if_neg (by omega), if_neg (by omega)] at h
    by_cases hl : (l.length : Int) - a < 1
    · rw [if_pos hl] at h
      injection h with h1 h2
      injection h2 with h2 h3
      refine .inl ⟨h3.symm, hnb _, fun _ => hnb _, fun _ => .inr ⟨?_, hnb _⟩⟩
      unfold matT
      rw [if_neg (by omega)]
    · rw [if_neg hl] at h
      injection h with h1 h2
      injection h2 with h2 h3
      have hlt : a < l.length := by omega
      have hm : m = [l.getD a 0] := by
        rw [← h3, List.drop_eq_getElem_cons hlt, List.getD_eq_getElem?_getD, List.getElem?_eq_getElem hlt]
        rfl
      refine .inr ⟨l.getD a 0, hm, h2.symm, rfl, rfl, fun hc => ⟨fun _ => hnb _, fun _ => .inr ⟨?_, hnb _⟩⟩, fun hc => ?_⟩
      · unfold matT
        rw [if_neg (by omega)]
      · subst h1 h2
        refine ⟨fun hn => hn, fun hg => .inl ⟨?_, hg⟩⟩
        unfold matT
        rw [if_pos ⟨hlt, hc⟩]
        rfl
  · rw [if_pos he] at h
    injection h with h1 h2
    injection h2 with h2 h3
    exact .inl ⟨h3.symm, hnb _, fun _ => hnb _, fun hg => absurd hg.1 he⟩
theorem text_took {l : List Nat} {a e a' e' : Nat} {m : List Nat} (h : textS l a e = (a', e', m)) (bad : Bool) : Took (txtT l a) e bad m a' e' bad := by
  obtain ⟨⟨p, e1, v⟩, hS⟩ : ∃ x, numR l a e = x := ⟨_, rfl⟩
  have hN := num_took hS bad
  unfold textS at h
  rw [hS] at h
  simp only at h
  by_cases h0 : e1 = 0
  · subst h0
    rw [if_neg (by omega)] at h
    refine hN.bind (f := fun x : Nat × Nat => if (l.length : Int) - x.2 < x.1 then none else some ((l.drop x.2).take x.1, x.2 + x.1)) ?_
    by_cases hl : (l.length : Int) - p < v
    · rw [if_pos hl] at h
      injection h with h1 h2
      injection h2 with h2 h3
      refine ⟨fun hn hg => hn ⟨rfl, hg.2⟩, fun _ => .inr ⟨if_pos hl, fun hg => ?_⟩⟩
      have := h2.trans hg.1
      omega
    · rw [if_neg hl] at h
      injection h with h1 h2
      injection h2 with h2 h3
      subst h1 h2 h3
      exact ⟨fun hn => hn, fun hg => .inl ⟨if_neg hl, hg⟩⟩
  · rw [if_pos h0] at h
    injection h with h1 h2
    injection h2 with h2 h3
    have hb : ¬ GoodB e' bad := fun hg => h0 (h2.trans hg.1)
    refine ⟨fun _ => hb, fun hg => .inr ⟨?_, hb⟩⟩
    rcases hN.2 hg with ⟨_, h5⟩ | ⟨h4, _⟩
    · exact absurd h5.1 h0
    · unfold txtT
      rw [h4]
      rfl
structure PlS (g h : Nat) (A : Option Addr) (n c : Nat) (l : List Nat) (a e : Nat) (bad : Bool) (w : World) : Prop where
  box : w.heap[g]? = some (.cells #[.pointer (some ⟨h, 0, none⟩), .bool bad] 127 (0, 0))
  rd : Rr 167 w h A n c l a e
  lt : h < g
section
variable {g h n c a e : Nat} {A : Option Addr} {l : List Nat} {bad : Bool} {w w' : World}
theorem PlS.gl (p : PlS g h A n c l a e bad w) : g < w.heap.size := lt_of_block p.box
theorem PlS.kept (p : PlS g h A n c l a e bad w) (hb : Below w.heap.size w w') : PlS g h A n c l a e bad w' := ⟨(hb.block g p.gl).trans p.box, p.rd.kept hb, p.lt⟩
theorem PlS.cells (p : PlS g h A n c l a e bad w) : w.cell? ⟨g, 0, none⟩ = some (.pointer (some ⟨h, 0, none⟩)) ∧ w.cell? ⟨g, 1, none⟩ = some (.bool bad) ∧ w.frozen? ⟨g, 0, none⟩ = false ∧ w.frozen? ⟨g, 1, none⟩ = false :=
  ⟨cell_of_row w _ 0 _ _ _ p.box, cell_of_row w _ 1 _ _ _ p.box, frozen_of_row w g 0 _ _ p.box, frozen_of_row w g 1 _ _ p.box⟩
theorem PlS.step {a' e' : Nat} (p : PlS g h A n c l a e bad w) (hr : RLeft h A n c l a' e' w w') : PlS g h A n c l a' e' bad w' := ⟨(hr.2.block g p.gl (by have := p.lt; omega)).trans p.box, hr.1, p.lt⟩
theorem PlS.spoilt (p : PlS g h A n c l a e bad w) (b : Bool) : PlS g h A n c l a e b (w.setCell ⟨g, 1, none⟩ (.bool b)) := by
  have hlt := p.lt
  refine ⟨heap_setCell_same w g 1 _ _ _ p.box, ⟨?_, p.rd.rd.keep fun q hq => World.cell?_setCell_other _ _ _ _ (fun e => ?_), p.rd.nc, p.rd.b8, p.rd.len, p.rd.place, p.rd.err⟩, p.lt⟩
  · exact (heap_setCell_other w ⟨g, 1, none⟩ h _ (by show h ≠ g; omega)).trans p.rd.blk
  · rw [← e] at hq
    have : g < h := hq
    omega
end
theorem RStp.grow2 {w w' : World} {h : Nat} (k : RStp w w' h) (g : Nat) : Grow2 w w' g h := ⟨k.os, k.tape, k.output, k.size, fun i hi _ h2 => k.block i hi h2⟩
end Go.Proofs.YtiiiklenhmhccaaGreatDoor
