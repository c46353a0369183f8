/-
  Contracts of the program's Reader: Raw and Text, for every input.
  Layer 5: the program's words: decimal, joined, next, number.
  Layer 5: the program's words: number.
  Layer 5: the program's words: version.
  Layer 5: the program's words: entry.
-/
import Derived.Test.YtdmoknnnlfkfoaaGreatDoorZpRead
import Derived.Test.YtdmoknnnlfkfoaaGreatDoorZpVpm

namespace Go.Proofs.YtdmoknnnlfkfoaaGreatDoor
open Go Go.RowKit
set_option linter.unusedVariables false
def BPost (g : Nat) (A : Option Addr) (n c : Nat) (l : List Nat) (R : Nat × Nat × List Nat) (w : World) (en : Ending) (w' : World) : Prop :=
  ∃ A' c', en = .returned (.slice A' R.2.2.length c') ∧ w'.ownsRow w.heap.size 5 1 (.slice A' R.2.2.length c') R.2.2.length (bs R.2.2) ∧ RLeft g A n c l R.1 R.2.1 w w'
set_option maxRecDepth 100000 in
set_option maxHeartbeats 800000 in
theorem raw_any (g : Nat) (A : Option Addr) (n c a e : Nat) (l : List Nat) (k : Int) (w : World) (h : Rr 138 w g A n c l a e) (hk64 : -9223372036854775808 ≤ k ∧ k ≤ 9223372036854775807) :
    Calls Tryz.prog 202 #[.pointer (some ⟨g, 0, none⟩), .int .i64 k] w (BPost g A n c l (rawS l a e k) w) := by
  obtain ⟨c0, c1, c2, f0, f1⟩ := h.cells
  have hl := h.rd.count
  have hpl := h.place
  have hlen := h.len
  by_cases h0 : e = 0
  · subst h0
    by_cases hn : k < 0
    · have hs : rawS l a 0 k = (a, 2, []) := by unfold rawS; rw [if_neg (by omega), if_pos hn]
      rw [hs]
      clear hl
      go_enter Tryz.func202, Tryz.ntmps202
      go_wp2_with (go_at_call 60; refine (err_any g A n c a 0 l w h).mono ?_; rintro en w1 ⟨rfl, rfl⟩)
      go_region_held3 (fun W => W.cell? ⟨g, 0, none⟩ = some (.int .i64 (a : Int))) (first | exact c0 | exact hst.cells.1)
        ((first | (go_at_call 174; refine (fail_any g A n c a 0 l a 2 w.drew (h.drewN 1)).mono ?_; rintro en w2 ⟨rfl, rfl⟩; have hst := (h.drewN 1).stored a 2 hpl (by omega))))
      all_goals
        go_wp2
        go_ret
        exact ⟨none, 0, rfl, own_none _ _ _, (h.stored a 2 hpl (by omega)).drewN 1, ((RStp.store _ _ _ _).trans (RStp.store _ _ _ _)).trans (RStp.drewN _ _ 1)⟩
    · obtain ⟨m, rfl⟩ : ∃ m : Nat, k = m := ⟨k.toNat, by omega⟩
      by_cases hk : (l.length : Int) - a < m
      · have hs : rawS l a 0 m = (a, 4, []) := by unfold rawS; rw [if_neg (by omega), if_neg (by omega), if_pos hk]
        rw [hs]
        subst hl
        go_enter Tryz.func202, Tryz.ntmps202
        go_wp2_with (first | (go_at_call 60; refine (err_any g A _ c a 0 l w h).mono ?_; rintro en w1 ⟨rfl, rfl⟩) | (go_at_call 27; refine (left_any g A _ c a 0 l w h).mono ?_; rintro en w1 ⟨rfl, q1, rfl⟩))
        go_region_held3 (fun W => W.cell? ⟨g, 0, none⟩ = some (.int .i64 (a : Int))) (first | exact c0 | exact hst.cells.1)
          ((first | (go_at_call 174; refine (fail_any g A l.length c a 0 l a 4 (w.drewN (q1 + 1)) (h.drewN (q1 + 1))).mono ?_; rintro en w2 ⟨rfl, rfl⟩; have hst := (h.drewN (q1 + 1)).stored a 4 hpl (by omega))))
        all_goals
          go_wp2
          go_ret
          exact ⟨none, 0, rfl, own_none _ _ _, (h.stored a 4 hpl (by omega)).drewN (q1 + 1), ((RStp.store _ _ _ _).trans (RStp.store _ _ _ _)).trans (RStp.drewN _ _ (q1 + 1))⟩
      · obtain ⟨u, hu⟩ : ∃ u, u = (l.drop a).take m := ⟨_, rfl⟩
        have hs : rawS l a 0 m = (a + m, 0, u) := by unfold rawS; rw [if_neg (by omega), if_neg (by omega), if_neg hk, hu]; rfl
        rw [hs]
        subst hl
        have hul : u.length = m := by rw [hu, List.length_take, List.length_drop]; omega
        obtain ⟨A2, hsl, hr2⟩ := slice_lh (j := a) (k := a + m) h.rd (by omega) (by omega) h.nc.1
        rw [← bs_take, ← bs_drop, show (l.take (a + m)).drop a = u by rw [hu, List.take_drop]] at hr2
        rw [show a + m - a = m by omega] at hsl hr2
        have hcast : ((a + m : Nat) : Int) = (a : Int) + (m : Int) := by omega
        have hmv := fun q => (h.drewN q).moved (a + m) (by omega)
        have hmr : ∀ q, Rd ((w.drewN q).setCell ⟨g, 0, none⟩ (.int .i64 ((a : Int) + m))) g 1 A2 m (bs u) := fun q =>
          (hr2.drewNn q).keep fun p hp => World.cell?_setCell_other _ _ _ _ (fun e => by rw [← e] at hp; simp at hp)
        have hms := fun q => (RStp.drewN w g q).trans (RStp.store (w.drewN q) g 0 (.int .i64 ((a : Int) + m)))
        rw [hcast] at hsl hmv
        have HUL := Lib_hid hul
        have HMV := Lib_hid hmv
        have HMR := Lib_hid hmr
        have HMS := Lib_hid hms
        clear hu hs hr2 hul hcast hmv hmr hms
        go_enter Tryz.func202, Tryz.ntmps202
        go_wp2_with (first | (go_at_call 60; refine (err_any g A _ c a 0 l w h).mono ?_; rintro en w1 ⟨rfl, rfl⟩) | (go_at_call 27; refine (left_any g A _ c a 0 l w h).mono ?_; rintro en w1 ⟨rfl, q1, rfl⟩))
        obtain ⟨W1, hW1⟩ : ∃ W1, W1 = (w.drewN q1).setCell ⟨g, 0, none⟩ (.int .i64 ((a : Int) + m)) := ⟨_, rfl⟩
        have R1 : Rr 138 W1 g A l.length c l (a + m) 0 := by rw [hW1]; exact HMV.out q1
        have R2 : Rd W1 g 1 A2 m (bs u) := by rw [hW1]; exact HMR.out q1
        have R3 : RStp w W1 g := by rw [hW1]; exact HMS.out q1
        rw [← hW1]
        clear hW1 HMV HMR HMS
        obtain ⟨d0, d1, d2, _, _⟩ := R1.cells
        rw [Int.natCast_add] at d0
        have hgl := R1.lt
        go_region_held3 (fun W => W.cell? ⟨g, 0, none⟩ = some (.int .i64 ((a : Int) + m)) ∧ W.cell? ⟨g, 2, none⟩ = some (.slice A l.length c)) (first | exact ⟨d0, d2⟩ | exact ⟨e0, e2⟩)
          ((first | (go_at_call 58; refine (clone_any g A2 m _ u W1.drew (R2.drewNn 1) (by omega) (by simp; omega)).mono ?_; rintro en w2 ⟨A3, c3, rfl, ho3, hb3⟩; have hR4 := (R1.drewN 1).kept hb3; obtain ⟨e0, _, e2, _, _⟩ := hR4.cells; rw [Int.natCast_add] at e0)))
        all_goals
          go_wp2
          go_ret
          exact ⟨A3, c3, rfl, own_base ho3 (fun k hk => by have h9 : W1.heap.size ≤ k := own_ge ho3 k hk; have := R3.size; omega), hR4, R3.trans ((RStp.drewN W1 g 1).trans (RStp.of hb3 g))⟩
  · have h0' : ((e : Int) != 0) = true := by simpa using h0
    have hs : rawS l a e k = (a, e, []) := by unfold rawS; rw [if_pos h0]
    rw [hs]
    clear hl
    go_enter Tryz.func202, Tryz.ntmps202
    go_wp2_with (go_at_call 60; refine (err_any g A n c a e l w h).mono ?_; rintro en w1 ⟨rfl, rfl⟩)
    go_ret
    exact ⟨none, 0, rfl, own_none _ _ _, h, RStp.refl _ _⟩
theorem numR_err {l : List Nat} {a e a' e' v : Nat} (h : numR l a e = (a', e', v)) (he : e' ≠ 0) : a' = a := by
  unfold numR at h
  split at h
  · simp only [Prod.mk.injEq] at h; omega
  · split at h <;> (simp only [Prod.mk.injEq] at h; omega)
set_option maxRecDepth 100000 in
set_option maxHeartbeats 800000 in
theorem text_any (g : Nat) (A : Option Addr) (n c a e : Nat) (l : List Nat) (w : World) (h : Rr 138 w g A n c l a e) :
    Calls Tryz.prog 179 #[.pointer (some ⟨g, 0, none⟩)] w (BPost g A n c l (textS l a e) w) := by
  obtain ⟨⟨a', e', v⟩, hS⟩ : ∃ x, numR l a e = x := ⟨_, rfl⟩
  obtain ⟨hle, hee, hv⟩ := numR_le h.b8 h.place h.err hS
  have hT : textS l a e = if e' ≠ 0 then (a, e', []) else if (l.length : Int) - a' < v then (a, 4, []) else (a' + v, 0, (l.drop a').take v) := by unfold textS; rw [hS]
  have N := number_any g A n c a e l w h a' e' v hS
  have hea := numR_err hS
  have hl := h.rd.count
  have hlen := h.len
  have hpl := h.place
  subst hl
  by_cases h0 : e' = 0
  · subst h0
    have hr : Hid (textS l a e = if (l.length : Int) - a' < v then (a, 4, []) else (a' + v, 0, (l.drop a').take v)) := by unfold Hid; rw [hT, if_neg (by omega)]
    clear hT hS hea
    obtain ⟨R, hR⟩ : ∃ R, R = textS l a e := ⟨_, rfl⟩
    rw [← hR] at hr ⊢
    clear hR
    have hwr : IntKind.u64.wrap ((l.length : Int) - (a' : Int)) = (l.length : Int) - (a' : Int) := IntWalk.u64_in _ (by omega)
    by_cases hsh : (l.length : Int) - a' < v
    · have HR : Hid (R = (a, 4, [])) := by unfold Hid; rw [hr.out, if_pos hsh]
      clear hr
      go_enter Tryz.func179, Tryz.ntmps179
      go_wp2_with (first
        | (go_at_call 201; refine (at_any g A _ c a e l w h).mono ?_; rintro en w1 ⟨rfl, rfl⟩)
        | (go_at_call 110; refine N.mono ?_; rintro en w1 ⟨rfl, hn1, hs1⟩)
        | (go_at_call 60; refine (err_any g A _ c a' 0 l w1 hn1).mono ?_; rintro en w2 ⟨rfl, rfl⟩)
        | (go_at_call 27; refine (left_any g A _ c a' 0 l w1 hn1).mono ?_; rintro en w2 ⟨rfl, q2, rfl⟩)
        | (go_at_call 174; refine (fail_any g A _ c a' 0 l a 4 (w1.drewN q2) (hn1.drewN q2)).mono ?_; rintro en w3 ⟨rfl, rfl⟩))
      go_ret
      rw [HR.out]
      exact ⟨none, 0, rfl, own_none _ _ _, (hn1.drewN q2).stored a 4 hpl (by omega), hs1.trans ((RStp.drewN _ _ _).trans ((RStp.store _ _ _ _).trans (RStp.store _ _ _ _)))⟩
    · obtain ⟨u, hu⟩ : ∃ u, u = (l.drop a').take v := ⟨_, rfl⟩
      have HR : Hid (R = (a' + v, 0, u)) := by unfold Hid; rw [hr.out, if_neg hsh, hu]
      have hraw : rawS l a' 0 v = (a' + v, 0, u) := by unfold rawS; rw [if_neg (by omega), if_neg (by omega), if_neg hsh, hu]; rfl
      have hraw2 := fun W (hW : Rr 138 W g A l.length c l a' 0) => raw_any g A l.length c a' 0 l v W hW (by omega)
      rw [hraw] at hraw2
      have HRAW := Lib_hid hraw2
      clear hr hraw hraw2 hu
      go_enter Tryz.func179, Tryz.ntmps179
      go_wp2_with (first
        | (go_at_call 201; refine (at_any g A _ c a e l w h).mono ?_; rintro en w1 ⟨rfl, rfl⟩)
        | (go_at_call 110; refine N.mono ?_; rintro en w1 ⟨rfl, hn1, hs1⟩)
        | (go_at_call 60; refine (err_any g A _ c a' 0 l w1 hn1).mono ?_; rintro en w2 ⟨rfl, rfl⟩)
        | (go_at_call 27; refine (left_any g A _ c a' 0 l w1 hn1).mono ?_; rintro en w2 ⟨rfl, q2, rfl⟩)
        | (go_at_call 202; refine (HRAW.out (w1.drewN q2) (hn1.drewN q2)).mono ?_; rintro en w3 ⟨A3, c3, rfl, ho3, hr3, hs3⟩))
      go_ret
      rw [HR.out]
      exact ⟨A3, c3, rfl, own_base ho3 (fun k hk => by have h9 : w1.heap.size ≤ k := own_ge ho3 k hk; have := hs1.size; omega), hr3, hs1.trans ((RStp.drewN _ _ _).trans hs3)⟩
  · have hr : textS l a e = (a, e', []) := by rw [hT, if_pos h0]
    obtain rfl := hea h0
    rw [hr]
    have hz0 : ((e' : Int) != 0) = true := by simpa using h0
    clear hT hS hea hr h0
    go_enter Tryz.func179, Tryz.ntmps179
    go_wp2_with (first
      | (go_at_call 201; refine (at_any g A _ c _ e l w h).mono ?_; rintro en w1 ⟨rfl, rfl⟩)
      | (go_at_call 110; refine N.mono ?_; rintro en w1 ⟨rfl, hn1, hs1⟩)
      | (go_at_call 60; refine (err_any g A _ c _ e' l w1 hn1).mono ?_; rintro en w2 ⟨rfl, rfl⟩))
    go_ret
    exact ⟨none, 0, rfl, own_none _ _ _, hn1, hs1⟩
end Go.Proofs.YtdmoknnnlfkfoaaGreatDoor

namespace Go.Proofs.YtdmoknnnlfkfoaaGreatDoor
open Go Go.RowKit
set_option linter.unusedVariables false
def EnvM (B : Nat) (w : World) : Prop := Env B w ∧ 0 < B ∧ ∃ m : Int, w.cell? ⟨0, 0, none⟩ = some (.int .i64 m)
theorem EnvM.under {B B' : Nat} {w w' : World} (h : EnvM B w) (hb : Below B' w w') (hB : B ≤ B') : EnvM B w' :=
  ⟨h.1.under hb hB, h.2.1, by obtain ⟨m, hm⟩ := h.2.2; exact ⟨m, (hb.cell (p := ⟨0, 0, none⟩) (by have := h.2.1; show 0 < B'; omega)).trans hm⟩⟩
theorem decimal_any (B u : Nat) (hu : u < 18446744073709551616) (w : World) (hE : Env B w) : Calls Tryz.prog 75 #[.int .u64 (u : Int)] w fun e w' => e = .returned (.string ⟨(Lib.decDigits u).toArray⟩) ∧ Below w.heap.size w w' := by
  have F := Lib_hid (fmt_any B u hu w hE)
  generalize Lib.decDigits u = d at *
  clear hE
  go_enter Tryz.func75, Tryz.ntmps75
  go_wp2_with fail
  refine F.out.mono ?_
  rintro e w1 ⟨rfl, hb⟩
  go_wp2
  go_ret
  exact ⟨rfl, hb⟩
def WdC (s : List UInt8) (bad : Bool) : Obj := .cells #[.string ⟨s.toArray⟩, .bool bad] 122 (0, 0)
theorem restW_len (l : List UInt8) : (restW l).length ≤ l.length := by
  unfold restW Lib.trimPrefix
  split
  · simp
  · exact Nat.le_refl _
theorem wordW_len (l : List UInt8) : (wordW l).length ≤ (restW l).length := (ahead_len 32 (restW l)).1
set_option maxRecDepth 100000 in
set_option maxHeartbeats 1600000 in
theorem next_any (B g : Nat) (s : List UInt8) (bad : Bool) (w : World) (hg : w.heap[g]? = some (WdC s bad)) (hE : EnvM B w) (hl : s.length ≤ 1000000) :
    Calls Tryz.prog 114 #[.pointer (some ⟨g, 0, none⟩)] w fun e w' => e = .returned (.string ⟨(wordW s).toArray⟩) ∧ w'.heap[g]? = some (WdC (leftW s) bad) ∧ w.grownBy w' (some g) := by
  obtain ⟨m, hm⟩ := hE.2.2
  have T := Lib_hid (Tryz.strings_TrimPrefix ⟨s.toArray⟩ ⟨#[32]⟩ w)
  have hrl := restW_len s
  have C := Lib_hid (Tryz.strings_Cut ⟨(restW s).toArray⟩ ⟨#[32]⟩ m w (by show (restW s).toArray.size < _; simp; omega) hm)
  have e1 : (Lib.cut (restW s) [32]).1 = wordW s := (cut_one 32 (restW s)).1
  have hT : (⟨(Lib.trimPrefix (⟨s.toArray⟩ : ByteArray).data.toList (⟨#[32]⟩ : ByteArray).data.toList).toArray⟩ : ByteArray) = ⟨(restW s).toArray⟩ := rfl
  have hC : (⟨(Lib.cut (⟨(restW s).toArray⟩ : ByteArray).data.toList (⟨#[32]⟩ : ByteArray).data.toList).1.toArray⟩ : ByteArray) = ⟨(wordW s).toArray⟩ := by rw [← e1]
  have hwl := wordW_len s
  have hsl : ∀ W, (Instr.slice 9 (.string ⟨(restW s).toArray⟩) (some (.int .i64 ((wordW s).length : Int))) none none).run Tryz.prog W = .ok (.string ⟨(leftW s).toArray⟩) W := fun W => sl_drop (restW s) (wordW s).length hwl W
  have hsz : (⟨(wordW s).toArray⟩ : ByteArray).size = (wordW s).length := by simp [ByteArray.size]
  have c0 := cell_of_row _ _ 0 _ _ _ hg
  have z0 := frozen_of_row _ _ 0 _ _ hg
  have HG := Lib_hid hg
  rw [hT] at T
  rw [hC] at C
  generalize (Lib.cut (⟨(restW s).toArray⟩ : ByteArray).data.toList (⟨#[32]⟩ : ByteArray).data.toList).2.1.toArray = c1 at *
  generalize (Lib.cut (⟨(restW s).toArray⟩ : ByteArray).data.toList (⟨#[32]⟩ : ByteArray).data.toList).2.2 = c2 at *
  generalize (⟨(restW s).toArray⟩ : ByteArray) = rs at *
  have FIN : Hid (∀ q, ((w.drewN q).setCell ⟨g, 0, none⟩ (.string ⟨(leftW s).toArray⟩)).heap[g]? = some (WdC (leftW s) bad) ∧ w.grownBy ((w.drewN q).setCell ⟨g, 0, none⟩ (.string ⟨(leftW s).toArray⟩)) (some g)) := fun q => by
    refine ⟨?_, ⟨rfl, rfl, rfl, by simp, fun k _ hne => heap_setCell_other (w.drewN q) ⟨g, 0, none⟩ k _ (fun e => hne (by rw [e]))⟩⟩
    rw [heap_setCell_same (w.drewN q) g 0 _ _ _ HG.out]
    rfl
  generalize (⟨(leftW s).toArray⟩ : ByteArray) = lf at *
  generalize (wordW s).length = n at *
  generalize (⟨(wordW s).toArray⟩ : ByteArray) = wd at *
  clear hE hm hg hT hC e1 hrl hwl
  go_enter Tryz.func114, Tryz.ntmps114
  go_wp2_with fail
  refine T.out.mono ?_
  rintro e w1 ⟨rfl, rfl⟩
  go_wp2_with fail
  refine C.out.mono ?_
  rintro e w2 ⟨rfl, q, rfl⟩
  have F := Lib_hid (FIN.out q)
  clear T C FIN
  go_wp2
  go_ret
  exact ⟨rfl, F.out.1, F.out.2⟩
end Go.Proofs.YtdmoknnnlfkfoaaGreatDoor

namespace Go.Proofs.YtdmoknnnlfkfoaaGreatDoor
open Go Go.RowKit
set_option linter.unusedVariables false
def NumEnd5 (x s : List UInt8) (bad : Bool) (g : Nat) (w : World) (e : Ending) (w' : World) : Prop :=
  w.grownBy w' (some g) ∧ ((∃ v, numW x = some v ∧ e = .returned (.int .u64 (v : Int)) ∧ w'.heap[g]? = some (WdC s bad)) ∨ (numW x = none ∧ e = .returned (.int .u64 0) ∧ w'.heap[g]? = some (WdC s true)))
theorem numW_ok {s : List UInt8} {u : Nat} (h : Lib.parseUintB 64 s = .ok u) : numW s = if Lib.decDigits u = s then some u else none := by
  unfold numW; rw [h]
theorem numW_bad {s : List UInt8} (h : ∀ u, Lib.parseUintB 64 s ≠ .ok u) : numW s = none := by
  unfold numW
  split
  · rename_i u hu; exact absurd hu (h u)
  · rfl
set_option maxRecDepth 100000 in
set_option maxHeartbeats 1600000 in
theorem number5_any (B g : Nat) (x s : List UInt8) (bad : Bool) (w : World) (hg : w.heap[g]? = some (WdC s bad)) (hE : EnvM B w) (hB : B ≤ g) (hl : x.length ≤ 1000000) :
    Calls Tryz.prog 113 #[.pointer (some ⟨g, 0, none⟩), .string ⟨x.toArray⟩] w (NumEnd5 x s bad g w) := by
  have hgl := (Array.getElem?_eq_some_iff.1 hg).1
  have HPA := Lib_hid (parse_any B x hl w hE.1)
  have HFM : Hid (∀ (W : World) (u : Nat), Below w.heap.size w W → u < 18446744073709551616 → Calls Tryz.prog 75 #[.int .u64 (u : Int)] W fun e w' => e = .returned (.string ⟨(Lib.decDigits u).toArray⟩) ∧ Below W.heap.size W w') := fun W u h hu => decimal_any B u hu W (hE.1.under h (by omega))
  have HOK : Hid (∀ u, Lib.parseUintB 64 x = .ok u → numW x = if Lib.decDigits u = x then some u else none) := fun u h => numW_ok h
  have HBD : Hid ((∀ u, Lib.parseUintB 64 x ≠ .ok u) → numW x = none) := fun h => numW_bad h
  have HLT : Hid (∀ u, Lib.parseUintB 64 x = .ok u → u < 18446744073709551616) := fun u h => by have := Lib.parseUintB_le h; omega
  have HNE : Hid (∀ (w' : World) (e : Ending), w.grownBy w' (some g) → ((∃ v, numW x = some v ∧ e = .returned (.int .u64 (v : Int)) ∧ w'.heap[g]? = some (WdC s bad)) ∨ (numW x = none ∧ e = .returned (.int .u64 0) ∧ w'.heap[g]? = some (WdC s true))) → NumEnd5 x s bad g w e w') := fun w' e h1 h2 => ⟨h1, h2⟩
  clear hE
  generalize hnm : numW x = nm at *
  clear hnm
  go_enter Tryz.func113, Tryz.ntmps113
  go_wp2_with fail
  refine HPA.out.mono ?_
  rintro e w2 ⟨hb2, hr⟩
  have hg2 := (hb2.block g hgl).trans hg
  rcases hr with ⟨u, hu, rfl⟩ | ⟨hu, y, N, rfl⟩
  · have hF := HFM.out w2 u hb2 (HLT.out u hu)
    have hN2 := HOK.out u hu
    go_wp2_with fail
    refine hF.mono ?_
    rintro e w3 ⟨rfl, hb3⟩
    have hb3w := hb2.trans (hb3.mono hb2.size)
    have hg3 := (hb3w.block g hgl).trans hg
    have c1 := cell_of_row w3 _ 1 _ _ _ hg3
    have z1 := frozen_of_row w3 g 1 _ _ hg3
    simp at c1
    have hgr := grow_below hb3w (some g)
    have HB2 : Hid ((w3.setCell ⟨g, 1, none⟩ (.bool true)).heap[g]? = some (WdC s true)) := Joins.block_setCell (i := 1) hg3 _
    generalize hdd : Lib.decDigits u = dd at *
    by_cases hq : dd = x
    · have hqb : (dd == x) = true := by simp [hq]
      have HX : Hid (NumEnd5 x s bad g w (.returned (.int .u64 (u : Int))) w3) := HNE.out _ _ hgr (.inl ⟨u, by rw [hN2, if_pos hq], rfl, hg3⟩)
      subst hq
      clear hqb hN2 hF
      go_wp2_with fail
      go_ret
      exact HX.out
    · have hqb : (dd == x) = false := by simp [hq]
      have HX : Hid (NumEnd5 x s bad g w (.returned (.int .u64 0)) (w3.setCell ⟨g, 1, none⟩ (.bool true))) := HNE.out _ _ (hgr.trans (grow_set w3 g 1 _)) (.inr ⟨by rw [hN2, if_neg hq], rfl, HB2.out⟩)
      clear hN2 hF
      go_wp2_with fail
      go_ret
      exact HX.out
  · have hN2 := HBD.out hu
    have c1 := cell_of_row w2 _ 1 _ _ _ hg2
    have z1 := frozen_of_row w2 g 1 _ _ hg2
    simp at c1
    have hgr := grow_below hb2 (some g)
    have HB2 : Hid ((w2.setCell ⟨g, 1, none⟩ (.bool true)).heap[g]? = some (WdC s true)) := Joins.block_setCell (i := 1) hg2 _
    have HX : Hid (NumEnd5 x s bad g w (.returned (.int .u64 0)) (w2.setCell ⟨g, 1, none⟩ (.bool true))) := HNE.out _ _ (hgr.trans (grow_set w2 g 1 _)) (.inr ⟨hN2, rfl, HB2.out⟩)
    clear hN2 hu
    go_wp2_with fail
    go_ret
    exact HX.out
end Go.Proofs.YtdmoknnnlfkfoaaGreatDoor

namespace Go.Proofs.YtdmoknnnlfkfoaaGreatDoor
open Go Go.RowKit
set_option linter.unusedVariables false
def VerEnd5 (x s : List UInt8) (bad : Bool) (g : Nat) (w : World) (e : Ending) (w' : World) : Prop :=
  w.grownBy w' (some g) ∧ ∃ a b : Nat, e = .returned (.agg #[.int .u64 (a : Int), .int .u64 (b : Int)]) ∧ a < 18446744073709551616 ∧ b < 18446744073709551616 ∧
    ((verW x = some (a, b) ∧ w'.heap[g]? = some (WdC s bad)) ∨ (verW x = none ∧ w'.heap[g]? = some (WdC s true)))
theorem NumEnd5.get {x s : List UInt8} {bad : Bool} {g : Nat} {w w' : World} {e : Ending} (h : NumEnd5 x s bad g w e w') :
    ∃ (a : Nat) (bad' : Bool), e = .returned (.int .u64 (a : Int)) ∧ a < 18446744073709551616 ∧ w.grownBy w' (some g) ∧ w'.heap[g]? = some (WdC s bad') ∧ ((numW x = some a ∧ bad' = bad) ∨ (numW x = none ∧ bad' = true)) := by
  obtain ⟨h1, h2⟩ := h
  rcases h2 with ⟨v, e1, e2, e3⟩ | ⟨e1, e2, e3⟩
  · exact ⟨v, bad, e2, (numW_lt e1).1, h1, e3, .inl ⟨e1, rfl⟩⟩
  · exact ⟨0, true, e2, by decide, h1, e3, .inr ⟨e1, rfl⟩⟩
set_option maxRecDepth 100000 in
set_option maxHeartbeats 1600000 in
theorem version5_any (B g : Nat) (x s : List UInt8) (bad : Bool) (w : World) (hg : w.heap[g]? = some (WdC s bad)) (hE : EnvM B w) (hB : B ≤ g) (hl : x.length ≤ 1000000) :
    Calls Tryz.prog 128 #[.pointer (some ⟨g, 0, none⟩), .string ⟨x.toArray⟩] w (VerEnd5 x s bad g w) := by
  have hsz : (Tryz.prog.info? 41).map (·.size) = some 2 := by kernel_rfl
  have hgl := (Array.getElem?_eq_some_iff.1 hg).1
  obtain ⟨w1, hw1⟩ : ∃ w1, w1 = w.alloc (.cells #[.int .u64 0, .int .u64 0] 41) := ⟨_, rfl⟩
  have hx1 := heap_alloc_new w (.cells #[.int .u64 0, .int .u64 0] 41)
  have hb1 := below_new w (.cells #[.int .u64 0, .int .u64 0] 41)
  rw [← hw1] at hx1 hb1
  have hE1 : EnvM B w1 := hE.under hb1 (by omega)
  obtain ⟨m, hm⟩ := hE1.2.2
  have hlen := ahead_len 46 x
  have C := Lib_hid (Tryz.strings_Cut ⟨x.toArray⟩ ⟨#[46]⟩ m w1 (by show x.toArray.size < _; simp; omega) hm)
  obtain ⟨e1, e2⟩ := cut_one 46 x
  have hC1 : (⟨(Lib.cut (⟨x.toArray⟩ : ByteArray).data.toList (⟨#[46]⟩ : ByteArray).data.toList).1.toArray⟩ : ByteArray) = ⟨(ahead 46 x).toArray⟩ := by rw [← e1]
  have hC2 : (⟨(Lib.cut (⟨x.toArray⟩ : ByteArray).data.toList (⟨#[46]⟩ : ByteArray).data.toList).2.1.toArray⟩ : ByteArray) = ⟨(behind 46 x).toArray⟩ := by rw [← e2]
  rw [hC1, hC2] at C
  generalize (Lib.cut (⟨x.toArray⟩ : ByteArray).data.toList (⟨#[46]⟩ : ByteArray).data.toList).2.2 = c2 at *
  have N1 : Hid (∀ q, Calls Tryz.prog 113 #[.pointer (some ⟨g, 0, none⟩), .string ⟨(ahead 46 x).toArray⟩] (w1.drewN q) (NumEnd5 (ahead 46 x) s bad g (w1.drewN q))) := fun q =>
    number5_any B g (ahead 46 x) s bad (w1.drewN q) ((hb1.block g hgl).trans hg) (hE1.under (below_drew_ (Below.refl B w1)) (Nat.le_refl _)) hB (by omega)
  have N2 : Hid (∀ (W : World) (bad' : Bool), w1.grownBy W (some g) → W.heap[g]? = some (WdC s bad') → Calls Tryz.prog 113 #[.pointer (some ⟨g, 0, none⟩), .string ⟨(behind 46 x).toArray⟩] W (NumEnd5 (behind 46 x) s bad' g W)) := fun W bad' hW hgW =>
    number5_any B g (behind 46 x) s bad' W hgW (hE1.under (B' := B) ((Below.refl B w1).grown hW (by have := hb1.size; omega) (fun k hk => by injection hk with hk; omega)) (Nat.le_refl _)) hB (by omega)
  have HV : Hid (verW x = match numW (ahead 46 x), numW (behind 46 x) with | some a, some b => some (a, b) | _, _ => none) := rfl
  have HW := Lib_hid hw1
  have HX := Lib_hid (And.intro hx1 hb1)
  clear hE hE1 hm hC1 hC2 e1 e2 hlen hw1 hx1 hb1
  go_enter Tryz.func128, Tryz.ntmps128
  go_wp2_with fail
  rw [← HW.out]
  refine C.out.mono ?_
  rintro e w2 ⟨rfl, q, rfl⟩
  go_wp2_with fail
  refine (N1.out q).mono ?_
  intro e w3 h3
  obtain ⟨a, bad1, rfl, ha, hg3, hx3, hc3⟩ := h3.get
  have hg3' : w1.grownBy w3 (some g) := ⟨hg3.os, hg3.tape, hg3.output, hg3.size, hg3.block⟩
  clear h3 hg3
  go_wp2_with fail
  refine (N2.out w3 bad1 hg3' hx3).mono ?_
  intro e w4 h4
  obtain ⟨b, bad2, rfl, hb, hg4, hx4, hc4⟩ := h4.get
  have hgr : w1.grownBy w4 (some g) := hg3'.trans hg4
  have hs1 : w.heap.size < w1.heap.size := (Array.getElem?_eq_some_iff.1 HX.out.1).1
  have hr := (hgr.block w.heap.size hs1 (fun e => by injection e with e; omega)).trans HX.out.1
  have d0 := cell_of_row w4 _ 0 _ _ _ hr
  have d1 := cell_of_row w4 _ 1 _ _ _ hr
  have z0 := frozen_of_row w4 _ 0 _ _ hr
  have z1 := frozen_of_row w4 _ 1 _ _ hr
  have FIN : Hid (VerEnd5 x s bad g w (.returned (.agg #[.int .u64 (a : Int), .int .u64 (b : Int)])) ((w4.setCell ⟨w.heap.size, 0, none⟩ (.int .u64 (a : Int))).setCell ⟨w.heap.size, 1, none⟩ (.int .u64 (b : Int)))) := by
    have hbl : ∀ k, k ≠ w.heap.size → ((w4.setCell ⟨w.heap.size, 0, none⟩ (.int .u64 (a : Int))).setCell ⟨w.heap.size, 1, none⟩ (.int .u64 (b : Int))).heap[k]? = w4.heap[k]? := fun k hk => (heap_setCell_other _ _ _ _ hk).trans (heap_setCell_other _ _ _ _ hk)
    refine ⟨⟨hgr.os.trans HX.out.2.os, hgr.tape.trans HX.out.2.tape, hgr.output.trans HX.out.2.output, by have := HX.out.2.size; have := hgr.size; simp; omega, fun k hk hne => (hbl k (by omega)).trans ((hgr.block k (by omega) hne).trans (HX.out.2.block k hk))⟩, a, b, rfl, ha, hb, ?_⟩
    rw [hbl g (by omega), HV.out]
    rcases hc3 with ⟨h1, rfl⟩ | ⟨h1, rfl⟩
    · rcases hc4 with ⟨h2, rfl⟩ | ⟨h2, rfl⟩
      · rw [h1, h2]; exact .inl ⟨rfl, hx4⟩
      · rw [h1, h2]; exact .inr ⟨rfl, hx4⟩
    · rcases hc4 with ⟨h2, rfl⟩ | ⟨h2, rfl⟩
      · rw [h1]; exact .inr ⟨rfl, hx4⟩
      · rw [h1]; exact .inr ⟨rfl, hx4⟩
  have hh : ((w4.setCell ⟨w.heap.size, 0, none⟩ (.int .u64 (a : Int))).setCell ⟨w.heap.size, 1, none⟩ (.int .u64 (b : Int))).heap[w.heap.size]? = some (.cells #[.int .u64 (a : Int), .int .u64 (b : Int)] 41 (0, 0)) := heap_setCell_same _ w.heap.size 1 _ _ _ (heap_setCell_same w4 w.heap.size 0 _ _ _ hr)
  have HH := Lib_hid hh
  clear hh hr hgr hg3' hg4 hx3 hx4 hc3 hc4 h4 N1 N2 C
  go_wp2
  exact bodyPost_ret (results_cell_row (p := 4) (ty := 41) rfl _ _ w.heap.size 41 #[.int .u64 (a : Int), .int .u64 (b : Int)] (0, 0) _ rfl HH.out Tryz.underlying41 rfl hsz) rfl FIN.out
end Go.Proofs.YtdmoknnnlfkfoaaGreatDoor

namespace Go.Proofs.YtdmoknnnlfkfoaaGreatDoor
open Go Go.RowKit
set_option linter.unusedVariables false
def EntEnd5 (x s : List UInt8) (bad : Bool) (g : Nat) (w : World) (e : Ending) (w' : World) : Prop :=
  w.grownBy w' (some g) ∧ ∃ en : En, e = .returned en.val ∧ en.ok ∧ ((enW x = some en ∧ w'.heap[g]? = some (WdC s bad)) ∨ (enW x = none ∧ w'.heap[g]? = some (WdC s true)))
set_option maxRecDepth 100000 in
set_option maxHeartbeats 1600000 in
theorem entry5_any (B g : Nat) (x s : List UInt8) (bad : Bool) (w : World) (hg : w.heap[g]? = some (WdC s bad)) (hE : EnvM B w) (hB : B ≤ g) (hl : x.length ≤ 1000000) :
    Calls Tryz.prog 185 #[.pointer (some ⟨g, 0, none⟩), .string ⟨x.toArray⟩] w (EntEnd5 x s bad g w) := by
  have hsz : (Tryz.prog.info? 67).map (·.size) = some 4 := by kernel_rfl
  have hgl := (Array.getElem?_eq_some_iff.1 hg).1
  obtain ⟨w1, hw1⟩ : ∃ w1, w1 = w.alloc (.cells #[.int .u64 0, .int .u64 0, .int .u64 0, .bool false] 67) := ⟨_, rfl⟩
  have hx1 := heap_alloc_new w (.cells #[.int .u64 0, .int .u64 0, .int .u64 0, .bool false] 67)
  have hb1 := below_new w (.cells #[.int .u64 0, .int .u64 0, .int .u64 0, .bool false] 67)
  rw [← hw1] at hx1 hb1
  have hE1 : EnvM B w1 := hE.under hb1 (by omega)
  have hs1 : w.heap.size < w1.heap.size := (Array.getElem?_eq_some_iff.1 hx1).1
  have hlen := ahead_len 58 x
  have hlen2 := ahead_len 58 (behind 58 x)
  have CT : ∀ (y : List UInt8) (q : Nat), y.length ≤ 1000000 → Calls Tryz.prog 52 #[.string ⟨y.toArray⟩, .string ⟨#[58]⟩] (w1.drewN q) fun e w' => (∃ c2, e = .returned (.tuple #[.string ⟨(ahead 58 y).toArray⟩, .string ⟨(behind 58 y).toArray⟩, .bool c2])) ∧ ∃ n, w' = w1.drewN n := fun y q hy => by
    obtain ⟨m, hm⟩ := (hE1.under (below_drew_ (Below.refl B w1) : Below B w1 (w1.drewN q)) (Nat.le_refl _)).2.2
    refine (Tryz.strings_Cut ⟨y.toArray⟩ ⟨#[58]⟩ m (w1.drewN q) (by show y.toArray.size < _; simp; omega) hm).mono ?_
    rintro e w' ⟨rfl, n, rfl⟩
    obtain ⟨e1, e2⟩ := cut_one 58 y
    refine ⟨⟨(Lib.cut y [58]).2.2, ?_⟩, q + n, by simp [World.drewN, Nat.add_assoc]⟩
    show Ending.returned (.tuple #[.string ⟨(Lib.cut y [58]).1.toArray⟩, .string ⟨(Lib.cut y [58]).2.1.toArray⟩, .bool (Lib.cut y [58]).2.2]) = _
    rw [e1, e2]
  have C1 := Lib_hid (CT x 0 hl)
  have C2 := Lib_hid (fun q => CT (behind 58 x) q (by omega))
  have N1 : Hid (∀ (W : World) (bad' : Bool), w1.grownBy W (some g) → W.heap[g]? = some (WdC s bad') → Calls Tryz.prog 113 #[.pointer (some ⟨g, 0, none⟩), .string ⟨(ahead 58 x).toArray⟩] W (NumEnd5 (ahead 58 x) s bad' g W)) := fun W bad' hW hgW =>
    number5_any B g (ahead 58 x) s bad' W hgW (hE1.under (B' := B) ((Below.refl B w1).grown hW (by omega) (fun k hk => by injection hk with hk; omega)) (Nat.le_refl _)) hB (by omega)
  have N2 : Hid (∀ (W : World) (bad' : Bool), w1.grownBy W (some g) → W.heap[g]? = some (WdC s bad') → Calls Tryz.prog 128 #[.pointer (some ⟨g, 0, none⟩), .string ⟨(ahead 58 (behind 58 x)).toArray⟩] W (VerEnd5 (ahead 58 (behind 58 x)) s bad' g W)) := fun W bad' hW hgW =>
    version5_any B g (ahead 58 (behind 58 x)) s bad' W hgW (hE1.under (B' := B) ((Below.refl B w1).grown hW (by omega) (fun k hk => by injection hk with hk; omega)) (Nat.le_refl _)) hB (by omega)
  have HV : Hid (enW x = match numW (ahead 58 x), verW (ahead 58 (behind 58 x)) with | some x', some (a, b) => if behind 58 (behind 58 x) = [49] then some ⟨x', a, b, true⟩ else if behind 58 (behind 58 x) = [48] then some ⟨x', a, b, false⟩ else none | _, _ => none) := rfl
  have HW := Lib_hid hw1
  have HX := Lib_hid (And.intro hx1 hb1)
  have HG1 := Lib_hid ((hb1.block g hgl).trans hg)
  clear hE hE1 hlen hlen2 hw1 hx1 hb1 CT
  generalize hM : behind 58 (behind 58 x) = M at *
  have hc3 : M = [49] ∨ M = [48] ∨ (M ≠ [49] ∧ M ≠ [48]) := by
    by_cases h1 : M = [49]
    · exact .inl h1
    · by_cases h2 : M = [48]
      · exact .inr (.inl h2)
      · exact .inr (.inr ⟨h1, h2⟩)
  rcases hc3 with h1 | h1 | ⟨h1, h2⟩
  · subst h1
    go_enter Tryz.func185, Tryz.ntmps185
    go_wp2_with fail
    rw [← HW.out]
    refine C1.out.mono ?_
    rintro e w2 ⟨⟨c1, rfl⟩, q, rfl⟩
    go_wp2_with fail
    refine (C2.out q).mono ?_
    rintro e w2 ⟨⟨c2, rfl⟩, q2, rfl⟩
    have cg := cell_of_row (w1.drewN q2) g 1 _ _ _ HG1.out
    have zg := frozen_of_row (w1.drewN q2) g 1 _ _ HG1.out
    have hgq : w1.grownBy (w1.drewN q2) (some g) := ⟨rfl, rfl, rfl, Nat.le_refl _, fun _ _ _ => rfl⟩
    have hxq : (w1.drewN q2).heap[g]? = some (WdC s bad) := HG1.out
    have HN1 := Lib_hid (N1.out _ bad hgq hxq)
    go_wp2_with fail
    refine HN1.out.mono ?_
    intro e w3 h3
    obtain ⟨a, bad1, rfl, ha, hg3, hx3, hc3⟩ := h3.get
    have hg3' := hgq.trans hg3
    clear h3 hg3 HN1 cg zg
    go_wp2_with fail
    refine (N2.out w3 bad1 hg3' hx3).mono ?_
    rintro e w4 ⟨hg4, b, c, rfl, hb, hcc, hc4⟩
    have hgr : w1.grownBy w4 (some g) := hg3'.trans hg4
    have hr := (hgr.block w.heap.size hs1 (fun e => by injection e with e; omega)).trans HX.out.1
    have d0 := cell_of_row w4 _ 0 _ _ _ hr
    have z0 := frozen_of_row w4 _ 0 _ _ hr
    have d1 := cell_of_row w4 _ 1 _ _ _ hr
    have z1 := frozen_of_row w4 _ 1 _ _ hr
    have d2 := cell_of_row w4 _ 2 _ _ _ hr
    have z2 := frozen_of_row w4 _ 2 _ _ hr
    have d3 := cell_of_row w4 _ 3 _ _ _ hr
    have z3 := frozen_of_row w4 _ 3 _ _ hr
    have FIN : Hid (EntEnd5 x s bad g w (.returned (.agg #[.int .u64 (a : Int), .int .u64 (b : Int), .int .u64 (c : Int), .bool true])) ((((w4.setCell ⟨w.heap.size, 0, none⟩ (.int .u64 (a : Int))).setCell ⟨w.heap.size, 1, none⟩ (.int .u64 (b : Int))).setCell ⟨w.heap.size, 2, none⟩ (.int .u64 (c : Int))).setCell ⟨w.heap.size, 3, none⟩ (.bool true))) := by
      have hbl : ∀ k, k ≠ w.heap.size → ((((w4.setCell ⟨w.heap.size, 0, none⟩ (.int .u64 (a : Int))).setCell ⟨w.heap.size, 1, none⟩ (.int .u64 (b : Int))).setCell ⟨w.heap.size, 2, none⟩ (.int .u64 (c : Int))).setCell ⟨w.heap.size, 3, none⟩ (.bool true)).heap[k]? = w4.heap[k]? := fun k hk => (heap_setCell_other _ _ _ _ hk).trans ((heap_setCell_other _ _ _ _ hk).trans ((heap_setCell_other _ _ _ _ hk).trans (heap_setCell_other _ _ _ _ hk)))
      refine ⟨⟨hgr.os.trans HX.out.2.os, hgr.tape.trans HX.out.2.tape, hgr.output.trans HX.out.2.output, by have := HX.out.2.size; have := hgr.size; simp; omega, fun k hk hne => (hbl k (by omega)).trans ((hgr.block k (by omega) hne).trans (HX.out.2.block k hk))⟩, ⟨a, b, c, true⟩, rfl, ⟨by show (a : Int) ≤ _; omega, by show (b : Int) ≤ _; omega, by show (c : Int) ≤ _; omega⟩, ?_⟩
      rw [hbl g (by omega), HV.out]
      rcases hc3 with ⟨k1, rfl⟩ | ⟨k1, rfl⟩
      · rcases hc4 with ⟨k2, k3⟩ | ⟨k2, k3⟩
        · rw [k1, k2]; simp; exact k3
        · rw [k1, k2]; exact .inr ⟨rfl, k3⟩
      · rcases hc4 with ⟨k2, k3⟩ | ⟨k2, k3⟩
        · rw [k1]; exact .inr ⟨rfl, k3⟩
        · rw [k1]; exact .inr ⟨rfl, k3⟩
    have hh : ((((w4.setCell ⟨w.heap.size, 0, none⟩ (.int .u64 (a : Int))).setCell ⟨w.heap.size, 1, none⟩ (.int .u64 (b : Int))).setCell ⟨w.heap.size, 2, none⟩ (.int .u64 (c : Int))).setCell ⟨w.heap.size, 3, none⟩ (.bool true)).heap[w.heap.size]? = some (.cells #[.int .u64 (a : Int), .int .u64 (b : Int), .int .u64 (c : Int), .bool true] 67 (0, 0)) := heap_setCell_same _ w.heap.size 3 _ _ _ (heap_setCell_same _ w.heap.size 2 _ _ _ (heap_setCell_same _ w.heap.size 1 _ _ _ (heap_setCell_same w4 w.heap.size 0 _ _ _ hr)))
    have HH := Lib_hid hh
    clear hh hr hgr hg3' hg4 hx3 hc3 hc4 N1 N2 C1 C2
    go_wp2
    exact bodyPost_ret (results_cell_row (p := 4) (ty := 67) rfl _ _ w.heap.size 67 #[.int .u64 (a : Int), .int .u64 (b : Int), .int .u64 (c : Int), .bool true] (0, 0) _ rfl HH.out Tryz.underlying67 rfl hsz) rfl FIN.out
  · subst h1
    go_enter Tryz.func185, Tryz.ntmps185
    go_wp2_with fail
    rw [← HW.out]
    refine C1.out.mono ?_
    rintro e w2 ⟨⟨c1, rfl⟩, q, rfl⟩
    go_wp2_with fail
    refine (C2.out q).mono ?_
    rintro e w2 ⟨⟨c2, rfl⟩, q2, rfl⟩
    have cg := cell_of_row (w1.drewN q2) g 1 _ _ _ HG1.out
    have zg := frozen_of_row (w1.drewN q2) g 1 _ _ HG1.out
    have hgq : w1.grownBy (w1.drewN q2) (some g) := ⟨rfl, rfl, rfl, Nat.le_refl _, fun _ _ _ => rfl⟩
    have hxq : (w1.drewN q2).heap[g]? = some (WdC s bad) := HG1.out
    have HN1 := Lib_hid (N1.out _ bad hgq hxq)
    go_wp2_with fail
    refine HN1.out.mono ?_
    intro e w3 h3
    obtain ⟨a, bad1, rfl, ha, hg3, hx3, hc3⟩ := h3.get
    have hg3' := hgq.trans hg3
    clear h3 hg3 HN1 cg zg
    go_wp2_with fail
    refine (N2.out w3 bad1 hg3' hx3).mono ?_
    rintro e w4 ⟨hg4, b, c, rfl, hb, hcc, hc4⟩
    have hgr : w1.grownBy w4 (some g) := hg3'.trans hg4
    have hr := (hgr.block w.heap.size hs1 (fun e => by injection e with e; omega)).trans HX.out.1
    have d0 := cell_of_row w4 _ 0 _ _ _ hr
    have z0 := frozen_of_row w4 _ 0 _ _ hr
    have d1 := cell_of_row w4 _ 1 _ _ _ hr
    have z1 := frozen_of_row w4 _ 1 _ _ hr
    have d2 := cell_of_row w4 _ 2 _ _ _ hr
    have z2 := frozen_of_row w4 _ 2 _ _ hr
    have d3 := cell_of_row w4 _ 3 _ _ _ hr
    have z3 := frozen_of_row w4 _ 3 _ _ hr
    have FIN : Hid (EntEnd5 x s bad g w (.returned (.agg #[.int .u64 (a : Int), .int .u64 (b : Int), .int .u64 (c : Int), .bool false])) ((((w4.setCell ⟨w.heap.size, 0, none⟩ (.int .u64 (a : Int))).setCell ⟨w.heap.size, 1, none⟩ (.int .u64 (b : Int))).setCell ⟨w.heap.size, 2, none⟩ (.int .u64 (c : Int))).setCell ⟨w.heap.size, 3, none⟩ (.bool false))) := by
      have hbl : ∀ k, k ≠ w.heap.size → ((((w4.setCell ⟨w.heap.size, 0, none⟩ (.int .u64 (a : Int))).setCell ⟨w.heap.size, 1, none⟩ (.int .u64 (b : Int))).setCell ⟨w.heap.size, 2, none⟩ (.int .u64 (c : Int))).setCell ⟨w.heap.size, 3, none⟩ (.bool false)).heap[k]? = w4.heap[k]? := fun k hk => (heap_setCell_other _ _ _ _ hk).trans ((heap_setCell_other _ _ _ _ hk).trans ((heap_setCell_other _ _ _ _ hk).trans (heap_setCell_other _ _ _ _ hk)))
      refine ⟨⟨hgr.os.trans HX.out.2.os, hgr.tape.trans HX.out.2.tape, hgr.output.trans HX.out.2.output, by have := HX.out.2.size; have := hgr.size; simp; omega, fun k hk hne => (hbl k (by omega)).trans ((hgr.block k (by omega) hne).trans (HX.out.2.block k hk))⟩, ⟨a, b, c, false⟩, rfl, ⟨by show (a : Int) ≤ _; omega, by show (b : Int) ≤ _; omega, by show (c : Int) ≤ _; omega⟩, ?_⟩
      rw [hbl g (by omega), HV.out]
      rcases hc3 with ⟨k1, rfl⟩ | ⟨k1, rfl⟩
      · rcases hc4 with ⟨k2, k3⟩ | ⟨k2, k3⟩
        · rw [k1, k2]; simp; exact k3
        · rw [k1, k2]; exact .inr ⟨rfl, k3⟩
      · rcases hc4 with ⟨k2, k3⟩ | ⟨k2, k3⟩
        · rw [k1]; exact .inr ⟨rfl, k3⟩
        · rw [k1]; exact .inr ⟨rfl, k3⟩
    have hh : ((((w4.setCell ⟨w.heap.size, 0, none⟩ (.int .u64 (a : Int))).setCell ⟨w.heap.size, 1, none⟩ (.int .u64 (b : Int))).setCell ⟨w.heap.size, 2, none⟩ (.int .u64 (c : Int))).setCell ⟨w.heap.size, 3, none⟩ (.bool false)).heap[w.heap.size]? = some (.cells #[.int .u64 (a : Int), .int .u64 (b : Int), .int .u64 (c : Int), .bool false] 67 (0, 0)) := heap_setCell_same _ w.heap.size 3 _ _ _ (heap_setCell_same _ w.heap.size 2 _ _ _ (heap_setCell_same _ w.heap.size 1 _ _ _ (heap_setCell_same w4 w.heap.size 0 _ _ _ hr)))
    have HH := Lib_hid hh
    clear hh hr hgr hg3' hg4 hx3 hc3 hc4 N1 N2 C1 C2
    go_wp2
    exact bodyPost_ret (results_cell_row (p := 4) (ty := 67) rfl _ _ w.heap.size 67 #[.int .u64 (a : Int), .int .u64 (b : Int), .int .u64 (c : Int), .bool false] (0, 0) _ rfl HH.out Tryz.underlying67 rfl hsz) rfl FIN.out
  · have q1 : (M == [49]) = false := by simp [h1]
    have q2 : (M == [48]) = false := by simp [h2]
    go_enter Tryz.func185, Tryz.ntmps185
    go_wp2_with fail
    rw [← HW.out]
    refine C1.out.mono ?_
    rintro e w2 ⟨⟨c1, rfl⟩, q, rfl⟩
    go_wp2_with fail
    refine (C2.out q).mono ?_
    rintro e w2 ⟨⟨c2, rfl⟩, q2, rfl⟩
    have cg := cell_of_row (w1.drewN q2) g 1 _ _ _ HG1.out
    have zg := frozen_of_row (w1.drewN q2) g 1 _ _ HG1.out
    have hgq : w1.grownBy ((w1.drewN q2).setCell ⟨g, 1, none⟩ (.bool true)) (some g) := ⟨rfl, rfl, rfl, by simp, (grow_set (w1.drewN q2) g 1 _).block⟩
    have hxq : ((w1.drewN q2).setCell ⟨g, 1, none⟩ (.bool true)).heap[g]? = some (WdC s true) := Joins.block_setCell (i := 1) HG1.out _
    have HN1 := Lib_hid (N1.out _ true hgq hxq)
    go_wp2_with fail
    refine HN1.out.mono ?_
    intro e w3 h3
    obtain ⟨a, bad1, rfl, ha, hg3, hx3, hc3⟩ := h3.get
    have hg3' := hgq.trans hg3
    clear h3 hg3 HN1 cg zg
    go_wp2_with fail
    refine (N2.out w3 bad1 hg3' hx3).mono ?_
    rintro e w4 ⟨hg4, b, c, rfl, hb, hcc, hc4⟩
    have hgr : w1.grownBy w4 (some g) := hg3'.trans hg4
    have hr := (hgr.block w.heap.size hs1 (fun e => by injection e with e; omega)).trans HX.out.1
    have d0 := cell_of_row w4 _ 0 _ _ _ hr
    have z0 := frozen_of_row w4 _ 0 _ _ hr
    have d1 := cell_of_row w4 _ 1 _ _ _ hr
    have z1 := frozen_of_row w4 _ 1 _ _ hr
    have d2 := cell_of_row w4 _ 2 _ _ _ hr
    have z2 := frozen_of_row w4 _ 2 _ _ hr
    have d3 := cell_of_row w4 _ 3 _ _ _ hr
    have z3 := frozen_of_row w4 _ 3 _ _ hr
    have FIN : Hid (EntEnd5 x s bad g w (.returned (.agg #[.int .u64 (a : Int), .int .u64 (b : Int), .int .u64 (c : Int), .bool false])) ((((w4.setCell ⟨w.heap.size, 0, none⟩ (.int .u64 (a : Int))).setCell ⟨w.heap.size, 1, none⟩ (.int .u64 (b : Int))).setCell ⟨w.heap.size, 2, none⟩ (.int .u64 (c : Int))).setCell ⟨w.heap.size, 3, none⟩ (.bool false))) := by
      have hbl : ∀ k, k ≠ w.heap.size → ((((w4.setCell ⟨w.heap.size, 0, none⟩ (.int .u64 (a : Int))).setCell ⟨w.heap.size, 1, none⟩ (.int .u64 (b : Int))).setCell ⟨w.heap.size, 2, none⟩ (.int .u64 (c : Int))).setCell ⟨w.heap.size, 3, none⟩ (.bool false)).heap[k]? = w4.heap[k]? := fun k hk => (heap_setCell_other _ _ _ _ hk).trans ((heap_setCell_other _ _ _ _ hk).trans ((heap_setCell_other _ _ _ _ hk).trans (heap_setCell_other _ _ _ _ hk)))
      refine ⟨⟨hgr.os.trans HX.out.2.os, hgr.tape.trans HX.out.2.tape, hgr.output.trans HX.out.2.output, by have := HX.out.2.size; have := hgr.size; simp; omega, fun k hk hne => (hbl k (by omega)).trans ((hgr.block k (by omega) hne).trans (HX.out.2.block k hk))⟩, ⟨a, b, c, false⟩, rfl, ⟨by show (a : Int) ≤ _; omega, by show (b : Int) ≤ _; omega, by show (c : Int) ≤ _; omega⟩, ?_⟩
      rw [hbl g (by omega), HV.out]
      rcases hc3 with ⟨k1, rfl⟩ | ⟨k1, rfl⟩
      · rcases hc4 with ⟨k2, k3⟩ | ⟨k2, k3⟩
        · rw [k1, k2]; simp [h1, h2]; exact k3
        · rw [k1, k2]; exact .inr ⟨rfl, k3⟩
      · rcases hc4 with ⟨k2, k3⟩ | ⟨k2, k3⟩
        · rw [k1]; exact .inr ⟨rfl, k3⟩
        · rw [k1]; exact .inr ⟨rfl, k3⟩
    have hh : ((((w4.setCell ⟨w.heap.size, 0, none⟩ (.int .u64 (a : Int))).setCell ⟨w.heap.size, 1, none⟩ (.int .u64 (b : Int))).setCell ⟨w.heap.size, 2, none⟩ (.int .u64 (c : Int))).setCell ⟨w.heap.size, 3, none⟩ (.bool false)).heap[w.heap.size]? = some (.cells #[.int .u64 (a : Int), .int .u64 (b : Int), .int .u64 (c : Int), .bool false] 67 (0, 0)) := heap_setCell_same _ w.heap.size 3 _ _ _ (heap_setCell_same _ w.heap.size 2 _ _ _ (heap_setCell_same _ w.heap.size 1 _ _ _ (heap_setCell_same w4 w.heap.size 0 _ _ _ hr)))
    have HH := Lib_hid hh
    clear hh hr hgr hg3' hg4 hx3 hc3 hc4 N1 N2 C1 C2
    go_wp2
    exact bodyPost_ret (results_cell_row (p := 4) (ty := 67) rfl _ _ w.heap.size 67 #[.int .u64 (a : Int), .int .u64 (b : Int), .int .u64 (c : Int), .bool false] (0, 0) _ rfl HH.out Tryz.underlying67 rfl hsz) rfl FIN.out
end Go.Proofs.YtdmoknnnlfkfoaaGreatDoor
