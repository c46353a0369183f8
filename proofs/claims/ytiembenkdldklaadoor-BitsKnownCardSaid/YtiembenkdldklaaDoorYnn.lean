/-
  Layer 8: BitsNone: the walk.
-/
import Derived.Test.YtiembenkdldklaaDoorYnl
import Derived.Test.YtiembenkdldklaaDoorYwk
import Derived.Test.YtiembenkdldklaaDoorYop
namespace Go.Proofs.YtiembenkdldklaaDoor
open Go Go.RowKit
set_option linter.unusedVariables false

theorem doR0 (l : List Bool) (i : Nat) : doR 0 l [[]] i = bt l i := by unfold doR anyI; simp [bt_nil]
theorem doR1 (l : List Bool) (i : Nat) : doR 1 l [[]] i = false := by unfold doR allI; simp [bt_nil]
theorem doR2 (l : List Bool) (i : Nat) : doR 2 l [[]] i = bt l i := by unfold doR anyI; simp [bt_nil]
theorem doB_same {how : Nat} {l : List Bool} (h : ∀ i, doR how l [[]] i = bt l i) : doB how l [[]] = l ∧ manyB how l [[]] = 0 := by
  refine ⟨bt_ext (doB_len _ _ _) fun i => ?_, ?_⟩
  · rw [bt_doB, h]
    by_cases hi : i < l.length
    · simp [hi]
    · rw [bt_ge (l := l) (by omega)]; simp
  · unfold manyB difK
    apply List.countP_eq_zero.2
    intro i _
    rw [h]; simp
theorem doB_none (l : List Bool) : allB (doB 1 l [[]]) = [] ∧ manyB 1 l [[]] = (allB l).length := by
  refine ⟨?_, ?_⟩
  · unfold allB allK
    apply List.filter_eq_nil_iff.2
    intro i _
    rw [bt_doB, doR1]; simp
  · unfold manyB difK allB allK
    rw [List.countP_eq_length_filter]
    congr 1
    apply List.filter_congr
    intro i _
    rw [doR1]; cases bt l i <;> rfl
theorem oth_nil {w : World} {lo hi p : Nat} {l : List Bool} : OthL w lo hi p l [.pointer none] [[]] :=
  ⟨rfl, fun j hj => by
    obtain rfl : j = 0 := by simpa using hj
    exact ⟨_, rfl, .inl ⟨rfl, rfl⟩⟩⟩
theorem NEnd.wsx {w X Y : World} {l : List Bool} {e : Ending} (h : NEnd l X e Y) (hb : Below w.heap.size w X) : ∃ p lo hi, e = .returned (pv p) ∧ Ws w lo hi p l Y := by
  obtain ⟨p, e1, hz, _⟩ := h.ws hb
  exact ⟨p, _, _, e1, hz⟩

set_option maxRecDepth 100000 in
set_option maxHeartbeats 4000000 in
theorem bnone_any (n c : Nat) (A : Option Addr) (i : Int) (xs : List Int) (w : World) (hT : BTab w) (hr : Rd w w.heap.size 1 A n (iz xs)) (hi : i ≤ 9223372036854775807) :
    Calls Tryd.prog 6 #[.int .i64 i, .slice A n c] w fun e w' => e = .returned (.bool true) ∧ Below w.heap.size w w' := by
  have HTT := Lib_hid hT
  have HWO := Lib_hid (fun (W : World) (hW : Below w.heap.size w W) => works_any W (hT.below hW hT.1))
  by_cases hn : n ≤ 40
  · have hd : decide ((40 : Int) < (n : Int)) = false := decide_eq_false (by omega)
    obtain ⟨l, hl⟩ : ∃ l, l = ofB (clampN 50) xs := ⟨_, rfl⟩
    have HOF := Lib_hid (fun (W : World) (hW : Below w.heap.size w W) => hl ▸ pof_any w.heap.size n c 50 A xs W (hr.below hW) hW.size (by omega))
    obtain ⟨e1, e2⟩ := doB_same (doR0 l)
    obtain ⟨e3, e4⟩ := doB_same (doR2 l)
    obtain ⟨e5, e6⟩ := doB_none l
    have HNX := Lib_hid (fun W => pnext_nil i W hi)
    have NILS := Lib_hid (And.intro psize_nil (And.intro plen_nil (And.intro (fun W => phas_nil i W) (And.intro (fun W => padd_nil i W) (And.intro (fun W => prem_nil i W) (And.intro pall_nil pcopy_nil))))))
    have NIL3 := Lib_hid (fun (W : World) => And.intro (pjoin_nil 1 1 (some ⟨W.heap.size, 0, none⟩)) (And.intro (pmeet_nil 1 1 (some ⟨W.heap.size, 0, none⟩)) (pless_nil 1 1 (some ⟨W.heap.size, 0, none⟩))))
    have ANY : Hid (∀ lo hi p W, BZ W lo hi p l → hi ≤ W.heap.size → BZ (W.alloc (.cells #[.pointer none] 26)) lo hi p l ∧ hi ≤ (W.alloc (.cells #[.pointer none] 26)).heap.size ∧ Rd (W.alloc (.cells #[.pointer none] 26)) (W.alloc (.cells #[.pointer none] 26)).heap.size 1 (some ⟨W.heap.size, 0, none⟩) 1 [.pointer none] ∧ (∀ ad, some (⟨W.heap.size, 0, none⟩ : Addr) = some ad → hi ≤ ad.block ∨ ad.block < lo)) := fun lo hi p W hz hh =>
      ⟨hz.below (below_new W _) hh, by simp; omega, (lit_vs W [.pointer none] 26).more (by simp), fun ad e => .inl (by injection e with e; rw [← e]; exact hh)⟩
    have JO : Hid (∀ lo hi p W, BZ W lo hi p l → hi ≤ W.heap.size → Calls Tryd.prog 24 #[pv p, .slice (some ⟨W.heap.size, 0, none⟩) 1 1] (W.alloc (.cells #[.pointer none] 26)) fun e w' => e = .returned (.int .i64 0) ∧ BZ w' lo hi p l ∧ Turns (fun k => lo ≤ k ∧ k < hi) (W.alloc (.cells #[.pointer none] 26)) w') := fun lo hi p W hz hh => by
      obtain ⟨h1, h2, h3, h4⟩ := ANY.out lo hi p W hz hh
      have := pjoin_any lo hi p 1 1 (some ⟨W.heap.size, 0, none⟩) l [.pointer none] [[]] _ h1 h2 h3 oth_nil (by decide) (by decide) h4
      unfold ChEnd at this
      rw [e1, e2] at this
      exact this
    have LS : Hid (∀ lo hi p W, BZ W lo hi p l → hi ≤ W.heap.size → Calls Tryd.prog 26 #[pv p, .slice (some ⟨W.heap.size, 0, none⟩) 1 1] (W.alloc (.cells #[.pointer none] 26)) fun e w' => e = .returned (.int .i64 0) ∧ BZ w' lo hi p l ∧ Turns (fun k => lo ≤ k ∧ k < hi) (W.alloc (.cells #[.pointer none] 26)) w') := fun lo hi p W hz hh => by
      obtain ⟨h1, h2, h3, h4⟩ := ANY.out lo hi p W hz hh
      have := pless_any lo hi p 1 1 (some ⟨W.heap.size, 0, none⟩) l [.pointer none] [[]] _ h1 h2 h3 oth_nil (by decide) (by decide) h4
      unfold ChEnd at this
      rw [e3, e4] at this
      exact this
    have ME : Hid (∀ lo hi p W, BZ W lo hi p l → hi ≤ W.heap.size → Calls Tryd.prog 25 #[pv p, .slice (some ⟨W.heap.size, 0, none⟩) 1 1] (W.alloc (.cells #[.pointer none] 26)) fun e w' => e = .returned (.int .i64 ((allB l).length : Int)) ∧ BZ w' lo hi p (doB 1 l [[]]) ∧ Turns (fun k => lo ≤ k ∧ k < hi) (W.alloc (.cells #[.pointer none] 26)) w') := fun lo hi p W hz hh => by
      obtain ⟨h1, h2, h3, h4⟩ := ANY.out lo hi p W hz hh
      have := pmeet_any lo hi p 1 1 (some ⟨W.heap.size, 0, none⟩) l [.pointer none] [[]] _ h1 h2 h3 oth_nil (by decide) (by decide) h4
      unfold ChEnd at this
      rw [e6] at this
      exact this
    have LE1 : Hid (∀ lo hi p W, BZ W lo hi p l → Calls Tryd.prog 13 #[pv p] W fun e w' => e = .returned (.int .i64 ((allB l).length : Int)) ∧ Below W.heap.size W w') := fun lo hi p W hz => plen_any lo hi p l W hz
    have LE2 : Hid (∀ lo hi p W, BZ W lo hi p (doB 1 l [[]]) → Calls Tryd.prog 13 #[pv p] W fun e w' => e = .returned (.int .i64 0) ∧ Below W.heap.size W w') := fun lo hi p W hz => by
      have := plen_any lo hi p _ W hz
      rw [e5] at this
      exact this
    clear e1 e2 e3 e4 e5 e6 hr hT ANY hl
    generalize (allB l).length = m at *
    go_enter Tryd.func6, Tryd.ntmps6
    go_wp2_with fail
    refine (HNX.out w).mono ?_
    rintro e w1 ⟨rfl, hb⟩
    have HB := Lib_hid hb
    clear hb
    go_wp2_with fail
    refine (HOF.out w1 HB.out).mono ?_
    intro e w2 hN
    obtain ⟨p, lo, hi2, rfl, hw⟩ := hN.wsx HB.out
    have HW := Lib_hid hw
    clear hw hN HB
    go_wp2_with fail
    refine (LE1.out _ _ _ _ HW.out.z).mono ?_
    rintro e w3 ⟨rfl, hb⟩
    replace HW := Lib_hid (HW.out.below hb)
    clear hb
    go_wp2_with fail
    refine (NILS.out.1 _).mono ?_
    rintro e wq1 ⟨rfl, rfl⟩
    go_wp2_with fail
    refine (NILS.out.2.1 _).mono ?_
    rintro e w4 ⟨rfl, hb⟩
    replace HW := Lib_hid (HW.out.below hb)
    clear hb
    go_wp2_with fail
    refine (NILS.out.2.2.1 _).mono ?_
    rintro e wz ⟨rfl, q, rfl⟩
    replace HW := Lib_hid (HW.out.drewN q)
    generalize w4.drewN q = w5 at *
    go_wp2_with fail
    refine (NILS.out.2.2.2.1 _).mono ?_
    rintro e wq2 ⟨rfl, rfl⟩
    go_wp2_with fail
    refine (NILS.out.2.2.2.2.1 _).mono ?_
    rintro e wz ⟨rfl, q, rfl⟩
    replace HW := Lib_hid (HW.out.drewN q)
    generalize wq2.drewN q = w6 at *
    go_wp2_with fail
    refine (NILS.out.2.2.2.2.2.1 _).mono ?_
    rintro e w7 ⟨rfl, hb⟩
    replace HW := Lib_hid (HW.out.below hb)
    clear hb
    go_wp2_with fail
    refine ((NIL3.out w7).1 _).mono ?_
    rintro e w8 ⟨rfl, hb⟩
    replace HW := Lib_hid ((HW.out.alloc (.cells #[pv p] 26)).below hb)
    clear hb
    go_wp2_with fail
    refine ((NIL3.out w8).2.1 _).mono ?_
    rintro e w9 ⟨rfl, hb⟩
    replace HW := Lib_hid ((HW.out.alloc (.cells #[pv p] 26)).below hb)
    clear hb
    go_wp2_with fail
    refine ((NIL3.out w9).2.2 _).mono ?_
    rintro e w10 ⟨rfl, hb⟩
    replace HW := Lib_hid ((HW.out.alloc (.cells #[pv p] 26)).below hb)
    clear hb
    go_wp2_with fail
    refine (NILS.out.2.2.2.2.2.2 _).mono ?_
    rintro e wq3 ⟨rfl, rfl⟩
    go_wp2_with fail
    refine (JO.out _ _ _ _ HW.out.z HW.out.le).mono ?_
    rintro e w11 ⟨rfl, hz, ht⟩
    replace HW := Lib_hid ((HW.out.alloc (.cells #[.pointer none] 26)).turn hz ht)
    clear hz ht
    go_wp2_with fail
    refine (LS.out _ _ _ _ HW.out.z HW.out.le).mono ?_
    rintro e w12 ⟨rfl, hz, ht⟩
    replace HW := Lib_hid ((HW.out.alloc (.cells #[.pointer none] 26)).turn hz ht)
    clear hz ht
    go_wp2_with fail
    refine (LE1.out _ _ _ _ HW.out.z).mono ?_
    rintro e w13 ⟨rfl, hb⟩
    replace HW := Lib_hid (HW.out.below hb)
    clear hb
    go_wp2_with fail
    refine (ME.out _ _ _ _ HW.out.z HW.out.le).mono ?_
    rintro e w14 ⟨rfl, hz, ht⟩
    replace HW := Lib_hid ((HW.out.alloc (.cells #[.pointer none] 26)).turn hz ht)
    clear hz ht
    go_wp2_with fail
    refine (LE2.out _ _ _ _ HW.out.z).mono ?_
    rintro e w15 ⟨rfl, hb⟩
    replace HW := Lib_hid (HW.out.below hb)
    clear hb
    go_wp2_with fail
    refine (HWO.out _ HW.out.b).mono ?_
    rintro e w16 ⟨rfl, hb⟩
    have hfin := HW.out.b.trans (hb.mono HW.out.b.size)
    clear hb
    go_wp2
    go_ret
    exact ⟨by simp, hfin⟩
  · have hd : decide ((40 : Int) < (n : Int)) = true := decide_eq_true (by omega)
    clear hr hT
    go_enter Tryd.func6, Tryd.ntmps6
    go_wp2_with fail
    refine (HWO.out w (Below.refl _ _)).mono ?_
    rintro e w1 ⟨rfl, hb⟩
    go_wp2
    go_ret
    exact ⟨rfl, hb⟩

end Go.Proofs.YtiembenkdldklaaDoor
