/-
  Layer 8: BitsSets: the walk.
-/
import Derived.Test.YtiembenkdldklaaDoorYse
namespace Go.Proofs.YtiembenkdldklaaDoor
open Go Go.RowKit
set_option linter.unusedVariables false

theorem allB_len (l : List Bool) : (allB l).length ≤ l.length := allK_len l l.length
/-- Where a set lies. -/
structure Iv where
  lo : Nat
  hi : Nat
  p : Nat
theorem Ws.other {w X Y : World} {lo hi p lo' hi' : Nat} {l : List Bool} (h : Ws w lo hi p l X) (t : Turns (fun k => lo' ≤ k ∧ k < hi') X Y) (hd : hi ≤ lo' ∨ hi' ≤ lo) (hw : w.heap.size ≤ lo') : Ws w lo hi p l Y :=
  ⟨h.b.trans (t.below h.b.size (fun k e => Nat.le_trans hw e.1)), h.z.turns t (fun k h1 h2 h3 => by omega), h.ge, Nat.le_trans h.le t.size⟩
theorem Ws.lh {w X : World} {lo hi p : Nat} {l : List Bool} (h : Ws w lo hi p l X) : lo < hi := by have := h.z.lt; omega
/-- Five sets, one behind the other. -/
structure Five (w : World) (A B J M L : Iv) (la lb lj lm ll : List Bool) (W : World) : Prop where
  a : Ws w A.lo A.hi A.p la W
  b : Ws w B.lo B.hi B.p lb W
  j : Ws w J.lo J.hi J.p lj W
  m : Ws w M.lo M.hi M.p lm W
  l : Ws w L.lo L.hi L.p ll W
  o : A.hi ≤ B.lo ∧ B.hi ≤ J.lo ∧ J.hi ≤ M.lo ∧ M.hi ≤ L.lo
section
variable {w X Y : World} {A B J M L : Iv} {la lb lj lm ll l' : List Bool}
theorem Five.below (h : Five w A B J M L la lb lj lm ll X) (hb : Below X.heap.size X Y) : Five w A B J M L la lb lj lm ll Y := ⟨h.a.below hb, h.b.below hb, h.j.below hb, h.m.below hb, h.l.below hb, h.o⟩
theorem Five.drewN (h : Five w A B J M L la lb lj lm ll X) (q : Nat) : Five w A B J M L la lb lj lm ll (X.drewN q) := ⟨h.a.drewN q, h.b.drewN q, h.j.drewN q, h.m.drewN q, h.l.drewN q, h.o⟩
theorem Five.alloc (h : Five w A B J M L la lb lj lm ll X) (o : Obj) : Five w A B J M L la lb lj lm ll (X.alloc o) := h.below (below_new X o)
theorem Five.turnJ (h : Five w A B J M L la lb lj lm ll X) (hz : BZ Y J.lo J.hi J.p l') (t : Turns (fun k => J.lo ≤ k ∧ k < J.hi) X Y) : Five w A B J M L la lb l' lm ll Y := by
  obtain ⟨o1, o2, o3, o4⟩ := h.o
  have := h.a.lh; have := h.b.lh; have := h.j.lh; have := h.m.lh; have hg := h.j.ge
  exact ⟨h.a.other t (by omega) hg, h.b.other t (by omega) hg, h.j.turn hz t, h.m.other t (by omega) hg, h.l.other t (by omega) hg, h.o⟩
theorem Five.turnM (h : Five w A B J M L la lb lj lm ll X) (hz : BZ Y M.lo M.hi M.p l') (t : Turns (fun k => M.lo ≤ k ∧ k < M.hi) X Y) : Five w A B J M L la lb lj l' ll Y := by
  obtain ⟨o1, o2, o3, o4⟩ := h.o
  have := h.a.lh; have := h.b.lh; have := h.j.lh; have := h.m.lh; have hg := h.m.ge
  exact ⟨h.a.other t (by omega) hg, h.b.other t (by omega) hg, h.j.other t (by omega) hg, h.m.turn hz t, h.l.other t (by omega) hg, h.o⟩
theorem Five.turnL (h : Five w A B J M L la lb lj lm ll X) (hz : BZ Y L.lo L.hi L.p l') (t : Turns (fun k => L.lo ≤ k ∧ k < L.hi) X Y) : Five w A B J M L la lb lj lm l' Y := by
  obtain ⟨o1, o2, o3, o4⟩ := h.o
  have := h.a.lh; have := h.b.lh; have := h.j.lh; have := h.m.lh; have hg := h.l.ge
  exact ⟨h.a.other t (by omega) hg, h.b.other t (by omega) hg, h.j.other t (by omega) hg, h.m.other t (by omega) hg, h.l.turn hz t, h.o⟩
end
theorem Ws.oth {w X : World} {lo hi p : Nat} {l : List Bool} (h : Ws w lo hi p l X) : Oth X X.heap.size (pv p) l := .inr ⟨p, lo, hi, rfl, h.z, h.le⟩
theorem NEnd.wsi {w X Y : World} {l : List Bool} {e : Ending} (h : NEnd l X e Y) (hb : Below w.heap.size w X) : ∃ I : Iv, e = .returned (pv I.p) ∧ Ws w I.lo I.hi I.p l Y ∧ Below X.heap.size X Y ∧ X.heap.size ≤ I.lo := by
  obtain ⟨p, e1, hz, hB⟩ := h.ws hb
  exact ⟨⟨X.heap.size, Y.heap.size, p⟩, e1, hz, hB, Nat.le_refl _⟩
/-- One other set is handed in, in a row of its own. -/
theorem row_in {w X : World} {lo hi p lo' hi' q : Nat} {l m : List Bool} (h : Ws w lo hi p l X) (h' : Ws w lo' hi' q m X) (hd : hi' ≤ lo ∨ hi ≤ lo') :
    BZ (X.alloc (.cells #[pv q] 26)) lo hi p l ∧ hi ≤ (X.alloc (.cells #[pv q] 26)).heap.size ∧ Rd (X.alloc (.cells #[pv q] 26)) (X.alloc (.cells #[pv q] 26)).heap.size 1 (some ⟨X.heap.size, 0, none⟩) 1 [pv q] ∧ OthL (X.alloc (.cells #[pv q] 26)) lo hi p l [pv q] [m] ∧ ∀ ad, some (⟨X.heap.size, 0, none⟩ : Addr) = some ad → hi ≤ ad.block ∨ ad.block < lo :=
  ⟨h.z.below (below_new X _) h.le, by have := h.le; simp; omega, (lit_vs X [pv q] 26).more (by simp), oth_one (h'.z.below (below_new X _) h'.le) hd, fun ad e => .inl (by have := h.le; injection e with e; rw [← e]; exact this)⟩

set_option maxRecDepth 100000 in
set_option maxHeartbeats 8000000 in
theorem bsets_any (nk nl ck cl : Nat) (Ak Al : Option Addr) (n i : Int) (ks ls : List Int) (w : World) (hT : BTab w) (hr : Rd w w.heap.size 1 Ak nk (iz ks)) (hr' : Rd w w.heap.size 1 Al nl (iz ls)) :
    Calls Tryd.prog 5 #[.int .i64 n, .slice Ak nk ck, .slice Al nl cl, .int .i64 i] w fun e w' => e = .returned (.bool true) ∧ Below w.heap.size w w' := by
  have HWO := Lib_hid (fun (W : World) (hW : Below w.heap.size w W) => works_any W (hT.below hW hT.1))
  by_cases hall : n ≤ 400 ∧ nk ≤ 40 ∧ nl ≤ 40
  · have d1 : decide ((400 : Int) < n) = false := decide_eq_false (by omega)
    have d3 : decide ((40 : Int) < (nk : Int)) = false := decide_eq_false (by omega)
    have d4 : decide ((40 : Int) < (nl : Int)) = false := decide_eq_false (by omega)
    obtain ⟨la, hla⟩ : ∃ l, l = ofB (clampN n) ks := ⟨_, rfl⟩
    obtain ⟨lb, hlb⟩ : ∃ l, l = ofB (clampN n) ls := ⟨_, rfl⟩
    have hlen : lb.length = la.length := by rw [hla, hlb, ofB_len, ofB_len]
    have hsize : la.length ≤ 400 := by rw [hla, ofB_len]; unfold clampN; omega
    have PA := Lib_hid (fun (W : World) (hW : Below w.heap.size w W) => hla ▸ pof_any w.heap.size nk ck n Ak ks W (hr.below hW) hW.size (by omega))
    have PB := Lib_hid (fun (W : World) (hW : Below w.heap.size w W) => hlb ▸ pof_any w.heap.size nl cl n Al ls W (hr'.below hW) hW.size (by omega))
    have SF := sets_facts hlen i
    have hca : (allB la).length ≤ 400 := Nat.le_trans (allK_len la la.length) hsize
    have hcb : (allB lb).length ≤ 400 := Nat.le_trans (allK_len lb lb.length) (by omega)
    obtain ⟨f1, f2, f3, f4, g1, g2, g3, g4, k1, k2, k3, e1, e2, s1⟩ := SF
    have hcj := allB_len (doB 0 la [lb])
    have hcm := allB_len (doB 1 la [lb])
    have hcl := allB_len (doB 2 la [lb])
    rw [doB_len] at hcj hcm hcl
    have CP := Lib_hid (fun (lo hi p : Nat) (l : List Bool) (W : World) (hz : BZ W lo hi p l) => pcopy_any lo hi p l W hz)
    have JO : Hid (∀ X lo hi p lo' hi' q, Ws w lo hi p la X → Ws w lo' hi' q lb X → (hi' ≤ lo ∨ hi ≤ lo') → Calls Tryd.prog 24 #[pv p, .slice (some ⟨X.heap.size, 0, none⟩) 1 1] (X.alloc (.cells #[pv q] 26)) (ChEnd 0 lo hi p la [lb] (X.alloc (.cells #[pv q] 26)))) := fun X lo hi p lo' hi' q h h' hd => by
      obtain ⟨h1, h2, h3, h4, h5⟩ := row_in h h' hd
      exact pjoin_any lo hi p 1 1 _ la [pv q] [lb] _ h1 h2 h3 h4 (by decide) (by decide) h5
    have ME : Hid (∀ X lo hi p lo' hi' q, Ws w lo hi p la X → Ws w lo' hi' q lb X → (hi' ≤ lo ∨ hi ≤ lo') → Calls Tryd.prog 25 #[pv p, .slice (some ⟨X.heap.size, 0, none⟩) 1 1] (X.alloc (.cells #[pv q] 26)) (ChEnd 1 lo hi p la [lb] (X.alloc (.cells #[pv q] 26)))) := fun X lo hi p lo' hi' q h h' hd => by
      obtain ⟨h1, h2, h3, h4, h5⟩ := row_in h h' hd
      exact pmeet_any lo hi p 1 1 _ la [pv q] [lb] _ h1 h2 h3 h4 (by decide) (by decide) h5
    have LS : Hid (∀ X lo hi p lo' hi' q, Ws w lo hi p la X → Ws w lo' hi' q lb X → (hi' ≤ lo ∨ hi ≤ lo') → Calls Tryd.prog 26 #[pv p, .slice (some ⟨X.heap.size, 0, none⟩) 1 1] (X.alloc (.cells #[pv q] 26)) (ChEnd 2 lo hi p la [lb] (X.alloc (.cells #[pv q] 26)))) := fun X lo hi p lo' hi' q h h' hd => by
      obtain ⟨h1, h2, h3, h4, h5⟩ := row_in h h' hd
      exact pless_any lo hi p 1 1 _ la [pv q] [lb] _ h1 h2 h3 h4 (by decide) (by decide) h5
    have JL : Hid (∀ X lo hi p lo' hi' q, Ws w lo hi p (doB 2 la [lb]) X → Ws w lo' hi' q (doB 1 la [lb]) X → (hi' ≤ lo ∨ hi ≤ lo') → Calls Tryd.prog 24 #[pv p, .slice (some ⟨X.heap.size, 0, none⟩) 1 1] (X.alloc (.cells #[pv q] 26)) fun e w' => e = .returned (.int .i64 ((allB (doB 1 la [lb])).length : Int)) ∧ BZ w' lo hi p la ∧ Turns (fun k => lo ≤ k ∧ k < hi) (X.alloc (.cells #[pv q] 26)) w') := fun X lo hi p lo' hi' q h h' hd => by
      obtain ⟨h1, h2, h3, h4, h5⟩ := row_in h h' hd
      have := pjoin_any lo hi p 1 1 _ (doB 2 la [lb]) [pv q] [doB 1 la [lb]] _ h1 h2 h3 h4 (by decide) (by decide) h5
      unfold ChEnd at this
      rw [e1, e2] at this
      exact this
    have WI : Hid (∀ X lo hi p lo' hi' q l m, Ws w lo hi p l X → Ws w lo' hi' q m X → withinB l m = true → Calls Tryd.prog 22 #[pv p, pv q] X fun e w' => e = .returned (.bool true) ∧ Below X.heap.size X w') := fun X lo hi p lo' hi' q l m h h' hw => hw ▸ pwithin_any lo hi p l m (pv q) X h.z h'.oth
    have SA : Hid (∀ X lo hi p lo' hi' q, Ws w lo hi p la X → Ws w lo' hi' q la X → Calls Tryd.prog 19 #[pv p, pv q] X fun e w' => e = .returned (.bool true) ∧ Below X.heap.size X w') := fun X lo hi p lo' hi' q h h' => sameB_refl la ▸ psame_any (pv p) (pv q) la la X h.oth h'.oth
    have LE : Hid (∀ (X : World) (lo hi p : Nat) (l : List Bool) (c : Nat), (allB l).length = c → Ws w lo hi p l X → Calls Tryd.prog 13 #[pv p] X fun e w' => e = .returned (.int .i64 (c : Int)) ∧ Below X.heap.size X w') := fun X lo hi p l c hc h => hc ▸ plen_any lo hi p l X h.z
    have HS := Lib_hid (fun (X : World) (lo hi p : Nat) (l : List Bool) (h : Ws w lo hi p l X) => phas_any lo hi p l i X h.z)
    have FW := Lib_hid (And.intro f1 (And.intro f2 (And.intro f3 f4)))
    clear f1 f2 f3 f4 e1 e2 hr hr' hT hla hlb
    go_enter Tryd.func5, Tryd.ntmps5
    go_wp2_with fail
    refine (PA.out w (Below.refl _ _)).mono ?_
    intro e w1 hN
    obtain ⟨A, rfl, ha, _, _⟩ := hN.wsi (Below.refl _ _)
    have HA := Lib_hid ha
    clear hN ha
    go_wp2_with fail
    refine (PB.out w1 HA.out.b).mono ?_
    intro e w2 hN
    obtain ⟨B, rfl, hb, hbb, hlo⟩ := hN.wsi HA.out.b
    have HO1 := Lib_hid (Nat.le_trans HA.out.le hlo)
    replace HA := Lib_hid (HA.out.below hbb)
    have HB := Lib_hid hb
    clear hN hb hbb hlo
    go_wp2_with fail
    refine (CP.out _ _ _ _ w2 HA.out.z).mono ?_
    intro e w3 hN
    obtain ⟨J, rfl, hj, hbb, hlo⟩ := hN.wsi HA.out.b
    have HO2 := Lib_hid (Nat.le_trans HB.out.le hlo)
    replace HA := Lib_hid (HA.out.below hbb)
    replace HB := Lib_hid (HB.out.below hbb)
    have HJ := Lib_hid hj
    clear hN hj hbb hlo
    go_wp2_with fail
    refine (CP.out _ _ _ _ w3 HA.out.z).mono ?_
    intro e w4 hN
    obtain ⟨M, rfl, hm, hbb, hlo⟩ := hN.wsi HA.out.b
    have HO3 := Lib_hid (Nat.le_trans HJ.out.le hlo)
    replace HA := Lib_hid (HA.out.below hbb)
    replace HB := Lib_hid (HB.out.below hbb)
    replace HJ := Lib_hid (HJ.out.below hbb)
    have HM := Lib_hid hm
    clear hN hm hbb hlo
    go_wp2_with fail
    refine (CP.out _ _ _ _ w4 HA.out.z).mono ?_
    intro e w5 hN
    obtain ⟨L, rfl, hl, hbb, hlo⟩ := hN.wsi HA.out.b
    have HO4 := Lib_hid (Nat.le_trans HM.out.le hlo)
    have HV : Hid (Five w A B J M L la lb la la la w5) := ⟨HA.out.below hbb, HB.out.below hbb, HJ.out.below hbb, HM.out.below hbb, hl, HO1.out, HO2.out, HO3.out, HO4.out⟩
    clear hN hl hbb hlo HA HB HJ HM HO1 HO2 HO3 HO4
    go_wp2_with fail
    refine (JO.out w5 _ _ _ _ _ _ HV.out.j HV.out.b (.inl HV.out.o.2.1)).mono ?_
    rintro e w6 ⟨rfl, hz, ht⟩
    replace HV := Lib_hid ((HV.out.alloc _).turnJ hz ht)
    clear hz ht
    go_wp2_with fail
    refine (ME.out w6 _ _ _ _ _ _ HV.out.m HV.out.b (.inl (by have := HV.out.o; have := HV.out.j.lh; omega))).mono ?_
    rintro e w7 ⟨rfl, hz, ht⟩
    replace HV := Lib_hid ((HV.out.alloc _).turnM hz ht)
    clear hz ht
    go_wp2_with fail
    refine (LS.out w7 _ _ _ _ _ _ HV.out.l HV.out.b (.inl (by have := HV.out.o; have := HV.out.j.lh; have := HV.out.m.lh; omega))).mono ?_
    rintro e w8 ⟨rfl, hz, ht⟩
    replace HV := Lib_hid ((HV.out.alloc _).turnL hz ht)
    clear hz ht
    generalize hjj : doB 0 la [lb] = lj at *
    generalize hmm : doB 1 la [lb] = lm at *
    generalize hll : doB 2 la [lb] = ll at *
    have NL := Lib_hid (And.intro hjj (And.intro hmm hll))
    clear hjj hmm hll JO ME LS CP PA PB
    generalize hqa : (allB la).length = ca at *
    generalize hqb : (allB lb).length = cb at *
    generalize hqj : (allB lj).length = cj at *
    generalize hqm : (allB lm).length = cm at *
    generalize hql : (allB ll).length = cll at *
    have QA := Lib_hid hqa
    have QB := Lib_hid hqb
    have QJ := Lib_hid hqj
    have QM := Lib_hid hqm
    have QL := Lib_hid hql
    clear hqa hqb hqj hqm hql
    generalize manyB 0 la [lb] = m0 at *
    generalize manyB 1 la [lb] = m1 at *
    generalize manyB 2 la [lb] = m2 at *
    go_wp2_with fail
    refine (WI.out _ _ _ _ _ _ _ _ _ HV.out.a HV.out.j FW.out.1).mono ?_
    rintro e w9 ⟨rfl, hb⟩
    replace HV := Lib_hid (HV.out.below hb)
    clear hb
    go_wp2_with fail
    refine (WI.out _ _ _ _ _ _ _ _ _ HV.out.b HV.out.j FW.out.2.1).mono ?_
    rintro e w10 ⟨rfl, hb⟩
    replace HV := Lib_hid (HV.out.below hb)
    clear hb
    go_wp2_with fail
    refine (WI.out _ _ _ _ _ _ _ _ _ HV.out.m HV.out.a FW.out.2.2.1).mono ?_
    rintro e w11 ⟨rfl, hb⟩
    replace HV := Lib_hid (HV.out.below hb)
    clear hb
    go_wp2_with fail
    refine (WI.out _ _ _ _ _ _ _ _ _ HV.out.m HV.out.b FW.out.2.2.2).mono ?_
    rintro e w12 ⟨rfl, hb⟩
    replace HV := Lib_hid (HV.out.below hb)
    clear hb
    have i1 : ((cj : Int) != (ca : Int) + (m0 : Int)) = false := by simp; omega
    have i2 : ((cm : Int) != (ca : Int) - (m1 : Int)) = false := by simp; omega
    have i3 : ((cll : Int) != (ca : Int) - (m2 : Int)) = false := by simp; omega
    have i4 : ((m1 : Int) + (m2 : Int) != (ca : Int)) = false := by simp; omega
    have i5 : ((cm : Int) != (cm : Int)) = false := by simp
    have i6 : ((cj : Int) + (cm : Int) == (ca : Int) + (cb : Int)) = true := by simp; omega
    have bd : (m0 : Int) ≤ 400 ∧ (m1 : Int) ≤ 400 ∧ (m2 : Int) ≤ 400 ∧ (cj : Int) ≤ 400 ∧ (cm : Int) ≤ 400 ∧ (cll : Int) ≤ 400 ∧ (ca : Int) ≤ 400 ∧ (cb : Int) ≤ 400 := by omega
    obtain ⟨bd0, bd1, bd2, bd3, bd4, bd5, bd6, bd7⟩ := bd
    clear g1 g2 g3 g4 s1 hcj hcm hcl hca hcb
    go_wp2_with fail
    refine (LE.out _ _ _ _ _ _ QJ.out HV.out.j).mono ?_
    rintro e w13 ⟨rfl, hb⟩
    replace HV := Lib_hid (HV.out.below hb)
    clear hb
    go_wp2_with fail
    refine (LE.out _ _ _ _ _ _ QA.out HV.out.a).mono ?_
    rintro e w14 ⟨rfl, hb⟩
    replace HV := Lib_hid (HV.out.below hb)
    clear hb
    go_wp2_with fail
    refine (LE.out _ _ _ _ _ _ QM.out HV.out.m).mono ?_
    rintro e w15 ⟨rfl, hb⟩
    replace HV := Lib_hid (HV.out.below hb)
    clear hb
    go_wp2_with fail
    refine (LE.out _ _ _ _ _ _ QA.out HV.out.a).mono ?_
    rintro e w16 ⟨rfl, hb⟩
    replace HV := Lib_hid (HV.out.below hb)
    clear hb
    go_wp2_with fail
    refine (LE.out _ _ _ _ _ _ QL.out HV.out.l).mono ?_
    rintro e w17 ⟨rfl, hb⟩
    replace HV := Lib_hid (HV.out.below hb)
    clear hb
    go_wp2_with fail
    refine (LE.out _ _ _ _ _ _ QA.out HV.out.a).mono ?_
    rintro e w18 ⟨rfl, hb⟩
    replace HV := Lib_hid (HV.out.below hb)
    clear hb
    go_wp2_with fail
    refine (LE.out _ _ _ _ _ _ QA.out HV.out.a).mono ?_
    rintro e w19 ⟨rfl, hb⟩
    replace HV := Lib_hid (HV.out.below hb)
    clear hb
    cases hxa : hasB la i
    · cases hxb : hasB lb i
      all_goals
        rw [hxa, hxb] at k1 k2 k3
        simp only [Bool.or_true, Bool.or_false, Bool.and_true, Bool.and_false, Bool.not_true, Bool.not_false] at k1 k2 k3
        have HJ := Lib_hid (fun (X : World) (lo hi p : Nat) (h : Ws w lo hi p lj X) => k1 ▸ HS.out X lo hi p lj h)
        have HM := Lib_hid (fun (X : World) (lo hi p : Nat) (h : Ws w lo hi p lm X) => k2 ▸ HS.out X lo hi p lm h)
        have HL := Lib_hid (fun (X : World) (lo hi p : Nat) (h : Ws w lo hi p ll X) => k3 ▸ HS.out X lo hi p ll h)
        have HA := Lib_hid (fun (X : World) (lo hi p : Nat) (h : Ws w lo hi p la X) => hxa ▸ HS.out X lo hi p la h)
        have HB := Lib_hid (fun (X : World) (lo hi p : Nat) (h : Ws w lo hi p lb X) => hxb ▸ HS.out X lo hi p lb h)
        clear k1 k2 k3 hxa hxb HS
        go_wp2_with fail
        refine (HJ.out _ _ _ _ HV.out.j).mono ?_
        rintro e z31 ⟨rfl, qy31, rfl⟩
        replace HV := Lib_hid (HV.out.drewN qy31)
        generalize w19.drewN qy31 = v31 at *
        go_wp2_with fail
        refine (HA.out _ _ _ _ HV.out.a).mono ?_
        rintro e z32 ⟨rfl, qy32, rfl⟩
        replace HV := Lib_hid (HV.out.drewN qy32)
        generalize v31.drewN qy32 = v32 at *
        go_wp2_with fail
        refine (HB.out _ _ _ _ HV.out.b).mono ?_
        rintro e z33 ⟨rfl, qy33, rfl⟩
        replace HV := Lib_hid (HV.out.drewN qy33)
        generalize v32.drewN qy33 = v33 at *
        go_wp2_with fail
        refine (HM.out _ _ _ _ HV.out.m).mono ?_
        rintro e z34 ⟨rfl, qy34, rfl⟩
        replace HV := Lib_hid (HV.out.drewN qy34)
        generalize v33.drewN qy34 = v34 at *
        go_wp2_with fail
        refine (HA.out _ _ _ _ HV.out.a).mono ?_
        rintro e z35 ⟨rfl, qy35, rfl⟩
        replace HV := Lib_hid (HV.out.drewN qy35)
        generalize v34.drewN qy35 = v35 at *
        go_wp2_with fail
        refine (HL.out _ _ _ _ HV.out.l).mono ?_
        rintro e z36 ⟨rfl, qy36, rfl⟩
        replace HV := Lib_hid (HV.out.drewN qy36)
        generalize v35.drewN qy36 = v36 at *
        go_wp2_with fail
        refine (HA.out _ _ _ _ HV.out.a).mono ?_
        rintro e z37 ⟨rfl, qy37, rfl⟩
        replace HV := Lib_hid (HV.out.drewN qy37)
        generalize v36.drewN qy37 = v37 at *
        go_wp2_with fail
        refine (JL.out _ _ _ _ _ _ _ HV.out.l HV.out.m (.inl HV.out.o.2.2.2)).mono ?_
        rintro e w38 ⟨rfl, hz, ht⟩
        replace HV := Lib_hid ((HV.out.alloc _).turnL hz ht)
        clear hz ht
        go_wp2_with fail
        refine (LE.out _ _ _ _ _ _ QM.out HV.out.m).mono ?_
        rintro e w39 ⟨rfl, hb⟩
        replace HV := Lib_hid (HV.out.below hb)
        clear hb
        go_wp2_with fail
        refine (SA.out _ _ _ _ _ _ _ HV.out.l HV.out.a).mono ?_
        rintro e w40 ⟨rfl, hb⟩
        replace HV := Lib_hid (HV.out.below hb)
        clear hb
        go_wp2_with fail
        refine (LE.out _ _ _ _ _ _ QJ.out HV.out.j).mono ?_
        rintro e w41 ⟨rfl, hb⟩
        replace HV := Lib_hid (HV.out.below hb)
        clear hb
        go_wp2_with fail
        refine (LE.out _ _ _ _ _ _ QM.out HV.out.m).mono ?_
        rintro e w42 ⟨rfl, hb⟩
        replace HV := Lib_hid (HV.out.below hb)
        clear hb
        go_wp2_with fail
        refine (LE.out _ _ _ _ _ _ QA.out HV.out.a).mono ?_
        rintro e w43 ⟨rfl, hb⟩
        replace HV := Lib_hid (HV.out.below hb)
        clear hb
        go_wp2_with fail
        refine (LE.out _ _ _ _ _ _ QB.out HV.out.b).mono ?_
        rintro e w44 ⟨rfl, hb⟩
        replace HV := Lib_hid (HV.out.below hb)
        clear hb
        go_wp2_with fail
        refine (HWO.out _ HV.out.a.b).mono ?_
        rintro e wf ⟨rfl, hb⟩
        have hfin := HV.out.a.b.trans (hb.mono HV.out.a.b.size)
        clear hb
        go_wp2
        go_ret
        exact ⟨by simp, hfin⟩
    · cases hxb : hasB lb i
      all_goals
        rw [hxa, hxb] at k1 k2 k3
        simp only [Bool.or_true, Bool.or_false, Bool.and_true, Bool.and_false, Bool.not_true, Bool.not_false] at k1 k2 k3
        have HJ := Lib_hid (fun (X : World) (lo hi p : Nat) (h : Ws w lo hi p lj X) => k1 ▸ HS.out X lo hi p lj h)
        have HM := Lib_hid (fun (X : World) (lo hi p : Nat) (h : Ws w lo hi p lm X) => k2 ▸ HS.out X lo hi p lm h)
        have HL := Lib_hid (fun (X : World) (lo hi p : Nat) (h : Ws w lo hi p ll X) => k3 ▸ HS.out X lo hi p ll h)
        have HA := Lib_hid (fun (X : World) (lo hi p : Nat) (h : Ws w lo hi p la X) => hxa ▸ HS.out X lo hi p la h)
        have HB := Lib_hid (fun (X : World) (lo hi p : Nat) (h : Ws w lo hi p lb X) => hxb ▸ HS.out X lo hi p lb h)
        clear k1 k2 k3 hxa hxb HS
        go_wp2_with fail
        refine (HJ.out _ _ _ _ HV.out.j).mono ?_
        rintro e z45 ⟨rfl, qy45, rfl⟩
        replace HV := Lib_hid (HV.out.drewN qy45)
        generalize w19.drewN qy45 = v45 at *
        go_wp2_with fail
        refine (HA.out _ _ _ _ HV.out.a).mono ?_
        rintro e z46 ⟨rfl, qy46, rfl⟩
        replace HV := Lib_hid (HV.out.drewN qy46)
        generalize v45.drewN qy46 = v46 at *
        go_wp2_with fail
        refine (HM.out _ _ _ _ HV.out.m).mono ?_
        rintro e z47 ⟨rfl, qy47, rfl⟩
        replace HV := Lib_hid (HV.out.drewN qy47)
        generalize v46.drewN qy47 = v47 at *
        go_wp2_with fail
        refine (HA.out _ _ _ _ HV.out.a).mono ?_
        rintro e z48 ⟨rfl, qy48, rfl⟩
        replace HV := Lib_hid (HV.out.drewN qy48)
        generalize v47.drewN qy48 = v48 at *
        go_wp2_with fail
        refine (HB.out _ _ _ _ HV.out.b).mono ?_
        rintro e z49 ⟨rfl, qy49, rfl⟩
        replace HV := Lib_hid (HV.out.drewN qy49)
        generalize v48.drewN qy49 = v49 at *
        go_wp2_with fail
        refine (HL.out _ _ _ _ HV.out.l).mono ?_
        rintro e z50 ⟨rfl, qy50, rfl⟩
        replace HV := Lib_hid (HV.out.drewN qy50)
        generalize v49.drewN qy50 = v50 at *
        go_wp2_with fail
        refine (HA.out _ _ _ _ HV.out.a).mono ?_
        rintro e z51 ⟨rfl, qy51, rfl⟩
        replace HV := Lib_hid (HV.out.drewN qy51)
        generalize v50.drewN qy51 = v51 at *
        go_wp2_with fail
        refine (HB.out _ _ _ _ HV.out.b).mono ?_
        rintro e z52 ⟨rfl, qy52, rfl⟩
        replace HV := Lib_hid (HV.out.drewN qy52)
        generalize v51.drewN qy52 = v52 at *
        go_wp2_with fail
        refine (JL.out _ _ _ _ _ _ _ HV.out.l HV.out.m (.inl HV.out.o.2.2.2)).mono ?_
        rintro e w53 ⟨rfl, hz, ht⟩
        replace HV := Lib_hid ((HV.out.alloc _).turnL hz ht)
        clear hz ht
        go_wp2_with fail
        refine (LE.out _ _ _ _ _ _ QM.out HV.out.m).mono ?_
        rintro e w54 ⟨rfl, hb⟩
        replace HV := Lib_hid (HV.out.below hb)
        clear hb
        go_wp2_with fail
        refine (SA.out _ _ _ _ _ _ _ HV.out.l HV.out.a).mono ?_
        rintro e w55 ⟨rfl, hb⟩
        replace HV := Lib_hid (HV.out.below hb)
        clear hb
        go_wp2_with fail
        refine (LE.out _ _ _ _ _ _ QJ.out HV.out.j).mono ?_
        rintro e w56 ⟨rfl, hb⟩
        replace HV := Lib_hid (HV.out.below hb)
        clear hb
        go_wp2_with fail
        refine (LE.out _ _ _ _ _ _ QM.out HV.out.m).mono ?_
        rintro e w57 ⟨rfl, hb⟩
        replace HV := Lib_hid (HV.out.below hb)
        clear hb
        go_wp2_with fail
        refine (LE.out _ _ _ _ _ _ QA.out HV.out.a).mono ?_
        rintro e w58 ⟨rfl, hb⟩
        replace HV := Lib_hid (HV.out.below hb)
        clear hb
        go_wp2_with fail
        refine (LE.out _ _ _ _ _ _ QB.out HV.out.b).mono ?_
        rintro e w59 ⟨rfl, hb⟩
        replace HV := Lib_hid (HV.out.below hb)
        clear hb
        go_wp2_with fail
        refine (HWO.out _ HV.out.a.b).mono ?_
        rintro e wf ⟨rfl, hb⟩
        have hfin := HV.out.a.b.trans (hb.mono HV.out.a.b.size)
        clear hb
        go_wp2
        go_ret
        exact ⟨by simp, hfin⟩
  · have hcs : (400 < n) ∨ (n ≤ 400 ∧ 40 < nk) ∨ (n ≤ 400 ∧ nk ≤ 40 ∧ 40 < nl) := by omega
    clear hr hr' hT hall
    rcases hcs with h1 | ⟨h1, h3⟩ | ⟨h1, h3, h4⟩
    · have d1 : decide ((400 : Int) < n) = true := decide_eq_true h1
      go_enter Tryd.func5, Tryd.ntmps5
      go_wp2_with fail
      refine (HWO.out w (Below.refl _ _)).mono ?_
      rintro e w1 ⟨rfl, hb⟩
      go_wp2
      go_ret
      exact ⟨rfl, hb⟩
    · have d1 : decide ((400 : Int) < n) = false := decide_eq_false (by omega)
      have d3 : decide ((40 : Int) < (nk : Int)) = true := decide_eq_true (by omega)
      go_enter Tryd.func5, Tryd.ntmps5
      go_wp2_with fail
      refine (HWO.out w (Below.refl _ _)).mono ?_
      rintro e w1 ⟨rfl, hb⟩
      go_wp2
      go_ret
      exact ⟨rfl, hb⟩
    · have d1 : decide ((400 : Int) < n) = false := decide_eq_false (by omega)
      have d3 : decide ((40 : Int) < (nk : Int)) = false := decide_eq_false (by omega)
      have d4 : decide ((40 : Int) < (nl : Int)) = true := decide_eq_true (by omega)
      go_enter Tryd.func5, Tryd.ntmps5
      go_wp2_with fail
      refine (HWO.out w (Below.refl _ _)).mono ?_
      rintro e w1 ⟨rfl, hb⟩
      go_wp2
      go_ret
      exact ⟨rfl, hb⟩

end Go.Proofs.YtiembenkdldklaaDoor
