/-
  Layer 4: Same, the program's, with slices.EqualFunc.
-/
import Derived.Test.YtbcadnkdehknoaaGreatDoorTsm
namespace Go.Proofs.YtbcadnkdehknoaaGreatDoor
open Go Go.RowKit
set_option linter.unusedVariables false

/-- The parts are held against others as they should be. -/
def SameC (lo hi lo' hi' : Nat) (ps : List V) : Prop := ∀ p ∈ ps, ∀ (u : V) (W : World), Lies W lo hi p → hi ≤ W.heap.size → Lies W lo' hi' u → hi' ≤ W.heap.size → Calls Tryz.prog 54 #[p.val, u.val] W fun e w' => e = .returned (.bool (p.abs.sameB u.abs)) ∧ Below W.heap.size W w'

set_option maxRecDepth 100000 in
set_option maxHeartbeats 1600000 in
theorem eqf_any (k k' : Int) (a b a' b' c c' lo hi lo' hi' : Nat) (A A' : Option Addr) (ps qs : List V) (w : World) (hL : Lies w lo hi (.node k a b A c ps)) (hhi : hi ≤ w.heap.size) (hL' : Lies w lo' hi' (.node k' a' b' A' c' qs)) (hhi' : hi' ≤ w.heap.size) (hC : SameC lo hi lo' hi' ps) :
    Calls Tryz.prog 89 #[.slice A ps.length c, .slice A' qs.length c', .func (.func 54) #[] #[]] w fun e w' => ∃ r, e = .returned (.bool r) ∧ (r = true ↔ V.absL ps = V.absL qs) ∧ Below w.heap.size w w' := by
  obtain ⟨hlen, hcap', -, -, -⟩ := hL.caps
  obtain ⟨hlen2, hcap2, -, -, -⟩ := hL'.caps
  have HL : Hid (∀ W, Below w.heap.size w W → Lies W lo hi (V.node k a b A c ps) ∧ Lies W lo' hi' (V.node k' a' b' A' c' qs)) := fun W hW => ⟨hL.under (hW.mono hhi), hL'.under (hW.mono hhi')⟩
  have IH := Lib_hid hC
  clear hL hL' hC
  by_cases hll : ps.length = qs.length
  · have q4 : ((ps.length : Int) != (qs.length : Int)) = false := by simp [hll]
    have HQ := Lib_hid hll
    clear hll
    go_enter Tryz.func89, Tryz.ntmps89
    go_wp2
    go_loopw [17] (fun z wr => ∃ i : Nat, z = .int .i64 i ∧ i ≤ ps.length ∧ Hid (V.absL (ps.take i) = V.absL (qs.take i)) ∧ Below w.heap.size w wr) (fun z _ => ps.length - (intOf z).toNat)
    case atStart => exact ⟨0, rfl, Nat.zero_le _, Lib_hid (by simp [V.absL]), Below.refl _ _⟩
    case round =>
      clear q4
      obtain ⟨i, rfl, hi1, hme, hbw⟩ := hrel
      by_cases hlt : i < ps.length
      · have hlt2 : i < qs.length := by have := HQ.out; omega
        obtain ⟨bb, off, p, rfl, hbB, hlo, hp, hpl, d0, d1, d2, d3⟩ := (HL.out wr hbw).1.nth hlt
        obtain ⟨bb', off', q, rfl, hbB', hlo', hq, hql, f0, f1, f2, f3⟩ := (HL.out wr hbw).2.nth hlt2
        have hszw := hbw.size
        have hbl : bb' < wr.heap.size := by omega
        have hb1 := below_new wr (.cells #[.int .i64 p.kind, .int .u64 (p.a : Int), .int .u64 (p.b : Int), p.sl] 27)
        have hb2 := hb1.alloc hb1.size (.cells #[.int .i64 q.kind, .int .u64 (q.a : Int), .int .u64 (q.b : Int), q.sl] 27)
        have CH := IH.out p (List.mem_of_getElem? hp) q ((wr.alloc (.cells #[.int .i64 p.kind, .int .u64 (p.a : Int), .int .u64 (p.b : Int), p.sl] 27)).alloc (.cells #[.int .i64 q.kind, .int .u64 (q.a : Int), .int .u64 (q.b : Int), q.sl] 27)) (hpl.under (hb2.mono (by omega))) (by simp; omega) (hql.under (hb2.mono (by omega))) (by simp; omega)
        have hbA := hbw.trans (hb2.mono hbw.size)
        obtain ⟨sr, hsr⟩ : ∃ sr, sr = p.abs.sameB q.abs := ⟨_, rfl⟩
        rw [← hsr] at CH
        have HN : Hid ((sr = true → V.absL (ps.take (i + 1)) = V.absL (qs.take (i + 1))) ∧ (sr = false → ¬ V.absL ps = V.absL qs)) := by
          refine ⟨fun h => ?_, fun h => ?_⟩
          · have : p.abs = q.abs := (sameB_iff _ _).1 (hsr.symm.trans h)
            rw [absL_take hp, absL_take hq, hme.out, this]
          · refine absL_ne hp hq (fun e => ?_)
            rw [e, sameB_self] at hsr
            rw [hsr] at h; cases h
        cases p with
        | node pk pa pb pA pc pps =>
        cases q with
        | node qk qa qb qA qc qqs =>
        simp only [V.val, V.kind, V.a, V.b, V.sl, V.addr, V.parts, V.cap] at CH d0 d1 d2 d3 f0 f1 f2 f3 hbA
        clear hsr hp hq hpl hql hme hb1 hb2
        go_wp2_with fail
        refine CH.mono ?_
        rintro e ws ⟨rfl, hbs⟩
        have hbws := hbA.trans (hbs.mono hbA.size)
        clear CH hbs hbA d0 d1 d2 d3 f0 f1 f2 f3
        cases sr with
        | true =>
          have HM := Lib_hid (HN.out.1 (by simp))
          go_wp2
          go_roundw
          case rel => exact ⟨i + 1, by go_num, by omega, HM, hbws⟩
          case measure => simp [intOf]; omega
        | false =>
          have HM := Lib_hid (HN.out.2 (by simp))
          have PF : Hid (∀ W, Below w.heap.size w W → ∃ r, Ending.returned (.bool false) = .returned (.bool r) ∧ (r = true ↔ V.absL ps = V.absL qs) ∧ Below w.heap.size w W) := fun W hW => ⟨false, rfl, ⟨(fun h => by cases h), fun h => absurd h HM.out⟩, hW⟩
          go_wp2
          go_ret
          exact PF.out _ hbws
      · obtain rfl : i = ps.length := by omega
        have HM : Hid (V.absL ps = V.absL qs) := by
          have h := hme.out
          rw [List.take_length, HQ.out, List.take_length] at h
          exact h
        have PF : Hid (∀ W, Below w.heap.size w W → ∃ r, Ending.returned (.bool true) = .returned (.bool r) ∧ (r = true ↔ V.absL ps = V.absL qs) ∧ Below w.heap.size w W) := fun W hW => ⟨true, rfl, ⟨fun _ => HM.out, fun _ => rfl⟩, hW⟩
        clear hme
        go_wp2
        go_ret
        exact PF.out _ hbw
  · have q4 : ((ps.length : Int) != (qs.length : Int)) = true := by simp; omega
    have PF : Hid (∀ W, Below w.heap.size w W → ∃ r, Ending.returned (.bool false) = .returned (.bool r) ∧ (r = true ↔ V.absL ps = V.absL qs) ∧ Below w.heap.size w W) := fun W hW => ⟨false, rfl, ⟨(fun h => by cases h), fun h => absurd (by have := congrArg List.length h; rwa [absL_length, absL_length] at this) hll⟩, hW⟩
    clear hll
    go_enter Tryz.func89, Tryz.ntmps89
    go_wp2
    go_ret
    exact PF.out _ (Below.refl _ _)

set_option maxRecDepth 100000 in
set_option maxHeartbeats 1600000 in
theorem psame_any : ∀ (v u : V) (w : World) (lo hi lo' hi' : Nat), Lies w lo hi v → hi ≤ w.heap.size → Lies w lo' hi' u → hi' ≤ w.heap.size →
    Calls Tryz.prog 54 #[v.val, u.val] w fun e w' => e = .returned (.bool (v.abs.sameB u.abs)) ∧ Below w.heap.size w w' := by
  refine V.ind fun k a b A c ps ih u w lo hi lo' hi' hL hhi hL' hhi' => ?_
  cases u with
  | node k' a' b' A' c' qs =>
  have hb1 := below_new w (.cells #[.int .i64 k, .int .u64 (a : Int), .int .u64 (b : Int), .slice A ps.length c] 27)
  have hbA := hb1.alloc hb1.size (.cells #[.int .i64 k', .int .u64 (a' : Int), .int .u64 (b' : Int), .slice A' qs.length c'] 27)
  have EF := eqf_any k k' a b a' b' c c' lo hi lo' hi' A A' ps qs ((w.alloc (.cells #[.int .i64 k, .int .u64 (a : Int), .int .u64 (b : Int), .slice A ps.length c] 27)).alloc (.cells #[.int .i64 k', .int .u64 (a' : Int), .int .u64 (b' : Int), .slice A' qs.length c'] 27)) (hL.under (hbA.mono hhi)) (by simp; omega) (hL'.under (hbA.mono hhi')) (by simp; omega) (fun p hp u W h2 h3 h4 h5 => ih p hp u W lo hi lo' hi' h2 h3 h4 h5)
  have HE : Hid ((V.node k a b A c ps).abs = .node k a b (V.absL ps) ∧ (V.node k' a' b' A' c' qs).abs = .node k' a' b' (V.absL qs)) := ⟨V.abs_node .., V.abs_node ..⟩
  obtain ⟨r, hr⟩ : ∃ r, r = (V.node k a b A c ps).abs.sameB (V.node k' a' b' A' c' qs).abs := ⟨_, rfl⟩
  rw [← hr]
  have HR : Hid ((k = k' ∧ a = a' ∧ b = b' ∧ V.absL ps = V.absL qs → r = true) ∧ (¬ (k = k' ∧ a = a' ∧ b = b' ∧ V.absL ps = V.absL qs) → r = false)) := by
    rw [HE.out.1, HE.out.2] at hr
    refine ⟨fun ⟨h1, h2, h3, h4⟩ => ?_, fun h => ?_⟩
    · rw [hr, h1, h2, h3, h4, sameB_self]
    · rw [hr]; exact sameB_ne fun e => h (by injection e with e1 e2 e3 e4; exact ⟨e1, e2, e3, e4⟩)
  clear ih hL hL' hr hb1
  simp only [V.val, V.kind, V.a, V.b, V.sl, V.addr, V.parts, V.cap]
  by_cases hkk : k = k'
  · by_cases haa : a = a'
    · by_cases hbb : b = b'
      · have q1 : (k == k') = true := by simp [hkk]
        have q2 : ((a : Int) == (a' : Int)) = true := by simp [haa]
        have q3 : ((b : Int) == (b' : Int)) = true := by simp [hbb]
        have HQ := Lib_hid (And.intro hkk (And.intro haa hbb))
        clear hkk haa hbb
        go_enter Tryz.func54, Tryz.ntmps54
        go_wp2_with fail
        refine EF.mono ?_
        rintro e w1 ⟨s, rfl, hs, hb2⟩
        have hbw := hbA.trans (hb2.mono hbA.size)
        have HM : Hid (s = r) := by
          cases s with
          | true => exact (HR.out.1 ⟨HQ.out.1, HQ.out.2.1, HQ.out.2.2, hs.1 rfl⟩).symm
          | false => exact (HR.out.2 fun ⟨_, _, _, h4⟩ => by have := hs.2 h4; cases this).symm
        clear EF hs hb2 hbA
        go_wp2
        go_ret
        exact ⟨ret_b HM.out, hbw⟩
      · have HM := Lib_hid (HR.out.2 fun ⟨_, _, h3, _⟩ => hbb h3)
        have q1 : (k == k') = true := by simp [hkk]
        have q2 : ((a : Int) == (a' : Int)) = true := by simp [haa]
        have q3 : ((b : Int) == (b' : Int)) = false := by simp; omega
        clear hkk haa hbb EF
        go_enter Tryz.func54, Tryz.ntmps54
        go_wp2
        go_ret
        exact ⟨ret_b HM.out.symm, hbA⟩
    · have HM := Lib_hid (HR.out.2 fun ⟨_, h2, _⟩ => haa h2)
      have q1 : (k == k') = true := by simp [hkk]
      have q2 : ((a : Int) == (a' : Int)) = false := by simp; omega
      clear hkk haa EF
      go_enter Tryz.func54, Tryz.ntmps54
      go_wp2
      go_ret
      exact ⟨ret_b HM.out.symm, hbA⟩
  · have HM := Lib_hid (HR.out.2 fun ⟨h1, _⟩ => hkk h1)
    have q1 : (k == k') = false := by simp [hkk]
    clear hkk EF
    go_enter Tryz.func54, Tryz.ntmps54
    go_wp2
    go_ret
    exact ⟨ret_b HM.out.symm, hbA⟩

end Go.Proofs.YtbcadnkdehknoaaGreatDoor
