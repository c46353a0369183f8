/-
  Layer 4: Same, the document's.
  Layer 4: Same, the program's, with slices.EqualFunc.
  Layer 4: slices.Clone of parts; copies.
  Layer 4: the statements' SpoilExpr, over any tree in new memory.
  Layer 4: Both.
  Layer 4: Turn, the program's.
  Layer 4: Turn, the document's.
-/
import Derived.Test.YtpbmgbeiieapiaaGreatDoorThl
import Derived.Deep.RegionHeld3
import Derived.Test.YtpbmgbeiieapiaaGreatDoorTsh
import Derived.Test.YtpbmgbeiieapiaaGreatDoorTp4

namespace Go.Proofs.YtpbmgbeiieapiaaGreatDoor
open Go Go.RowKit
set_option linter.unusedVariables false

mutual
def T.sameB : T → T → Bool
  | .node k a b ps, .node k' a' b' qs => decide (k = k' ∧ a = a' ∧ b = b') && T.sameL ps qs
def T.sameL : List T → List T → Bool
  | [], [] => true
  | p :: ps, q :: qs => p.sameB q && T.sameL ps qs
  | _, _ => false
end
theorem sameL_iff : ∀ (ps qs : List T), (∀ p ∈ ps, ∀ q, p.sameB q = true ↔ p = q) → (T.sameL ps qs = true ↔ ps = qs)
  | [], [], _ => by simp [T.sameL]
  | [], q :: qs, _ => by simp [T.sameL]
  | p :: ps, [], _ => by simp [T.sameL]
  | p :: ps, q :: qs, h => by
    rw [T.sameL, Bool.and_eq_true, h p (by simp), sameL_iff ps qs fun x hx => h x (by simp [hx])]
    simp
theorem sameB_iff : ∀ (t s : T), t.sameB s = true ↔ t = s := by
  refine T.ind fun k a b ps ih s => ?_
  cases s with
  | node k' a' b' qs =>
    rw [T.sameB, Bool.and_eq_true, decide_eq_true_iff, sameL_iff ps qs ih]
    simp [T.node.injEq, and_assoc]
theorem sameB_ne {t s : T} (h : t ≠ s) : t.sameB s = false := by
  cases hs : t.sameB s with
  | false => rfl
  | true => exact absurd ((sameB_iff t s).1 hs) h
theorem sameB_self (t : T) : t.sameB t = true := (sameB_iff t t).2 rfl
theorem V.abs_node (k : Int) (a b : Nat) (A : Option Addr) (c : Nat) (ps : List V) : (V.node k a b A c ps).abs = .node k a b (V.absL ps) := by rw [V.abs]
theorem absL_ne {ps qs : List V} {i : Nat} {p q : V} (hp : ps[i]? = some p) (hq : qs[i]? = some q) (h : p.abs ≠ q.abs) : V.absL ps ≠ V.absL qs := by
  intro e
  have := congrArg (fun l : List T => l[i]?) e
  simp only [absL_map, List.getElem?_map, hp, hq, Option.map_some, Option.some.injEq] at this
  exact h this

set_option maxRecDepth 100000 in
set_option maxHeartbeats 1600000 in
theorem rsame_any : ∀ (v u : V) (w : World) (lo hi lo' hi' : Nat), Lies w lo hi v → hi ≤ w.heap.size → Lies w lo' hi' u → hi' ≤ w.heap.size →
    Calls Tryz.prog 16 #[v.val, u.val] w fun e w' => e = .returned (.bool (v.abs.sameB u.abs)) ∧ Below w.heap.size w w' := by
  refine V.ind fun k a b A c ps ih u w lo hi lo' hi' hL hhi hL' hhi' => ?_
  cases u with
  | node k' a' b' A' c' qs =>
  obtain ⟨hlen, hcap', -, -, -⟩ := hL.caps
  obtain ⟨hlen2, hcap2, -, -, -⟩ := hL'.caps
  have HL : Hid (∀ W, Below w.heap.size w W → Lies W lo hi (V.node k a b A c ps) ∧ Lies W lo' hi' (V.node k' a' b' A' c' qs)) := fun W hW => ⟨hL.under (hW.mono hhi), hL'.under (hW.mono hhi')⟩
  have IH : Hid (∀ p ∈ ps, ∀ (u : V) (W : World), Lies W lo hi p → hi ≤ W.heap.size → Lies W lo' hi' u → hi' ≤ W.heap.size → Calls Tryz.prog 16 #[p.val, u.val] W fun e w' => e = .returned (.bool (p.abs.sameB u.abs)) ∧ Below W.heap.size W w') := fun p hp u W h2 h3 h4 h5 => ih p hp u W lo hi lo' hi' h2 h3 h4 h5
  have hb1 := below_new w (.cells #[.int .i64 k, .int .u64 (a : Int), .int .u64 (b : Int), .slice A ps.length c] 30)
  have hbA := hb1.alloc hb1.size (.cells #[.int .i64 k', .int .u64 (a' : Int), .int .u64 (b' : Int), .slice A' qs.length c'] 30)
  have hx1 := (heap_alloc_old (w.alloc (.cells #[.int .i64 k, .int .u64 (a : Int), .int .u64 (b : Int), .slice A ps.length c] 30)) (.cells #[.int .i64 k', .int .u64 (a' : Int), .int .u64 (b' : Int), .slice A' qs.length c'] 30) (by simp : w.heap.size < _)).trans (heap_alloc_new w (.cells #[.int .i64 k, .int .u64 (a : Int), .int .u64 (b : Int), .slice A ps.length c] 30))
  have hx2 := heap_alloc_new (w.alloc (.cells #[.int .i64 k, .int .u64 (a : Int), .int .u64 (b : Int), .slice A ps.length c] 30)) (.cells #[.int .i64 k', .int .u64 (a' : Int), .int .u64 (b' : Int), .slice A' qs.length c'] 30)
  simp only [World.size_alloc] at hx2
  have HE : Hid ((V.node k a b A c ps).abs = .node k a b (V.absL ps) ∧ (V.node k' a' b' A' c' qs).abs = .node k' a' b' (V.absL qs)) := ⟨V.abs_node .., V.abs_node ..⟩
  obtain ⟨r, hr⟩ : ∃ r, r = (V.node k a b A c ps).abs.sameB (V.node k' a' b' A' c' qs).abs := ⟨_, rfl⟩
  rw [← hr]
  have HR : Hid ((k = k' ∧ a = a' ∧ b = b' ∧ V.absL ps = V.absL qs → r = true) ∧ (¬ (k = k' ∧ a = a' ∧ b = b' ∧ V.absL ps = V.absL qs) → r = false)) := by
    rw [HE.out.1, HE.out.2] at hr
    refine ⟨fun ⟨h1, h2, h3, h4⟩ => ?_, fun h => ?_⟩
    · rw [hr, h1, h2, h3, h4, sameB_self]
    · rw [hr]; exact sameB_ne fun e => h (by injection e with e1 e2 e3 e4; exact ⟨e1, e2, e3, e4⟩)
  clear ih hL hL' hr hb1
  simp only [V.val, V.kind, V.a, V.b, V.sl, V.addr, V.parts, V.cap]
  by_cases hkk : k = k'
  · by_cases haa : a = a'
    · by_cases hbb : b = b'
      · by_cases hll : ps.length = qs.length
        · have q1 : (k != k') = false := by simp [hkk]
          have q2 : ((a : Int) != (a' : Int)) = false := by simp [haa]
          have q3 : ((b : Int) != (b' : Int)) = false := by simp [hbb]
          have q4 : ((ps.length : Int) != (qs.length : Int)) = false := by simp [hll]
          have HQ := Lib_hid (And.intro hkk (And.intro haa (And.intro hbb hll)))
          clear hkk haa hbb hll
          go_enter Tryz.func16, Tryz.ntmps16
          go_wp2
          go_loopw [5] (fun z wr => ∃ i : Nat, z = .int .i64 i ∧ i ≤ ps.length ∧ Hid (V.absL (ps.take i) = V.absL (qs.take i)) ∧ wr.heap[w.heap.size]? = some (.cells #[.int .i64 k, .int .u64 (a : Int), .int .u64 (b : Int), .slice A ps.length c] 30 (0, 0)) ∧ wr.heap[w.heap.size + 1]? = some (.cells #[.int .i64 k', .int .u64 (a' : Int), .int .u64 (b' : Int), .slice A' qs.length c'] 30 (0, 0)) ∧ Below w.heap.size w wr) (fun z _ => ps.length - (intOf z).toNat)
          case atStart => exact ⟨0, rfl, Nat.zero_le _, Lib_hid (by simp [V.absL]), hx1, hx2, hbA⟩
          case round =>
            clear hx1 hx2 hbA q1 q2 q3 q4
            obtain ⟨i, rfl, hi1, hme, hx1, hx2, hbw⟩ := hrel
            have hgl := (Array.getElem?_eq_some_iff.1 hx2).1
            have c3 : wr.cell? ⟨w.heap.size, 3, none⟩ = some (.slice A ps.length c) := cell_of_row wr _ 3 _ _ _ hx1
            by_cases hlt : i < ps.length
            · have hlt2 : i < qs.length := by have := HQ.out.2.2.2; omega
              obtain ⟨bb, off, p, rfl, hbB, hlo, hp, hpl, d0, d1, d2, d3⟩ := (HL.out wr hbw).1.nth hlt
              obtain ⟨bb', off', q, rfl, hbB', hlo', hq, hql, f0, f1, f2, f3⟩ := (HL.out wr hbw).2.nth hlt2
              have CHH : Hid (∀ W, Below wr.heap.size wr W → Calls Tryz.prog 16 #[p.val, q.val] W fun e w' => e = .returned (.bool (p.abs.sameB q.abs)) ∧ Below W.heap.size W w') := fun W hW => IH.out p (List.mem_of_getElem? hp) q W (hpl.under (hW.mono (by omega))) (by have := hW.size; omega) (hql.under (hW.mono (by omega))) (by have := hW.size; omega)
              have HPQ := Lib_hid (And.intro hp hq)
              obtain ⟨sr, hsr⟩ : ∃ sr, sr = p.abs.sameB q.abs := ⟨_, rfl⟩
              rw [← hsr] at CHH
              have HN : Hid ((sr = true → V.absL (ps.take (i + 1)) = V.absL (qs.take (i + 1))) ∧ (sr = false → r = false)) := by
                refine ⟨fun h => ?_, fun h => ?_⟩
                · have : p.abs = q.abs := (sameB_iff _ _).1 (hsr.symm.trans h)
                  rw [absL_take hp, absL_take hq, hme.out, this]
                · refine HR.out.2 fun ⟨_, _, _, h4⟩ => absL_ne hp hq (fun e => ?_) h4
                  rw [e, sameB_self] at hsr
                  rw [hsr] at h; cases h
              have S0 : Hid (∀ W : World, Below wr.heap.size wr W → W.cell? ⟨w.heap.size, 3, none⟩ = some (.slice (some ⟨bb, off, none⟩) ps.length c) ∧ W.cell? ⟨w.heap.size + 1, 3, none⟩ = some (.slice (some ⟨bb', off', none⟩) qs.length c') ∧
                  W.cell? ⟨bb, off + i * 4, none⟩ = some (.int .i64 p.kind) ∧ W.cell? ⟨bb, off + i * 4 + 1, none⟩ = some (.int .u64 (p.a : Int)) ∧ W.cell? ⟨bb, off + i * 4 + 2, none⟩ = some (.int .u64 (p.b : Int)) ∧ W.cell? ⟨bb, off + i * 4 + 3, none⟩ = some p.sl ∧
                  W.cell? ⟨bb', off' + i * 4, none⟩ = some (.int .i64 q.kind) ∧ W.cell? ⟨bb', off' + i * 4 + 1, none⟩ = some (.int .u64 (q.a : Int)) ∧ W.cell? ⟨bb', off' + i * 4 + 2, none⟩ = some (.int .u64 (q.b : Int)) ∧ W.cell? ⟨bb', off' + i * 4 + 3, none⟩ = some q.sl) := fun W hW =>
                ⟨(hW.cell (p := ⟨w.heap.size, 3, none⟩) (by show w.heap.size < _; omega)).trans c3, (hW.cell (p := ⟨w.heap.size + 1, 3, none⟩) hgl).trans (cell_of_row wr _ 3 _ _ _ hx2),
                  (hW.cell (p := ⟨bb, off + i * 4, none⟩) (by show bb < _; omega)).trans d0, (hW.cell (p := ⟨bb, off + i * 4 + 1, none⟩) (by show bb < _; omega)).trans d1, (hW.cell (p := ⟨bb, off + i * 4 + 2, none⟩) (by show bb < _; omega)).trans d2, (hW.cell (p := ⟨bb, off + i * 4 + 3, none⟩) (by show bb < _; omega)).trans d3,
                  (hW.cell (p := ⟨bb', off' + i * 4, none⟩) (by show bb' < _; omega)).trans f0, (hW.cell (p := ⟨bb', off' + i * 4 + 1, none⟩) (by show bb' < _; omega)).trans f1, (hW.cell (p := ⟨bb', off' + i * 4 + 2, none⟩) (by show bb' < _; omega)).trans f2, (hW.cell (p := ⟨bb', off' + i * 4 + 3, none⟩) (by show bb' < _; omega)).trans f3⟩
              cases p with
              | node pk pa pb pA pc pps =>
              cases q with
              | node qk qa qb qA qc qqs =>
              simp only [V.val, V.kind, V.a, V.b, V.sl, V.addr, V.parts, V.cap] at CHH S0 d0 d1 d2 d3 f0 f1 f2 f3
              have c4 : wr.cell? ⟨w.heap.size + 1, 3, none⟩ = some (.slice (some ⟨bb', off', none⟩) qs.length c') := cell_of_row wr _ 3 _ _ _ hx2
              have HX := Lib_hid (And.intro hx1 hx2)
              clear hsr hp hq hpl hql hme hx1 hx2
              go_wp2_with fail
              go_region_held3 (fun W => W.cell? ⟨w.heap.size, 3, none⟩ = some (.slice (some ⟨bb, off, none⟩) ps.length c) ∧ W.cell? ⟨w.heap.size + 1, 3, none⟩ = some (.slice (some ⟨bb', off', none⟩) qs.length c') ∧
                  W.cell? ⟨bb, off + i * 4, none⟩ = some (.int .i64 pk) ∧ W.cell? ⟨bb, off + i * 4 + 1, none⟩ = some (.int .u64 (pa : Int)) ∧ W.cell? ⟨bb, off + i * 4 + 2, none⟩ = some (.int .u64 (pb : Int)) ∧ W.cell? ⟨bb, off + i * 4 + 3, none⟩ = some (.slice pA pps.length pc) ∧
                  W.cell? ⟨bb', off' + i * 4, none⟩ = some (.int .i64 qk) ∧ W.cell? ⟨bb', off' + i * 4 + 1, none⟩ = some (.int .u64 (qa : Int)) ∧ W.cell? ⟨bb', off' + i * 4 + 2, none⟩ = some (.int .u64 (qb : Int)) ∧ W.cell? ⟨bb', off' + i * 4 + 3, none⟩ = some (.slice qA qqs.length qc))
                (first | exact S0.out _ ⟨rfl, rfl, rfl, Nat.le_refl _, fun _ _ => rfl⟩ | exact S0.out _ hbs)
                ((go_at_call 16; ((with_reducible refine (CHH.out wr.drew ⟨rfl, rfl, rfl, Nat.le_refl _, fun _ _ => rfl⟩).mono ?_); rintro e ws ⟨rfl, hs'⟩; have hbs : Below wr.heap.size wr ws := ⟨hs'.os, hs'.tape, hs'.output, hs'.size, hs'.block⟩)))
              all_goals
                have hbws := hbw.trans (hbs.mono hbw.size)
                have hx1' := (hbs.block w.heap.size (by omega)).trans HX.out.1
                have hx2' := (hbs.block (w.heap.size + 1) hgl).trans HX.out.2
                clear d0 d1 d2 d3 f0 f1 f2 f3 c3 c4
                cases sr with
                | true =>
                  have HM := Lib_hid (HN.out.1 (by simp))
                  go_wp2
                  go_roundw
                  case rel => exact ⟨i + 1, by go_num, by omega, HM, hx1', hx2', hbws⟩
                  case measure => simp [intOf]; omega
                | false =>
                  have HM := Lib_hid (HN.out.2 (by simp))
                  go_wp2
                  go_ret
                  exact ⟨ret_b HM.out.symm, hbws⟩
            · obtain rfl : i = ps.length := by omega
              have HM : Hid (r = true) := by
                have h := hme.out
                rw [List.take_length, HQ.out.2.2.2, List.take_length] at h
                exact HR.out.1 ⟨HQ.out.1, HQ.out.2.1, HQ.out.2.2.1, h⟩
              clear hme hx1 hx2
              go_wp2
              go_ret
              exact ⟨ret_b HM.out.symm, hbw⟩
        · have HM := Lib_hid (HR.out.2 fun ⟨_, _, _, h4⟩ => hll (by have := congrArg List.length h4; rwa [absL_length, absL_length] at this))
          have q1 : (k != k') = false := by simp [hkk]
          have q2 : ((a : Int) != (a' : Int)) = false := by simp [haa]
          have q3 : ((b : Int) != (b' : Int)) = false := by simp [hbb]
          have q4 : ((ps.length : Int) != (qs.length : Int)) = true := by simp; omega
          clear hkk haa hbb hll hx1 hx2
          go_enter Tryz.func16, Tryz.ntmps16
          go_wp2
          go_ret
          exact ⟨ret_b HM.out.symm, hbA⟩
      · have HM := Lib_hid (HR.out.2 fun ⟨_, _, h3, _⟩ => hbb h3)
        have q1 : (k != k') = false := by simp [hkk]
        have q2 : ((a : Int) != (a' : Int)) = false := by simp [haa]
        have q3 : ((b : Int) != (b' : Int)) = true := by simp; omega
        clear hkk haa hbb hx1 hx2
        go_enter Tryz.func16, Tryz.ntmps16
        go_wp2
        go_ret
        exact ⟨ret_b HM.out.symm, hbA⟩
    · have HM := Lib_hid (HR.out.2 fun ⟨_, h2, _⟩ => haa h2)
      have q1 : (k != k') = false := by simp [hkk]
      have q2 : ((a : Int) != (a' : Int)) = true := by simp; omega
      clear hkk haa hx1 hx2
      go_enter Tryz.func16, Tryz.ntmps16
      go_wp2
      go_ret
      exact ⟨ret_b HM.out.symm, hbA⟩
  · have HM := Lib_hid (HR.out.2 fun ⟨h1, _⟩ => hkk h1)
    have q1 : (k != k') = true := by simp [hkk]
    clear hkk hx1 hx2
    go_enter Tryz.func16, Tryz.ntmps16
    go_wp2
    go_ret
    exact ⟨ret_b HM.out.symm, hbA⟩

end Go.Proofs.YtpbmgbeiieapiaaGreatDoor

namespace Go.Proofs.YtpbmgbeiieapiaaGreatDoor
open Go Go.RowKit
set_option linter.unusedVariables false

/-- The parts are held against others as they should be. -/
def SameC (lo hi lo' hi' : Nat) (ps : List V) : Prop := ∀ p ∈ ps, ∀ (u : V) (W : World), Lies W lo hi p → hi ≤ W.heap.size → Lies W lo' hi' u → hi' ≤ W.heap.size → Calls Tryz.prog 30 #[p.val, u.val] W fun e w' => e = .returned (.bool (p.abs.sameB u.abs)) ∧ Below W.heap.size W w'

set_option maxRecDepth 100000 in
set_option maxHeartbeats 1600000 in
theorem eqf_any (k k' : Int) (a b a' b' c c' lo hi lo' hi' : Nat) (A A' : Option Addr) (ps qs : List V) (w : World) (hL : Lies w lo hi (.node k a b A c ps)) (hhi : hi ≤ w.heap.size) (hL' : Lies w lo' hi' (.node k' a' b' A' c' qs)) (hhi' : hi' ≤ w.heap.size) (hC : SameC lo hi lo' hi' ps) :
    Calls Tryz.prog 50 #[.slice A ps.length c, .slice A' qs.length c', .func (.func 30) #[] #[]] w fun e w' => ∃ r, e = .returned (.bool r) ∧ (r = true ↔ V.absL ps = V.absL qs) ∧ Below w.heap.size w w' := by
  obtain ⟨hlen, hcap', -, -, -⟩ := hL.caps
  obtain ⟨hlen2, hcap2, -, -, -⟩ := hL'.caps
  have HL : Hid (∀ W, Below w.heap.size w W → Lies W lo hi (V.node k a b A c ps) ∧ Lies W lo' hi' (V.node k' a' b' A' c' qs)) := fun W hW => ⟨hL.under (hW.mono hhi), hL'.under (hW.mono hhi')⟩
  have IH := Lib_hid hC
  clear hL hL' hC
  by_cases hll : ps.length = qs.length
  · have q4 : ((ps.length : Int) != (qs.length : Int)) = false := by simp [hll]
    have HQ := Lib_hid hll
    clear hll
    go_enter Tryz.func50, Tryz.ntmps50
    go_wp2
    go_loopw [17] (fun z wr => ∃ i : Nat, z = .int .i64 i ∧ i ≤ ps.length ∧ Hid (V.absL (ps.take i) = V.absL (qs.take i)) ∧ Below w.heap.size w wr) (fun z _ => ps.length - (intOf z).toNat)
    case atStart => exact ⟨0, rfl, Nat.zero_le _, Lib_hid (by simp [V.absL]), Below.refl _ _⟩
    case round =>
      clear q4
      obtain ⟨i, rfl, hi1, hme, hbw⟩ := hrel
      by_cases hlt : i < ps.length
      · have hlt2 : i < qs.length := by have := HQ.out; omega
        obtain ⟨bb, off, p, rfl, hbB, hlo, hp, hpl, d0, d1, d2, d3⟩ := (HL.out wr hbw).1.nth hlt
        obtain ⟨bb', off', q, rfl, hbB', hlo', hq, hql, f0, f1, f2, f3⟩ := (HL.out wr hbw).2.nth hlt2
        have hszw := hbw.size
        have hbl : bb' < wr.heap.size := by omega
        have hb1 := below_new wr (.cells #[.int .i64 p.kind, .int .u64 (p.a : Int), .int .u64 (p.b : Int), p.sl] 25)
        have hb2 := hb1.alloc hb1.size (.cells #[.int .i64 q.kind, .int .u64 (q.a : Int), .int .u64 (q.b : Int), q.sl] 25)
        have CH := IH.out p (List.mem_of_getElem? hp) q ((wr.alloc (.cells #[.int .i64 p.kind, .int .u64 (p.a : Int), .int .u64 (p.b : Int), p.sl] 25)).alloc (.cells #[.int .i64 q.kind, .int .u64 (q.a : Int), .int .u64 (q.b : Int), q.sl] 25)) (hpl.under (hb2.mono (by omega))) (by simp; omega) (hql.under (hb2.mono (by omega))) (by simp; omega)
        have hbA := hbw.trans (hb2.mono hbw.size)
        obtain ⟨sr, hsr⟩ : ∃ sr, sr = p.abs.sameB q.abs := ⟨_, rfl⟩
        rw [← hsr] at CH
        have HN : Hid ((sr = true → V.absL (ps.take (i + 1)) = V.absL (qs.take (i + 1))) ∧ (sr = false → ¬ V.absL ps = V.absL qs)) := by
          refine ⟨fun h => ?_, fun h => ?_⟩
          · have : p.abs = q.abs := (sameB_iff _ _).1 (hsr.symm.trans h)
            rw [absL_take hp, absL_take hq, hme.out, this]
          · refine absL_ne hp hq (fun e => ?_)
            rw [e, sameB_self] at hsr
            rw [hsr] at h; cases h
        cases p with
        | node pk pa pb pA pc pps =>
        cases q with
        | node qk qa qb qA qc qqs =>
        simp only [V.val, V.kind, V.a, V.b, V.sl, V.addr, V.parts, V.cap] at CH d0 d1 d2 d3 f0 f1 f2 f3 hbA
        clear hsr hp hq hpl hql hme hb1 hb2
        go_wp2_with fail
        refine CH.mono ?_
        rintro e ws ⟨rfl, hbs⟩
        have hbws := hbA.trans (hbs.mono hbA.size)
        clear CH hbs hbA d0 d1 d2 d3 f0 f1 f2 f3
        cases sr with
        | true =>
          have HM := Lib_hid (HN.out.1 (by simp))
          go_wp2
          go_roundw
          case rel => exact ⟨i + 1, by go_num, by omega, HM, hbws⟩
          case measure => simp [intOf]; omega
        | false =>
          have HM := Lib_hid (HN.out.2 (by simp))
          have PF : Hid (∀ W, Below w.heap.size w W → ∃ r, Ending.returned (.bool false) = .returned (.bool r) ∧ (r = true ↔ V.absL ps = V.absL qs) ∧ Below w.heap.size w W) := fun W hW => ⟨false, rfl, ⟨(fun h => by cases h), fun h => absurd h HM.out⟩, hW⟩
          go_wp2
          go_ret
          exact PF.out _ hbws
      · obtain rfl : i = ps.length := by omega
        have HM : Hid (V.absL ps = V.absL qs) := by
          have h := hme.out
          rw [List.take_length, HQ.out, List.take_length] at h
          exact h
        have PF : Hid (∀ W, Below w.heap.size w W → ∃ r, Ending.returned (.bool true) = .returned (.bool r) ∧ (r = true ↔ V.absL ps = V.absL qs) ∧ Below w.heap.size w W) := fun W hW => ⟨true, rfl, ⟨fun _ => HM.out, fun _ => rfl⟩, hW⟩
        clear hme
        go_wp2
        go_ret
        exact PF.out _ hbw
  · have q4 : ((ps.length : Int) != (qs.length : Int)) = true := by simp; omega
    have PF : Hid (∀ W, Below w.heap.size w W → ∃ r, Ending.returned (.bool false) = .returned (.bool r) ∧ (r = true ↔ V.absL ps = V.absL qs) ∧ Below w.heap.size w W) := fun W hW => ⟨false, rfl, ⟨(fun h => by cases h), fun h => absurd (by have := congrArg List.length h; rwa [absL_length, absL_length] at this) hll⟩, hW⟩
    clear hll
    go_enter Tryz.func50, Tryz.ntmps50
    go_wp2
    go_ret
    exact PF.out _ (Below.refl _ _)

set_option maxRecDepth 100000 in
set_option maxHeartbeats 1600000 in
theorem psame_any : ∀ (v u : V) (w : World) (lo hi lo' hi' : Nat), Lies w lo hi v → hi ≤ w.heap.size → Lies w lo' hi' u → hi' ≤ w.heap.size →
    Calls Tryz.prog 30 #[v.val, u.val] w fun e w' => e = .returned (.bool (v.abs.sameB u.abs)) ∧ Below w.heap.size w w' := by
  refine V.ind fun k a b A c ps ih u w lo hi lo' hi' hL hhi hL' hhi' => ?_
  cases u with
  | node k' a' b' A' c' qs =>
  have hb1 := below_new w (.cells #[.int .i64 k, .int .u64 (a : Int), .int .u64 (b : Int), .slice A ps.length c] 25)
  have hbA := hb1.alloc hb1.size (.cells #[.int .i64 k', .int .u64 (a' : Int), .int .u64 (b' : Int), .slice A' qs.length c'] 25)
  have EF := eqf_any k k' a b a' b' c c' lo hi lo' hi' A A' ps qs ((w.alloc (.cells #[.int .i64 k, .int .u64 (a : Int), .int .u64 (b : Int), .slice A ps.length c] 25)).alloc (.cells #[.int .i64 k', .int .u64 (a' : Int), .int .u64 (b' : Int), .slice A' qs.length c'] 25)) (hL.under (hbA.mono hhi)) (by simp; omega) (hL'.under (hbA.mono hhi')) (by simp; omega) (fun p hp u W h2 h3 h4 h5 => ih p hp u W lo hi lo' hi' h2 h3 h4 h5)
  have HE : Hid ((V.node k a b A c ps).abs = .node k a b (V.absL ps) ∧ (V.node k' a' b' A' c' qs).abs = .node k' a' b' (V.absL qs)) := ⟨V.abs_node .., V.abs_node ..⟩
  obtain ⟨r, hr⟩ : ∃ r, r = (V.node k a b A c ps).abs.sameB (V.node k' a' b' A' c' qs).abs := ⟨_, rfl⟩
  rw [← hr]
  have HR : Hid ((k = k' ∧ a = a' ∧ b = b' ∧ V.absL ps = V.absL qs → r = true) ∧ (¬ (k = k' ∧ a = a' ∧ b = b' ∧ V.absL ps = V.absL qs) → r = false)) := by
    rw [HE.out.1, HE.out.2] at hr
    refine ⟨fun ⟨h1, h2, h3, h4⟩ => ?_, fun h => ?_⟩
    · rw [hr, h1, h2, h3, h4, sameB_self]
    · rw [hr]; exact sameB_ne fun e => h (by injection e with e1 e2 e3 e4; exact ⟨e1, e2, e3, e4⟩)
  clear ih hL hL' hr hb1
  simp only [V.val, V.kind, V.a, V.b, V.sl, V.addr, V.parts, V.cap]
  by_cases hkk : k = k'
  · by_cases haa : a = a'
    · by_cases hbb : b = b'
      · have q1 : (k == k') = true := by simp [hkk]
        have q2 : ((a : Int) == (a' : Int)) = true := by simp [haa]
        have q3 : ((b : Int) == (b' : Int)) = true := by simp [hbb]
        have HQ := Lib_hid (And.intro hkk (And.intro haa hbb))
        clear hkk haa hbb
        go_enter Tryz.func30, Tryz.ntmps30
        go_wp2_with fail
        refine EF.mono ?_
        rintro e w1 ⟨s, rfl, hs, hb2⟩
        have hbw := hbA.trans (hb2.mono hbA.size)
        have HM : Hid (s = r) := by
          cases s with
          | true => exact (HR.out.1 ⟨HQ.out.1, HQ.out.2.1, HQ.out.2.2, hs.1 rfl⟩).symm
          | false => exact (HR.out.2 fun ⟨_, _, _, h4⟩ => by have := hs.2 h4; cases this).symm
        clear EF hs hb2 hbA
        go_wp2
        go_ret
        exact ⟨ret_b HM.out, hbw⟩
      · have HM := Lib_hid (HR.out.2 fun ⟨_, _, h3, _⟩ => hbb h3)
        have q1 : (k == k') = true := by simp [hkk]
        have q2 : ((a : Int) == (a' : Int)) = true := by simp [haa]
        have q3 : ((b : Int) == (b' : Int)) = false := by simp; omega
        clear hkk haa hbb EF
        go_enter Tryz.func30, Tryz.ntmps30
        go_wp2
        go_ret
        exact ⟨ret_b HM.out.symm, hbA⟩
    · have HM := Lib_hid (HR.out.2 fun ⟨_, h2, _⟩ => haa h2)
      have q1 : (k == k') = true := by simp [hkk]
      have q2 : ((a : Int) == (a' : Int)) = false := by simp; omega
      clear hkk haa EF
      go_enter Tryz.func30, Tryz.ntmps30
      go_wp2
      go_ret
      exact ⟨ret_b HM.out.symm, hbA⟩
  · have HM := Lib_hid (HR.out.2 fun ⟨h1, _⟩ => hkk h1)
    have q1 : (k == k') = false := by simp [hkk]
    clear hkk EF
    go_enter Tryz.func30, Tryz.ntmps30
    go_wp2
    go_ret
    exact ⟨ret_b HM.out.symm, hbA⟩

end Go.Proofs.YtpbmgbeiieapiaaGreatDoor

namespace Go.Proofs.YtpbmgbeiieapiaaGreatDoor
open Go Go.RowKit
set_option linter.unusedVariables false

theorem Tryz.infoE : (Tryz.prog.info? 25).map (fun i => (i.zero, i.size, i.bytes)) = some (some (.agg #[.int .i64 0, .int .u64 0, .int .u64 0, .slice none 0 0]), 4, 48) := by kernel_rfl

/-- A row of parts of the call's own. -/
def ClEnd (E : TypeId) (n : Nat) (xs : List Value) (w : World) (e : Ending) (w' : World) : Prop :=
  ∃ A' c', e = .returned (.slice A' n c') ∧ w'.ownsRow w.heap.size E 4 (.slice A' n c') n xs ∧ Below w.heap.size w w'

set_option maxRecDepth 100000 in
theorem eclone_any (B : Nat) (A : Option Addr) (n c : Nat) (vs : List V) (w : World) (h : Rd w B 4 A n (vCells vs)) (hn : n ≤ 1000) :
    Calls Tryz.prog 57 #[.slice A n c] w (ClEnd 25 n (vCells vs) w) := by
  have hnil : ∀ wx, (binOp .eql 23 (.slice A n c) (.slice none 0 0)).run Tryz.prog wx = .ok (.bool A.isNone) wx := fun wx => Lib.run_eql_slice_nil wx 23 25 A n c 0 0 Tryz.underlying23
  cases A with
  | none =>
    have h0 : n = 0 := by
      rcases Nat.eq_zero_or_pos n with h0 | h0
      · exact h0
      · obtain ⟨ad, e, _⟩ := h.lies h0; cases e
    subst h0
    have hv : vCells vs = [] := List.eq_nil_of_length_eq_zero (by have := h.len; omega)
    have HV := Lib_hid hv
    clear h hv
    go_enter Tryz.func57, Tryz.ntmps57
    go_wp2
    go_ret
    exact ⟨none, 0, rfl, by rw [HV.out]; exact World.ownsRow_nil _ _ _ _, Below.refl _ _⟩
  | some ad =>
    obtain ⟨i0, hi, hz0, hz1, hz2⟩ := info_parts Tryz.infoE
    have hm1 : 0 + n ≤ maxLen := by unfold maxLen; omega
    have hm2 : (0 + n) * 48 ≤ 140737488355328 := by omega
    have hon : (w.alloc (.cells #[] 25)).ownsRow w.heap.size 25 4 (.slice (some ⟨w.heap.size, 0, none⟩) 0 0) 0 [] := World.ownsRow_lit w #[] 0 (Nat.le_refl _) (by decide) rfl
    have h2 : Rd (w.alloc (.cells #[] 25)) (w.heap.size + 1) 4 (some ad) n (vCells vs) := by
      refine ⟨h.len, fun hn => ?_⟩
      obtain ⟨ad', e, hb, hc⟩ := h.lies hn
      have hlt : ad'.block < w.heap.size := by
        have := World.block_lt_of_cell? w _ (hc 0 ((vCells vs)[0]'(by have := h.len; omega)) (List.getElem?_eq_getElem _))
        rwa [add_block] at this
      exact ⟨ad', e, by omega, fun j u hu => (World.cell?_alloc_lt w _ _ (by rw [add_block]; exact hlt)).trans (hc j u hu)⟩
    have hsz : w.heap.size ≤ (w.alloc (.cells #[] 25)).heap.size := by simp
    clear h
    go_enter Tryz.func57, Tryz.ntmps57
    go_wp2_with (at_builtin; (refine wpList_app rfl _ _ 23 rfl w.heap.size 25 i0 (.agg #[.int .i64 0, .int .u64 0, .int .u64 0, .slice none 0 0]) 4 48 Tryz.underlying23 hi hz0 hz1 hz2 rfl (by decide) _ 0 [] rfl hon (w.heap.size + 1) (some ad) n c (vCells vs) rfl h2 (v_one _) hm1 hm2 hsz ?_); intro v' w1 hown' hst; simp only [Nat.zero_add, List.nil_append] at hown'; obtain ⟨A2, c2, rfl, _⟩ := own_form hown')
    go_ret
    exact ⟨A2, c2, rfl, hown', ((Below.refl _ _).alloc (Nat.le_refl _) _).trans (hst.below hsz (fun k hk => by have : w.heap.size = k := (by injection hk); omega))⟩

theorem vCells_set (us ps : List V) (p : V) (r : List V) (A' : Option Addr) (c' : Nat) (qs : List V) (hp : ps = p :: r) :
    (vCells us ++ vCells ps).set (us.length * 4 + 3) (.slice A' qs.length c') = vCells (us ++ [.node p.kind p.a p.b A' c' qs]) ++ vCells r := by
  subst hp
  rw [List.set_append_right _ _ (by rw [vCells_length]; omega), vCells_length, show us.length * 4 + 3 - us.length * 4 = 3 by omega, vCells_append, List.append_assoc]
  congr 1
theorem Lies.stored {w : World} {lo hi g i : Nat} {v : V} (h : Lies w lo hi v) (hg : g < lo) (x : Value) : Lies (w.setCell ⟨g, i, none⟩ x) lo hi v :=
  h.keep fun p hlo _ => World.cell?_of_block (Below.heap_setCell w ⟨g, i, none⟩ x p.block (by show p.block ≠ g; omega))

/-- How copies ends. -/
def CopEnd (ps : List V) (w : World) (e : Ending) (w' : World) : Prop :=
  ∃ A' c' us, e = .returned (.slice A' us.length c') ∧ us.length = ps.length ∧ V.absL us = V.absL ps ∧ (∀ u ∈ us, Lies w' w.heap.size w'.heap.size u) ∧ w'.ownsRow w.heap.size 25 4 (.slice A' us.length c') us.length (vCells us) ∧ Below w.heap.size w w' ∧ ∀ u ∈ us, Shp 25 w' w.heap.size u

set_option maxRecDepth 100000 in
set_option maxHeartbeats 1600000 in
theorem copies_any : ∀ (v : V) (w : World) (lo hi : Nat), Lies w lo hi v → hi ≤ w.heap.size → v.abs.count ≤ 1000 → Calls Tryz.prog 42 #[v.sl] w (CopEnd v.parts w) := by
  refine V.ind fun k a b A c ps ih w lo hi hL hhi hct => ?_
  obtain ⟨hlen, hcap', -, -, -⟩ := hL.caps
  have hlc : ps.length ≤ 1000 := by
    rw [V.count_node] at hct
    have := length_le_countL (V.absL ps)
    rw [absL_length] at this
    omega
  have CL := eclone_any hi A ps.length c ps w hL.top.2.2.2.2.2 hlc
  have IH : Hid (∀ (i : Nat) (p : V), ps[i]? = some p → ∀ W, Below w.heap.size w W → Calls Tryz.prog 42 #[p.sl] W (CopEnd p.parts W)) := fun i p hp W hW => ih p (List.mem_of_getElem? hp) W lo hi ((hL.part (List.mem_of_getElem? hp)).under (hW.mono hhi)) (Nat.le_trans hhi hW.size) (hL.small hct hp).1
  have HB : Hid (∀ p ∈ ps, (-9223372036854775808 ≤ p.kind ∧ p.kind ≤ 9223372036854775807) ∧ p.a < 18446744073709551616 ∧ p.b < 18446744073709551616) := fun p hp => let ⟨h1, h2, h3, _⟩ := (hL.part hp).top; ⟨h1, h2, h3⟩
  clear ih hL hct
  show Calls Tryz.prog 42 #[.slice A ps.length c] w (CopEnd ps w)
  go_enter Tryz.func42, Tryz.ntmps42
  go_wp2_with fail
  refine CL.mono ?_
  rintro e w1 ⟨A1, c1, rfl, ho1, hb1⟩
  have hc1 := own_cap ho1
  have hsz1 := hb1.size
  have hlt1 := own_lt ho1
  have hge1 := own_ge ho1
  have HO1 : Hid (w1.ownsRow w.heap.size 25 4 (.slice A1 ps.length c1) ps.length (vCells [] ++ vCells (ps.drop 0))) := ho1
  clear CL ho1
  go_wp2
  go_loopw [9] (fun z W => ∃ (i : Nat) (us : List V), z = .int .i64 i ∧ i ≤ ps.length ∧ Hid (us.length = i ∧ V.absL us = V.absL (ps.take i) ∧ ∀ u ∈ us, Lies W w1.heap.size W.heap.size u ∧ Shp 25 W w1.heap.size u) ∧ W.ownsRow w.heap.size 25 4 (.slice A1 ps.length c1) ps.length (vCells us ++ vCells (ps.drop i)) ∧ w1.heap.size ≤ W.heap.size ∧ Below w.heap.size w W) (fun z _ => ps.length - (intOf z).toNat)
  case atStart => exact ⟨0, [], rfl, Nat.zero_le _, Lib_hid ⟨rfl, by simp [V.absL], by simp⟩, HO1.out, Nat.le_refl _, hb1⟩
  case round =>
    clear HO1
    obtain ⟨i, us, rfl, hi1, hus, ho, hwz, hbw⟩ := hrel
    rename World => W
    by_cases hlt : i < ps.length
    · obtain ⟨g, cap, hv, hgw, hgl⟩ := ho.form (by omega)
      have hA : A1 = some ⟨g, 0, none⟩ := by injection hv
      subst hA
      have hg1 : g < w1.heap.size := hlt1 g rfl
      obtain ⟨p, hp⟩ : ∃ p, ps[i]? = some p := ⟨_, List.getElem?_eq_getElem hlt⟩
      have hdr : ps.drop i = p :: ps.drop (i + 1) := by
        rw [List.drop_eq_getElem_cons hlt]
        congr 1
        exact (List.getElem?_eq_some_iff.1 hp).2
      have hcell : W.cell? ⟨g, i * 4 + 3, none⟩ = some p.sl := by
        rw [ho.cellAt (i * 4 + 3) (by omega), hdr, List.getElem?_append_right (by rw [vCells_length, hus.out.1]; omega), vCells_length, hus.out.1, show i * 4 + 3 - i * 4 = 3 by omega]
        rfl
      have CH := IH.out i p hp W hbw
      have HO := Lib_hid ho
      have HP := Lib_hid (And.intro hp hdr)
      obtain ⟨hbk, hba, hbb⟩ := HB.out p (List.mem_of_getElem? hp)
      have HBP := Lib_hid (And.intro hbk (And.intro hba hbb))
      have hps : p.sl = .slice p.addr p.parts.length p.cap := rfl
      rw [hps] at hcell CH
      have hszw := hbw.size
      clear hp hdr ho hv hps hbk hba hbb
      generalize p.addr = pA at *
      generalize p.cap = pc at *
      go_wp2_with fail
      refine CH.mono ?_
      rintro e w2 ⟨A2, c2, qs, rfl, hql, hqa, hqL, ho2, hb2, hqS⟩
      have ho2r := own_below HO.out hb2 (own_lt HO.out)
      have hf2 := ho2r.frozenAt (i * 4 + 3)
      have hc2 : w2.cell? ⟨g, i * 4 + 3, none⟩ = some (.slice pA p.parts.length pc) := (hb2.cell (p := ⟨g, i * 4 + 3, none⟩) hgl).trans hcell
      have ST := ho2r.stored (i * 4 + 3) (.slice A2 qs.length c2)
      have hcp2 := own_cap ho2
      have hsz2 := hb2.size
      have hge2 := own_ge ho2
      have hset : (vCells us ++ vCells (ps.drop i)).set (i * 4 + 3) (.slice A2 qs.length c2) = vCells (us ++ [.node p.kind p.a p.b A2 c2 qs]) ++ vCells (ps.drop (i + 1)) := by
        rw [← hus.out.1]
        rw [hus.out.1]
        have := vCells_set us (ps.drop i) p (ps.drop (i + 1)) A2 c2 qs HP.out.2
        rwa [hus.out.1] at this
      rw [hset] at ST
      have hnew : Lies w2 w1.heap.size w2.heap.size (.node p.kind p.a p.b A2 c2 qs) := .mk _ _ _ _ _ _ HBP.out.1 HBP.out.2.1 HBP.out.2.2 (Rd.own ho2) hcp2 (fun ad e hn => by
        subst e
        obtain ⟨g2, cap2, hv2, _, _⟩ := ho2.form hn
        injection hv2 with e2
        injection e2 with e2
        subst e2
        have := hge2 g2 rfl
        show w1.heap.size ≤ g2
        omega) (fun q hq => (hqL q hq).more (by omega) (Nat.le_refl _))
      have hnewS : Shp 25 w2 w1.heap.size (.node p.kind p.a p.b A2 c2 qs) := Shp.own (base := W.heap.size) _ _ _ ho2 hwz (fun q hq => (hqS q hq).more hwz)
      have hall : ∀ u ∈ us ++ [.node p.kind p.a p.b A2 c2 qs], Lies (w2.setCell ⟨g, i * 4 + 3, none⟩ (.slice A2 qs.length c2)) w1.heap.size (w2.setCell ⟨g, i * 4 + 3, none⟩ (.slice A2 qs.length c2)).heap.size u ∧ Shp 25 (w2.setCell ⟨g, i * 4 + 3, none⟩ (.slice A2 qs.length c2)) w1.heap.size u := by
        intro u hu
        have hs3 : (w2.setCell ⟨g, i * 4 + 3, none⟩ (.slice A2 qs.length c2)).heap.size = w2.heap.size := by simp [World.setCell]
        rw [hs3]
        rcases List.mem_append.1 hu with hu | hu
        · exact ⟨(((hus.out.2.2 u hu).1.under hb2).more (Nat.le_refl _) hsz2).stored hg1 _, ((hus.out.2.2 u hu).2.under hb2).aside hg1 _⟩
        · obtain rfl : u = .node p.kind p.a p.b A2 c2 qs := by simpa using hu
          exact ⟨hnew.stored hg1 _, hnewS.aside hg1 _⟩
      have habs : V.absL (us ++ [.node p.kind p.a p.b A2 c2 qs]) = V.absL (ps.take (i + 1)) := by
        rw [absL_take HP.out.1, absL_map, List.map_append, ← absL_map, hus.out.2.1]
        congr 1
        show [V.abs _] = _
        rw [V.abs, hqa]
        cases p with
        | node pk pa pb pA' pc' pps => rw [V.abs]; rfl
      have hlen' : (us ++ [V.node p.kind p.a p.b A2 c2 qs]).length = i + 1 := by rw [List.length_append, hus.out.1]; rfl
      have hbw3 := (hbw.trans (hb2.mono hszw)).grown ST.2 (by have := hb2.size; omega) (fun k hk => by have e2 : g = k := Option.some.inj hk; omega)
      have HU := Lib_hid (And.intro hlen' (And.intro habs hall))
      have HS := Lib_hid ST.1
      have hsz3 : w1.heap.size ≤ (w2.setCell ⟨g, i * 4 + 3, none⟩ (.slice A2 qs.length c2)).heap.size := by have := ST.2.size; omega
      clear CH hql hqa hqL hqS ho2 hb2 ho2r ST hset hnew hnewS hall habs hlen' hge2 hcell
      go_wp2
      go_roundw
      case rel => exact ⟨i + 1, us ++ [.node p.kind p.a p.b A2 c2 qs], by go_num, by omega, HU, HS.out, hsz3, hbw3⟩
      case measure => simp [intOf]; omega
    · obtain rfl : i = ps.length := by omega
      have PF : Hid (CopEnd ps w (.returned (.slice A1 ps.length c1)) W) := by
        obtain ⟨h1, h2, h3⟩ := hus.out
        rw [List.take_length] at h2
        refine ⟨A1, c1, us, by rw [h1], h1, h2, fun u hu => (h3 u hu).1.more hsz1 (Nat.le_refl _), ?_, hbw, fun u hu => (h3 u hu).2.more hsz1⟩
        have := ho
        rw [List.drop_length] at this
        rw [h1]
        simpa [vCells] using this
      clear hus ho
      go_wp2
      go_ret
      exact PF.out

end Go.Proofs.YtpbmgbeiieapiaaGreatDoor

namespace Go.Proofs.YtpbmgbeiieapiaaGreatDoor
open Go Go.RowKit
set_option linter.unusedVariables false

/-- A step that writes kinds and numbers over, in blocks from lo on and below hi, and makes memory. -/
structure Spo (E : TypeId) (lo hi : Nat) (w w' : World) : Prop where
  shp : ∀ (lo' : Nat) (u : V), Shp E w lo' u → Shp E w' lo' u
  below : Below lo w w'
  keep : ∀ k, k < w.heap.size → (k < lo ∨ hi ≤ k) → w'.heap[k]? = w.heap[k]?
theorem Spo.refl (E : TypeId) (lo hi : Nat) (w : World) : Spo E lo hi w w := ⟨fun _ _ h => h, Below.refl _ _, fun _ _ _ => rfl⟩
theorem Spo.trans {E : TypeId} {lo hi : Nat} {a b c : World} (h : Spo E lo hi a b) (k : Spo E lo hi b c) : Spo E lo hi a c :=
  ⟨fun l u x => k.shp l u (h.shp l u x), h.below.trans k.below, fun i hi' ho => (k.keep i (Nat.lt_of_lt_of_le hi' h.below.size) ho).trans (h.keep i hi' ho)⟩
theorem Spo.new (E : TypeId) {lo hi : Nat} {w w' : World} (h : Below w.heap.size w w') (hl : lo ≤ w.heap.size) : Spo E lo hi w w' :=
  ⟨fun _ _ x => x.under h, h.mono hl, fun k hk _ => h.block k hk⟩
theorem Spo.over {E : TypeId} {lo hi : Nat} {a w : World} (h : Spo E lo hi a w) {g i : Nat} {x : Value} (h1 : lo ≤ g) (h2 : g < hi) (hx : (∃ j, i = j * 4 ∧ ∃ z, x = .int .i64 z) ∨ (∃ j, i = j * 4 + 1 ∧ ∃ z, x = .int .u64 z)) : Spo E lo hi a (w.setCell ⟨g, i, none⟩ x) :=
  ⟨fun l u k => (h.shp l u k).over hx, h.below.setCell (p := ⟨g, i, none⟩) h1 x, fun k hk ho => (Below.heap_setCell w ⟨g, i, none⟩ x k (by show k ≠ g; omega)).trans (h.keep k hk ho)⟩
theorem Spo.drew {E : TypeId} {lo hi : Nat} {a w : World} (h : Spo E lo hi a w) : Spo E lo hi a w.drew :=
  ⟨fun l u k => (h.shp l u k).keep fun _ _ _ => rfl, h.below.drew, h.keep⟩

set_option maxRecDepth 100000 in
set_option maxHeartbeats 1600000 in
theorem spoil_expr : ∀ (v : V) (w0 w : World) (lo : Nat) (x y z : Int), Shp 25 w0 lo v → Shp 25 w lo v → w0.heap.size ≤ w.heap.size → lo ≤ w.heap.size → v.abs.count ≤ 1000 →
    Calls Tryz.prog 19 #[.agg #[.int .i64 x, .int .u64 y, .int .u64 z, v.sl]] w fun e w' => e = .returned (.tuple #[]) ∧ Spo 25 lo w0.heap.size w w' := by
  refine V.ind fun k a b A c ps ih w0 w lo x y z h0 hS hw0 hlo hct => ?_
  have hlc : ps.length ≤ 1000 := by
    rw [V.count_node] at hct
    have := length_le_countL (V.absL ps)
    rw [absL_length] at this
    omega
  have IH : Hid (∀ (i : Nat) (p : V), ps[i]? = some p → ∀ (W : World) (x y z : Int), Spo 25 lo w0.heap.size w W → Calls Tryz.prog 19 #[.agg #[.int .i64 x, .int .u64 y, .int .u64 z, p.sl]] W fun e w' => e = .returned (.tuple #[]) ∧ Spo 25 lo w0.heap.size W w') := fun i p hp W x y z hW => by
    have hm := List.mem_of_getElem? hp
    refine ih p hm w0 W lo x y z (h0.part hm) (hW.shp _ _ (hS.part hm)) (Nat.le_trans hw0 hW.below.size) (Nat.le_trans hlo hW.below.size) ?_
    have := count_le hp
    rw [V.count_node] at hct
    omega
  have HS : Hid (∀ W, Spo 25 lo w0.heap.size w W → Shp 25 W lo (V.node k a b A c ps)) := fun W hW => hW.shp _ _ hS
  have H0 := Lib_hid h0
  have hbx := heap_alloc_new w (.cells #[.int .i64 x, .int .u64 y, .int .u64 z, .slice A ps.length c] 25)
  have hb0 : Spo 25 lo w0.heap.size w (w.alloc (.cells #[.int .i64 x, .int .u64 y, .int .u64 z, .slice A ps.length c] 25)) := Spo.new _ (below_new w _) hlo
  clear ih hS hct h0
  show Calls Tryz.prog 19 #[.agg #[.int .i64 x, .int .u64 y, .int .u64 z, .slice A ps.length c]] w _
  go_enter Tryz.func19, Tryz.ntmps19
  go_wp2
  go_loopw [2] (fun t wr => ∃ (i : Nat), t = .int .i64 i ∧ i ≤ ps.length ∧ wr.heap[w.heap.size]? = some (.cells #[.int .i64 x, .int .u64 y, .int .u64 z, .slice A ps.length c] 25 (0, 0)) ∧ Spo 25 lo w0.heap.size w wr) (fun t _ => ps.length - (intOf t).toNat)
  case atStart => exact ⟨0, rfl, Nat.zero_le _, hbx, hb0⟩
  case round =>
    clear hbx hb0
    obtain ⟨i, rfl, hi1, hbx, hsp⟩ := hrel
    have c3 : wr.cell? ⟨w.heap.size, 3, none⟩ = some (.slice A ps.length c) := cell_of_row wr _ 3 _ _ _ hbx
    have hgl := (Array.getElem?_eq_some_iff.1 hbx).1
    by_cases hlt : i < ps.length
    · obtain ⟨p, hp⟩ : ∃ p, ps[i]? = some p := ⟨_, List.getElem?_eq_getElem hlt⟩
      obtain ⟨g, rfl, hg1, hg2, -⟩ := H0.out.nth hp
      obtain ⟨g', e, -, hgw, -, -, ⟨x0, d0⟩, ⟨x1, d1⟩, ⟨x2, d2⟩, d3⟩ := (HS.out wr hsp).nth hp
      injection e with e
      injection e with e
      subst e
      have CH := IH.out i p hp wr x0 x1 x2 hsp
      have HP := Lib_hid hp
      have hps : p.sl = .slice p.addr p.parts.length p.cap := rfl
      rw [hps] at d3 CH
      clear hp hps
      generalize p.addr = pA at *
      generalize p.cap = pc at *
      generalize p.parts.length = pn at *
      go_wp2_with fail
      refine CH.mono ?_
      rintro e w1 ⟨rfl, hsp1⟩
      have hsp2 := hsp.trans hsp1
      have hbx1 := (hsp1.keep _ hgl (.inr hw0)).trans hbx
      have hgl1 := (Array.getElem?_eq_some_iff.1 hbx1).1
      have c31 : w1.cell? ⟨w.heap.size, 3, none⟩ = some (.slice (some ⟨g, 0, none⟩) ps.length c) := cell_of_row w1 _ 3 _ _ _ hbx1
      obtain ⟨g', e, -, hgw1, -, hfr, ⟨y0, f0⟩, ⟨y1, f1⟩, -, -⟩ := (HS.out w1 hsp2).nth HP.out
      injection e with e
      injection e with e
      subst e
      have z0 := hfr (i * 4)
      have z1 := hfr (i * 4 + 1)
      have hne : w.heap.size ≠ g := by omega
      clear CH hsp hsp1 hbx hgl c3 d0 d1 d2 d3 hfr
      have hsp3 := hsp2.over (x := .int .i64 77) hg1 hg2 (.inl ⟨i, rfl, 77, rfl⟩)
      go_upto_region 6 with (fail)
      have hg3 := HS.out _ hsp3
      have hbx3 : (w1.setCell ⟨g, i * 4, none⟩ (.int .i64 77)).heap[w.heap.size]? = _ := (Below.heap_setCell w1 ⟨g, i * 4, none⟩ (.int .i64 77) w.heap.size hne).trans hbx1
      clear hbx1 c31 hgl1 hgw1 f0 f1 z0 z1 hsp2
      generalize w1.setCell ⟨g, i * 4, none⟩ (.int .i64 77) = w2 at *
      have c32 : w2.cell? ⟨w.heap.size, 3, none⟩ = some (.slice (some ⟨g, 0, none⟩) ps.length c) := cell_of_row w2 _ 3 _ _ _ hbx3
      obtain ⟨g', e, -, hgw2, -, hfr, -, ⟨y2, f2⟩, -, -⟩ := hg3.nth HP.out
      injection e with e
      injection e with e
      subst e
      have z2 := hfr (i * 4 + 1)
      have hsp4 := hsp3.over (x := .int .u64 (IntKind.u64.wrap (y2 + 7))) hg1 hg2 (.inr ⟨i, rfl, _, rfl⟩)
      have hbx4 : (w2.setCell ⟨g, i * 4 + 1, none⟩ (.int .u64 (IntKind.u64.wrap (y2 + 7)))).heap[w.heap.size]? = _ := (Below.heap_setCell w2 ⟨g, i * 4 + 1, none⟩ (.int .u64 (IntKind.u64.wrap (y2 + 7))) w.heap.size hne).trans hbx3
      clear hfr hg3 hbx3 hsp3
      go_region
      have hsp5 := hsp4.drew
      have hbx5 : (w2.setCell ⟨g, i * 4 + 1, none⟩ (.int .u64 (IntKind.u64.wrap (y2 + 7)))).drew.heap[w.heap.size]? = _ := hbx4
      clear hbx4 hsp4
      generalize IntKind.u64.wrap (y2 + 7) = y3 at *
      generalize (w2.setCell ⟨g, i * 4 + 1, none⟩ (.int .u64 y3)).drew = w9 at *
      go_wp2
      go_roundw
      case rel => exact ⟨i + 1, by go_num, by omega, hbx5, hsp5⟩
      case measure => simp [intOf]; omega
    · obtain rfl : i = ps.length := by omega
      go_wp2
      go_end0
      exact ⟨rfl, hsp⟩

end Go.Proofs.YtpbmgbeiieapiaaGreatDoor

namespace Go.Proofs.YtpbmgbeiieapiaaGreatDoor
open Go Go.RowKit
set_option linter.unusedVariables false

/-- A tree of the call's own comes back. -/
def TreeEnd (t : T) (w : World) (e : Ending) (w' : World) : Prop :=
  ∃ u : V, e = .returned u.val ∧ u.abs = t ∧ Lies w' w.heap.size w'.heap.size u ∧ Shp 25 w' w.heap.size u ∧ Below w.heap.size w w'

set_option maxRecDepth 100000 in
set_option maxHeartbeats 1600000 in
theorem both_any (A : Option Addr) (c : Nat) (ps : List V) (w : World) (lo hi : Nat) (hL : Lies w lo hi (.node 0 0 0 A c ps)) (hhi : hi ≤ w.heap.size) (hct : T.countL (V.absL ps) ≤ 900) :
    Calls Tryz.prog 12 #[.slice A ps.length c] w (TreeEnd (.node 6 0 0 (V.absL ps)) w) := by
  have hb0 := below_new w (.cells #[.int .i64 0, .int .u64 0, .int .u64 0, .slice none 0 0] 25)
  have hbx := heap_alloc_new w (.cells #[.int .i64 0, .int .u64 0, .int .u64 0, .slice none 0 0] 25)
  have CH := copies_any _ _ lo hi (hL.under (hb0.mono hhi)) (Nat.le_trans hhi hb0.size) (by rw [V.count_node]; omega)
  have hsz : (w.alloc (.cells #[.int .i64 0, .int .u64 0, .int .u64 0, .slice none 0 0] 25)).heap.size = w.heap.size + 1 := by simp
  simp only [V.sl, V.addr, V.parts, V.cap] at CH
  clear hL
  go_enter Tryz.func12, Tryz.ntmps12
  go_wp2_with fail
  refine CH.mono ?_
  rintro e w1 ⟨A1, c1, us, rfl, hul, hua, huL, ho, hb1, huS⟩
  rw [hsz] at huL ho hb1 huS
  have hbx1 := (hb1.block _ (by omega)).trans hbx
  have hgl := (Array.getElem?_eq_some_iff.1 hbx1).1
  have hbw := hb0.trans (hb1.mono (by omega))
  have hcp := own_cap ho
  have hrow := put4_row hbx1 (.int .i64 6) (.int .u64 0) (.int .u64 0) (.slice A1 us.length c1)
  have hbz := put4_below hbw (Nat.le_refl _) (.int .i64 6) (.int .u64 0) (.int .u64 0) (.slice A1 us.length c1)
  have hse := put4_size w1 w.heap.size (.int .i64 6) (.int .u64 0) (.int .u64 0) (.slice A1 us.length c1)
  have hu : ∀ u ∈ us, Lies (put4 w1 w.heap.size (.int .i64 6) (.int .u64 0) (.int .u64 0) (.slice A1 us.length c1)) (w.heap.size + 1) w1.heap.size u ∧ Shp 25 (put4 w1 w.heap.size (.int .i64 6) (.int .u64 0) (.int .u64 0) (.slice A1 us.length c1)) (w.heap.size + 1) u := fun u hm =>
    ⟨(huL u hm).keep fun p h1 _ => World.cell?_of_block (put4_else w1 (by omega) _ _ _ _), (huS u hm).keep fun g h1 _ => put4_else w1 (by omega) _ _ _ _⟩
  have hob : (put4 w1 w.heap.size (.int .i64 6) (.int .u64 0) (.int .u64 0) (.slice A1 us.length c1)).ownsRow (w.heap.size + 1) 25 4 (.slice A1 us.length c1) us.length (vCells us) :=
    own_keep ho fun j hj => put4_else w1 (by have := own_ge ho j hj; omega) _ _ _ _
  have HF : Hid (TreeEnd (.node 6 0 0 (V.absL ps)) w (.returned (.agg #[.int .i64 6, .int .u64 0, .int .u64 0, .slice A1 us.length c1])) (put4 w1 w.heap.size (.int .i64 6) (.int .u64 0) (.int .u64 0) (.slice A1 us.length c1))) := by
    refine ⟨.node 6 0 0 A1 c1 us, rfl, by rw [V.abs, hua], ?_, Shp.own (base := w.heap.size + 1) _ _ _ hob (by omega) (fun u hm => (hu u hm).2.more (by omega)), hbz⟩
    rw [hse]
    refine .mk _ _ _ _ _ _ (by omega) (by omega) (by omega) (by have := Rd.own hob; rw [hse] at this; exact this) hcp (fun ad e hn => ?_) (fun q hq => (hu q hq).1.more (by omega) (Nat.le_refl _))
    subst e
    obtain ⟨g2, cap2, hv2, _, _⟩ := ho.form hn
    injection hv2 with e2
    injection e2 with e2
    subst e2
    have := own_ge ho g2 rfl
    show w.heap.size ≤ g2
    omega
  have HR : Hid ((put4 w1 w.heap.size (.int .i64 6) (.int .u64 0) (.int .u64 0) (.slice A1 us.length c1)).heap[w.heap.size]? = _) := hrow
  have c0 : w1.cell? ⟨w.heap.size, 0, none⟩ = some (.int .i64 0) := cell_of_row w1 _ 0 _ _ _ hbx1
  have c1' : w1.cell? ⟨w.heap.size, 1, none⟩ = some (.int .u64 0) := cell_of_row w1 _ 1 _ _ _ hbx1
  have c2 : w1.cell? ⟨w.heap.size, 2, none⟩ = some (.int .u64 0) := cell_of_row w1 _ 2 _ _ _ hbx1
  have c3 : w1.cell? ⟨w.heap.size, 3, none⟩ = some (.slice none 0 0) := cell_of_row w1 _ 3 _ _ _ hbx1
  have z0 := frozen_of_row w1 w.heap.size 0 _ _ hbx1
  have z1 := frozen_of_row w1 w.heap.size 1 _ _ hbx1
  have z2 := frozen_of_row w1 w.heap.size 2 _ _ hbx1
  have z3 := frozen_of_row w1 w.heap.size 3 _ _ hbx1
  clear CH hb1 hb0 hbx hsz hu hob hse hbz hrow hbx1 hul hua huL huS ho hbw hcp
  generalize us.length = n at *
  go_wp2_with fail
  show bodyPost _ _ _ _ _ (put4 w1 w.heap.size (.int .i64 6) (.int .u64 0) (.int .u64 0) (.slice A1 n c1))
  have HR2 := HR.out
  have HF2 := HF.out
  clear HR HF c0 c1' c2 c3 z0 z1 z2 z3
  generalize put4 w1 w.heap.size (.int .i64 6) (.int .u64 0) (.int .u64 0) (.slice A1 n c1) = W at *
  have d0 : W.cell? ⟨w.heap.size, 0, none⟩ = some (.int .i64 6) := cell_of_row W _ 0 _ _ _ HR2
  have d1 : W.cell? ⟨w.heap.size, 1, none⟩ = some (.int .u64 0) := cell_of_row W _ 1 _ _ _ HR2
  have d2 : W.cell? ⟨w.heap.size, 2, none⟩ = some (.int .u64 0) := cell_of_row W _ 2 _ _ _ HR2
  have d3 : W.cell? ⟨w.heap.size, 3, none⟩ = some (.slice A1 n c1) := cell_of_row W _ 3 _ _ _ HR2
  exact bodyPost_ret (v := .agg #[.int .i64 6, .int .u64 0, .int .u64 0, .slice A1 n c1]) (by simp [results, Tryz.results12, go_sem, d0, d1, d2, d3]) rfl HF2

end Go.Proofs.YtpbmgbeiieapiaaGreatDoor

namespace Go.Proofs.YtpbmgbeiieapiaaGreatDoor
open Go Go.RowKit
set_option linter.unusedVariables false

/-- A tree, turned. -/
def T.turn : T → T
  | .node k a b ps => match ps with
    | [q] => if k = 5 then q else .node 5 0 0 [.node k a b [q]]
    | ps => .node 5 0 0 [.node k a b ps]
theorem T.turn_one (a b : Nat) (q : T) : T.turn (.node 5 a b [q]) = q := by simp [T.turn]
theorem T.turn_else (k : Int) (a b : Nat) (ps : List T) (h : k ≠ 5 ∨ ps.length ≠ 1) : T.turn (.node k a b ps) = .node 5 0 0 [.node k a b ps] := by
  match ps, h with
  | [], _ => rfl
  | [q], h => simp only [T.turn]; rw [if_neg (by rcases h with h | h; exact h; simp at h)]
  | _ :: _ :: _, _ => rfl

theorem tree_put {w w1 : World} {g B : Nat} {A1 : Option Addr} {c1 : Nat} {us : List V} {x0 x1 x2 x3 : Value} (k : Int) (a b : Nat) (hk : -9223372036854775808 ≤ k ∧ k ≤ 9223372036854775807) (ha : a < 18446744073709551616) (hb : b < 18446744073709551616)
    (hg : w.heap.size ≤ g) (hgB : g < B) (ho : w1.ownsRow B 25 4 (.slice A1 us.length c1) us.length (vCells us)) (huL : ∀ u ∈ us, Lies w1 B w1.heap.size u) (huS : ∀ u ∈ us, Shp 25 w1 B u) (hbw : Below w.heap.size w w1) :
    TreeEnd (.node k a b (V.absL us)) w (.returned (.agg #[.int .i64 k, .int .u64 (a : Int), .int .u64 (b : Int), .slice A1 us.length c1])) (put4 w1 g (.int .i64 k) (.int .u64 (a : Int)) (.int .u64 (b : Int)) (.slice A1 us.length c1)) := by
  have hse := put4_size w1 g (.int .i64 k) (.int .u64 (a : Int)) (.int .u64 (b : Int)) (.slice A1 us.length c1)
  have hob : (put4 w1 g (.int .i64 k) (.int .u64 (a : Int)) (.int .u64 (b : Int)) (.slice A1 us.length c1)).ownsRow B 25 4 (.slice A1 us.length c1) us.length (vCells us) :=
    own_keep ho fun j hj => put4_else w1 (by have := own_ge ho j hj; omega) _ _ _ _
  refine ⟨.node k a b A1 c1 us, rfl, by rw [V.abs], ?_, Shp.own (base := B) _ _ _ hob (by omega) (fun u hm => ((huS u hm).keep fun g h1 _ => put4_else w1 (by omega) _ _ _ _).more (by omega)), put4_below hbw hg _ _ _ _⟩
  rw [hse]
  refine .mk _ _ _ _ _ _ hk ha hb (by have := Rd.own hob; rw [hse] at this; exact this) (own_cap ho) (fun ad e hn => ?_) (fun q hq => ((huL q hq).keep fun p h1 _ => World.cell?_of_block (put4_else w1 (by omega) _ _ _ _)).more (by omega) (Nat.le_refl _))
  subst e
  obtain ⟨g2, cap2, hv2, _, _⟩ := ho.form hn
  injection hv2 with e2
  injection e2 with e2
  subst e2
  have := own_ge ho g2 rfl
  show w.heap.size ≤ g2
  omega

/-- A row of one tree, made by the call. -/
theorem Lies.single {w : World} {lo hi : Nat} {k : Int} {a b c : Nat} {A : Option Addr} {ps : List V} (h : Lies w lo hi (.node k a b A c ps)) (hh : hi ≤ w.heap.size) (hl : lo ≤ w.heap.size) (E : TypeId) :
    Lies (w.alloc (.cells #[.int .i64 k, .int .u64 (a : Int), .int .u64 (b : Int), .slice A ps.length c] E)) lo (w.heap.size + 1) (.node 0 0 0 (some ⟨w.heap.size, 0, none⟩) 1 [.node k a b A c ps]) := by
  have hb0 := below_new w (.cells #[.int .i64 k, .int .u64 (a : Int), .int .u64 (b : Int), .slice A ps.length c] E)
  have hr := heap_alloc_new w (.cells #[.int .i64 k, .int .u64 (a : Int), .int .u64 (b : Int), .slice A ps.length c] E)
  refine .mk _ _ _ _ _ _ (by omega) (by omega) (by omega) ⟨by rw [vCells_length], fun _ => ⟨_, rfl, by show w.heap.size < _; omega, fun j u hu => ?_⟩⟩ (by simp) (fun ad e _ => by injection e with e; subst e; exact hl) (fun q hq => ?_)
  · have e := cell_of_row (w.alloc (.cells #[.int .i64 k, .int .u64 (a : Int), .int .u64 (b : Int), .slice A ps.length c] E)) w.heap.size j _ _ _ hr
    rw [show (⟨w.heap.size, 0, none⟩ : Addr).add j = ⟨w.heap.size, j, none⟩ by unfold Addr.add; split <;> simp_all, e, ← hu, List.getElem?_toArray]
    rfl
  · obtain rfl : q = .node k a b A c ps := by simpa using hq
    exact (h.under (hb0.mono hh)).more (Nat.le_refl _) (by omega)

set_option maxRecDepth 100000 in
set_option maxHeartbeats 1600000 in
theorem turn_any (k : Int) (a b : Nat) (A : Option Addr) (c : Nat) (ps : List V) (w : World) (lo hi : Nat) (hL : Lies w lo hi (.node k a b A c ps)) (hhi : hi ≤ w.heap.size) (hlo : lo ≤ w.heap.size) (hct : (V.node k a b A c ps).abs.count ≤ 900) :
    Calls Tryz.prog 13 #[(V.node k a b A c ps).val] w (TreeEnd (V.node k a b A c ps).abs.turn w) := by
  obtain ⟨hlen, hcap', hk, ha, hb⟩ := hL.caps
  have HX : ∃ W3 : World, W3 = ((w.alloc (.cells #[.int .i64 k, .int .u64 (a : Int), .int .u64 (b : Int), .slice A ps.length c] 25)).alloc (.cells #[.int .i64 0, .int .u64 0, .int .u64 0, .slice none 0 0] 25)).alloc (.cells #[.int .i64 k, .int .u64 (a : Int), .int .u64 (b : Int), .slice A ps.length c] 25) := ⟨_, rfl⟩
  have r1 := heap_alloc_new w (.cells #[.int .i64 k, .int .u64 (a : Int), .int .u64 (b : Int), .slice A ps.length c] 25)
  have b1 := below_new w (.cells #[.int .i64 k, .int .u64 (a : Int), .int .u64 (b : Int), .slice A ps.length c] 25)
  have s1 : (w.alloc (.cells #[.int .i64 k, .int .u64 (a : Int), .int .u64 (b : Int), .slice A ps.length c] 25)).heap.size = w.heap.size + 1 := by simp
  obtain ⟨W1, hW1⟩ : ∃ W1, W1 = w.alloc (.cells #[.int .i64 k, .int .u64 (a : Int), .int .u64 (b : Int), .slice A ps.length c] 25) := ⟨_, rfl⟩
  rw [← hW1] at r1 b1 s1 HX
  have r2 := heap_alloc_new W1 (.cells #[.int .i64 0, .int .u64 0, .int .u64 0, .slice none 0 0] 25)
  have b2 := below_new W1 (.cells #[.int .i64 0, .int .u64 0, .int .u64 0, .slice none 0 0] 25)
  have s2 : (W1.alloc (.cells #[.int .i64 0, .int .u64 0, .int .u64 0, .slice none 0 0] 25)).heap.size = w.heap.size + 2 := by simp [s1]
  obtain ⟨W2, hW2⟩ : ∃ W2, W2 = W1.alloc (.cells #[.int .i64 0, .int .u64 0, .int .u64 0, .slice none 0 0] 25) := ⟨_, rfl⟩
  rw [← hW2] at r2 b2 s2 HX
  rw [s1] at r2 b2
  have b3 := below_new W2 (.cells #[.int .i64 k, .int .u64 (a : Int), .int .u64 (b : Int), .slice A ps.length c] 25)
  have s3 : (W2.alloc (.cells #[.int .i64 k, .int .u64 (a : Int), .int .u64 (b : Int), .slice A ps.length c] 25)).heap.size = w.heap.size + 3 := by simp [s2]
  have hL2 : Lies W2 lo hi (.node k a b A c ps) := (hL.under (b1.mono hhi)).under (b2.mono (by omega))
  have hL3 := hL2.single (by omega) (by omega) 25
  obtain ⟨W3, hW3⟩ : ∃ W3, W3 = W2.alloc (.cells #[.int .i64 k, .int .u64 (a : Int), .int .u64 (b : Int), .slice A ps.length c] 25) := ⟨_, rfl⟩
  rw [← hW3] at hL3 b3 s3
  rw [s2] at b3 hL3
  have CH := copies_any _ W3 lo (w.heap.size + 3) hL3 (by omega) (by rw [V.count_node, V.absL, V.absL, T.countL, T.countL]; omega)
  have r13 : W3.heap[w.heap.size]? = _ := ((b2.trans (b3.mono (by omega))).block _ (by omega)).trans r1
  have r23 : W3.heap[w.heap.size + 1]? = _ := (b3.block _ (by omega)).trans r2
  have hb3 : Below w.heap.size w W3 := b1.trans ((b2.trans (b3.mono (by omega))).mono (by omega))
  simp only [V.sl, V.addr, V.parts, V.cap, List.length_singleton] at CH
  rw [hW3, hW2, hW1] at CH
  have HW : Hid (W3 = ((w.alloc (.cells #[.int .i64 k, .int .u64 (a : Int), .int .u64 (b : Int), .slice A ps.length c] 25)).alloc (.cells #[.int .i64 0, .int .u64 0, .int .u64 0, .slice none 0 0] 25)).alloc (.cells #[.int .i64 k, .int .u64 (a : Int), .int .u64 (b : Int), .slice A ps.length c] 25)) := by unfold Hid; rw [hW3, hW2, hW1]
  clear hL hL2 hL3 r1 r2 b1 b2 b3 hW3 hW2 hW1 HX s1 s2
  simp only [V.val, V.kind, V.a, V.b, V.sl, V.addr, V.parts, V.cap]
  go_enter Tryz.func13, Tryz.ntmps13
  go_wp2_with fail
  refine CH.mono ?_
  rw [← HW.out]
  rintro e w1 ⟨A1, c1, us, rfl, hul, hua, huL, ho, hb1, huS⟩
  obtain ⟨u, rfl⟩ : ∃ u, us = [u] := by
    match us, hul with
    | [u], _ => exact ⟨u, rfl⟩
  have hbx := (hb1.block _ (by omega)).trans r13
  have hrs := (hb1.block _ (by omega)).trans r23
  have hbw := hb3.trans (hb1.mono (by omega))
  rw [s3] at ho huL huS
  clear CH HW hb1 hb3 r13 r23 s3 hul
  clear W3 W2 W1
  have hua1 : u.abs = (V.node k a b A c ps).abs := by
    rw [V.absL, V.absL, V.absL, V.absL] at hua
    exact (List.cons.inj hua).1
  have b0 : w1.cell? ⟨w.heap.size, 0, none⟩ = some (.int .i64 k) := cell_of_row w1 _ 0 _ _ _ hbx
  have b3 : w1.cell? ⟨w.heap.size, 3, none⟩ = some (.slice A ps.length c) := cell_of_row w1 _ 3 _ _ _ hbx
  have hgl := (Array.getElem?_eq_some_iff.1 hrs).1
  have c0 : w1.cell? ⟨w.heap.size + 1, 0, none⟩ = some (.int .i64 0) := cell_of_row w1 _ 0 _ _ _ hrs
  have c1' : w1.cell? ⟨w.heap.size + 1, 1, none⟩ = some (.int .u64 0) := cell_of_row w1 _ 1 _ _ _ hrs
  have c2 : w1.cell? ⟨w.heap.size + 1, 2, none⟩ = some (.int .u64 0) := cell_of_row w1 _ 2 _ _ _ hrs
  have c3 : w1.cell? ⟨w.heap.size + 1, 3, none⟩ = some (.slice none 0 0) := cell_of_row w1 _ 3 _ _ _ hrs
  have z0 := frozen_of_row w1 (w.heap.size + 1) 0 _ _ hrs
  have z1 := frozen_of_row w1 (w.heap.size + 1) 1 _ _ hrs
  have z2 := frozen_of_row w1 (w.heap.size + 1) 2 _ _ hrs
  have z3 := frozen_of_row w1 (w.heap.size + 1) 3 _ _ hrs
  by_cases hsp : k = 5 ∧ ps.length = 1
  · obtain ⟨rfl, h1⟩ := hsp
    obtain ⟨q0, rfl⟩ : ∃ q0, ps = [q0] := by
      match ps, h1 with
      | [q0], _ => exact ⟨q0, rfl⟩
    cases u with
    | node ku au bu Au cu qs =>
    rw [V.abs, V.abs, V.absL, V.absL] at hua1
    injection hua1 with hku hau hbu hqs
    obtain ⟨q, rfl⟩ : ∃ q, qs = [q] := by
      match qs, hqs with
      | [], h => rw [V.absL] at h; cases h
      | [q], _ => exact ⟨q, rfl⟩
      | _ :: _ :: _, h => rw [V.absL, V.absL] at h; injection h with _ h; cases h
    rw [V.absL, V.absL] at hqs
    have hqa : q.abs = q0.abs := (List.cons.inj hqs).1
    have hLu := huL _ (List.mem_singleton.2 rfl)
    have hSu := huS _ (List.mem_singleton.2 rfl)
    obtain ⟨bb, off, q', eA, hbb, hlb, hq', hLq, d0, d1, d2, d3⟩ := hLu.nth (i := 0) (by simp)
    obtain rfl : q' = q := by simpa using hq'.symm
    obtain ⟨g', eA', hgB, hgl', hSq, -, -⟩ := hSu.nth hq'
    subst eA
    injection eA' with eA'
    injection eA' with eb eo
    subst eb eo
    obtain ⟨g, cap, hv, hgw, hgl2⟩ := ho.form (by simp)
    have hA : A1 = some ⟨g, 0, none⟩ := by injection hv
    subst hA
    have e3 : w1.cell? ⟨g, 3, none⟩ = some (.slice (some ⟨bb, 0, none⟩) 1 cu) := (ho.cellAt 3 (by simp)).trans rfl
    have HF : Hid (TreeEnd (V.node 5 a b A c [q0]).abs.turn w (.returned (.agg #[.int .i64 q'.kind, .int .u64 (q'.a : Int), .int .u64 (q'.b : Int), q'.sl])) (put4 w1 (w.heap.size + 1) (.int .i64 q'.kind) (.int .u64 (q'.a : Int)) (.int .u64 (q'.b : Int)) q'.sl)) := by
      refine ⟨q', rfl, by rw [hqa, V.abs, V.absL, V.absL, T.turn_one], ?_, (hSq.keep fun g h1 _ => put4_else w1 (by omega) _ _ _ _).more (by omega), put4_below hbw (by omega) _ _ _ _⟩
      rw [put4_size]
      exact (hLq.keep fun p h1 _ => World.cell?_of_block (put4_else w1 (by omega) _ _ _ _)).more (by omega) (Nat.le_refl _)
    have HR : Hid ((put4 w1 (w.heap.size + 1) (.int .i64 q'.kind) (.int .u64 (q'.a : Int)) (.int .u64 (q'.b : Int)) q'.sl).heap[w.heap.size + 1]? = _) := put4_row hrs _ _ _ _
    simp only [Nat.zero_mul, Nat.zero_add, Nat.add_zero] at d0 d1 d2 d3
    have hps : q'.sl = .slice q'.addr q'.parts.length q'.cap := rfl
    rw [hps] at d3 HF HR
    clear hqa hqs hku hau hbu hLu hSu hLq hSq hua huL ho huS hbx hrs hbw hps hv hq'
    generalize q'.addr = pA at *
    generalize q'.cap = pc at *
    generalize q'.parts.length = pn at *
    generalize q'.kind = x0 at *
    generalize (q'.a : Int) = x1 at *
    generalize (q'.b : Int) = x2 at *
    go_wp2_with fail
    show bodyPost _ _ _ _ _ (put4 w1 (w.heap.size + 1) (.int .i64 x0) (.int .u64 x1) (.int .u64 x2) (.slice pA pn pc))
    have HR2 := HR.out
    have HF2 := HF.out
    clear HR HF c0 c1' c2 c3 z0 z1 z2 z3
    generalize put4 w1 (w.heap.size + 1) (.int .i64 x0) (.int .u64 x1) (.int .u64 x2) (.slice pA pn pc) = W at *
    have d0 : W.cell? ⟨w.heap.size + 1, 0, none⟩ = some (.int .i64 x0) := cell_of_row W _ 0 _ _ _ HR2
    have d1 : W.cell? ⟨w.heap.size + 1, 1, none⟩ = some (.int .u64 x1) := cell_of_row W _ 1 _ _ _ HR2
    have d2 : W.cell? ⟨w.heap.size + 1, 2, none⟩ = some (.int .u64 x2) := cell_of_row W _ 2 _ _ _ HR2
    have d3 : W.cell? ⟨w.heap.size + 1, 3, none⟩ = some (.slice pA pn pc) := cell_of_row W _ 3 _ _ _ HR2
    exact bodyPost_ret (v := .agg #[.int .i64 x0, .int .u64 x1, .int .u64 x2, .slice pA pn pc]) (by simp [results, Tryz.results13, go_sem, d0, d1, d2, d3]) rfl HF2
  · have HF : Hid (TreeEnd (V.node k a b A c ps).abs.turn w (.returned (.agg #[.int .i64 5, .int .u64 0, .int .u64 0, .slice A1 1 c1])) (put4 w1 (w.heap.size + 1) (.int .i64 5) (.int .u64 0) (.int .u64 0) (.slice A1 1 c1))) := by
      have := tree_put (w := w) (w1 := w1) (g := w.heap.size + 1) (B := w.heap.size + 3) (x0 := undef) (x1 := undef) (x2 := undef) (x3 := undef) 5 0 0 (by omega) (by omega) (by omega) (by omega) (by omega) ho huL huS hbw
      rw [V.absL, V.absL, hua1, V.abs] at this
      rw [V.abs, T.turn_else _ _ _ _ (by rw [absL_length]; omega)]
      exact this
    have HR : Hid ((put4 w1 (w.heap.size + 1) (.int .i64 5) (.int .u64 0) (.int .u64 0) (.slice A1 1 c1)).heap[w.heap.size + 1]? = _) := put4_row hrs _ _ _ _
    have hd : (decide (k = 5) && decide ((ps.length : Int) = 1)) = false := by
      simp only [Bool.and_eq_false_iff, decide_eq_false_iff_not]; omega
    have hcases : k ≠ 5 ∨ (k = 5 ∧ ps.length ≠ 1) := by omega
    clear hua hua1 huL ho huS hbx hrs hbw hsp
    rcases hcases with h5 | ⟨rfl, h1⟩
    · have e5 : decide (k = 5) = false := by simp [h5]
      go_wp2_with fail
      show bodyPost _ _ _ _ _ (put4 w1 (w.heap.size + 1) (.int .i64 5) (.int .u64 0) (.int .u64 0) (.slice A1 1 c1))
      have HR2 := HR.out
      have HF2 := HF.out
      clear HR HF c0 c1' c2 c3 z0 z1 z2 z3
      generalize put4 w1 (w.heap.size + 1) (.int .i64 5) (.int .u64 0) (.int .u64 0) (.slice A1 1 c1) = W at *
      have d0 : W.cell? ⟨w.heap.size + 1, 0, none⟩ = some (.int .i64 5) := cell_of_row W _ 0 _ _ _ HR2
      have d1 : W.cell? ⟨w.heap.size + 1, 1, none⟩ = some (.int .u64 0) := cell_of_row W _ 1 _ _ _ HR2
      have d2 : W.cell? ⟨w.heap.size + 1, 2, none⟩ = some (.int .u64 0) := cell_of_row W _ 2 _ _ _ HR2
      have d3 : W.cell? ⟨w.heap.size + 1, 3, none⟩ = some (.slice A1 1 c1) := cell_of_row W _ 3 _ _ _ HR2
      exact bodyPost_ret (v := .agg #[.int .i64 5, .int .u64 0, .int .u64 0, .slice A1 1 c1]) (by simp [results, Tryz.results13, go_sem, d0, d1, d2, d3]) rfl HF2
    · have e1 : decide ((ps.length : Int) = 1) = false := by simp; omega
      go_wp2_with fail
      show bodyPost _ _ _ _ _ (put4 w1 (w.heap.size + 1) (.int .i64 5) (.int .u64 0) (.int .u64 0) (.slice A1 1 c1))
      have HR2 := HR.out
      have HF2 := HF.out
      clear HR HF c0 c1' c2 c3 z0 z1 z2 z3
      generalize put4 w1 (w.heap.size + 1) (.int .i64 5) (.int .u64 0) (.int .u64 0) (.slice A1 1 c1) = W at *
      have d0 : W.cell? ⟨w.heap.size + 1, 0, none⟩ = some (.int .i64 5) := cell_of_row W _ 0 _ _ _ HR2
      have d1 : W.cell? ⟨w.heap.size + 1, 1, none⟩ = some (.int .u64 0) := cell_of_row W _ 1 _ _ _ HR2
      have d2 : W.cell? ⟨w.heap.size + 1, 2, none⟩ = some (.int .u64 0) := cell_of_row W _ 2 _ _ _ HR2
      have d3 : W.cell? ⟨w.heap.size + 1, 3, none⟩ = some (.slice A1 1 c1) := cell_of_row W _ 3 _ _ _ HR2
      exact bodyPost_ret (v := .agg #[.int .i64 5, .int .u64 0, .int .u64 0, .slice A1 1 c1]) (by simp [results, Tryz.results13, go_sem, d0, d1, d2, d3]) rfl HF2

end Go.Proofs.YtpbmgbeiieapiaaGreatDoor

namespace Go.Proofs.YtpbmgbeiieapiaaGreatDoor
open Go Go.RowKit
set_option linter.unusedVariables false

/-- A tree comes back that lies from lo on. -/
def LieEnd (t : T) (lo : Nat) (w : World) (e : Ending) (w' : World) : Prop :=
  ∃ u : V, e = .returned u.val ∧ u.abs = t ∧ Lies w' lo w'.heap.size u ∧ Below w.heap.size w w'

set_option maxRecDepth 100000 in
set_option maxHeartbeats 1600000 in
theorem rturn_any (k : Int) (a b : Nat) (A : Option Addr) (c : Nat) (ps : List V) (w : World) (lo hi : Nat) (hL : Lies w lo hi (.node k a b A c ps)) (hhi : hi ≤ w.heap.size) (hlo : lo ≤ w.heap.size) :
    Calls Tryz.prog 17 #[(V.node k a b A c ps).val] w (LieEnd (V.node k a b A c ps).abs.turn lo w) := by
  obtain ⟨hlen, hcap', hk, ha, hb⟩ := hL.caps
  have r1 := heap_alloc_new w (.cells #[.int .i64 k, .int .u64 (a : Int), .int .u64 (b : Int), .slice A ps.length c] 30)
  have b1 := below_new w (.cells #[.int .i64 k, .int .u64 (a : Int), .int .u64 (b : Int), .slice A ps.length c] 30)
  have s1 : (w.alloc (.cells #[.int .i64 k, .int .u64 (a : Int), .int .u64 (b : Int), .slice A ps.length c] 30)).heap.size = w.heap.size + 1 := by simp
  have r2 := heap_alloc_new (w.alloc (.cells #[.int .i64 k, .int .u64 (a : Int), .int .u64 (b : Int), .slice A ps.length c] 30)) (.cells #[.int .i64 0, .int .u64 0, .int .u64 0, .slice none 0 0] 30)
  have b2 := below_new (w.alloc (.cells #[.int .i64 k, .int .u64 (a : Int), .int .u64 (b : Int), .slice A ps.length c] 30)) (.cells #[.int .i64 0, .int .u64 0, .int .u64 0, .slice none 0 0] 30)
  rw [s1] at r2 b2
  have s2 : ((w.alloc (.cells #[.int .i64 k, .int .u64 (a : Int), .int .u64 (b : Int), .slice A ps.length c] 30)).alloc (.cells #[.int .i64 0, .int .u64 0, .int .u64 0, .slice none 0 0] 30)).heap.size = w.heap.size + 2 := by simp
  have r12 := (b2.block _ (by omega)).trans r1
  have hbw := b1.trans (b2.mono (by omega))
  have hL2 := hL.under (hbw.mono hhi)
  clear r1 b1 s1 b2 hL
  simp only [V.val, V.kind, V.a, V.b, V.sl, V.addr, V.parts, V.cap]
  go_enter Tryz.func17, Tryz.ntmps17
  go_upto_region 1 with (fail)
  generalize (w.alloc (.cells #[.int .i64 k, .int .u64 (a : Int), .int .u64 (b : Int), .slice A ps.length c] 30)).alloc (.cells #[.int .i64 0, .int .u64 0, .int .u64 0, .slice none 0 0] 30) = w1 at *
  have b0 : w1.cell? ⟨w.heap.size, 0, none⟩ = some (.int .i64 k) := cell_of_row w1 _ 0 _ _ _ r12
  have b1 : w1.cell? ⟨w.heap.size, 1, none⟩ = some (.int .u64 (a : Int)) := cell_of_row w1 _ 1 _ _ _ r12
  have b2 : w1.cell? ⟨w.heap.size, 2, none⟩ = some (.int .u64 (b : Int)) := cell_of_row w1 _ 2 _ _ _ r12
  have b3 : w1.cell? ⟨w.heap.size, 3, none⟩ = some (.slice A ps.length c) := cell_of_row w1 _ 3 _ _ _ r12
  have hgl := (Array.getElem?_eq_some_iff.1 r2).1
  by_cases hsp : k = 5 ∧ ps.length = 1
  · obtain ⟨rfl, h1⟩ := hsp
    obtain ⟨q, rfl⟩ : ∃ q, ps = [q] := by
      match ps, h1 with
      | [q], _ => exact ⟨q, rfl⟩
    obtain ⟨bb, off, q', eA, hbb, hlb, hq', hLq, d0, d1, d2, d3⟩ := hL2.nth (i := 0) (by simp)
    obtain rfl : q' = q := by simpa using hq'.symm
    subst eA
    have c0 : w1.cell? ⟨w.heap.size + 1, 0, none⟩ = some (.int .i64 0) := cell_of_row w1 _ 0 _ _ _ r2
    have c1' : w1.cell? ⟨w.heap.size + 1, 1, none⟩ = some (.int .u64 0) := cell_of_row w1 _ 1 _ _ _ r2
    have c2 : w1.cell? ⟨w.heap.size + 1, 2, none⟩ = some (.int .u64 0) := cell_of_row w1 _ 2 _ _ _ r2
    have c3 : w1.cell? ⟨w.heap.size + 1, 3, none⟩ = some (.slice none 0 0) := cell_of_row w1 _ 3 _ _ _ r2
    have z0 := frozen_of_row w1 (w.heap.size + 1) 0 _ _ r2
    have z1 := frozen_of_row w1 (w.heap.size + 1) 1 _ _ r2
    have z2 := frozen_of_row w1 (w.heap.size + 1) 2 _ _ r2
    have z3 := frozen_of_row w1 (w.heap.size + 1) 3 _ _ r2
    have HF : Hid (LieEnd (V.node 5 a b (some ⟨bb, off, none⟩) c [q']).abs.turn lo w (.returned (.agg #[.int .i64 q'.kind, .int .u64 (q'.a : Int), .int .u64 (q'.b : Int), q'.sl])) (put4 w1 (w.heap.size + 1) (.int .i64 q'.kind) (.int .u64 (q'.a : Int)) (.int .u64 (q'.b : Int)) q'.sl)) := by
      refine ⟨q', rfl, by rw [V.abs, V.absL, V.absL, T.turn_one], ?_, put4_below hbw (by omega) _ _ _ _⟩
      rw [put4_size]
      exact (hLq.keep fun p _ h1 => World.cell?_of_block (put4_else w1 (by omega) _ _ _ _)).more (by omega) (by omega)
    have HR : Hid ((put4 w1 (w.heap.size + 1) (.int .i64 q'.kind) (.int .u64 (q'.a : Int)) (.int .u64 (q'.b : Int)) q'.sl).heap[w.heap.size + 1]? = _) := put4_row r2 _ _ _ _
    simp only [Nat.zero_mul, Nat.add_zero] at d0 d1 d2 d3
    have hps : q'.sl = .slice q'.addr q'.parts.length q'.cap := rfl
    rw [hps] at d3 HF HR
    clear hps hLq hL2 hbw r2 r12 hq'
    generalize q'.addr = pA at *
    generalize q'.cap = pc at *
    generalize q'.parts.length = pn at *
    generalize q'.kind = x0 at *
    generalize (q'.a : Int) = x1 at *
    generalize (q'.b : Int) = x2 at *
    go_wp2_with fail
    show bodyPost _ _ _ _ _ (put4 w1 (w.heap.size + 1) (.int .i64 x0) (.int .u64 x1) (.int .u64 x2) (.slice pA pn pc))
    have HR2 := HR.out
    have HF2 := HF.out
    clear HR HF c0 c1' c2 c3 z0 z1 z2 z3
    generalize put4 w1 (w.heap.size + 1) (.int .i64 x0) (.int .u64 x1) (.int .u64 x2) (.slice pA pn pc) = W at *
    have d0 : W.cell? ⟨w.heap.size + 1, 0, none⟩ = some (.int .i64 x0) := cell_of_row W _ 0 _ _ _ HR2
    have d1 : W.cell? ⟨w.heap.size + 1, 1, none⟩ = some (.int .u64 x1) := cell_of_row W _ 1 _ _ _ HR2
    have d2 : W.cell? ⟨w.heap.size + 1, 2, none⟩ = some (.int .u64 x2) := cell_of_row W _ 2 _ _ _ HR2
    have d3 : W.cell? ⟨w.heap.size + 1, 3, none⟩ = some (.slice pA pn pc) := cell_of_row W _ 3 _ _ _ HR2
    exact bodyPost_ret (v := .agg #[.int .i64 x0, .int .u64 x1, .int .u64 x2, .slice pA pn pc]) (by simp [results, Tryz.results17, go_sem, d0, d1, d2, d3]) rfl HF2
  · obtain ⟨W2, hW2⟩ : ∃ W2, W2 = w1.alloc (.cells #[.int .i64 k, .int .u64 (a : Int), .int .u64 (b : Int), .slice A ps.length c] 30) := ⟨_, rfl⟩
    have g3 := below_new w1 (.cells #[.int .i64 k, .int .u64 (a : Int), .int .u64 (b : Int), .slice A ps.length c] 30)
    have hs := hL2.single (by omega) (by omega) 30
    have hs2 : W2.heap.size = w.heap.size + 3 := by rw [hW2]; simp [s2]
    rw [← hW2] at g3 hs
    rw [s2] at g3 hs
    have r22 : W2.heap[w.heap.size + 1]? = _ := (g3.block _ (by omega)).trans r2
    have hbw2 := hbw.trans (g3.mono (by omega))
    have HF : Hid (LieEnd (V.node k a b A c ps).abs.turn lo w (.returned (.agg #[.int .i64 5, .int .u64 0, .int .u64 0, .slice (some ⟨w.heap.size + 2, 0, none⟩) 1 1])) (put4 W2 (w.heap.size + 1) (.int .i64 5) (.int .u64 0) (.int .u64 0) (.slice (some ⟨w.heap.size + 2, 0, none⟩) 1 1))) := by
      refine ⟨.node 5 0 0 (some ⟨w.heap.size + 2, 0, none⟩) 1 [.node k a b A c ps], rfl, by rw [V.abs, V.absL, V.absL, V.abs, T.turn_else _ _ _ _ (by rw [absL_length]; omega)], ?_, put4_below hbw2 (by omega) _ _ _ _⟩
      rw [put4_size]
      have ht := hs.top.2.2.2.2.2
      refine .mk _ _ _ _ _ _ (by omega) (by omega) (by omega) ⟨ht.len, fun hn => ?_⟩ (by simp) (fun ad e _ => by injection e with e; subst e; show lo ≤ w.heap.size + 2; omega) (fun q hq => ?_)
      · obtain ⟨ad, e, hb, hc⟩ := ht.lies hn
        refine ⟨ad, e, by omega, fun j u hu => ?_⟩
        have had : ad.block = w.heap.size + 2 := by have e' : some ⟨w.heap.size + 2, 0, none⟩ = some ad := e; injection e' with e'; rw [← e']
        exact (World.cell?_of_block (put4_else W2 (by rw [add_block]; omega) _ _ _ _)).trans (hc j u hu)
      · obtain rfl : q = .node k a b A c ps := by simpa using hq
        exact ((hL2.under (g3.mono (by omega))).keep fun p _ h1 => World.cell?_of_block (put4_else W2 (by omega) _ _ _ _)).more (Nat.le_refl _) (by omega)
    have HR : Hid ((put4 W2 (w.heap.size + 1) (.int .i64 5) (.int .u64 0) (.int .u64 0) (.slice (some ⟨w.heap.size + 2, 0, none⟩) 1 1)).heap[w.heap.size + 1]? = _) := put4_row r22 _ _ _ _
    have c0 : W2.cell? ⟨w.heap.size + 1, 0, none⟩ = some (.int .i64 0) := cell_of_row W2 _ 0 _ _ _ r22
    have c1' : W2.cell? ⟨w.heap.size + 1, 1, none⟩ = some (.int .u64 0) := cell_of_row W2 _ 1 _ _ _ r22
    have c2 : W2.cell? ⟨w.heap.size + 1, 2, none⟩ = some (.int .u64 0) := cell_of_row W2 _ 2 _ _ _ r22
    have c3 : W2.cell? ⟨w.heap.size + 1, 3, none⟩ = some (.slice none 0 0) := cell_of_row W2 _ 3 _ _ _ r22
    have z0 := frozen_of_row W2 (w.heap.size + 1) 0 _ _ r22
    have z1 := frozen_of_row W2 (w.heap.size + 1) 1 _ _ r22
    have z2 := frozen_of_row W2 (w.heap.size + 1) 2 _ _ r22
    have z3 := frozen_of_row W2 (w.heap.size + 1) 3 _ _ r22
    have e0 : w1.cell? ⟨w.heap.size + 1, 0, none⟩ = some (.int .i64 0) := cell_of_row w1 _ 0 _ _ _ r2
    have e1 : w1.cell? ⟨w.heap.size + 1, 1, none⟩ = some (.int .u64 0) := cell_of_row w1 _ 1 _ _ _ r2
    have e2 : w1.cell? ⟨w.heap.size + 1, 2, none⟩ = some (.int .u64 0) := cell_of_row w1 _ 2 _ _ _ r2
    have e3 : w1.cell? ⟨w.heap.size + 1, 3, none⟩ = some (.slice none 0 0) := cell_of_row w1 _ 3 _ _ _ r2
    have y0 := frozen_of_row w1 (w.heap.size + 1) 0 _ _ r2
    have y1 := frozen_of_row w1 (w.heap.size + 1) 1 _ _ r2
    have y2 := frozen_of_row w1 (w.heap.size + 1) 2 _ _ r2
    have y3 := frozen_of_row w1 (w.heap.size + 1) 3 _ _ r2
    have hcases : k ≠ 5 ∨ (k = 5 ∧ ps.length ≠ 1) := by omega
    subst hW2
    clear hs hs2 g3 r22 hbw2 hL2 hbw r2 r12 hsp
    rcases hcases with h5 | ⟨rfl, h1⟩
    · have e5 : decide (k = 5) = false := by simp [h5]
      go_wp2_with fail
      have hcm : (put4 w1 (w.heap.size + 1) (.int .i64 5) (.int .u64 0) (.int .u64 0) (.slice (some ⟨w.heap.size + 2, 0, none⟩) 1 1)).alloc (.cells #[.int .i64 k, .int .u64 (a : Int), .int .u64 (b : Int), .slice A ps.length c] 30) = put4 (w1.alloc (.cells #[.int .i64 k, .int .u64 (a : Int), .int .u64 (b : Int), .slice A ps.length c] 30)) (w.heap.size + 1) (.int .i64 5) (.int .u64 0) (.int .u64 0) (.slice (some ⟨w.heap.size + 2, 0, none⟩) 1 1) := by simp [put4, go_sem, hgl]
      show bodyPost _ _ _ _ _ ((put4 w1 (w.heap.size + 1) (.int .i64 5) (.int .u64 0) (.int .u64 0) (.slice (some ⟨w.heap.size + 2, 0, none⟩) 1 1)).alloc (.cells #[.int .i64 k, .int .u64 (a : Int), .int .u64 (b : Int), .slice A ps.length c] 30))
      rw [hcm]
      clear hcm
      have HR2 := HR.out
      have HF2 := HF.out
      clear HR HF c0 c1' c2 c3 z0 z1 z2 z3 e0 e1 e2 e3 y0 y1 y2 y3
      generalize put4 (w1.alloc _) (w.heap.size + 1) (.int .i64 5) (.int .u64 0) (.int .u64 0) (.slice (some ⟨w.heap.size + 2, 0, none⟩) 1 1) = W at *
      have d0 : W.cell? ⟨w.heap.size + 1, 0, none⟩ = some (.int .i64 5) := cell_of_row W _ 0 _ _ _ HR2
      have d1 : W.cell? ⟨w.heap.size + 1, 1, none⟩ = some (.int .u64 0) := cell_of_row W _ 1 _ _ _ HR2
      have d2 : W.cell? ⟨w.heap.size + 1, 2, none⟩ = some (.int .u64 0) := cell_of_row W _ 2 _ _ _ HR2
      have d3 : W.cell? ⟨w.heap.size + 1, 3, none⟩ = some (.slice (some ⟨w.heap.size + 2, 0, none⟩) 1 1) := cell_of_row W _ 3 _ _ _ HR2
      exact bodyPost_ret (v := .agg #[.int .i64 5, .int .u64 0, .int .u64 0, .slice (some ⟨w.heap.size + 2, 0, none⟩) 1 1]) (by simp [results, Tryz.results17, go_sem, d0, d1, d2, d3]) rfl HF2
    · have e5 : decide ((ps.length : Int) = 1) = false := by simp; omega
      go_wp2_with fail
      have hcm : (put4 w1 (w.heap.size + 1) (.int .i64 5) (.int .u64 0) (.int .u64 0) (.slice (some ⟨w.heap.size + 2, 0, none⟩) 1 1)).alloc (.cells #[.int .i64 5, .int .u64 (a : Int), .int .u64 (b : Int), .slice A ps.length c] 30) = put4 (w1.alloc (.cells #[.int .i64 5, .int .u64 (a : Int), .int .u64 (b : Int), .slice A ps.length c] 30)) (w.heap.size + 1) (.int .i64 5) (.int .u64 0) (.int .u64 0) (.slice (some ⟨w.heap.size + 2, 0, none⟩) 1 1) := by simp [put4, go_sem, hgl]
      show bodyPost _ _ _ _ _ ((put4 w1 (w.heap.size + 1) (.int .i64 5) (.int .u64 0) (.int .u64 0) (.slice (some ⟨w.heap.size + 2, 0, none⟩) 1 1)).alloc (.cells #[.int .i64 5, .int .u64 (a : Int), .int .u64 (b : Int), .slice A ps.length c] 30))
      rw [hcm]
      clear hcm
      have HR2 := HR.out
      have HF2 := HF.out
      clear HR HF c0 c1' c2 c3 z0 z1 z2 z3 e0 e1 e2 e3 y0 y1 y2 y3
      generalize put4 (w1.alloc _) (w.heap.size + 1) (.int .i64 5) (.int .u64 0) (.int .u64 0) (.slice (some ⟨w.heap.size + 2, 0, none⟩) 1 1) = W at *
      have d0 : W.cell? ⟨w.heap.size + 1, 0, none⟩ = some (.int .i64 5) := cell_of_row W _ 0 _ _ _ HR2
      have d1 : W.cell? ⟨w.heap.size + 1, 1, none⟩ = some (.int .u64 0) := cell_of_row W _ 1 _ _ _ HR2
      have d2 : W.cell? ⟨w.heap.size + 1, 2, none⟩ = some (.int .u64 0) := cell_of_row W _ 2 _ _ _ HR2
      have d3 : W.cell? ⟨w.heap.size + 1, 3, none⟩ = some (.slice (some ⟨w.heap.size + 2, 0, none⟩) 1 1) := cell_of_row W _ 3 _ _ _ HR2
      exact bodyPost_ret (v := .agg #[.int .i64 5, .int .u64 0, .int .u64 0, .slice (some ⟨w.heap.size + 2, 0, none⟩) 1 1]) (by simp [results, Tryz.results17, go_sem, d0, d1, d2, d3]) rfl HF2
end Go.Proofs.YtpbmgbeiieapiaaGreatDoor
