/-
  Layer 4: Same, the document's.
-/
import Derived.Test.YtbcadnkdehknoaaGreatDoorTpr
import Derived.Deep.QuietTactic
import Derived.BigQuiet
import Derived.Deep.RegionHeld3
namespace Go.Proofs.YtbcadnkdehknoaaGreatDoor
open Go Go.RowKit
set_option linter.unusedVariables false

mutual
def T.sameB : T → T → Bool
  | .node k a b ps, .node k' a' b' qs => decide (k = k' ∧ a = a' ∧ b = b') && T.sameL ps qs
def T.sameL : List T → List T → Bool
  | [], [] => true
  | p :: ps, q :: qs => p.sameB q && T.sameL ps qs
  | _, _ => false
end
theorem sameL_iff : ∀ (ps qs : List T), (∀ p ∈ ps, ∀ q, p.sameB q = true ↔ p = q) → (T.sameL ps qs = true ↔ ps = qs)
  | [], [], _ => by simp [T.sameL]
  | [], q :: qs, _ => by simp [T.sameL]
  | p :: ps, [], _ => by simp [T.sameL]
  | p :: ps, q :: qs, h => by
    rw [T.sameL, Bool.and_eq_true, h p (by simp), sameL_iff ps qs fun x hx => h x (by simp [hx])]
    simp
theorem sameB_iff : ∀ (t s : T), t.sameB s = true ↔ t = s := by
  refine T.ind fun k a b ps ih s => ?_
  cases s with
  | node k' a' b' qs =>
    rw [T.sameB, Bool.and_eq_true, decide_eq_true_iff, sameL_iff ps qs ih]
    simp [T.node.injEq, and_assoc]
theorem sameB_ne {t s : T} (h : t ≠ s) : t.sameB s = false := by
  cases hs : t.sameB s with
  | false => rfl
  | true => exact absurd ((sameB_iff t s).1 hs) h
theorem sameB_self (t : T) : t.sameB t = true := (sameB_iff t t).2 rfl
theorem V.abs_node (k : Int) (a b : Nat) (A : Option Addr) (c : Nat) (ps : List V) : (V.node k a b A c ps).abs = .node k a b (V.absL ps) := by rw [V.abs]
theorem absL_ne {ps qs : List V} {i : Nat} {p q : V} (hp : ps[i]? = some p) (hq : qs[i]? = some q) (h : p.abs ≠ q.abs) : V.absL ps ≠ V.absL qs := by
  intro e
  have := congrArg (fun l : List T => l[i]?) e
  simp only [absL_map, List.getElem?_map, hp, hq, Option.map_some, Option.some.injEq] at this
  exact h this

set_option maxRecDepth 100000 in
set_option maxHeartbeats 1600000 in
theorem rsame_any : ∀ (v u : V) (w : World) (lo hi lo' hi' : Nat), Lies w lo hi v → hi ≤ w.heap.size → Lies w lo' hi' u → hi' ≤ w.heap.size →
    Calls Tryz.prog 56 #[v.val, u.val] w fun e w' => e = .returned (.bool (v.abs.sameB u.abs)) ∧ Below w.heap.size w w' := by
  refine V.ind fun k a b A c ps ih u w lo hi lo' hi' hL hhi hL' hhi' => ?_
  cases u with
  | node k' a' b' A' c' qs =>
  obtain ⟨hlen, hcap', -, -, -⟩ := hL.caps
  obtain ⟨hlen2, hcap2, -, -, -⟩ := hL'.caps
  have HL : Hid (∀ W, Below w.heap.size w W → Lies W lo hi (V.node k a b A c ps) ∧ Lies W lo' hi' (V.node k' a' b' A' c' qs)) := fun W hW => ⟨hL.under (hW.mono hhi), hL'.under (hW.mono hhi')⟩
  have IH : Hid (∀ p ∈ ps, ∀ (u : V) (W : World), Lies W lo hi p → hi ≤ W.heap.size → Lies W lo' hi' u → hi' ≤ W.heap.size → Calls Tryz.prog 56 #[p.val, u.val] W fun e w' => e = .returned (.bool (p.abs.sameB u.abs)) ∧ Below W.heap.size W w') := fun p hp u W h2 h3 h4 h5 => ih p hp u W lo hi lo' hi' h2 h3 h4 h5
  have hb1 := below_new w (.cells #[.int .i64 k, .int .u64 (a : Int), .int .u64 (b : Int), .slice A ps.length c] 36)
  have hbA := hb1.alloc hb1.size (.cells #[.int .i64 k', .int .u64 (a' : Int), .int .u64 (b' : Int), .slice A' qs.length c'] 36)
  have hx1 := (heap_alloc_old (w.alloc (.cells #[.int .i64 k, .int .u64 (a : Int), .int .u64 (b : Int), .slice A ps.length c] 36)) (.cells #[.int .i64 k', .int .u64 (a' : Int), .int .u64 (b' : Int), .slice A' qs.length c'] 36) (by simp : w.heap.size < _)).trans (heap_alloc_new w (.cells #[.int .i64 k, .int .u64 (a : Int), .int .u64 (b : Int), .slice A ps.length c] 36))
  have hx2 := heap_alloc_new (w.alloc (.cells #[.int .i64 k, .int .u64 (a : Int), .int .u64 (b : Int), .slice A ps.length c] 36)) (.cells #[.int .i64 k', .int .u64 (a' : Int), .int .u64 (b' : Int), .slice A' qs.length c'] 36)
  simp only [World.size_alloc] at hx2
  have HE : Hid ((V.node k a b A c ps).abs = .node k a b (V.absL ps) ∧ (V.node k' a' b' A' c' qs).abs = .node k' a' b' (V.absL qs)) := ⟨V.abs_node .., V.abs_node ..⟩
  obtain ⟨r, hr⟩ : ∃ r, r = (V.node k a b A c ps).abs.sameB (V.node k' a' b' A' c' qs).abs := ⟨_, rfl⟩
  rw [← hr]
  have HR : Hid ((k = k' ∧ a = a' ∧ b = b' ∧ V.absL ps = V.absL qs → r = true) ∧ (¬ (k = k' ∧ a = a' ∧ b = b' ∧ V.absL ps = V.absL qs) → r = false)) := by
    rw [HE.out.1, HE.out.2] at hr
    refine ⟨fun ⟨h1, h2, h3, h4⟩ => ?_, fun h => ?_⟩
    · rw [hr, h1, h2, h3, h4, sameB_self]
    · rw [hr]; exact sameB_ne fun e => h (by injection e with e1 e2 e3 e4; exact ⟨e1, e2, e3, e4⟩)
  clear ih hL hL' hr hb1
  simp only [V.val, V.kind, V.a, V.b, V.sl, V.addr, V.parts, V.cap]
  by_cases hkk : k = k'
  · by_cases haa : a = a'
    · by_cases hbb : b = b'
      · by_cases hll : ps.length = qs.length
        · have q1 : (k != k') = false := by simp [hkk]
          have q2 : ((a : Int) != (a' : Int)) = false := by simp [haa]
          have q3 : ((b : Int) != (b' : Int)) = false := by simp [hbb]
          have q4 : ((ps.length : Int) != (qs.length : Int)) = false := by simp [hll]
          have HQ := Lib_hid (And.intro hkk (And.intro haa (And.intro hbb hll)))
          clear hkk haa hbb hll
          go_enter Tryz.func56, Tryz.ntmps56
          go_wp2
          go_loopw [5] (fun z wr => ∃ i : Nat, z = .int .i64 i ∧ i ≤ ps.length ∧ Hid (V.absL (ps.take i) = V.absL (qs.take i)) ∧ wr.heap[w.heap.size]? = some (.cells #[.int .i64 k, .int .u64 (a : Int), .int .u64 (b : Int), .slice A ps.length c] 36 (0, 0)) ∧ wr.heap[w.heap.size + 1]? = some (.cells #[.int .i64 k', .int .u64 (a' : Int), .int .u64 (b' : Int), .slice A' qs.length c'] 36 (0, 0)) ∧ Below w.heap.size w wr) (fun z _ => ps.length - (intOf z).toNat)
          case atStart => exact ⟨0, rfl, Nat.zero_le _, Lib_hid (by simp [V.absL]), hx1, hx2, hbA⟩
          case round =>
            clear hx1 hx2 hbA q1 q2 q3 q4
            obtain ⟨i, rfl, hi1, hme, hx1, hx2, hbw⟩ := hrel
            have hgl := (Array.getElem?_eq_some_iff.1 hx2).1
            have c3 : wr.cell? ⟨w.heap.size, 3, none⟩ = some (.slice A ps.length c) := cell_of_row wr _ 3 _ _ _ hx1
            by_cases hlt : i < ps.length
            · have hlt2 : i < qs.length := by have := HQ.out.2.2.2; omega
              obtain ⟨bb, off, p, rfl, hbB, hlo, hp, hpl, d0, d1, d2, d3⟩ := (HL.out wr hbw).1.nth hlt
              obtain ⟨bb', off', q, rfl, hbB', hlo', hq, hql, f0, f1, f2, f3⟩ := (HL.out wr hbw).2.nth hlt2
              have CHH : Hid (∀ W, Below wr.heap.size wr W → Calls Tryz.prog 56 #[p.val, q.val] W fun e w' => e = .returned (.bool (p.abs.sameB q.abs)) ∧ Below W.heap.size W w') := fun W hW => IH.out p (List.mem_of_getElem? hp) q W (hpl.under (hW.mono (by omega))) (by have := hW.size; omega) (hql.under (hW.mono (by omega))) (by have := hW.size; omega)
              have HPQ := Lib_hid (And.intro hp hq)
              obtain ⟨sr, hsr⟩ : ∃ sr, sr = p.abs.sameB q.abs := ⟨_, rfl⟩
              rw [← hsr] at CHH
              have HN : Hid ((sr = true → V.absL (ps.take (i + 1)) = V.absL (qs.take (i + 1))) ∧ (sr = false → r = false)) := by
                refine ⟨fun h => ?_, fun h => ?_⟩
                · have : p.abs = q.abs := (sameB_iff _ _).1 (hsr.symm.trans h)
                  rw [absL_take hp, absL_take hq, hme.out, this]
                · refine HR.out.2 fun ⟨_, _, _, h4⟩ => absL_ne hp hq (fun e => ?_) h4
                  rw [e, sameB_self] at hsr
                  rw [hsr] at h; cases h
              have S0 : Hid (∀ W : World, Below wr.heap.size wr W → W.cell? ⟨w.heap.size, 3, none⟩ = some (.slice (some ⟨bb, off, none⟩) ps.length c) ∧ W.cell? ⟨w.heap.size + 1, 3, none⟩ = some (.slice (some ⟨bb', off', none⟩) qs.length c') ∧
                  W.cell? ⟨bb, off + i * 4, none⟩ = some (.int .i64 p.kind) ∧ W.cell? ⟨bb, off + i * 4 + 1, none⟩ = some (.int .u64 (p.a : Int)) ∧ W.cell? ⟨bb, off + i * 4 + 2, none⟩ = some (.int .u64 (p.b : Int)) ∧ W.cell? ⟨bb, off + i * 4 + 3, none⟩ = some p.sl ∧
                  W.cell? ⟨bb', off' + i * 4, none⟩ = some (.int .i64 q.kind) ∧ W.cell? ⟨bb', off' + i * 4 + 1, none⟩ = some (.int .u64 (q.a : Int)) ∧ W.cell? ⟨bb', off' + i * 4 + 2, none⟩ = some (.int .u64 (q.b : Int)) ∧ W.cell? ⟨bb', off' + i * 4 + 3, none⟩ = some q.sl) := fun W hW =>
                ⟨(hW.cell (p := ⟨w.heap.size, 3, none⟩) (by show w.heap.size < _; omega)).trans c3, (hW.cell (p := ⟨w.heap.size + 1, 3, none⟩) hgl).trans (cell_of_row wr _ 3 _ _ _ hx2),
                  (hW.cell (p := ⟨bb, off + i * 4, none⟩) (by show bb < _; omega)).trans d0, (hW.cell (p := ⟨bb, off + i * 4 + 1, none⟩) (by show bb < _; omega)).trans d1, (hW.cell (p := ⟨bb, off + i * 4 + 2, none⟩) (by show bb < _; omega)).trans d2, (hW.cell (p := ⟨bb, off + i * 4 + 3, none⟩) (by show bb < _; omega)).trans d3,
                  (hW.cell (p := ⟨bb', off' + i * 4, none⟩) (by show bb' < _; omega)).trans f0, (hW.cell (p := ⟨bb', off' + i * 4 + 1, none⟩) (by show bb' < _; omega)).trans f1, (hW.cell (p := ⟨bb', off' + i * 4 + 2, none⟩) (by show bb' < _; omega)).trans f2, (hW.cell (p := ⟨bb', off' + i * 4 + 3, none⟩) (by show bb' < _; omega)).trans f3⟩
              cases p with
              | node pk pa pb pA pc pps =>
              cases q with
              | node qk qa qb qA qc qqs =>
              simp only [V.val, V.kind, V.a, V.b, V.sl, V.addr, V.parts, V.cap] at CHH S0 d0 d1 d2 d3 f0 f1 f2 f3
              have c4 : wr.cell? ⟨w.heap.size + 1, 3, none⟩ = some (.slice (some ⟨bb', off', none⟩) qs.length c') := cell_of_row wr _ 3 _ _ _ hx2
              have HX := Lib_hid (And.intro hx1 hx2)
              clear hsr hp hq hpl hql hme hx1 hx2
              go_wp2_with fail
              go_region_held3 (fun W => W.cell? ⟨w.heap.size, 3, none⟩ = some (.slice (some ⟨bb, off, none⟩) ps.length c) ∧ W.cell? ⟨w.heap.size + 1, 3, none⟩ = some (.slice (some ⟨bb', off', none⟩) qs.length c') ∧
                  W.cell? ⟨bb, off + i * 4, none⟩ = some (.int .i64 pk) ∧ W.cell? ⟨bb, off + i * 4 + 1, none⟩ = some (.int .u64 (pa : Int)) ∧ W.cell? ⟨bb, off + i * 4 + 2, none⟩ = some (.int .u64 (pb : Int)) ∧ W.cell? ⟨bb, off + i * 4 + 3, none⟩ = some (.slice pA pps.length pc) ∧
                  W.cell? ⟨bb', off' + i * 4, none⟩ = some (.int .i64 qk) ∧ W.cell? ⟨bb', off' + i * 4 + 1, none⟩ = some (.int .u64 (qa : Int)) ∧ W.cell? ⟨bb', off' + i * 4 + 2, none⟩ = some (.int .u64 (qb : Int)) ∧ W.cell? ⟨bb', off' + i * 4 + 3, none⟩ = some (.slice qA qqs.length qc))
                (first | exact S0.out _ ⟨rfl, rfl, rfl, Nat.le_refl _, fun _ _ => rfl⟩ | exact S0.out _ hbs)
                ((go_at_call 56; ((with_reducible refine (CHH.out wr.drew ⟨rfl, rfl, rfl, Nat.le_refl _, fun _ _ => rfl⟩).mono ?_); rintro e ws ⟨rfl, hs'⟩; have hbs : Below wr.heap.size wr ws := ⟨hs'.os, hs'.tape, hs'.output, hs'.size, hs'.block⟩)))
              all_goals
                have hbws := hbw.trans (hbs.mono hbw.size)
                have hx1' := (hbs.block w.heap.size (by omega)).trans HX.out.1
                have hx2' := (hbs.block (w.heap.size + 1) hgl).trans HX.out.2
                clear d0 d1 d2 d3 f0 f1 f2 f3 c3 c4
                cases sr with
                | true =>
                  have HM := Lib_hid (HN.out.1 (by simp))
                  go_wp2
                  go_roundw
                  case rel => exact ⟨i + 1, by go_num, by omega, HM, hx1', hx2', hbws⟩
                  case measure => simp [intOf]; omega
                | false =>
                  have HM := Lib_hid (HN.out.2 (by simp))
                  go_wp2
                  go_ret
                  exact ⟨ret_b HM.out.symm, hbws⟩
            · obtain rfl : i = ps.length := by omega
              have HM : Hid (r = true) := by
                have h := hme.out
                rw [List.take_length, HQ.out.2.2.2, List.take_length] at h
                exact HR.out.1 ⟨HQ.out.1, HQ.out.2.1, HQ.out.2.2.1, h⟩
              clear hme hx1 hx2
              go_wp2
              go_ret
              exact ⟨ret_b HM.out.symm, hbw⟩
        · have HM := Lib_hid (HR.out.2 fun ⟨_, _, _, h4⟩ => hll (by have := congrArg List.length h4; rwa [absL_length, absL_length] at this))
          have q1 : (k != k') = false := by simp [hkk]
          have q2 : ((a : Int) != (a' : Int)) = false := by simp [haa]
          have q3 : ((b : Int) != (b' : Int)) = false := by simp [hbb]
          have q4 : ((ps.length : Int) != (qs.length : Int)) = true := by simp; omega
          clear hkk haa hbb hll hx1 hx2
          go_enter Tryz.func56, Tryz.ntmps56
          go_wp2
          go_ret
          exact ⟨ret_b HM.out.symm, hbA⟩
      · have HM := Lib_hid (HR.out.2 fun ⟨_, _, h3, _⟩ => hbb h3)
        have q1 : (k != k') = false := by simp [hkk]
        have q2 : ((a : Int) != (a' : Int)) = false := by simp [haa]
        have q3 : ((b : Int) != (b' : Int)) = true := by simp; omega
        clear hkk haa hbb hx1 hx2
        go_enter Tryz.func56, Tryz.ntmps56
        go_wp2
        go_ret
        exact ⟨ret_b HM.out.symm, hbA⟩
    · have HM := Lib_hid (HR.out.2 fun ⟨_, h2, _⟩ => haa h2)
      have q1 : (k != k') = false := by simp [hkk]
      have q2 : ((a : Int) != (a' : Int)) = true := by simp; omega
      clear hkk haa hx1 hx2
      go_enter Tryz.func56, Tryz.ntmps56
      go_wp2
      go_ret
      exact ⟨ret_b HM.out.symm, hbA⟩
  · have HM := Lib_hid (HR.out.2 fun ⟨h1, _⟩ => hkk h1)
    have q1 : (k != k') = true := by simp [hkk]
    clear hkk hx1 hx2
    go_enter Tryz.func56, Tryz.ntmps56
    go_wp2
    go_ret
    exact ⟨ret_b HM.out.symm, hbA⟩

end Go.Proofs.YtbcadnkdehknoaaGreatDoor
