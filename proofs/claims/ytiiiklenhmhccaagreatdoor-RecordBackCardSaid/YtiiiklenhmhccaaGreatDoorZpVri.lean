/-
  Layer 4: Same, the program's, with slices.EqualFunc.
  Layer 5: records as plain data, and how one lies in memory.
  Layer 5: the program's parts: the six makers, and of each the function that tells which kinds name it.
  Layer 5: of each part the function that tells whether it is 0, or empty; known.
  Layer 5: Right, the program's.
-/
import Derived.Test.YtiiiklenhmhccaaGreatDoorZpTsm

namespace Go.Proofs.YtiiiklenhmhccaaGreatDoor
open Go Go.RowKit
set_option linter.unusedVariables false
def SameC (lo hi lo' hi' : Nat) (ps : List V) : Prop := ∀ p ∈ ps, ∀ (u : V) (W : World), Lies W lo hi p → hi ≤ W.heap.size → Lies W lo' hi' u → hi' ≤ W.heap.size → Calls Tryz.prog 54 #[p.val, u.val] W fun e w' => e = .returned (.bool (p.abs.sameB u.abs)) ∧ Below W.heap.size W w'
set_option maxRecDepth 100000 in
set_option maxHeartbeats 1600000 in
theorem eqf_any (k k' : Int) (a b a' b' c c' lo hi lo' hi' : Nat) (A A' : Option Addr) (ps qs : List V) (w : World) (hL : Lies w lo hi (.node k a b A c ps)) (hhi : hi ≤ w.heap.size) (hL' : Lies w lo' hi' (.node k' a' b' A' c' qs)) (hhi' : hi' ≤ w.heap.size) (hC : SameC lo hi lo' hi' ps) :
    Calls Tryz.prog 89 #[.slice A ps.length c, .slice A' qs.length c', .func (.func 54) #[] #[]] w fun e w' => ∃ r, e = .returned (.bool r) ∧ (r = true ↔ V.absL ps = V.absL qs) ∧ Below w.heap.size w w' := by
  obtain ⟨hlen, hcap', -, -, -⟩ := hL.caps
  obtain ⟨hlen2, hcap2, -, -, -⟩ := hL'.caps
  have HL : Hid (∀ W, Below w.heap.size w W → Lies W lo hi (V.node k a b A c ps) ∧ Lies W lo' hi' (V.node k' a' b' A' c' qs)) := fun W hW => ⟨hL.under (hW.mono hhi), hL'.under (hW.mono hhi')⟩
  have IH := Lib_hid hC
  clear hL hL' hC
  by_cases hll : ps.length = qs.length
  · have q4 : ((ps.length : Int) != (qs.length : Int)) = false := by simp [hll]
    have HQ := Lib_hid hll
    clear hll
    go_enter Tryz.func89, Tryz.ntmps89
    go_wp2
    go_loopw [17] (fun z wr => ∃ i : Nat, z = .int .i64 i ∧ i ≤ ps.length ∧ Hid (V.absL (ps.take i) = V.absL (qs.take i)) ∧ Below w.heap.size w wr) (fun z _ => ps.length - (intOf z).toNat)
    case atStart => exact ⟨0, rfl, Nat.zero_le _, Lib_hid (by simp [V.absL]), Below.refl _ _⟩
    case round =>
      clear q4
      obtain ⟨i, rfl, hi1, hme, hbw⟩ := hrel
      by_cases hlt : i < ps.length
      · have hlt2 : i < qs.length := by have := HQ.out; omega
        obtain ⟨bb, off, p, rfl, hbB, hlo, hp, hpl, d0, d1, d2, d3⟩ := (HL.out wr hbw).1.nth hlt
        obtain ⟨bb', off', q, rfl, hbB', hlo', hq, hql, f0, f1, f2, f3⟩ := (HL.out wr hbw).2.nth hlt2
        have hszw := hbw.size
        have hbl : bb' < wr.heap.size := by omega
        have hb1 := below_new wr (.cells #[.int .i64 p.kind, .int .u64 (p.a : Int), .int .u64 (p.b : Int), p.sl] 27)
        have hb2 := hb1.alloc hb1.size (.cells #[.int .i64 q.kind, .int .u64 (q.a : Int), .int .u64 (q.b : Int), q.sl] 27)
        have CH := IH.out p (List.mem_of_getElem? hp) q ((wr.alloc (.cells #[.int .i64 p.kind, .int .u64 (p.a : Int), .int .u64 (p.b : Int), p.sl] 27)).alloc (.cells #[.int .i64 q.kind, .int .u64 (q.a : Int), .int .u64 (q.b : Int), q.sl] 27)) (hpl.under (hb2.mono (by omega))) (by simp; omega) (hql.under (hb2.mono (by omega))) (by simp; omega)
        have hbA := hbw.trans (hb2.mono hbw.size)
        obtain ⟨sr, hsr⟩ : ∃ sr, sr = p.abs.sameB q.abs := ⟨_, rfl⟩
        rw [← hsr] at CH
        have HN : Hid ((sr = true → V.absL (ps.take (i + 1)) = V.absL (qs.take (i + 1))) ∧ (sr = false → ¬ V.absL ps = V.absL qs)) := by
          refine ⟨fun h => ?_, fun h => ?_⟩
          · have : p.abs = q.abs := (sameB_iff _ _).1 (hsr.symm.trans h)
            rw [absL_take hp, absL_take hq, hme.out, this]
          · refine absL_ne hp hq (fun e => ?_)
            rw [e, sameB_self] at hsr
            rw [hsr] at h; cases h
        cases p with
        | node pk pa pb pA pc pps =>
        cases q with
        | node qk qa qb qA qc qqs =>
        simp only [V.val, V.kind, V.a, V.b, V.sl, V.addr, V.parts, V.cap] at CH d0 d1 d2 d3 f0 f1 f2 f3 hbA
        clear hsr hp hq hpl hql hme hb1 hb2
        go_wp2_with fail
        refine CH.mono ?_
        rintro e ws ⟨rfl, hbs⟩
        have hbws := hbA.trans (hbs.mono hbA.size)
        clear CH hbs hbA d0 d1 d2 d3 f0 f1 f2 f3
        cases sr with
        | true =>
          have HM := Lib_hid (HN.out.1 (by simp))
          go_wp2
          go_roundw
          case rel => exact ⟨i + 1, by go_num, by omega, HM, hbws⟩
          case measure => simp [intOf]; omega
        | false =>
          have HM := Lib_hid (HN.out.2 (by simp))
          have PF : Hid (∀ W, Below w.heap.size w W → ∃ r, Ending.returned (.bool false) = .returned (.bool r) ∧ (r = true ↔ V.absL ps = V.absL qs) ∧ Below w.heap.size w W) := fun W hW => ⟨false, rfl, ⟨(fun h => by cases h), fun h => absurd h HM.out⟩, hW⟩
          go_wp2
          go_ret
          exact PF.out _ hbws
      · obtain rfl : i = ps.length := by omega
        have HM : Hid (V.absL ps = V.absL qs) := by
          have h := hme.out
          rw [List.take_length, HQ.out, List.take_length] at h
          exact h
        have PF : Hid (∀ W, Below w.heap.size w W → ∃ r, Ending.returned (.bool true) = .returned (.bool r) ∧ (r = true ↔ V.absL ps = V.absL qs) ∧ Below w.heap.size w W) := fun W hW => ⟨true, rfl, ⟨fun _ => HM.out, fun _ => rfl⟩, hW⟩
        clear hme
        go_wp2
        go_ret
        exact PF.out _ hbw
  · have q4 : ((ps.length : Int) != (qs.length : Int)) = true := by simp; omega
    have PF : Hid (∀ W, Below w.heap.size w W → ∃ r, Ending.returned (.bool false) = .returned (.bool r) ∧ (r = true ↔ V.absL ps = V.absL qs) ∧ Below w.heap.size w W) := fun W hW => ⟨false, rfl, ⟨(fun h => by cases h), fun h => absurd (by have := congrArg List.length h; rwa [absL_length, absL_length] at this) hll⟩, hW⟩
    clear hll
    go_enter Tryz.func89, Tryz.ntmps89
    go_wp2
    go_ret
    exact PF.out _ (Below.refl _ _)
set_option maxRecDepth 100000 in
set_option maxHeartbeats 1600000 in
theorem psame_any : ∀ (v u : V) (w : World) (lo hi lo' hi' : Nat), Lies w lo hi v → hi ≤ w.heap.size → Lies w lo' hi' u → hi' ≤ w.heap.size →
    Calls Tryz.prog 54 #[v.val, u.val] w fun e w' => e = .returned (.bool (v.abs.sameB u.abs)) ∧ Below w.heap.size w w' := by
  refine V.ind fun k a b A c ps ih u w lo hi lo' hi' hL hhi hL' hhi' => ?_
  cases u with
  | node k' a' b' A' c' qs =>
  have hb1 := below_new w (.cells #[.int .i64 k, .int .u64 (a : Int), .int .u64 (b : Int), .slice A ps.length c] 27)
  have hbA := hb1.alloc hb1.size (.cells #[.int .i64 k', .int .u64 (a' : Int), .int .u64 (b' : Int), .slice A' qs.length c'] 27)
  have EF := eqf_any k k' a b a' b' c c' lo hi lo' hi' A A' ps qs ((w.alloc (.cells #[.int .i64 k, .int .u64 (a : Int), .int .u64 (b : Int), .slice A ps.length c] 27)).alloc (.cells #[.int .i64 k', .int .u64 (a' : Int), .int .u64 (b' : Int), .slice A' qs.length c'] 27)) (hL.under (hbA.mono hhi)) (by simp; omega) (hL'.under (hbA.mono hhi')) (by simp; omega) (fun p hp u W h2 h3 h4 h5 => ih p hp u W lo hi lo' hi' h2 h3 h4 h5)
  have HE : Hid ((V.node k a b A c ps).abs = .node k a b (V.absL ps) ∧ (V.node k' a' b' A' c' qs).abs = .node k' a' b' (V.absL qs)) := ⟨V.abs_node .., V.abs_node ..⟩
  obtain ⟨r, hr⟩ : ∃ r, r = (V.node k a b A c ps).abs.sameB (V.node k' a' b' A' c' qs).abs := ⟨_, rfl⟩
  rw [← hr]
  have HR : Hid ((k = k' ∧ a = a' ∧ b = b' ∧ V.absL ps = V.absL qs → r = true) ∧ (¬ (k = k' ∧ a = a' ∧ b = b' ∧ V.absL ps = V.absL qs) → r = false)) := by
    rw [HE.out.1, HE.out.2] at hr
    refine ⟨fun ⟨h1, h2, h3, h4⟩ => ?_, fun h => ?_⟩
    · rw [hr, h1, h2, h3, h4, sameB_self]
    · rw [hr]; exact sameB_ne fun e => h (by injection e with e1 e2 e3 e4; exact ⟨e1, e2, e3, e4⟩)
  clear ih hL hL' hr hb1
  simp only [V.val, V.kind, V.a, V.b, V.sl, V.addr, V.parts, V.cap]
  by_cases hkk : k = k'
  · by_cases haa : a = a'
    · by_cases hbb : b = b'
      · have q1 : (k == k') = true := by simp [hkk]
        have q2 : ((a : Int) == (a' : Int)) = true := by simp [haa]
        have q3 : ((b : Int) == (b' : Int)) = true := by simp [hbb]
        have HQ := Lib_hid (And.intro hkk (And.intro haa hbb))
        clear hkk haa hbb
        go_enter Tryz.func54, Tryz.ntmps54
        go_wp2_with fail
        refine EF.mono ?_
        rintro e w1 ⟨s, rfl, hs, hb2⟩
        have hbw := hbA.trans (hb2.mono hbA.size)
        have HM : Hid (s = r) := by
          cases s with
          | true => exact (HR.out.1 ⟨HQ.out.1, HQ.out.2.1, HQ.out.2.2, hs.1 rfl⟩).symm
          | false => exact (HR.out.2 fun ⟨_, _, _, h4⟩ => by have := hs.2 h4; cases this).symm
        clear EF hs hb2 hbA
        go_wp2
        go_ret
        exact ⟨ret_b HM.out, hbw⟩
      · have HM := Lib_hid (HR.out.2 fun ⟨_, _, h3, _⟩ => hbb h3)
        have q1 : (k == k') = true := by simp [hkk]
        have q2 : ((a : Int) == (a' : Int)) = true := by simp [haa]
        have q3 : ((b : Int) == (b' : Int)) = false := by simp; omega
        clear hkk haa hbb EF
        go_enter Tryz.func54, Tryz.ntmps54
        go_wp2
        go_ret
        exact ⟨ret_b HM.out.symm, hbA⟩
    · have HM := Lib_hid (HR.out.2 fun ⟨_, h2, _⟩ => haa h2)
      have q1 : (k == k') = true := by simp [hkk]
      have q2 : ((a : Int) == (a' : Int)) = false := by simp; omega
      clear hkk haa EF
      go_enter Tryz.func54, Tryz.ntmps54
      go_wp2
      go_ret
      exact ⟨ret_b HM.out.symm, hbA⟩
  · have HM := Lib_hid (HR.out.2 fun ⟨h1, _⟩ => hkk h1)
    have q1 : (k == k') = false := by simp [hkk]
    clear hkk EF
    go_enter Tryz.func54, Tryz.ntmps54
    go_wp2
    go_ret
    exact ⟨ret_b HM.out.symm, hbA⟩
end Go.Proofs.YtiiiklenhmhccaaGreatDoor

namespace Go.Proofs.YtiiiklenhmhccaaGreatDoor
open Go Go.RowKit
set_option linter.unusedVariables false
structure En where
  x : Nat
  w : Nat
  n : Nat
  m : Bool
deriving DecidableEq
def En.cells (e : En) : List Value := [.int .u64 (e.x : Int), .int .u64 (e.w : Int), .int .u64 (e.n : Int), .bool e.m]
def En.val (e : En) : Value := .agg #[.int .u64 (e.x : Int), .int .u64 (e.w : Int), .int .u64 (e.n : Int), .bool e.m]
def enCells (l : List En) : List Value := l.flatMap En.cells
def En.ok (e : En) : Prop := (e.x : Int) ≤ 18446744073709551615 ∧ (e.w : Int) ≤ 18446744073709551615 ∧ (e.n : Int) ≤ 18446744073709551615
theorem enCells_length (l : List En) : (enCells l).length = l.length * 4 := by
  induction l with
  | nil => rfl
  | cons x l ih => show (x.cells ++ enCells l).length = _; rw [List.length_append, ih]; simp [En.cells]; omega
theorem enCells_append (xs ys : List En) : enCells (xs ++ ys) = enCells xs ++ enCells ys := by simp [enCells]
theorem en_one (xs : List En) : ∀ u ∈ enCells xs, u.oneCell' = true := by
  intro u hu
  obtain ⟨f, _, hu⟩ := List.mem_flatMap.1 hu
  simp only [En.cells, List.mem_cons, List.not_mem_nil, or_false] at hu
  rcases hu with rfl | rfl | rfl | rfl <;> rfl
theorem enCells_get : ∀ (l : List En) (i j : Nat) (x : En), l[i]? = some x → j < 4 → (enCells l)[i * 4 + j]? = x.cells[j]? := by
  intro l
  induction l with
  | nil => intro i j x h; simp at h
  | cons y l ih =>
    intro i j x h hj
    show (y.cells ++ enCells l)[i * 4 + j]? = _
    have hy : y.cells.length = 4 := rfl
    cases i with
    | zero =>
      simp only [List.getElem?_cons_zero, Option.some.injEq] at h
      subst h
      rw [List.getElem?_append_left (by omega)]
      simp
    | succ i =>
      rw [List.getElem?_append_right (by omega), hy, show (i + 1) * 4 + j - 4 = i * 4 + j by omega]
      exact ih i j x (by simpa using h) hj
structure Rc where
  kind : Int
  t : Nat
  x : Nat
  w : Nat
  n : Nat
  v : Nat
  p : T
  es : List En
structure Rv where
  kind : Int
  t : Nat
  x : Nat
  w : Nat
  n : Nat
  v : Nat
  p : V
  A : Option Addr
  c : Nat
  es : List En
def Rv.abs (r : Rv) : Rc := ⟨r.kind, r.t, r.x, r.w, r.n, r.v, r.p.abs, r.es⟩
def Rv.sl (r : Rv) : Value := .slice r.A r.es.length r.c
def Rv.arr (r : Rv) : Array Value := #[.int .i64 r.kind, .int .u64 (r.t : Int), .int .u64 (r.x : Int), .int .u64 (r.w : Int), .int .u64 (r.n : Int), .int .u64 (r.v : Int), .int .i64 r.p.kind, .int .u64 (r.p.a : Int), .int .u64 (r.p.b : Int), r.p.sl, r.sl]
def Rv.val (r : Rv) : Value := .agg r.arr
structure RLies (w : World) (lo hi : Nat) (r : Rv) : Prop where
  kind : -9223372036854775808 ≤ r.kind ∧ r.kind ≤ 9223372036854775807
  t : (r.t : Int) ≤ 18446744073709551615
  x : (r.x : Int) ≤ 18446744073709551615
  wn : (r.w : Int) ≤ 18446744073709551615
  n : (r.n : Int) ≤ 18446744073709551615
  v : (r.v : Int) ≤ 18446744073709551615
  p : Lies w lo hi r.p
  es : Rd w hi 4 r.A r.es.length (enCells r.es)
  cap : r.es.length ≤ r.c ∧ r.c ≤ 9223372036854775807
  ok : ∀ e ∈ r.es, e.ok
  lo : ∀ ad, r.A = some ad → 0 < r.es.length → lo ≤ ad.block
theorem RLies.under {w w' : World} {lo hi : Nat} {r : Rv} (h : RLies w lo hi r) (hb : Below hi w w') : RLies w' lo hi r :=
  ⟨h.kind, h.t, h.x, h.wn, h.n, h.v, h.p.under hb, h.es.below hb, h.cap, h.ok, h.lo⟩
theorem RLies.more {w : World} {lo hi lo' hi' : Nat} {r : Rv} (h : RLies w lo hi r) (h1 : lo' ≤ lo) (h2 : hi ≤ hi') : RLies w lo' hi' r :=
  ⟨h.kind, h.t, h.x, h.wn, h.n, h.v, h.p.more h1 h2, h.es.more h2, h.cap, h.ok, fun ad e hn => Nat.le_trans h1 (h.lo ad e hn)⟩
theorem RLies.keep {w w' : World} {lo hi : Nat} {r : Rv} (h : RLies w lo hi r) (hk : ∀ p : Addr, lo ≤ p.block → p.block < hi → w'.cell? p = w.cell? p) : RLies w' lo hi r := by
  refine ⟨h.kind, h.t, h.x, h.wn, h.n, h.v, h.p.keep hk, ⟨h.es.len, fun hn => ?_⟩, h.cap, h.ok, h.lo⟩
  obtain ⟨ad, e, hb, hc⟩ := h.es.lies hn
  exact ⟨ad, e, hb, fun j u hu => (hk _ (by rw [add_block]; exact h.lo ad e hn) (by rw [add_block]; exact hb)).trans (hc j u hu)⟩
theorem RLies.len {w : World} {lo hi : Nat} {r : Rv} (h : RLies w lo hi r) : (r.es.length : Int) ≤ 9223372036854775807 := by have := h.cap; omega
theorem RLies.nth {w : World} {lo hi : Nat} {r : Rv} (h : RLies w lo hi r) {i : Nat} (hi' : i < r.es.length) :
    ∃ (b off : Nat) (e : En), r.A = some ⟨b, off, none⟩ ∧ b < hi ∧ r.es[i]? = some e ∧ e.ok ∧ w.cell? ⟨b, off + i * 4, none⟩ = some (.int .u64 (e.x : Int)) ∧ w.cell? ⟨b, off + i * 4 + 1, none⟩ = some (.int .u64 (e.w : Int)) ∧ w.cell? ⟨b, off + i * 4 + 2, none⟩ = some (.int .u64 (e.n : Int)) ∧ w.cell? ⟨b, off + i * 4 + 3, none⟩ = some (.bool e.m) := by
  have hx : r.es[i]? = some (r.es[i]) := List.getElem?_eq_getElem hi'
  obtain ⟨ad, e, hb, hc⟩ := h.es.lies (by omega)
  obtain ⟨bb, off, spot⟩ := ad
  have h0 : r.es[0]? = some (r.es[0]'(by omega)) := List.getElem?_eq_getElem (by omega)
  have hspot : spot = none := World.cell?_spot (a := ⟨bb, off, spot⟩) (hc 0 _ (enCells_get r.es 0 0 _ h0 (by omega)))
  subst hspot
  have hc4 : ∀ j u, j < 4 → (En.cells (r.es[i]'hi'))[j]? = some u → w.cell? ⟨bb, off + i * 4 + j, none⟩ = some u := by
    intro j u hj hu
    have := hc (i * 4 + j) u ((enCells_get r.es i j _ hx hj).trans hu)
    rw [show (⟨bb, off, none⟩ : Addr).add (i * 4 + j) = ⟨bb, off + (i * 4 + j), none⟩ by unfold Addr.add; split <;> simp_all, ← Nat.add_assoc] at this
    exact this
  exact ⟨bb, off, _, e, hb, hx, h.ok _ (List.getElem_mem hi'), hc4 0 _ (by omega) rfl, hc4 1 _ (by omega) rfl, hc4 2 _ (by omega) rfl, hc4 3 _ (by omega) rfl⟩
def ofB (i : Nat) (k : Int) : Bool := if i = 0 then true else if i = 1 then decide (k = 2 ∨ k = 3 ∨ k = 4) else if i = 2 then decide (k = 2) else if i = 3 then decide (k = 3) else decide (k = 5)
namespace Rc
def emptyB (r : Rc) (i : Nat) : Bool := if i = 0 then decide (r.t = 0) else if i = 1 then decide (r.x = 0) else if i = 2 then decide (r.w = 0 ∧ r.n = 0) else if i = 3 then decide (r.v = 0) else if i = 4 then r.p.sameB (.node 0 0 0 []) else decide (r.es = [])
def knownB (k : Int) : Bool := decide (1 ≤ k ∧ k ≤ 7)
def bareB (r : Rc) (i : Nat) : Bool := ofB i r.kind || r.emptyB i
end Rc
end Go.Proofs.YtiiiklenhmhccaaGreatDoor

namespace Go.Proofs.YtiiiklenhmhccaaGreatDoor
open Go Go.RowKit
set_option linter.unusedVariables false
def mofF (i : Nat) : FuncId := if i = 0 then 102 else if i = 1 then 112 else if i = 2 then 118 else if i = 3 then 126 else if i = 4 then 132 else 143
def memptyF (i : Nat) : FuncId := if i = 0 then 103 else if i = 1 then 113 else if i = 2 then 119 else if i = 3 then 127 else if i = 4 then 133 else 144
def mputF (i : Nat) : FuncId := if i = 0 then 104 else if i = 1 then 114 else if i = 2 then 120 else if i = 3 then 128 else if i = 4 then 134 else 145
def mtakeF (i : Nat) : FuncId := if i = 0 then 106 else if i = 1 then 115 else if i = 2 then 121 else if i = 3 then 129 else if i = 4 then 137 else 147
def mtellF (i : Nat) : FuncId := if i = 0 then 108 else if i = 1 then 116 else if i = 2 then 123 else if i = 3 then 130 else if i = 4 then 139 else 149
def mreadF (i : Nat) : FuncId := if i = 0 then 109 else if i = 1 then 117 else if i = 2 then 124 else if i = 3 then 131 else if i = 4 then 141 else 151
def partL (i : Nat) : List Value := [.func (.func (mofF i)) #[] #[], .func (.func (memptyF i)) #[] #[], .func (.func (mputF i)) #[] #[], .func (.func (mtakeF i)) #[] #[], .func (.func (mtellF i)) #[] #[], .func (.func (mreadF i)) #[] #[]]
def partV (i : Nat) : Value := .agg (partL i).toArray
theorem partT_any (w : World) : Calls Tryz.prog 78 #[] w fun e w' => e = .returned (partV 0) ∧ Below w.heap.size w w' := by
  have hsz : (Tryz.prog.info? 102).map (·.size) = some 6 := by kernel_rfl
  go_enter Tryz.func78, Tryz.ntmps78
  go_wp2
  exact bodyPost_ret (results_cell_row (p := 0) (ty := 102) rfl _ _ w.heap.size 102 (partL 0).toArray (0, 0) _ rfl (heap_alloc_new w _) Tryz.underlying102 rfl hsz) rfl ⟨rfl, below_new w _⟩
theorem partX_any (w : World) : Calls Tryz.prog 79 #[] w fun e w' => e = .returned (partV 1) ∧ Below w.heap.size w w' := by
  have hsz : (Tryz.prog.info? 102).map (·.size) = some 6 := by kernel_rfl
  go_enter Tryz.func79, Tryz.ntmps79
  go_wp2
  exact bodyPost_ret (results_cell_row (p := 0) (ty := 102) rfl _ _ w.heap.size 102 (partL 1).toArray (0, 0) _ rfl (heap_alloc_new w _) Tryz.underlying102 rfl hsz) rfl ⟨rfl, below_new w _⟩
theorem partV_any (w : World) : Calls Tryz.prog 80 #[] w fun e w' => e = .returned (partV 2) ∧ Below w.heap.size w w' := by
  have hsz : (Tryz.prog.info? 102).map (·.size) = some 6 := by kernel_rfl
  go_enter Tryz.func80, Tryz.ntmps80
  go_wp2
  exact bodyPost_ret (results_cell_row (p := 0) (ty := 102) rfl _ _ w.heap.size 102 (partL 2).toArray (0, 0) _ rfl (heap_alloc_new w _) Tryz.underlying102 rfl hsz) rfl ⟨rfl, below_new w _⟩
theorem partValue_any (w : World) : Calls Tryz.prog 81 #[] w fun e w' => e = .returned (partV 3) ∧ Below w.heap.size w w' := by
  have hsz : (Tryz.prog.info? 102).map (·.size) = some 6 := by kernel_rfl
  go_enter Tryz.func81, Tryz.ntmps81
  go_wp2
  exact bodyPost_ret (results_cell_row (p := 0) (ty := 102) rfl _ _ w.heap.size 102 (partL 3).toArray (0, 0) _ rfl (heap_alloc_new w _) Tryz.underlying102 rfl hsz) rfl ⟨rfl, below_new w _⟩
theorem partP_any (w : World) : Calls Tryz.prog 82 #[] w fun e w' => e = .returned (partV 4) ∧ Below w.heap.size w w' := by
  have hsz : (Tryz.prog.info? 102).map (·.size) = some 6 := by kernel_rfl
  go_enter Tryz.func82, Tryz.ntmps82
  go_wp2
  exact bodyPost_ret (results_cell_row (p := 0) (ty := 102) rfl _ _ w.heap.size 102 (partL 4).toArray (0, 0) _ rfl (heap_alloc_new w _) Tryz.underlying102 rfl hsz) rfl ⟨rfl, below_new w _⟩
theorem partEntries_any (w : World) : Calls Tryz.prog 83 #[] w fun e w' => e = .returned (partV 5) ∧ Below w.heap.size w w' := by
  have hsz : (Tryz.prog.info? 102).map (·.size) = some 6 := by kernel_rfl
  go_enter Tryz.func83, Tryz.ntmps83
  go_wp2
  exact bodyPost_ret (results_cell_row (p := 0) (ty := 102) rfl _ _ w.heap.size 102 (partL 5).toArray (0, 0) _ rfl (heap_alloc_new w _) Tryz.underlying102 rfl hsz) rfl ⟨rfl, below_new w _⟩
theorem ofT_any (k : Int) (w : World) : Calls Tryz.prog 102 #[.int .i64 k] w fun e w' => e = .returned (.bool (ofB 0 k)) ∧ w' = w := by
  go_enter Tryz.func102, Tryz.ntmps102
  go_wp2
  go_ret
  exact ⟨rfl, rfl⟩
theorem ofX_any (k : Int) (w : World) : Calls Tryz.prog 112 #[.int .i64 k] w fun e w' => e = .returned (.bool (ofB 1 k)) ∧ w' = w := by
  go_enter Tryz.func112, Tryz.ntmps112
  go_wp2
  · subst_vars
    go_ret
    exact ⟨rfl, rfl⟩
  · subst_vars
    go_ret
    exact ⟨rfl, rfl⟩
  · go_ret
    exact ⟨ret_b (by rw [Bool.eq_iff_iff]; simp [ofB, or_assoc]), rfl⟩
theorem ofV_any (k : Int) (w : World) : Calls Tryz.prog 118 #[.int .i64 k] w fun e w' => e = .returned (.bool (ofB 2 k)) ∧ w' = w := by
  go_enter Tryz.func118, Tryz.ntmps118
  go_wp2
  go_ret
  exact ⟨ret_b (by rw [Bool.eq_iff_iff]; simp [ofB]), rfl⟩
theorem ofValue_any (k : Int) (w : World) : Calls Tryz.prog 126 #[.int .i64 k] w fun e w' => e = .returned (.bool (ofB 3 k)) ∧ w' = w := by
  go_enter Tryz.func126, Tryz.ntmps126
  go_wp2
  go_ret
  exact ⟨ret_b (by rw [Bool.eq_iff_iff]; simp [ofB]), rfl⟩
theorem ofP_any (k : Int) (w : World) : Calls Tryz.prog 132 #[.int .i64 k] w fun e w' => e = .returned (.bool (ofB 4 k)) ∧ w' = w := by
  go_enter Tryz.func132, Tryz.ntmps132
  go_wp2
  go_ret
  exact ⟨ret_b (by rw [Bool.eq_iff_iff]; simp [ofB]), rfl⟩
theorem ofEntries_any (k : Int) (w : World) : Calls Tryz.prog 143 #[.int .i64 k] w fun e w' => e = .returned (.bool (ofB 5 k)) ∧ w' = w := by
  go_enter Tryz.func143, Tryz.ntmps143
  go_wp2
  go_ret
  exact ⟨ret_b (by rw [Bool.eq_iff_iff]; simp [ofB]), rfl⟩
theorem below_row {B : Nat} {w w' : World} (h : Below B w w') {g : Nat} (hg : B ≤ g) (cs : Array Value) : Below B w (w'.setRow g cs) := by
  refine ⟨h.os, h.tape, h.output, by simpa [World.setRow] using h.size, fun k hk => ?_⟩
  refine Eq.trans ?_ (h.block k hk)
  simp only [World.setRow, Array.getElem?_modify]
  rw [if_neg (by omega)]
def partsA : Array Value := ((List.range 6).flatMap partL).toArray
def partsZ : Array Value := (List.replicate 36 Value.nilFunc).toArray
theorem partsA_one : (partsA.all fun x => x.oneCell') = true := by kernel_rfl
set_option maxRecDepth 100000 in
set_option maxHeartbeats 1600000 in
theorem parts_any (w : World) : Calls Tryz.prog 49 #[] w fun e w' => e = .returned (.agg partsA) ∧ Below w.heap.size w w' := by
  have hsz : (Tryz.prog.info? 111).map (·.size) = some 36 := by kernel_rfl
  have h0 := heap_alloc_new w (.cells partsZ 111)
  have b0 := below_new w (.cells partsZ 111)
  go_enter Tryz.func49, Tryz.ntmps49
  go_wp2_with fail
  refine (partT_any _).mono ?_
  rintro e w1 ⟨rfl, hb1⟩
  have hg1 := (hb1.block w.heap.size (by simp)).trans h0
  have hs1 : w.heap.size < w1.heap.size := lt_of_block hg1
  replace hb1 := b0.trans (hb1.mono b0.size)
  go_wp2_with fail
  refine (partX_any _).mono ?_
  rintro e w2 ⟨rfl, hb2⟩
  have hg2 := (hb2.block _ (lt_of_block hg1)).trans hg1
  replace hb2 := hb1.trans (hb2.mono hb1.size)
  go_wp2_with fail
  refine (partV_any _).mono ?_
  rintro e w3 ⟨rfl, hb3⟩
  have hg3 := (hb3.block _ (lt_of_block hg2)).trans hg2
  replace hb3 := hb2.trans (hb3.mono hb2.size)
  go_wp2_with fail
  refine (partValue_any _).mono ?_
  rintro e w4 ⟨rfl, hb4⟩
  have hg4 := (hb4.block _ (lt_of_block hg3)).trans hg3
  replace hb4 := hb3.trans (hb4.mono hb3.size)
  go_wp2_with fail
  refine (partP_any _).mono ?_
  rintro e w5 ⟨rfl, hb5⟩
  have hg5 := (hb5.block _ (lt_of_block hg4)).trans hg4
  replace hb5 := hb4.trans (hb5.mono hb4.size)
  go_wp2_with fail
  refine (partEntries_any _).mono ?_
  rintro e w6 ⟨rfl, hb6⟩
  have hg6 := (hb6.block _ (lt_of_block hg5)).trans hg5
  replace hb6 := hb5.trans (hb6.mono hb5.size)
  clear hb1 hb2 hb3 hb4 hb5 hg1 hg2 hg3 hg4 hg5 h0 b0
  rename_i K hK
  show K _ _
  refine hK _ _ ?_
  refine wpList_buildTo rfl 111 _ rfl (some 7) rfl partsA (by kernel_rfl) ?_
  refine wpList_store_rowTo rfl 111 (.tmp 0) (.tmp 7) rfl rfl w.heap.size partsA rfl rfl 111 partsZ hg6 hsz rfl partsA_one ?_
  go_wp2
  exact bodyPost_ret (results_cell_row (p := 0) (ty := 111) rfl _ _ w.heap.size 111 partsA (0, 0) _ rfl (setRow_heap _ _ partsZ partsA _ _ hg6) Tryz.underlying111 rfl hsz) rfl ⟨rfl, below_row hb6 (Nat.le_refl _) _⟩
end Go.Proofs.YtiiiklenhmhccaaGreatDoor

namespace Go.Proofs.YtiiiklenhmhccaaGreatDoor
open Go Go.RowKit
set_option linter.unusedVariables false
theorem eq0_nat (a : Nat) : ((a : Int) == 0) = decide (a = 0) := by rw [Bool.eq_iff_iff]; simp
theorem known_any (k : Int) (w : World) : Calls Tryz.prog 48 #[.int .i64 k] w fun e w' => e = .returned (.bool (Rc.knownB k)) ∧ w' = w := by
  by_cases h1 : 1 ≤ k
  · by_cases h7 : k ≤ 7
    · have HK : Hid (Rc.knownB k = true) := by unfold Rc.knownB Hid; simp; omega
      go_enter Tryz.func48, Tryz.ntmps48
      go_wp2
      go_ret
      exact ⟨ret_b (by rw [HK.out]), rfl⟩
    · have HK : Hid (Rc.knownB k = false) := by unfold Rc.knownB Hid; simp; omega
      go_enter Tryz.func48, Tryz.ntmps48
      go_wp2
      go_ret
      exact ⟨ret_b (by rw [HK.out]), rfl⟩
  · have HK : Hid (Rc.knownB k = false) := by unfold Rc.knownB Hid; simp; omega
    go_enter Tryz.func48, Tryz.ntmps48
    go_wp2
    go_ret
    exact ⟨ret_b (by rw [HK.out]), rfl⟩
theorem unborn_any (a b : Nat) (w : World) : Calls Tryz.prog 28 #[.agg #[.int .u64 (a : Int), .int .u64 (b : Int)]] w fun e w' => e = .returned (.bool (decide (a = 0 ∧ b = 0))) ∧ Below w.heap.size w w' := by
  go_enter Tryz.func28, Tryz.ntmps28
  go_wp2
  · have HK : Hid (decide (a = 0 ∧ b = 0) = true) := Lib_hid (by simp_all)
    subst_vars
    go_ret
    exact ⟨rfl, below_new w _⟩
  · have HK : Hid (decide (a = 0 ∧ b = 0) = false) := Lib_hid (by simp_all)
    go_ret
    exact ⟨ret_b HK.out.symm, below_new w _⟩
  · have HK : Hid (decide (a = 0 ∧ b = 0) = false) := Lib_hid (by simp_all)
    go_ret
    exact ⟨ret_b HK.out.symm, below_new w _⟩
theorem emptyT_any (r : Rv) (w : World) : Calls Tryz.prog 103 #[r.val] w fun e w' => e = .returned (.bool (r.abs.emptyB 0)) ∧ Below w.heap.size w w' := by
  obtain ⟨k, t, x, wn, n, v, p, A, c, es⟩ := r
  simp only [Rv.val, Rv.arr, Rv.sl, V.sl]
  go_enter Tryz.func103, Tryz.ntmps103
  go_wp2
  go_ret
  exact ⟨ret_b (eq0_nat t), below_new w _⟩
theorem emptyX_any (r : Rv) (w : World) : Calls Tryz.prog 113 #[r.val] w fun e w' => e = .returned (.bool (r.abs.emptyB 1)) ∧ Below w.heap.size w w' := by
  obtain ⟨k, t, x, wn, n, v, p, A, c, es⟩ := r
  simp only [Rv.val, Rv.arr, Rv.sl, V.sl]
  go_enter Tryz.func113, Tryz.ntmps113
  go_wp2
  go_ret
  exact ⟨ret_b (eq0_nat x), below_new w _⟩
theorem emptyV_any (r : Rv) (w : World) : Calls Tryz.prog 119 #[r.val] w fun e w' => e = .returned (.bool (r.abs.emptyB 2)) ∧ Below w.heap.size w w' := by
  obtain ⟨k, t, x, wn, n, v, p, A, c, es⟩ := r
  have HE : Hid ((Rv.abs ⟨k, t, x, wn, n, v, p, A, c, es⟩).emptyB 2 = decide (wn = 0 ∧ n = 0)) := Lib_hid rfl
  generalize (Rv.abs ⟨k, t, x, wn, n, v, p, A, c, es⟩).emptyB 2 = eb at *
  simp only [Rv.val, Rv.arr, Rv.sl, V.sl]
  go_enter Tryz.func119, Tryz.ntmps119
  go_wp2_with fail
  refine (unborn_any wn n _).mono ?_
  rintro e w1 ⟨rfl, hb1⟩
  have hb := (below_new w (.cells #[.int .i64 k, .int .u64 (t : Int), .int .u64 (x : Int), .int .u64 (wn : Int), .int .u64 (n : Int), .int .u64 (v : Int), .int .i64 p.kind, .int .u64 (p.a : Int), .int .u64 (p.b : Int), .slice p.addr p.parts.length p.cap, .slice A es.length c] 30)).trans (hb1.mono (by simp))
  clear hb1
  generalize decide (wn = 0 ∧ n = 0) = ub at *
  go_wp2
  go_ret
  exact ⟨ret_b HE.out.symm, hb⟩
theorem emptyValue_any (r : Rv) (w : World) : Calls Tryz.prog 127 #[r.val] w fun e w' => e = .returned (.bool (r.abs.emptyB 3)) ∧ Below w.heap.size w w' := by
  obtain ⟨k, t, x, wn, n, v, p, A, c, es⟩ := r
  simp only [Rv.val, Rv.arr, Rv.sl, V.sl]
  go_enter Tryz.func127, Tryz.ntmps127
  go_wp2
  go_ret
  exact ⟨ret_b (eq0_nat v), below_new w _⟩
theorem emptyEntries_any (r : Rv) (w : World) : Calls Tryz.prog 144 #[r.val] w fun e w' => e = .returned (.bool (r.abs.emptyB 5)) ∧ Below w.heap.size w w' := by
  obtain ⟨k, t, x, wn, n, v, p, A, c, es⟩ := r
  have HE : Hid ((Rv.abs ⟨k, t, x, wn, n, v, p, A, c, es⟩).emptyB 5 = decide (es = [])) := Lib_hid rfl
  generalize (Rv.abs ⟨k, t, x, wn, n, v, p, A, c, es⟩).emptyB 5 = eb at *
  simp only [Rv.val, Rv.arr, Rv.sl, V.sl]
  go_enter Tryz.func144, Tryz.ntmps144
  go_wp2
  go_ret
  exact ⟨ret_b ((by rw [Bool.eq_iff_iff]; simp : ((es.length : Int) == 0) = decide (es = [])).trans HE.out.symm), below_new w _⟩
theorem lies_zero (w : World) (lo hi : Nat) : Lies w lo hi (.node 0 0 0 none 0 []) := .mk 0 0 0 none 0 [] ⟨by omega, by omega⟩ (by omega) (by omega) Rd.zero ⟨Nat.le_refl _, by omega⟩ (fun ad e hn => absurd hn (by simp)) (fun p hp => by cases hp)
theorem emptyP_any (r : Rv) (w : World) (lo hi : Nat) (h : RLies w lo hi r) (hhi : hi ≤ w.heap.size) : Calls Tryz.prog 133 #[r.val] w fun e w' => e = .returned (.bool (r.abs.emptyB 4)) ∧ Below w.heap.size w w' := by
  obtain ⟨k, t, x, wn, n, v, p, A, c, es⟩ := r
  have HE : Hid ((Rv.abs ⟨k, t, x, wn, n, v, p, A, c, es⟩).emptyB 4 = p.abs.sameB (.node 0 0 0 [])) := Lib_hid rfl
  generalize (Rv.abs ⟨k, t, x, wn, n, v, p, A, c, es⟩).emptyB 4 = eb at *
  have hb := below_new w (.cells #[.int .i64 k, .int .u64 (t : Int), .int .u64 (x : Int), .int .u64 (wn : Int), .int .u64 (n : Int), .int .u64 (v : Int), .int .i64 p.kind, .int .u64 (p.a : Int), .int .u64 (p.b : Int), .slice p.addr p.parts.length p.cap, .slice A es.length c] 30)
  have PS := psame_any p (.node 0 0 0 none 0 []) _ lo hi 0 0 (h.p.under (hb.mono hhi)) (by have := hb.size; omega) (lies_zero _ 0 0) (Nat.zero_le _)
  clear h
  simp only [V.val, V.sl, V.kind, V.a, V.b, V.addr, V.parts, V.cap] at PS
  simp only [Rv.val, Rv.arr, Rv.sl, V.sl]
  go_enter Tryz.func133, Tryz.ntmps133
  go_wp2_with fail
  refine PS.mono ?_
  rintro e w1 ⟨rfl, hb1⟩
  replace hb1 := hb.trans (hb1.mono hb.size)
  have HE2 : Hid (p.abs.sameB (V.node 0 0 0 none 0 []).abs = eb) := Lib_hid (by rw [V.abs, V.absL]; exact HE.out.symm)
  generalize p.abs.sameB (V.node 0 0 0 none 0 []).abs = ub at *
  clear HE hb
  go_wp2
  go_ret
  exact ⟨ret_b HE2.out, hb1⟩
theorem empty_any (i : Nat) (hi6 : i < 6) (r : Rv) (w : World) (lo hi : Nat) (h : RLies w lo hi r) (hhi : hi ≤ w.heap.size) : Calls Tryz.prog (memptyF i) #[r.val] w fun e w' => e = .returned (.bool (r.abs.emptyB i)) ∧ Below w.heap.size w w' := by
  have : i = 0 ∨ i = 1 ∨ i = 2 ∨ i = 3 ∨ i = 4 ∨ i = 5 := by omega
  rcases this with rfl | rfl | rfl | rfl | rfl | rfl
  · exact emptyT_any r w
  · exact emptyX_any r w
  · exact emptyV_any r w
  · exact emptyValue_any r w
  · exact emptyP_any r w lo hi h hhi
  · exact emptyEntries_any r w
theorem of_any (i : Nat) (hi6 : i < 6) (k : Int) (w : World) : Calls Tryz.prog (mofF i) #[.int .i64 k] w fun e w' => e = .returned (.bool (ofB i k)) ∧ w' = w := by
  have : i = 0 ∨ i = 1 ∨ i = 2 ∨ i = 3 ∨ i = 4 ∨ i = 5 := by omega
  rcases this with rfl | rfl | rfl | rfl | rfl | rfl
  · exact ofT_any k w
  · exact ofX_any k w
  · exact ofV_any k w
  · exact ofValue_any k w
  · exact ofP_any k w
  · exact ofEntries_any k w
set_option maxRecDepth 100000 in
theorem call_of {i : Nat} (hi6 : i < 6) : ∀ (args : Array Value) (wx : World), (callFunc (mofF i) args).run Tryz.prog wx = .ok (.enter (mofF i) args) wx := by
  have : i = 0 ∨ i = 1 ∨ i = 2 ∨ i = 3 ∨ i = 4 ∨ i = 5 := by omega
  rcases this with rfl | rfl | rfl | rfl | rfl | rfl <;> exact fun args wx => by kernel_rfl
set_option maxRecDepth 100000 in
theorem call_empty {i : Nat} (hi6 : i < 6) : ∀ (args : Array Value) (wx : World), (callFunc (memptyF i) args).run Tryz.prog wx = .ok (.enter (memptyF i) args) wx := by
  have : i = 0 ∨ i = 1 ∨ i = 2 ∨ i = 3 ∨ i = 4 ∨ i = 5 := by omega
  rcases this with rfl | rfl | rfl | rfl | rfl | rfl <;> exact fun args wx => by kernel_rfl
end Go.Proofs.YtiiiklenhmhccaaGreatDoor

namespace Go.Proofs.YtiiiklenhmhccaaGreatDoor
open Go Go.RowKit
set_option linter.unusedVariables false
def Rc.rightB (r : Rc) : Bool := Rc.knownB r.kind && (List.range 6).all r.bareB && (decide (r.kind ≠ 5) || r.p.rightB)
set_option maxRecDepth 100000 in
theorem index_part {i : Nat} (hi6 : i < 6) : ∀ wx, (Instr.index 111 (.agg partsA) (.int .i64 (i : Int))).run Tryz.prog wx = .ok (.agg #[.func (.func (mofF i)) #[] #[], .func (.func (memptyF i)) #[] #[], .func (.func (mputF i)) #[] #[], .func (.func (mtakeF i)) #[] #[], .func (.func (mtellF i)) #[] #[], .func (.func (mreadF i)) #[] #[]]) wx := by
  have : i = 0 ∨ i = 1 ∨ i = 2 ∨ i = 3 ∨ i = 4 ∨ i = 5 := by omega
  rcases this with rfl | rfl | rfl | rfl | rfl | rfl <;> exact fun wx => by kernel_rfl
theorem rightB_parts (r : Rc) : (Rc.knownB r.kind = false → r.rightB = false) ∧ (∀ i, i < 6 → r.bareB i = false → r.rightB = false) ∧
    (Rc.knownB r.kind = true → (∀ i, i < 6 → r.bareB i = true) → (r.kind ≠ 5 → r.rightB = true) ∧ (r.kind = 5 → r.rightB = r.p.rightB)) := by
  refine ⟨fun h => by simp [Rc.rightB, h], fun i hi h => ?_, fun h h2 => ?_⟩
  · have : (List.range 6).all r.bareB = false := by
      rw [List.all_eq_false]
      exact ⟨i, List.mem_range.2 hi, by simp [h]⟩
    simp [Rc.rightB, this]
  · have : (List.range 6).all r.bareB = true := by
      rw [List.all_eq_true]
      exact fun i hi => h2 i (List.mem_range.1 hi)
    exact ⟨fun h5 => by simp [Rc.rightB, h, this, h5], fun h5 => by rw [h5] at h; simp [Rc.rightB, h, this, h5]⟩
theorem rec_cells {w : World} {b : Nat} {a0 a1 a2 a3 a4 a5 a6 a7 a8 a9 a10 : Value} {T : TypeId} (h : w.heap[b]? = some (.cells #[a0, a1, a2, a3, a4, a5, a6, a7, a8, a9, a10] T (0, 0))) :
    w.cell? ⟨b, 0, none⟩ = some a0 ∧ w.cell? ⟨b, 1, none⟩ = some a1 ∧ w.cell? ⟨b, 2, none⟩ = some a2 ∧ w.cell? ⟨b, 3, none⟩ = some a3 ∧ w.cell? ⟨b, 4, none⟩ = some a4 ∧ w.cell? ⟨b, 5, none⟩ = some a5 ∧ w.cell? ⟨b, 6, none⟩ = some a6 ∧ w.cell? ⟨b, 7, none⟩ = some a7 ∧ w.cell? ⟨b, 8, none⟩ = some a8 ∧ w.cell? ⟨b, 9, none⟩ = some a9 ∧ w.cell? ⟨b, 10, none⟩ = some a10 :=
  ⟨cell_of_row w _ 0 _ _ _ h, cell_of_row w _ 1 _ _ _ h, cell_of_row w _ 2 _ _ _ h, cell_of_row w _ 3 _ _ _ h, cell_of_row w _ 4 _ _ _ h, cell_of_row w _ 5 _ _ _ h, cell_of_row w _ 6 _ _ _ h, cell_of_row w _ 7 _ _ _ h, cell_of_row w _ 8 _ _ _ h, cell_of_row w _ 9 _ _ _ h, cell_of_row w _ 10 _ _ _ h⟩
set_option maxRecDepth 100000 in
set_option maxHeartbeats 3200000 in
theorem right5_any (r : Rv) (w : World) (lo hi : Nat) (h : RLies w lo hi r) (hhi : hi ≤ w.heap.size) :
    Calls Tryz.prog 16 #[r.val] w fun e w' => e = .returned (.bool r.abs.rightB) ∧ Below w.heap.size w w' := by
  have HR : Hid (∀ W, Below w.heap.size w W → RLies W lo hi r ∧ hi ≤ W.heap.size) := fun W hW => ⟨h.under (hW.mono hhi), Nat.le_trans hhi hW.size⟩
  have HB := Lib_hid (rightB_parts r.abs)
  have EM : Hid (∀ (i : Nat), i < 6 → ∀ W, Below w.heap.size w W → Calls Tryz.prog (memptyF i) #[r.val] W fun e w' => e = .returned (.bool (r.abs.emptyB i)) ∧ Below W.heap.size W w') := fun i hi6 W hW => empty_any i hi6 r W lo hi (HR.out W hW).1 (HR.out W hW).2
  have PR : Hid (∀ W, Below w.heap.size w W → Calls Tryz.prog 50 #[r.p.val] W fun e w' => e = .returned (.bool r.abs.p.rightB) ∧ Below W.heap.size W w') := fun W hW => pright_any r.p W lo hi (HR.out W hW).1.p (HR.out W hW).2
  have HE : Hid (∀ i, r.abs.bareB i = (ofB i r.kind || r.abs.emptyB i)) := Lib_hid fun i => rfl
  have HK : Hid (r.abs.kind = r.kind) := rfl
  have hk64 := h.kind
  clear h
  generalize r.abs = ra at *
  obtain ⟨k, t, x, wn, n, v, p, A, c, es⟩ := r
  have hbx := heap_alloc_new w (.cells #[.int .i64 k, .int .u64 (t : Int), .int .u64 (x : Int), .int .u64 (wn : Int), .int .u64 (n : Int), .int .u64 (v : Int), .int .i64 p.kind, .int .u64 (p.a : Int), .int .u64 (p.b : Int), .slice p.addr p.parts.length p.cap, .slice A es.length c] 30)
  have hb0 := below_new w (.cells #[.int .i64 k, .int .u64 (t : Int), .int .u64 (x : Int), .int .u64 (wn : Int), .int .u64 (n : Int), .int .u64 (v : Int), .int .i64 p.kind, .int .u64 (p.a : Int), .int .u64 (p.b : Int), .slice p.addr p.parts.length p.cap, .slice A es.length c] 30)
  simp only [Rv.val, Rv.arr, Rv.sl, V.sl, V.val] at EM PR HR HE HK hk64 ⊢
  go_enter Tryz.func16, Tryz.ntmps16
  go_wp2_with fail
  refine (known_any k _).mono ?_
  rintro e w1 ⟨rfl, rfl⟩
  cases hkn : Rc.knownB k with
  | false =>
    have HF := Lib_hid (HB.out.1 (by rw [HK.out]; exact hkn))
    go_wp2
    go_ret
    exact ⟨ret_b HF.out.symm, hb0⟩
  | true =>
    go_wp2_with fail
    refine (parts_any _).mono ?_
    rintro e w2 ⟨rfl, hb2⟩
    have hx2 := (hb2.block w.heap.size (by simp)).trans hbx
    replace hb2 := hb0.trans (hb2.mono hb0.size)
    have HIX := Lib_hid (fun (i : Nat) (hi6 : i < 6) => index_part hi6)
    generalize partsA = pa at *
    clear hbx hb0
    go_wp2
    go_loopw [10] (fun z wr => ∃ i : Nat, z = .int .i64 i ∧ i ≤ 6 ∧ Hid (∀ j, j < i → ra.bareB j = true) ∧ wr.heap[w.heap.size]? = some (.cells #[.int .i64 k, .int .u64 (t : Int), .int .u64 (x : Int), .int .u64 (wn : Int), .int .u64 (n : Int), .int .u64 (v : Int), .int .i64 p.kind, .int .u64 (p.a : Int), .int .u64 (p.b : Int), .slice p.addr p.parts.length p.cap, .slice A es.length c] 30 (0, 0)) ∧ Below w.heap.size w wr) (fun z _ => 6 - (intOf z).toNat)
    case atStart => exact ⟨0, rfl, by omega, fun j hj => absurd hj (by omega), hx2, hb2⟩
    case round =>
      clear hx2 hb2
      obtain ⟨i, rfl, hi6, hall, hbx, hbw⟩ := hrel
      have hgl := lt_of_block hbx
      have c0 : wr.cell? ⟨w.heap.size, 0, none⟩ = some (.int .i64 k) := cell_of_row wr _ 0 _ _ _ hbx
      by_cases hlt : i < 6
      · have hix := HIX.out i hlt
        have hco := call_of hlt
        have hce := call_empty hlt
        have OF := of_any i hlt k
        have CE := EM.out i hlt
        have hbe := HE.out i
        have hba := HB.out.2.1 i hlt
        rw [hbe] at hba
        have hb2 := hbw.alloc hbw.size (.cells #[.func (.func (mofF i)) #[] #[], .func (.func (memptyF i)) #[] #[], .func (.func (mputF i)) #[] #[], .func (.func (mtakeF i)) #[] #[], .func (.func (mtellF i)) #[] #[], .func (.func (mreadF i)) #[] #[]] 102)
        have hx2 := (heap_alloc_old wr (.cells #[.func (.func (mofF i)) #[] #[], .func (.func (memptyF i)) #[] #[], .func (.func (mputF i)) #[] #[], .func (.func (mtakeF i)) #[] #[], .func (.func (mtellF i)) #[] #[], .func (.func (mreadF i)) #[] #[]] 102) hgl).trans hbx
        have hp2 := heap_alloc_new wr (.cells #[.func (.func (mofF i)) #[] #[], .func (.func (memptyF i)) #[] #[], .func (.func (mputF i)) #[] #[], .func (.func (mtakeF i)) #[] #[], .func (.func (mtellF i)) #[] #[], .func (.func (mreadF i)) #[] #[]] 102)
        replace CE := CE _ hb2
        generalize mofF i = f1 at *
        generalize memptyF i = f2 at *
        generalize mputF i = f3 at *
        generalize mtakeF i = f4 at *
        generalize mtellF i = f5 at *
        generalize mreadF i = f6 at *
        clear c0
        go_upto_region 6 with (fail)
        generalize wr.alloc (.cells #[.func (.func f1) #[] #[], .func (.func f2) #[] #[], .func (.func f3) #[] #[], .func (.func f4) #[] #[], .func (.func f5) #[] #[], .func (.func f6) #[] #[]] 102) = w3 at *
        have hgb : w.heap.size < w3.heap.size := lt_of_block hx2
        have c0 : w3.cell? ⟨w.heap.size, 0, none⟩ = some (.int .i64 k) := cell_of_row w3 _ 0 _ _ _ hx2
        have d0 : w3.cell? ⟨wr.heap.size, 0, none⟩ = some (.func (.func f1) #[] #[]) := cell_of_row w3 _ 0 _ _ _ hp2
        have d1 : w3.cell? ⟨wr.heap.size, 1, none⟩ = some (.func (.func f2) #[] #[]) := cell_of_row w3 _ 1 _ _ _ hp2
        cases ho : ofB i k with
        | true =>
          have HN : Hid (∀ j, j < i + 1 → ra.bareB j = true) := fun j hj => by
            rcases Nat.lt_or_ge j i with h | h
            · exact hall.out j h
            · obtain rfl : j = i := by omega
              rw [hbe, ho]; rfl
          rw [ho] at OF
          clear hba hbe ho CE hall
          go_wp2_with fail
          refine (OF _).mono ?_
          rintro e w4 ⟨rfl, rfl⟩
          go_wp2
          go_roundw
          case rel => exact ⟨i + 1, by go_num, by omega, HN, hx2, hb2⟩
          case measure => simp [intOf]; omega
        | false =>
          rw [ho] at OF hba hbe
          clear c0
          obtain ⟨c0, c1, c2, c3, c4, c5, c6, c7, c8, c9, c10⟩ := rec_cells hx2
          go_wp2_with fail
          refine (OF _).mono ?_
          rintro e w4 ⟨rfl, rfl⟩
          go_wp2_with fail
          refine CE.mono ?_
          rintro e w5 ⟨rfl, hb5⟩
          have hx5 := (hb5.block _ hgb).trans hx2
          clear c0 c1 c2 c3 c4 c5 c6 c7 c8 c9 c10
          replace hb5 := hb2.trans (hb5.mono hb2.size)
          cases he : ra.emptyB i with
          | true =>
            have HN : Hid (∀ j, j < i + 1 → ra.bareB j = true) := fun j hj => by
              rcases Nat.lt_or_ge j i with h | h
              · exact hall.out j h
              · obtain rfl : j = i := by omega
                rw [hbe, he]; rfl
            clear hba hbe ho CE OF hall d0 d1 hx2 hp2 hb2
            go_wp2
            go_roundw
            case rel => exact ⟨i + 1, by go_num, by omega, HN, hx5, hb5⟩
            case measure => simp [intOf]; omega
          | false =>
            have HF := Lib_hid (hba (by rw [he]; rfl))
            clear hba hbe ho CE OF hall d0 d1 hx2 hp2 hb2
            go_wp2
            go_ret
            exact ⟨ret_b HF.out.symm, hb5⟩
      · obtain rfl : i = 6 := by omega
        have HL := Lib_hid (HB.out.2.2 (by rw [HK.out]; exact hkn) hall.out)
        by_cases h5 : k = 5
        · have PP := PR.out _ hbw
          have HL5 := Lib_hid (HL.out.2 (by rw [HK.out]; exact h5))
          have hbw1 := hbw
          subst h5
          have c5 : wr.cell? ⟨w.heap.size, 6, none⟩ = some (.int .i64 p.kind) := cell_of_row wr _ 6 _ _ _ hbx
          have c6 : wr.cell? ⟨w.heap.size, 7, none⟩ = some (.int .u64 (p.a : Int)) := cell_of_row wr _ 7 _ _ _ hbx
          have c7 : wr.cell? ⟨w.heap.size, 8, none⟩ = some (.int .u64 (p.b : Int)) := cell_of_row wr _ 8 _ _ _ hbx
          have c8 : wr.cell? ⟨w.heap.size, 9, none⟩ = some (.slice p.addr p.parts.length p.cap) := cell_of_row wr _ 9 _ _ _ hbx
          go_wp2_with fail
          refine PP.mono ?_
          rintro e w3 ⟨rfl, hb3⟩
          have hb4 := hbw.trans (hb3.mono hbw.size)
          clear hb3 c0 c5 c6 c7 c8
          generalize ra.p.rightB = pr at *
          go_wp2
          go_ret
          exact ⟨ret_b HL5.out.symm, hb4⟩
        · have HL6 := Lib_hid (HL.out.1 (by rw [HK.out]; exact h5))
          have q5 : (k != 5) = true := by simp [h5]
          go_wp2
          go_ret
          exact ⟨ret_b HL6.out.symm, hbw⟩
end Go.Proofs.YtiiiklenhmhccaaGreatDoor
