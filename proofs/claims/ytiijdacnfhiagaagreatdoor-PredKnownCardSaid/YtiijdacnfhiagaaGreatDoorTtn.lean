/-
  Layer 4: the program's taker: how a node ends; the steps between, plainly.
-/
import Derived.Test.YtiijdacnfhiagaaGreatDoorTtk
import Derived.Test.YtiijdacnfhiagaaGreatDoorSl
namespace Go.Proofs.YtiijdacnfhiagaaGreatDoor
open Go Go.RowKit
set_option linter.unusedVariables false

theorem scan_err4 : ∀ (k i v : Nat) (r : List Nat) (e : Nat), scan k i v r = .err e → e = 4 ∨ e = 10 := by
  intro k
  induction k with
  | zero => intro i v r e hh; simp [scan] at hh; omega
  | succ k ih =>
    intro i v r e hh
    cases r with
    | nil => simp [scan] at hh; omega
    | cons c r =>
      simp only [scan] at hh
      split at hh
      · exact ih _ _ _ _ hh
      · split at hh
        · cases hh
        · simp at hh; omega
/-- A number that stands is of 64 digits, and its place behind lies further on, inside. -/
theorem numT_lt {l : List Nat} (hb : ∀ x ∈ l, x < 256) {a v r : Nat} (h : numT l a = some (v, r)) : v < 18446744073709551616 ∧ a + 1 ≤ r ∧ r ≤ l.length := by
  unfold numT at h
  split at h
  · rename_i hz
    injection h with h
    injection h with h1 h2
    unfold getS at hz h1 h2
    split at hz
    · cases hz
    · rename_i ho
      rw [if_neg ho] at h1 h2
      rw [Int.toNat_natCast] at hz h1 h2
      cases hg : got (l.drop a) with
      | num x k =>
        rw [hg] at h1 h2
        simp only [ans] at h1 h2
        subst h1 h2
        obtain ⟨q1, q2, q3⟩ := got_put (fun x hx => hb x (List.mem_of_mem_drop hx)) hg
        rw [List.length_drop] at q1
        have hp := enc_pos x
        rw [q2, List.length_take, List.length_drop] at hp
        exact ⟨q3, by omega, by omega⟩
      | err e =>
        rw [hg] at hz
        simp only [ans] at hz
        rcases scan_err4 _ _ _ _ _ hg with h | h <;> omega
  · cases h

/-- The numbers of a node that have been taken. -/
structure NmT (l : List Nat) (r : Nat) (bad : Bool) (j a b ss : Nat) (bb : Bool) : Prop where
  bd : bad = true → bb = true
  ok : bad = false → (∃ vs, numsT l j r = some (vs, ss) ∧ vs.length = j ∧ bb = false ∧ a = vs.getD 0 0 ∧ b = vs.getD 1 0) ∨ (numsT l j r = none ∧ bb = true)
  a64 : a < 18446744073709551616
  b64 : b < 18446744073709551616
/-- How a number's taking ends. -/
def NumTR (l : List Nat) (ss : Nat) (bb : Bool) (v s2 : Nat) (b2 : Bool) : Prop := (numT l ss = some (v, s2) ∧ b2 = bb) ∨ (numT l ss = none ∧ v = 0 ∧ s2 = ss ∧ b2 = true)
section
variable {l : List Nat} {r ss s2 a b v j : Nat} {bad bb b2 : Bool}
theorem NmT.zero (l : List Nat) (r : Nat) (bad : Bool) : NmT l r bad 0 0 0 r bad := ⟨fun h => h, fun h => .inl ⟨[], rfl, rfl, h, rfl, rfl⟩, by omega, by omega⟩
theorem NumTR.lt (hb : ∀ x ∈ l, x < 256) (h : NumTR l ss bb v s2 b2) : v < 18446744073709551616 := by
  rcases h with ⟨h, _⟩ | ⟨_, rfl, rfl, _⟩
  · exact (numT_lt hb h).1
  · omega
theorem NmT.next (hb : ∀ x ∈ l, x < 256) (h : NmT l r bad j a b ss bb) (hn : NumTR l ss bb v s2 b2) : (j = 0 → NmT l r bad 1 v b s2 b2) ∧ (j = 1 → NmT l r bad 2 a v s2 b2) := by
  have hv := hn.lt hb
  have hbd : bad = true → b2 = true := fun h1 => by
    rcases hn with ⟨_, e⟩ | ⟨_, _, _, e⟩
    · rw [e]; exact h.bd h1
    · exact e
  have hok : bad = false → (∃ vs, numsT l (j + 1) r = some (vs ++ [v], s2) ∧ vs.length = j ∧ b2 = false ∧ a = vs.getD 0 0 ∧ b = vs.getD 1 0) ∨ (numsT l (j + 1) r = none ∧ b2 = true) := fun h1 => by
    have hu : numsT l (j + 1) r = (numsT l j r).bind fun x => (numT l x.2).map fun y => (x.1 ++ [y.1], y.2) := rfl
    rcases h.ok h1 with ⟨vs, e1, e2, e3, e4, e5⟩ | ⟨e1, e2⟩
    · rw [e1, Option.bind_some] at hu
      simp only at hu
      rcases hn with ⟨e, eb⟩ | ⟨e, _, _, eb⟩
      · exact .inl ⟨vs, by rw [hu, e]; rfl, e2, by rw [eb, e3], e4, e5⟩
      · exact .inr ⟨by rw [hu, e]; rfl, eb⟩
    · refine .inr ⟨by rw [hu, e1]; rfl, ?_⟩
      rcases hn with ⟨_, e⟩ | ⟨_, _, _, e⟩
      · rw [e, e2]
      · exact e
  refine ⟨fun h0 => ?_, fun h0 => ?_⟩
  · subst h0
    refine ⟨hbd, fun h1 => ?_, hv, h.b64⟩
    rcases hok h1 with ⟨vs, e1, e2, e3, e4, e5⟩ | h2
    · obtain rfl : vs = [] := List.eq_nil_of_length_eq_zero e2
      exact .inl ⟨[v], e1, rfl, e3, rfl, e5⟩
    · exact .inr h2
  · subst h0
    refine ⟨hbd, fun h1 => ?_, h.a64, hv⟩
    rcases hok h1 with ⟨vs, e1, e2, e3, e4, e5⟩ | h2
    · obtain ⟨x, rfl⟩ : ∃ x, vs = [x] := by
        match vs, e2 with
        | [x], _ => exact ⟨x, rfl⟩
      exact .inl ⟨[x, v], e1, rfl, e3, e4, rfl⟩
    · exact .inr h2
end

/-- How a node's taking ends. -/
structure TdR (l : List Nat) (d m s : Nat) (bad : Bool) (w w' : World) (k : Int) (a b n c m' : Nat) (A : Option Addr) (s' : Nat) (bad' : Bool) : Prop where
  bd : bad = true → bad' = true ∧ m' ≤ m + 1
  ok : bad = false → m' ≤ 34 ∧ ((∃ t us, tkS l d s = some (t, s') ∧ m + t.count ≤ 32 ∧ bad' = false ∧ m' = m + t.count ∧ (V.node k a b A c us).abs = t ∧ us.length = n ∧ Lies w' w.heap.size w'.heap.size (.node k a b A c us) ∧ Shp 25 w' w.heap.size (.node k a b A c us)) ∨
    ((∀ t r, tkS l d s = some (t, r) → 32 < m + t.count) ∧ bad' = true))
def TdEnd (Ab : Option Addr) (nb cb : Nat) (l : List Nat) (d m s : Nat) (bad : Bool) (g : Nat) (w : World) (e : Ending) (w' : World) : Prop :=
  ∃ (k : Int) (a b n c m' : Nat) (A : Option Addr) (s' : Nat) (bad' : Bool), e = .returned (.agg #[.int .i64 k, .int .u64 (a : Int), .int .u64 (b : Int), .slice A n c]) ∧ w.grownBy w' (some g) ∧ w'.heap[g]? = some (TkrC (m' : Int) Ab nb cb (s' : Int) bad') ∧ TdR l d m s bad w w' k a b n c m' A s' bad'
def TakeOK (Ab : Option Addr) (nb cb : Nat) (l : List Nat) (d : Nat) : Prop := ∀ (m s : Nat) (bad : Bool) (B g : Nat) (w : World), w.heap[g]? = some (TkrC (m : Int) Ab nb cb (s : Int) bad) → Rd w B 1 Ab nb (bs l) → B ≤ g → (bad = false → m ≤ 32) → m ≤ 100 →
  Calls Tryz.prog 51 #[.pointer (some ⟨g, 0, none⟩), .int .i64 ((9 - d : Nat) : Int)] w (TdEnd Ab nb cb l d m s bad g w)

/-- Between two parts of a node: so many are left. -/
structure PtT (l : List Nat) (d m s : Nat) (bad : Bool) (B2 kd a b : Nat) (W : World) (v : Value) (mm left ss : Nat) (bb : Bool) : Prop where
  bd : bad = true → bb = true ∧ mm ≤ m + 1
  ok : bad = false → mm ≤ 34 ∧ ((∃ us, TRow 25 B2 v us W ∧ bb = false ∧ mm = m + 1 + T.countL (V.absL us) ∧ mm ≤ 32 ∧ tkS l (d + 1) s = (manyT (tkS l d) left ss).map fun x => (.node kd a b (V.absL us ++ x.1), x.2)) ∨
    ((∀ t r, tkS l (d + 1) s = some (t, r) → 32 < m + t.count) ∧ bb = true))
section
variable {l : List Nat} {d m s B2 kd a b r : Nat} {bad bb : Bool}
theorem tkS_succ (h : kindT l s = (kd, r)) (h0 : kd ≠ 0) (h7 : kd ≤ 7) : tkS l (d + 1) s = (numsT l (numN kd) r).bind fun x => (cntT l kd x.2).bind fun y => (manyT (tkS l d) y.1 y.2).map fun z => (.node kd (x.1.getD 0 0) (x.1.getD 1 0) z.1, z.2) := by
  show (if (kindT l s).1 = 0 ∨ 7 < (kindT l s).1 then none else _) = _
  rw [h, if_neg (by omega)]
/-- How many parts there are is known. -/
theorem PtT.start {ss N s2 : Nat} {b2 : Bool} (hk : kindT l s = (kd, r)) (h1 : 1 ≤ kd) (h7 : kd ≤ 7) (hm : m + 1 ≤ 32) (h : NmT l r bad (numN kd) a b ss bb)
    (hc : (cntT l kd ss = some (N, s2) ∧ b2 = bb) ∨ (cntT l kd ss = none ∧ b2 = true)) (W : World) : PtT l d m s bad B2 kd a b W (.slice none 0 0) (m + 1) N s2 b2 := by
  have hu := tkS_succ (d := d) hk (by omega) h7
  refine ⟨fun hb => ⟨?_, by omega⟩, fun hb => ⟨by omega, ?_⟩⟩
  · rcases hc with ⟨_, e⟩ | ⟨_, e⟩
    · rw [e]; exact h.bd hb
    · exact e
  rcases h.ok hb with ⟨vs, e1, e2, e3, e4, e5⟩ | ⟨e1, e2⟩
  · rw [e1, Option.bind_some] at hu
    simp only at hu
    rcases hc with ⟨e, eb⟩ | ⟨e, eb⟩
    · rw [e, Option.bind_some] at hu
      refine .inl ⟨[], TRow.nil _ _ _, by rw [eb, e3], by simp [V.absL, T.countL], by omega, ?_⟩
      rw [hu, e4, e5]
      simp [V.absL]
    · refine .inr ⟨fun t q hq => ?_, eb⟩
      rw [hu, e] at hq
      cases hq
  · refine .inr ⟨fun t q hq => ?_, ?_⟩
    · rw [hu, e1] at hq
      cases hq
    · rcases hc with ⟨_, e⟩ | ⟨_, e⟩
      · rw [e, e2]
      · exact e
/-- A part was taken. -/
theorem PtT.step {w8 w9 W w4 : World} {v v' : Value} {mm left ss : Nat} {k2 : Int} {a2 b2 n2 c2 m' s' : Nat} {A2 : Option Addr} {bad' : Bool} (h : PtT l d m s bad B2 kd a b W v mm (left + 1) ss false)
    (hn : TdR l d mm ss false w8 w9 k2 a2 b2 n2 c2 m' A2 s' bad')
    (hT : ∀ us us2, TRow 25 B2 v us W → us2.length = n2 → Lies w9 w8.heap.size w9.heap.size (.node k2 a2 b2 A2 c2 us2) → Shp 25 w9 w8.heap.size (.node k2 a2 b2 A2 c2 us2) → TRow 25 B2 v' (us ++ [.node k2 a2 b2 A2 c2 us2]) w4) :
    PtT l d m s bad B2 kd a b w4 v' m' left s' bad' := by
  have hbf : bad = false := by
    cases hb : bad with
    | false => rfl
    | true => have := (h.bd hb).1; cases this
  refine ⟨(fun hb => by rw [hbf] at hb; cases hb), fun hb => ?_⟩
  obtain ⟨h1, h2⟩ := h.ok hb
  obtain ⟨n1, n2'⟩ := hn.ok rfl
  refine ⟨n1, ?_⟩
  rcases h2 with ⟨us, hR, -, hmm, h32, hspec⟩ | ⟨-, hx⟩
  · have hu : manyT (tkS l d) (left + 1) ss = (tkS l d ss).bind fun x => (manyT (tkS l d) left x.2).map fun y => (x.1 :: y.1, y.2) := rfl
    rcases n2' with ⟨t, us2, e1, e2, e3, e4, e5, e6, hL, hS⟩ | ⟨hno, hbad⟩
    · refine .inl ⟨us ++ [.node k2 a2 b2 A2 c2 us2], hT us us2 hR e6 hL hS, e3, ?_, by omega, ?_⟩
      · rw [e4, hmm, show V.absL (us ++ [.node k2 a2 b2 A2 c2 us2]) = V.absL us ++ [t] by rw [absL_map, List.map_append, ← absL_map, List.map_cons, List.map_nil, e5], countL_append]
        simp [T.countL]
        omega
      · rw [hspec, hu, e1]
        simp only [Option.bind_some]
        cases manyT (tkS l d) left s' with
        | none => rfl
        | some x => simp [absL_map, e5]
    · refine .inr ⟨fun t r hl => ?_, hbad⟩
      rw [hspec, hu] at hl
      obtain ⟨⟨ts1, r1⟩, hl, he⟩ := Option.map_eq_some_iff.1 hl
      obtain ⟨⟨t1, r'⟩, h3, h4⟩ := Option.bind_eq_some_iff.1 hl
      obtain ⟨⟨ts', r2⟩, h5, he2⟩ := Option.map_eq_some_iff.1 h4
      injection he with e1 e2
      injection he2 with e3 e4
      subst e1 e3
      have := hno _ _ h3
      simp only [T.count, countL_append, T.countL]
      omega
  · cases hx
/-- The node is told. -/
theorem PtT.fin {w W w' : World} {n c mm left ss : Nat} {A : Option Addr} (h : PtT l d m s bad B2 kd a b W (.slice A n c) mm left ss bb) (he : bb = false → left = 0) (hkd : kd ≤ 7) (ha : a < 18446744073709551616) (hb : b < 18446744073709551616)
    (hwB : w.heap.size ≤ B2) (hs : W.heap.size ≤ w'.heap.size) (hk : ∀ g, B2 ≤ g → g < W.heap.size → w'.heap[g]? = W.heap[g]?) : TdR l (d + 1) m s bad w w' kd a b n c mm A ss bb := by
  refine ⟨h.bd, fun hbf => ?_⟩
  obtain ⟨h1, h2⟩ := h.ok hbf
  refine ⟨h1, ?_⟩
  rcases h2 with ⟨us, hT, e0, e1, e2, e3⟩ | h2
  · obtain ⟨hn, hL, hS⟩ := (hT.keep hs hk).tree (k := kd) (a := a) (b := b) (by omega) ha hb
    have hl0 := he e0
    subst hl0
    refine .inl ⟨_, us, by rw [e3]; simp [manyT]; rfl, by rw [T.count]; omega, e0, by rw [T.count]; omega, by rw [V.abs], hn.symm, hL.more hwB (Nat.le_refl _), hS.more hwB⟩
  · exact .inr h2
/-- A node that is none. -/
theorem TdR.none0 {w w' : World} {s' m' : Nat} (hm : m' ≤ m + 1) (hm2 : bad = false → m ≤ 32) (hno : bad = false → ∀ t r, tkS l d s = some (t, r) → 32 < m + t.count) : TdR l d m s bad w w' 0 0 0 0 0 m' Option.none s' true :=
  ⟨fun _ => ⟨rfl, by omega⟩, fun hb => ⟨by have := hm2 hb; omega, .inr ⟨hno hb, rfl⟩⟩⟩
end

end Go.Proofs.YtiijdacnfhiagaaGreatDoor
