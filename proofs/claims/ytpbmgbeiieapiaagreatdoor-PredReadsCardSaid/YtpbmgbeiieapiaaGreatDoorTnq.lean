/-
  Layer 4: the program's reader: the steps of a node, plainly.
-/
import Derived.Test.YtpbmgbeiieapiaaGreatDoorTpl
namespace Go.Proofs.YtpbmgbeiieapiaaGreatDoor
open Go Go.RowKit
set_option linter.unusedVariables false

/-- The numbers of a node that have been read. -/
structure NmI (r : List UInt8) (bad : Bool) (j a b : Nat) (ss : List UInt8) (bb : Bool) : Prop where
  len : ss.length ≤ r.length
  bd : bad = true → bb = true
  ok : bad = false → (∃ vs, numsS j r = some (vs, ss) ∧ bb = false ∧ a = vs.getD 0 0 ∧ b = vs.getD 1 0) ∨ (numsS j r = none ∧ bb = true)
  a64 : a < 18446744073709551616
  b64 : b < 18446744073709551616
/-- How a number's reading ends. -/
def NumR (ss : List UInt8) (bb : Bool) (v : Nat) (s2 : List UInt8) (b2 : Bool) : Prop := (numS ss = some (v, s2) ∧ b2 = bb) ∨ (numS ss = none ∧ v = 0 ∧ s2 = ss ∧ b2 = true)
section
variable {r ss s2 : List UInt8} {bad bb b2 : Bool} {a b v : Nat}
theorem NmI.zero (r : List UInt8) (bad : Bool) : NmI r bad 0 0 0 r bad := ⟨Nat.le_refl _, fun h => h, fun h => .inl ⟨[], rfl, h, rfl, rfl⟩, by omega, by omega⟩
theorem NumR.lt (h : NumR ss bb v s2 b2) : v < 18446744073709551616 ∧ s2.length ≤ ss.length := by
  rcases h with ⟨h, _⟩ | ⟨_, rfl, rfl, _⟩
  · exact numS_lt h
  · exact ⟨by omega, Nat.le_refl _⟩
theorem NmI.one (h : NmI r bad 0 a b ss bb) (hn : NumR ss bb v s2 b2) : NmI r bad 1 v b s2 b2 := by
  obtain ⟨l1, l2⟩ := hn.lt
  refine ⟨Nat.le_trans l2 h.len, fun hb => ?_, fun hb => ?_, l1, h.b64⟩
  · rcases hn with ⟨_, e⟩ | ⟨_, _, _, e⟩
    · rw [e]; exact h.bd hb
    · exact e
  · rcases h.ok hb with ⟨vs, e1, e2, e3, e4⟩ | ⟨e1, e2⟩
    · have hu : numsS 1 r = (numS ss).map fun x => (vs ++ [x.1], x.2) := by
        show ((numsS 0 r).bind _) = _
        rw [e1]
        rfl
      have hv : vs = [] := by
        unfold numsS at e1
        injection e1 with e1
        injection e1 with e1 _
        exact e1.symm
      rcases hn with ⟨e, eb⟩ | ⟨e, _, _, eb⟩
      · exact .inl ⟨vs ++ [v], by rw [hu, e]; rfl, by rw [eb, e2], by rw [hv]; rfl, by rw [e4, hv]; rfl⟩
      · exact .inr ⟨by rw [hu, e]; rfl, eb⟩
    · cases e1
theorem NmI.two (h : NmI r bad 1 a b ss bb) (hn : NumR (Lib.trimPrefix ss [61]) (bb || !Lib.hasPrefix ss [61]) v s2 b2) : NmI r bad 2 a v s2 b2 := by
  obtain ⟨l1, l2⟩ := hn.lt
  refine ⟨Nat.le_trans l2 (Nat.le_trans (trim_le _ _) h.len), fun hb => ?_, fun hb => ?_, h.a64, l1⟩
  · rcases hn with ⟨_, e⟩ | ⟨_, _, _, e⟩
    · rw [e, h.bd hb]; rfl
    · exact e
  · rcases h.ok hb with ⟨vs, e1, e2, e3, e4⟩ | ⟨e1, e2⟩
    · have hu : numsS 2 r = if Lib.hasPrefix ss [61] then (numS (Lib.trimPrefix ss [61])).map fun x => (vs ++ [x.1], x.2) else none := by
        show ((numsS 1 r).bind _) = _
        rw [e1]
        rfl
      have hv := (numsS_len 1 r vs ss e1).1
      obtain ⟨x, rfl⟩ : ∃ x, vs = [x] := by
        match vs, hv with
        | [x], _ => exact ⟨x, rfl⟩
      cases h61 : Lib.hasPrefix ss [61] with
      | false =>
        refine .inr ⟨by rw [hu, h61]; rfl, ?_⟩
        rcases hn with ⟨_, e⟩ | ⟨_, _, _, e⟩
        · rw [e, h61]; simp
        · exact e
      | true =>
        rw [h61, if_pos rfl] at hu
        rcases hn with ⟨e, eb⟩ | ⟨e, _, _, eb⟩
        · exact .inl ⟨[x] ++ [v], by rw [hu, e]; rfl, by rw [eb, e2, h61]; rfl, by rw [e3]; rfl, rfl⟩
        · exact .inr ⟨by rw [hu, e]; rfl, eb⟩
    · refine .inr ⟨?_, ?_⟩
      · show ((numsS 1 r).bind _) = _
        rw [e1]; rfl
      · rcases hn with ⟨_, e⟩ | ⟨_, _, _, e⟩
        · rw [e, e2]; rfl
        · exact e
end

theorem rdS_succ {d kd : Nat} {s r : List UInt8} (h : kindS s = (kd, r)) (h0 : kd ≠ 0) : rdS (d + 1) s = (numsS (numN kd) r).bind fun x => (partsS (rdS d) kd x.2).map fun y => (.node kd (x.1.getD 0 0) (x.1.getD 1 0) y.1, y.2) := by
  show (if (kindS s).1 = 0 then none else _) = _
  rw [h, if_neg h0]

/-- A node's parts have been read, too. -/
structure PtI (d m : Nat) (s : List UInt8) (bad : Bool) (B2 kd a b : Nat) (W : World) (v : Value) (m' : Nat) (s' : List UInt8) (bad' : Bool) : Prop where
  len : s'.length ≤ s.length
  bd : bad = true → bad' = true ∧ m' ≤ m + (d + 1) + 1
  ok : bad = false → m' ≤ 34 + (d + 1) ∧ ((∃ us, rdS (d + 1) s = some (.node kd a b (V.absL us), s') ∧ m + 1 + T.countL (V.absL us) ≤ 32 ∧ bad' = false ∧ m' = m + 1 + T.countL (V.absL us) ∧ TRow 25 B2 v us W) ∨
    ((∀ t r, rdS (d + 1) s = some (t, r) → 32 < m + t.count) ∧ bad' = true))
section
variable {d m B2 kd a b : Nat} {s r ss : List UInt8} {bad bb : Bool}
theorem PtI.none (hk : kindS s = (kd, r)) (h1 : 1 ≤ kd) (h4 : kd ≤ 4) (hm : m + 1 ≤ 32) (h : NmI r bad (numN kd) a b ss bb) (W : World) : PtI d m s bad B2 kd a b W (.slice none 0 0) (m + 1) ss bb := by
  have hr := (kindS_le s).2.1
  rw [hk] at hr
  refine ⟨Nat.le_trans h.len hr, fun hb => ⟨h.bd hb, by omega⟩, fun hb => ⟨by omega, ?_⟩⟩
  have hu := rdS_succ (d := d) hk (by omega)
  rcases h.ok hb with ⟨vs, e1, e2, e3, e4⟩ | ⟨e1, e2⟩
  · refine .inl ⟨[], ?_, by simp [V.absL, T.countL]; omega, e2, by simp [V.absL, T.countL], TRow.nil _ _ _⟩
    rw [hu, e1, Option.bind_some]
    have : partsS (rdS d) kd ss = some ([], ss) := by unfold partsS; rw [if_neg (by omega), if_neg (by omega)]
    simp only [this, Option.map_some, V.absL, e3, e4]
  · refine .inr ⟨fun t q hq => ?_, e2⟩
    rw [hu, e1] at hq
    cases hq
theorem PtI.one {w8 w9 : World} {k2 : Int} {a2 b2 n2 c2 m' g : Nat} {A2 : Option Addr} {s' : List UInt8} {bad' : Bool} (hk : kindS s = (kd, r)) (h5 : kd = 5) (hm : m + 1 ≤ 32) (h : NmI r bad (numN kd) a b ss bb)
    (hB : w8.heap.size = B2) (hgr : w8.grownBy w9 (some g)) (hn : NdR d (m + 1) ss bb w8 w9 k2 a2 b2 n2 c2 m' A2 s' bad') :
    PtI d m s bad B2 kd a b (w9.alloc (.cells #[.int .i64 k2, .int .u64 (a2 : Int), .int .u64 (b2 : Int), .slice A2 n2 c2] 25)) (.slice (some ⟨w9.heap.size, 0, Option.none⟩) 1 1) m' s' bad' := by
  have hr := (kindS_le s).2.1
  rw [hk] at hr
  refine ⟨Nat.le_trans hn.len (Nat.le_trans h.len hr), fun hb => ?_, fun hb => ?_⟩
  · obtain ⟨q1, q2⟩ := hn.bd (h.bd hb)
    exact ⟨q1, by omega⟩
  have hu := rdS_succ (d := d) hk (by omega)
  rcases h.ok hb with ⟨vs, e1, e2, e3, e4⟩ | ⟨e1, e2⟩
  · obtain ⟨q1, q2⟩ := hn.ok e2
    refine ⟨by omega, ?_⟩
    rw [e1, Option.bind_some] at hu
    have hp : partsS (rdS d) kd ss = (rdS d ss).map fun x => ([x.1], x.2) := by unfold partsS; rw [if_pos h5]
    simp only [hp] at hu
    rcases q2 with ⟨t, us, p1, p2, p3, p4, p5, p6, hL, hS⟩ | ⟨hno, hbad⟩
    · subst p6
      refine .inl ⟨[.node k2 a2 b2 A2 c2 us], ?_, ?_, p3, ?_, ?_, ?_⟩
      · rw [hu, p1]; simp [V.absL, p5, e3, e4]
      · simp [V.absL, T.countL, p5]; omega
      · simp [V.absL, T.countL, p5]; omega
      · have := World.ownsRow_lit (base := w9.heap.size) (e := 25) (size := 4) w9 #[.int .i64 k2, .int .u64 (a2 : Int), .int .u64 (b2 : Int), .slice A2 us.length c2] 1 (Nat.le_refl _) (by decide) rfl
        exact own_base this fun j hj => by have e : w9.heap.size = j := Option.some.inj hj; have := hgr.size; omega
      · intro u hu'
        obtain rfl : u = .node k2 a2 b2 A2 c2 us := by simpa using hu'
        have hb2 := below_new w9 (.cells #[.int .i64 k2, .int .u64 (a2 : Int), .int .u64 (b2 : Int), .slice A2 us.length c2] 25)
        exact ⟨w8.heap.size, w9.heap.size, by omega, hb2.size, hL.under (hb2.mono (Nat.le_refl _)), hS.under hb2, fun g' hg' => .inr (by have e : w9.heap.size = g' := Option.some.inj hg'; omega)⟩
    · refine .inr ⟨fun t q hq => ?_, hbad⟩
      rw [hu] at hq
      obtain ⟨⟨ts, q1⟩, hq1, he⟩ := Option.map_eq_some_iff.1 hq
      obtain ⟨⟨t1, r1⟩, hq2, he2⟩ := Option.map_eq_some_iff.1 hq1
      injection he with x1 x2
      injection he2 with x3 x4
      subst x1 x3
      have := hno _ _ hq2
      simp only [T.count, T.countL]
      omega
  · obtain ⟨q1, q2⟩ := hn.bd e2
    refine ⟨by omega, .inr ⟨fun t q hq => ?_, q1⟩⟩
    rw [hu, e1] at hq
    cases hq
theorem PtI.list {w8 w9 : World} {v : Value} {m' : Nat} {s' : List UInt8} {bad' : Bool} (hk : kindS s = (kd, r)) (h6 : 6 ≤ kd) (hm : m + 1 ≤ 32) (h : NmI r bad (numN kd) a b ss bb)
    (hB : w8.heap.size = B2) (hn : LsR d (m + 1) ss bb w8 w9 v m' s' bad') : PtI d m s bad B2 kd a b w9 v m' s' bad' := by
  have hr := (kindS_le s).2.1
  rw [hk] at hr
  refine ⟨Nat.le_trans hn.len (Nat.le_trans h.len hr), fun hb => ?_, fun hb => ?_⟩
  · obtain ⟨q1, q2⟩ := hn.bd (h.bd hb)
    exact ⟨q1, by omega⟩
  have hu := rdS_succ (d := d) hk (by omega)
  rcases h.ok hb with ⟨vs, e1, e2, e3, e4⟩ | ⟨e1, e2⟩
  · obtain ⟨q1, q2⟩ := hn.ok e2
    refine ⟨by omega, ?_⟩
    rw [e1, Option.bind_some] at hu
    have hp : partsS (rdS d) kd ss = listS (rdS d) ss := by unfold partsS; rw [if_neg (by omega), if_pos h6]
    simp only [hp] at hu
    rcases q2 with ⟨us, p1, p2, p3, p4, hT⟩ | ⟨hno, hbad⟩
    · exact .inl ⟨us, by rw [hu, p1]; simp [e3, e4], by omega, p3, by omega, hB ▸ hT⟩
    · refine .inr ⟨fun t q hq => ?_, hbad⟩
      rw [hu] at hq
      obtain ⟨⟨ts, q1⟩, hq1, he⟩ := Option.map_eq_some_iff.1 hq
      injection he with x1 x2
      subst x1
      have := hno _ _ hq1
      simp only [T.count]
      omega
  · obtain ⟨q1, q2⟩ := hn.bd e2
    refine ⟨by omega, .inr ⟨fun t q hq => ?_, q1⟩⟩
    rw [hu, e1] at hq
    cases hq
/-- The node is told. -/
theorem PtI.fin {w W w' : World} {n c m' : Nat} {A : Option Addr} {s' : List UInt8} {bad' : Bool} (h : PtI d m s bad B2 kd a b W (.slice A n c) m' s' bad') (hkd : kd ≤ 7) (ha : a < 18446744073709551616) (hb : b < 18446744073709551616)
    (hwB : w.heap.size ≤ B2) (hs : W.heap.size ≤ w'.heap.size) (hk : ∀ g, B2 ≤ g → g < W.heap.size → w'.heap[g]? = W.heap[g]?) : NdR (d + 1) m s bad w w' kd a b n c m' A s' bad' := by
  refine ⟨h.len, h.bd, fun hbf => ?_⟩
  obtain ⟨h1, h2⟩ := h.ok hbf
  refine ⟨h1, ?_⟩
  rcases h2 with ⟨us, e1, e2, e3, e4, hT⟩ | h2
  · obtain ⟨hn, hL, hS⟩ := (hT.keep hs hk).tree (k := kd) (a := a) (b := b) (by omega) ha hb
    refine .inl ⟨_, us, e1, by rw [T.count]; omega, e3, by rw [T.count]; omega, by rw [V.abs], hn.symm, hL.more hwB (Nat.le_refl _), hS.more hwB⟩
  · exact .inr h2
/-- A node that is none. -/
theorem NdR.none0 {w w' : World} {s' : List UInt8} {m' : Nat} (hl : s'.length ≤ s.length) (hm : m' ≤ m + 1) (hm2 : bad = false → m ≤ 32) (hno : bad = false → ∀ t r, rdS d s = some (t, r) → 32 < m + t.count) : NdR d m s bad w w' 0 0 0 0 0 m' Option.none s' true :=
  ⟨hl, fun _ => ⟨rfl, by omega⟩, fun hb => ⟨by have := hm2 hb; omega, .inr ⟨hno hb, rfl⟩⟩⟩
end

end Go.Proofs.YtpbmgbeiieapiaaGreatDoor
