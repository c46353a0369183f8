/-
  Layer 4: the program's reader: how node and list end; the steps between.
-/
import Derived.Test.YtiijdacnfhiagaaGreatDoorTrp
import Derived.Test.YtiijdacnfhiagaaGreatDoorTex
namespace Go.Proofs.YtiijdacnfhiagaaGreatDoor
open Go Go.RowKit
set_option linter.unusedVariables false

/-- How a node's reading ends. -/
structure NdR (d m : Nat) (s : List UInt8) (bad : Bool) (w w' : World) (k : Int) (a b n c m' : Nat) (A : Option Addr) (s' : List UInt8) (bad' : Bool) : Prop where
  len : s'.length ≤ s.length
  bd : bad = true → bad' = true ∧ m' ≤ m + d + 1
  ok : bad = false → m' ≤ 34 + d ∧ ((∃ t us, rdS d s = some (t, s') ∧ m + t.count ≤ 32 ∧ bad' = false ∧ m' = m + t.count ∧ (V.node k a b A c us).abs = t ∧ us.length = n ∧ Lies w' w.heap.size w'.heap.size (.node k a b A c us) ∧ Shp 25 w' w.heap.size (.node k a b A c us)) ∨
    ((∀ t r, rdS d s = some (t, r) → 32 < m + t.count) ∧ bad' = true))
def NdEnd (d m : Nat) (s : List UInt8) (bad : Bool) (g : Nat) (w : World) (e : Ending) (w' : World) : Prop :=
  ∃ (k : Int) (a b n c m' : Nat) (A : Option Addr) (s' : List UInt8) (bad' : Bool), e = .returned (.agg #[.int .i64 k, .int .u64 (a : Int), .int .u64 (b : Int), .slice A n c]) ∧ w.grownBy w' (some g) ∧ w'.heap[g]? = some (RdrC (m' : Int) s' bad') ∧ NdR d m s bad w w' k a b n c m' A s' bad'
def NodeOK (d : Nat) : Prop := ∀ (m : Nat) (s : List UInt8) (bad : Bool) (B g : Nat) (w : World), w.heap[g]? = some (RdrC (m : Int) s bad) → Env B w → B ≤ g → s.length ≤ 1000000 → (bad = false → m ≤ 32) → m ≤ 100 →
  Calls Tryz.prog 53 #[.pointer (some ⟨g, 0, none⟩), .int .i64 ((9 - d : Nat) : Int)] w (NdEnd d m s bad g w)

/-- How a list's reading ends. -/
structure LsR (d m : Nat) (s : List UInt8) (bad : Bool) (w w' : World) (v : Value) (m' : Nat) (s' : List UInt8) (bad' : Bool) : Prop where
  len : s'.length ≤ s.length
  bd : bad = true → bad' = true ∧ m' ≤ m + d + 1
  ok : bad = false → m' ≤ 34 + d ∧ ((∃ us, listS (rdS d) s = some (V.absL us, s') ∧ m + T.countL (V.absL us) ≤ 32 ∧ bad' = false ∧ m' = m + T.countL (V.absL us) ∧ TRow 25 w.heap.size v us w') ∨
    ((∀ ts r, listS (rdS d) s = some (ts, r) → 32 < m + T.countL ts) ∧ bad' = true))
def LsEnd (d m : Nat) (s : List UInt8) (bad : Bool) (g : Nat) (w : World) (e : Ending) (w' : World) : Prop :=
  ∃ (n c m' : Nat) (A : Option Addr) (s' : List UInt8) (bad' : Bool), e = .returned (.slice A n c) ∧ w.grownBy w' (some g) ∧ w'.heap[g]? = some (RdrC (m' : Int) s' bad') ∧ LsR d m s bad w w' (.slice A n c) m' s' bad'

/-- Between two parts of a list. -/
structure LsI (d m : Nat) (s : List UInt8) (bad : Bool) (w W : World) (v : Value) (mm : Nat) (ss : List UInt8) (bb : Bool) : Prop where
  len : ss.length ≤ s.length
  bd : bad = true → bb = true ∧ mm ≤ m + d + 1
  ok : bad = false → mm ≤ 34 + d ∧ ((∃ us, TRow 25 w.heap.size v us W ∧ bb = false ∧ mm = m + T.countL (V.absL us) ∧ mm ≤ 32 ∧ listS (rdS d) s = (moreS (rdS d) (ss.length + 1) ss).map fun x => (V.absL us ++ x.1, x.2)) ∨
    ((∀ ts r, listS (rdS d) s = some (ts, r) → 32 < m + T.countL ts) ∧ bb = true))

theorem new_raw (w : World) (E : TypeId) (x0 x1 x2 x3 : Value) : Rd (w.alloc (.cells #[x0, x1, x2, x3] E)) (w.heap.size + 1) 4 (some ⟨w.heap.size, 0, none⟩) 1 [x0, x1, x2, x3] := by
  refine ⟨rfl, fun _ => ⟨_, rfl, by simp, fun j x hx => ?_⟩⟩
  have hr := heap_alloc_new w (.cells #[x0, x1, x2, x3] E)
  have e : (⟨w.heap.size, 0, none⟩ : Addr).add j = ⟨w.heap.size, j, none⟩ := by unfold Addr.add; split <;> simp_all
  rw [e, cell_of_row _ _ j _ _ _ hr, ← hx]
  simp

section
variable {d m : Nat} {s : List UInt8} {bad : Bool}
/-- The first part was read. -/
theorem LsI.start {w w1 w2 : World} {k : Int} {a b n c m' g : Nat} {A : Option Addr} {s' : List UInt8} {bad' : Bool} (hm : bad = false → m ≤ 32) (hw1 : w.heap.size ≤ w1.heap.size) (hgr : w1.grownBy w2 (some g))
    (h41 : Lib.hasPrefix (Lib.trimPrefix s [40]) [41] = false) (h : NdR d m (Lib.trimPrefix s [40]) (bad || !Lib.hasPrefix s [40]) w1 w2 k a b n c m' A s' bad') :
    LsI d m s bad w (w2.alloc (.cells #[.int .i64 k, .int .u64 (a : Int), .int .u64 (b : Int), .slice A n c] 25)) (.slice (some ⟨w2.heap.size, 0, none⟩) 1 1) m' s' bad' := by
  refine ⟨Nat.le_trans h.len (trim_le _ _), fun hb => h.bd (by rw [hb]; rfl), fun hb => ?_⟩
  have hm := hm hb
  cases h40 : Lib.hasPrefix s [40] with
  | false =>
    obtain ⟨h1, h2⟩ := h.bd (by rw [hb, h40]; rfl)
    refine ⟨by omega, .inr ⟨fun ts r hl => ?_, h1⟩⟩
    unfold listS at hl
    rw [h40] at hl
    cases hl
  | true =>
    obtain ⟨h1, h2⟩ := h.ok (by rw [hb, h40]; rfl)
    have hu : listS (rdS d) s = (rdS d (Lib.trimPrefix s [40])).bind fun (t, r') => (moreS (rdS d) (r'.length + 1) r').map fun (ts, r2) => (t :: ts, r2) := by
      unfold listS
      rw [if_pos h40, if_neg (by rw [h41]; simp)]
    refine ⟨h1, ?_⟩
    rcases h2 with ⟨t, us, e1, e2, e3, e4, e5, e6, hL, hS⟩ | ⟨hno, hbad⟩
    · subst e6
      refine .inl ⟨[.node k a b A c us], ⟨?_, ?_⟩, e3, ?_, by omega, ?_⟩
      · have := World.ownsRow_lit (base := w.heap.size) (e := 25) (size := 4) w2 #[.int .i64 k, .int .u64 (a : Int), .int .u64 (b : Int), .slice A us.length c] 1 (by have := hgr.size; omega) (by decide) rfl
        exact this
      · intro u hu
        obtain rfl : u = .node k a b A c us := by simpa using hu
        have hb2 := below_new w2 (.cells #[.int .i64 k, .int .u64 (a : Int), .int .u64 (b : Int), .slice A us.length c] 25)
        exact ⟨w1.heap.size, w2.heap.size, hw1, hb2.size, hL.under (hb2.mono (Nat.le_refl _)), hS.under hb2, fun g' hg' => .inr (by have e : w2.heap.size = g' := Option.some.inj hg'; omega)⟩
      · rw [e4, ← e5]; simp [V.absL, T.countL]
      · rw [hu, e1]
        simp only [Option.bind_some]
        congr 1
        funext x
        simp [V.absL, e5]
    · refine .inr ⟨fun ts r hl => ?_, hbad⟩
      rw [hu] at hl
      obtain ⟨⟨t, r'⟩, h3, h4⟩ := Option.bind_eq_some_iff.1 hl
      obtain ⟨⟨ts', r2⟩, h5, he⟩ := Option.map_eq_some_iff.1 h4
      injection he with e1 e2
      subst e1
      have := hno _ _ h3
      rw [T.countL]
      omega

/-- A further part was read. -/
theorem LsI.step {w W W1 w2 w4 : World} {v v' : Value} {mm : Nat} {ss : List UInt8} {k : Int} {a b n c m' g : Nat} {A : Option Addr} {s' : List UInt8} {bad' : Bool} (h : LsI d m s bad w W v mm ss false)
    (hww : w.heap.size ≤ W.heap.size) (hg : g < w.heap.size) (hgr1 : W.grownBy W1 (some g)) (hgr2 : W1.grownBy w2 (some g)) (h44 : Lib.hasPrefix ss [44] = true) (hn : NdR d mm (Lib.trimPrefix ss [44]) false W1 w2 k a b n c m' A s' bad')
    (hst : Stp (w2.alloc (.cells #[.int .i64 k, .int .u64 (a : Int), .int .u64 (b : Int), .slice A n c] 25)) w4 v v')
    (ho : ∀ us, TRow 25 w.heap.size v us W → w4.ownsRow w.heap.size 25 4 v' (us.length + 1) (vCells us ++ [.int .i64 k, .int .u64 (a : Int), .int .u64 (b : Int), .slice A n c])) :
    LsI d m s bad w w4 v' m' s' bad' := by
  have hbf : bad = false := by
    cases hb : bad with
    | false => rfl
    | true => have := (h.bd hb).1; cases this
  refine ⟨Nat.le_trans (Nat.le_trans hn.len (trim_le _ _)) h.len, (fun hb => by rw [hbf] at hb; cases hb), fun hb => ?_⟩
  obtain ⟨h1, h2⟩ := h.ok hb
  obtain ⟨n1, n2⟩ := hn.ok rfl
  refine ⟨n1, ?_⟩
  rcases h2 with ⟨us, hT, -, hmm, h32, hspec⟩ | ⟨-, hx⟩
  · have hu : moreS (rdS d) (ss.length + 1) ss = (rdS d (Lib.trimPrefix ss [44])).bind fun (t, r') => (moreS (rdS d) ss.length r').map fun (ts, r2) => (t :: ts, r2) := by
      conv => lhs; unfold moreS
      rw [if_pos h44]
    have hlt := trim_lt h44
    rcases n2 with ⟨t, us2, e1, e2, e3, e4, e5, e6, hL, hS⟩ | ⟨hno, hbad⟩
    · subst e6
      have hT1 : TRow 25 w.heap.size v us W1 := hT.keep hgr1.size fun k hk1 hk2 => hgr1.block k hk2 (fun e => by injection e with e; omega)
      refine .inl ⟨us ++ [.node k a b A c us2], ?_, e3, ?_, by omega, ?_⟩
      · have hk2 : ∀ k, w.heap.size ≤ k → k < W1.heap.size → w2.heap[k]? = W1.heap[k]? := fun k hk1 hk2 => hgr2.block k hk2 (fun e => by injection e with e; omega)
        have hs2 := hgr2.size
        have hs1 := hgr1.size
        have hT2 : TRow 25 w.heap.size v us w2 := hT1.keep hs2 hk2
        have hb3 := below_new w2 (.cells #[.int .i64 k, .int .u64 (a : Int), .int .u64 (b : Int), .slice A us2.length c] 25)
        have hlt1 := own_lt hT1.own
        have hs4 := hst.grow.size
        have hrow : ∀ lo hi, (∀ g, v.ownBlock = some g → g < lo ∨ hi ≤ g) → hi ≤ w2.heap.size → ∀ g, v'.ownBlock = some g → g < lo ∨ hi ≤ g := by
          intro lo hi hv hh g' hg'
          rcases hst.row with e | ⟨q, e, hq⟩
          · exact hv g' (e ▸ hg')
          · rw [e] at hg'; injection hg' with hg'; have := hb3.size; omega
        have hkeep : ∀ lo hi, (∀ g, v.ownBlock = some g → g < lo ∨ hi ≤ g) → hi ≤ w2.heap.size → ∀ g, lo ≤ g → g < hi → w4.heap[g]? = w2.heap[g]? := by
          intro lo hi hv hh g' q1 q2
          refine (hst.grow.block g' (by have := hb3.size; omega) fun e => ?_).trans (hb3.block g' (by omega))
          rcases hv g' e.symm with h | h <;> omega
        refine ⟨by rw [List.length_append, vCells_append]; exact ho us hT, fun x hx => ?_⟩
        rcases List.mem_append.1 hx with hx | hx
        · obtain ⟨lo, hi, q1, q2, q3, q4, q5⟩ := hT2.el x hx
          have hk := hkeep lo hi q5 q2
          exact ⟨lo, hi, q1, by have := hb3.size; omega, q3.keep fun p hp hp2 => World.cell?_of_block (hk _ hp hp2), Shp.keepL x q3 q4 hk, hrow lo hi q5 q2⟩
        · obtain rfl : x = .node k a b A c us2 := by simpa using hx
          have hv : ∀ g, v.ownBlock = some g → g < W1.heap.size ∨ w2.heap.size ≤ g := fun g hg => .inl (hlt1 g hg)
          have hk := hkeep _ _ hv (Nat.le_refl _)
          exact ⟨W1.heap.size, w2.heap.size, by omega, by have := hb3.size; omega, hL.keep fun p hp hp2 => World.cell?_of_block (hk _ hp hp2), Shp.keepL _ hL hS hk, hrow _ _ hv (Nat.le_refl _)⟩
      · rw [e4, hmm, show V.absL (us ++ [.node k a b A c us2]) = V.absL us ++ [t] by rw [absL_map, List.map_append, ← absL_map, List.map_cons, List.map_nil, e5], countL_append]
        simp [T.countL]
        omega
      · rw [hspec, hu, e1]
        simp only [Option.bind_some]
        have hl := rdS_len d _ _ _ e1
        rw [moreS_fuel (rdS_len d) ss.length (s'.length + 1) s' (by omega) (Nat.le_refl _)]
        cases moreS (rdS d) (s'.length + 1) s' with
        | none => rfl
        | some x => simp [absL_map, e5]
    · refine .inr ⟨fun ts r hl => ?_, hbad⟩
      rw [hspec, hu] at hl
      obtain ⟨⟨ts1, r1⟩, hl, he⟩ := Option.map_eq_some_iff.1 hl
      obtain ⟨⟨t, r'⟩, h3, h4⟩ := Option.bind_eq_some_iff.1 hl
      obtain ⟨⟨ts', r2⟩, h5, he2⟩ := Option.map_eq_some_iff.1 h4
      injection he with e1 e2
      injection he2 with e3 e4
      subst e1 e3
      have := hno _ _ h3
      simp only [countL_append, T.countL]
      omega
  · cases hx

/-- The list ends. -/
theorem LsI.done {w W w' : World} {v : Value} {mm g : Nat} {ss : List UInt8} {bb : Bool} (h : LsI d m s bad w W v mm ss bb) (hg : g < w.heap.size) (hgr : W.grownBy w' (some g)) (hww : w.heap.size ≤ W.heap.size) (h44 : bb = false → Lib.hasPrefix ss [44] = false) :
    LsR d m s bad w w' v mm (Lib.trimPrefix ss [41]) (bb || !Lib.hasPrefix ss [41]) := by
  refine ⟨Nat.le_trans (trim_le _ _) h.len, fun hb => ⟨by rw [(h.bd hb).1]; rfl, (h.bd hb).2⟩, fun hb => ?_⟩
  obtain ⟨h1, h2⟩ := h.ok hb
  refine ⟨h1, ?_⟩
  rcases h2 with ⟨us, hT, rfl, hmm, h32, hspec⟩ | ⟨hno, rfl⟩
  · have hu : moreS (rdS d) (ss.length + 1) ss = if Lib.hasPrefix ss [41] then some ([], Lib.trimPrefix ss [41]) else none := by
      conv => lhs; unfold moreS
      rw [if_neg (by rw [h44 rfl]; simp)]
    rw [hu] at hspec
    cases h41 : Lib.hasPrefix ss [41] with
    | true =>
      rw [h41, if_pos rfl] at hspec
      exact .inl ⟨us, by rw [hspec]; simp, by omega, rfl, hmm, hT.keep hgr.size fun k hk1 hk2 => hgr.block k hk2 (fun e => by injection e with e; omega)⟩
    | false =>
      rw [h41, if_neg (by simp)] at hspec
      exact .inr ⟨(fun ts r hl => by rw [hspec] at hl; cases hl), rfl⟩
  · exact .inr ⟨hno, rfl⟩
/-- A list without parts. -/
theorem LsR.empty {w w' : World} (hm : bad = false → m ≤ 32) (h41 : Lib.hasPrefix (Lib.trimPrefix s [40]) [41] = true) :
    LsR d m s bad w w' (.slice none 0 0) m (Lib.trimPrefix (Lib.trimPrefix s [40]) [41]) (bad || !Lib.hasPrefix s [40]) := by
  refine ⟨Nat.le_trans (trim_le _ _) (trim_le _ _), fun hb => ⟨by rw [hb]; rfl, by omega⟩, fun hb => ?_⟩
  have hm := hm hb
  refine ⟨by omega, ?_⟩
  cases h40 : Lib.hasPrefix s [40] with
  | true => exact .inl ⟨[], by unfold listS; rw [if_pos h40, if_pos h41]; rfl, by simp [V.absL, T.countL]; omega, by rw [hb]; rfl, by simp [V.absL, T.countL], TRow.nil _ _ _⟩
  | false => exact .inr ⟨(fun ts r hl => by unfold listS at hl; rw [h40] at hl; cases hl), by simp⟩
end

end Go.Proofs.YtiijdacnfhiagaaGreatDoor
