/-
  Trees of layer 4 as plain data, and how one lies in memory. No program is named here.
-/
import Derived.Test.YtbcadnkdehknoaaGreatDoorMem
namespace Go.Proofs.YtbcadnkdehknoaaGreatDoor
open Go Go.RowKit
set_option linter.unusedVariables false

/-- A tree as plain data. -/
inductive T where
  | node (k : Int) (a b : Nat) (ps : List T)

/-- A tree as it lies: its parts at an address. -/
inductive V where
  | node (k : Int) (a b : Nat) (A : Option Addr) (c : Nat) (ps : List V)

theorem T.ind {P : T → Prop} (h : ∀ k a b ps, (∀ p ∈ ps, P p) → P (.node k a b ps)) : ∀ t, P t :=
  fun t => T.rec (motive_1 := P) (motive_2 := fun ps => ∀ p ∈ ps, P p) (fun k a b ps ih => h k a b ps ih) (by simp) (fun p ps h1 h2 q hq => by
    rcases List.mem_cons.1 hq with rfl | hq
    · exact h1
    · exact h2 q hq) t
theorem V.ind {P : V → Prop} (h : ∀ k a b A c ps, (∀ p ∈ ps, P p) → P (.node k a b A c ps)) : ∀ t, P t :=
  fun t => V.rec (motive_1 := P) (motive_2 := fun ps => ∀ p ∈ ps, P p) (fun k a b A c ps ih => h k a b A c ps ih) (by simp) (fun p ps h1 h2 q hq => by
    rcases List.mem_cons.1 hq with rfl | hq
    · exact h1
    · exact h2 q hq) t

namespace V
def kind : V → Int | node k _ _ _ _ _ => k
def a : V → Nat | node _ a _ _ _ _ => a
def b : V → Nat | node _ _ b _ _ _ => b
def addr : V → Option Addr | node _ _ _ A _ _ => A
def cap : V → Nat | node _ _ _ _ c _ => c
def parts : V → List V | node _ _ _ _ _ ps => ps
def sl (v : V) : Value := .slice v.addr v.parts.length v.cap
def cells (v : V) : List Value := [.int .i64 v.kind, .int .u64 (v.a : Int), .int .u64 (v.b : Int), v.sl]
def val (v : V) : Value := .agg #[.int .i64 v.kind, .int .u64 (v.a : Int), .int .u64 (v.b : Int), v.sl]
end V
def vCells (vs : List V) : List Value := vs.flatMap V.cells
theorem vCells_length (vs : List V) : (vCells vs).length = vs.length * 4 := by
  induction vs with
  | nil => rfl
  | cons x l ih => show (x.cells ++ vCells l).length = _; rw [List.length_append, ih]; simp [V.cells]; omega
theorem vCells_append (xs ys : List V) : vCells (xs ++ ys) = vCells xs ++ vCells ys := by simp [vCells]
theorem v_one (xs : List V) : ∀ u ∈ vCells xs, u.oneCell' = true := by
  intro u hu
  obtain ⟨f, _, hu⟩ := List.mem_flatMap.1 hu
  simp only [V.cells, List.mem_cons, List.not_mem_nil, or_false] at hu
  rcases hu with rfl | rfl | rfl | rfl <;> rfl
theorem vCells_get : ∀ (l : List V) (i j : Nat) (x : V), l[i]? = some x → j < 4 → (vCells l)[i * 4 + j]? = x.cells[j]? := by
  intro l
  induction l with
  | nil => intro i j x h; simp at h
  | cons y l ih =>
    intro i j x h hj
    show (y.cells ++ vCells l)[i * 4 + j]? = _
    have hy : y.cells.length = 4 := rfl
    cases i with
    | zero =>
      simp only [List.getElem?_cons_zero, Option.some.injEq] at h
      subst h
      rw [List.getElem?_append_left (by omega)]
      simp
    | succ i =>
      rw [List.getElem?_append_right (by omega), hy, show (i + 1) * 4 + j - 4 = i * 4 + j by omega]
      exact ih i j x (by simpa using h) hj

mutual
def V.abs : V → T
  | .node k a b _ _ ps => .node k a b (V.absL ps)
def V.absL : List V → List T
  | [] => []
  | p :: ps => p.abs :: V.absL ps
end
theorem absL_map (ps : List V) : V.absL ps = ps.map V.abs := by
  induction ps with
  | nil => rw [V.absL]; rfl
  | cons p ps ih => rw [V.absL, ih]; rfl

/-- The tree lies in blocks from lo on, below hi; its numbers are of 64 bits. -/
inductive Lies (w : World) (lo hi : Nat) : V → Prop
  | mk (k : Int) (a b : Nat) (A : Option Addr) (c : Nat) (ps : List V) : -9223372036854775808 ≤ k ∧ k ≤ 9223372036854775807 → a < 18446744073709551616 → b < 18446744073709551616 → Rd w hi 4 A ps.length (vCells ps) →
      ps.length ≤ c ∧ c ≤ 9223372036854775807 → (∀ ad, A = some ad → 0 < ps.length → lo ≤ ad.block) → (∀ p, p ∈ ps → Lies w lo hi p) → Lies w lo hi (.node k a b A c ps)

theorem Lies.keep {w w' : World} {lo hi : Nat} {v : V} (h : Lies w lo hi v) (hk : ∀ p : Addr, lo ≤ p.block → p.block < hi → w'.cell? p = w.cell? p) : Lies w' lo hi v := by
  induction h with
  | mk k a b A c ps h1 h2 h3 h4 h5 h6 _ ih =>
    refine .mk k a b A c ps h1 h2 h3 ⟨h4.len, fun hn => ?_⟩ h5 h6 ih
    obtain ⟨ad, e, hb, hc⟩ := h4.lies hn
    exact ⟨ad, e, hb, fun j u hu => (hk _ (by rw [add_block]; exact h6 ad e hn) (by rw [add_block]; exact hb)).trans (hc j u hu)⟩
theorem Lies.more {w : World} {lo hi lo' hi' : Nat} {v : V} (h : Lies w lo hi v) (h1 : lo' ≤ lo) (h2 : hi ≤ hi') : Lies w lo' hi' v := by
  induction h with
  | mk k a b A c ps g1 g2 g3 g4 g5 g6 _ ih => exact .mk k a b A c ps g1 g2 g3 (g4.more h2) g5 (fun ad e hn => Nat.le_trans h1 (g6 ad e hn)) ih
theorem Lies.under {w w' : World} {lo hi : Nat} {v : V} (h : Lies w lo hi v) (hb : Below hi w w') : Lies w' lo hi v := h.keep fun p _ hp => hb.cell hp

/-! ### What is asked of trees -/
namespace T
def kind : T → Int | node k _ _ _ => k
def a : T → Nat | node _ a _ _ => a
def b : T → Nat | node _ _ b _ => b
def parts : T → List T | node _ _ _ ps => ps
end T

mutual
def T.count : T → Nat
  | .node _ _ _ ps => 1 + T.countL ps
def T.countL : List T → Nat
  | [] => 0
  | p :: ps => p.count + T.countL ps
end
mutual
def T.depth : T → Nat
  | .node _ _ _ ps => T.depthL ps + 1
def T.depthL : List T → Nat
  | [] => 0
  | p :: ps => max p.depth (T.depthL ps)
end
theorem countL_append : ∀ (xs ys : List T), T.countL (xs ++ ys) = T.countL xs + T.countL ys
  | [], ys => by simp [T.countL]
  | x :: xs, ys => by rw [List.cons_append, T.countL, T.countL, countL_append xs ys]; omega
theorem depthL_append : ∀ (xs ys : List T), T.depthL (xs ++ ys) = max (T.depthL xs) (T.depthL ys)
  | [], ys => by simp [T.depthL]
  | x :: xs, ys => by rw [List.cons_append, T.depthL, T.depthL, depthL_append xs ys]; omega
theorem take_one {α : Type} {l : List α} {i : Nat} {x : α} (h : l[i]? = some x) : l.take (i + 1) = l.take i ++ [x] := by
  have hi := (List.getElem?_eq_some_iff.1 h).1
  rw [List.take_succ_eq_append_getElem hi]
  congr 2
  exact (List.getElem?_eq_some_iff.1 h).2
theorem absL_take {ps : List V} {i : Nat} {p : V} (h : ps[i]? = some p) : V.absL (ps.take (i + 1)) = V.absL (ps.take i) ++ [p.abs] := by
  rw [take_one h, absL_map, absL_map, List.map_append]; rfl
theorem countL_take {ps : List V} {i : Nat} {p : V} (h : ps[i]? = some p) : T.countL (V.absL (ps.take (i + 1))) = T.countL (V.absL (ps.take i)) + p.abs.count := by
  rw [absL_take h, countL_append]; simp [T.countL]
theorem depthL_take {ps : List V} {i : Nat} {p : V} (h : ps[i]? = some p) : T.depthL (V.absL (ps.take (i + 1))) = max (T.depthL (V.absL (ps.take i))) p.abs.depth := by
  rw [absL_take h, depthL_append]; simp [T.depthL]
theorem count_le {ps : List V} {i : Nat} {p : V} (h : ps[i]? = some p) : T.countL (V.absL (ps.take i)) + p.abs.count ≤ T.countL (V.absL ps) := by
  have h2 := List.take_append_drop (i + 1) ps
  have : T.countL (V.absL ps) = T.countL (V.absL (ps.take (i + 1))) + T.countL (V.absL (ps.drop (i + 1))) := by
    conv => lhs; rw [← h2]
    rw [absL_map, List.map_append, countL_append, ← absL_map, ← absL_map]
  rw [countL_take h] at this
  omega
theorem count_pos (t : T) : 0 < t.count := by cases t; rw [T.count]; omega
theorem depth_le_count : ∀ t : T, t.depth ≤ t.count := by
  refine T.ind fun k a b ps ih => ?_
  rw [T.depth, T.count]
  have : T.depthL ps ≤ T.countL ps := by
    induction ps with
    | nil => simp [T.depthL]
    | cons p ps ih2 =>
      rw [T.depthL, T.countL]
      have h1 := ih p (by simp)
      have h2 := ih2 fun q hq => ih q (by simp [hq])
      omega
  omega
theorem length_le_countL : ∀ ts : List T, ts.length ≤ T.countL ts
  | [] => by simp
  | t :: ts => by rw [T.countL, List.length_cons]; have := length_le_countL ts; have := count_pos t; omega
theorem absL_length (ps : List V) : (V.absL ps).length = ps.length := by rw [absL_map]; simp

/-- What a tree that lies says of its node, and of its i-th part. -/
theorem Lies.top {w : World} {lo hi : Nat} {v : V} (h : Lies w lo hi v) : (-9223372036854775808 ≤ v.kind ∧ v.kind ≤ 9223372036854775807) ∧ v.a < 18446744073709551616 ∧ v.b < 18446744073709551616 ∧ v.parts.length ≤ v.cap ∧ v.cap ≤ 9223372036854775807 ∧ Rd w hi 4 v.addr v.parts.length (vCells v.parts) := by
  cases h with
  | mk k a b A c ps h1 h2 h3 h4 h5 h6 h7 => exact ⟨h1, h2, h3, h5.1, h5.2, h4⟩
theorem Lies.part {w : World} {lo hi : Nat} {v p : V} (h : Lies w lo hi v) (hp : p ∈ v.parts) : Lies w lo hi p := by
  cases h with
  | mk k a b A c ps h1 h2 h3 h4 h5 h6 h7 => exact h7 p hp
theorem Lies.at {w : World} {lo hi i : Nat} {v : V} (h : Lies w lo hi v) (hi' : i < v.parts.length) : ∃ (b off : Nat) (p : V), v.addr = some ⟨b, off, none⟩ ∧ b < hi ∧ lo ≤ b ∧ v.parts[i]? = some p ∧ Lies w lo hi p ∧
    w.cell? ⟨b, off + i * 4, none⟩ = some (.int .i64 p.kind) ∧ w.cell? ⟨b, off + i * 4 + 1, none⟩ = some (.int .u64 (p.a : Int)) ∧ w.cell? ⟨b, off + i * 4 + 2, none⟩ = some (.int .u64 (p.b : Int)) ∧ w.cell? ⟨b, off + i * 4 + 3, none⟩ = some p.sl := by
  have hx : v.parts[i]? = some (v.parts[i]) := List.getElem?_eq_getElem hi'
  have hpart := h.part (List.mem_of_getElem? hx)
  cases h with
  | mk k a b A c ps h1 h2 h3 h4 h5 h6 h7 =>
    obtain ⟨ad, e, hb, hc⟩ := h4.lies (by show 0 < ps.length; have : i < ps.length := hi'; omega)
    have hl := h4.len
    have hps : i < ps.length := hi'
    obtain ⟨bb, off, spot⟩ := ad
    have h0 : ps[0]? = some (ps[0]'(by omega)) := List.getElem?_eq_getElem (by omega)
    have hspot : spot = none := World.cell?_spot (a := ⟨bb, off, spot⟩) (hc 0 _ (vCells_get ps 0 0 _ h0 (by omega)))
    subst hspot
    have hc4 : ∀ j u, j < 4 → (V.cells (ps[i]'hps))[j]? = some u → w.cell? ⟨bb, off + i * 4 + j, none⟩ = some u := by
      intro j u hj hu
      have := hc (i * 4 + j) u ((vCells_get ps i j _ hx hj).trans hu)
      rw [show (⟨bb, off, none⟩ : Addr).add (i * 4 + j) = ⟨bb, off + (i * 4 + j), none⟩ by unfold Addr.add; split <;> simp_all, ← Nat.add_assoc] at this
      exact this
    exact ⟨bb, off, _, e, hb, h6 _ e (by omega), hx, hpart, hc4 0 _ (by omega) rfl, hc4 1 _ (by omega) rfl, hc4 2 _ (by omega) rfl, hc4 3 _ (by omega) rfl⟩
theorem Lies.nth {w : World} {lo hi i : Nat} {k : Int} {a b c : Nat} {A : Option Addr} {ps : List V} (h : Lies w lo hi (.node k a b A c ps)) (hi' : i < ps.length) : ∃ (bb off : Nat) (p : V), A = some ⟨bb, off, none⟩ ∧ bb < hi ∧ lo ≤ bb ∧ ps[i]? = some p ∧ Lies w lo hi p ∧
    w.cell? ⟨bb, off + i * 4, none⟩ = some (.int .i64 p.kind) ∧ w.cell? ⟨bb, off + i * 4 + 1, none⟩ = some (.int .u64 (p.a : Int)) ∧ w.cell? ⟨bb, off + i * 4 + 2, none⟩ = some (.int .u64 (p.b : Int)) ∧ w.cell? ⟨bb, off + i * 4 + 3, none⟩ = some p.sl := h.at hi'
theorem Lies.caps {w : World} {lo hi : Nat} {k : Int} {a b c : Nat} {A : Option Addr} {ps : List V} (h : Lies w lo hi (.node k a b A c ps)) : ps.length ≤ c ∧ c ≤ 9223372036854775807 ∧ (-9223372036854775808 ≤ k ∧ k ≤ 9223372036854775807) ∧ a < 18446744073709551616 ∧ b < 18446744073709551616 :=
  let ⟨h1, h2, h3, h4, h5, _⟩ := h.top; ⟨h4, h5, h1, h2, h3⟩
theorem V.count_node (k : Int) (a b : Nat) (A : Option Addr) (c : Nat) (ps : List V) : (V.node k a b A c ps).abs.count = 1 + T.countL (V.absL ps) := by rw [V.abs, T.count]
theorem V.depth_node (k : Int) (a b : Nat) (A : Option Addr) (c : Nat) (ps : List V) : (V.node k a b A c ps).abs.depth = T.depthL (V.absL ps) + 1 := by rw [V.abs, T.depth]
theorem countL_le_take (ps : List V) (i : Nat) : T.countL (V.absL (ps.take i)) ≤ T.countL (V.absL ps) := by
  have h2 := List.take_append_drop i ps
  have : T.countL (V.absL ps) = T.countL (V.absL (ps.take i)) + T.countL (V.absL (ps.drop i)) := by
    conv => lhs; rw [← h2]
    rw [absL_map, List.map_append, countL_append, ← absL_map, ← absL_map]
  omega

end Go.Proofs.YtbcadnkdehknoaaGreatDoor
