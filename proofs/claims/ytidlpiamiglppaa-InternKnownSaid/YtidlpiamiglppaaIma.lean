/-
  A map that has the numbers of names, or of pairs; steps that write a table's own blocks alone.
-/
import Derived.Test.YtidlpiamiglppaaIba
import Derived.Maps.OwnSet
import Derived.Maps.Views
namespace Go.Proofs.Ytidlpiamiglppaa
open Go Go.RowKit Go.Maps
set_option linter.unusedVariables false

theorem numP_snoc_old {l : List PP} {p q : PP} (h : q ≠ p) : numP (l ++ [p]) q = numP l q := by
  unfold numP
  by_cases hq : q ∈ l
  · rw [if_pos hq, if_pos (by simp [hq]), List.idxOf_append, if_pos hq]
  · rw [if_neg hq, if_neg (by simp [hq, h])]
theorem hasP_snoc_old {l : List PP} {p q : PP} (h : q ≠ p) : hasP (l ++ [p]) q = hasP l q := by unfold hasP; simp [h]
theorem numP_snoc_new {l : List PP} {p : PP} (h : p ∉ l) : numP (l ++ [p]) p = l.length := by
  unfold numP; rw [if_pos (by simp), idx_new h]
theorem hasP_snoc_new (l : List PP) (p : PP) : hasP (l ++ [p]) p = true := by unfold hasP; simp

/-- Which blocks a step may write: those of S, and new ones. -/
structure Turns (S : Nat → Prop) (w w' : World) : Prop where
  os : w'.os = w.os
  tape : w'.tape = w.tape
  output : w'.output = w.output
  size : w.heap.size ≤ w'.heap.size
  block : ∀ k, k < w.heap.size → ¬ S k → w'.heap[k]? = w.heap[k]?
theorem Turns.refl (S : Nat → Prop) (w : World) : Turns S w w := ⟨rfl, rfl, rfl, Nat.le_refl _, fun _ _ _ => rfl⟩
theorem Turns.trans {S S' : Nat → Prop} {a b c : World} (h : Turns S a b) (k : Turns S' b c) (hs : ∀ k, S' k → S k ∨ a.heap.size ≤ k) : Turns S a c :=
  ⟨k.os.trans h.os, k.tape.trans h.tape, k.output.trans h.output, Nat.le_trans h.size k.size, fun i hi hn => by
    refine (k.block i (Nat.lt_of_lt_of_le hi h.size) fun hc => ?_).trans (h.block i hi hn)
    rcases hs i hc with h1 | h1
    · exact hn h1
    · omega⟩
theorem Turns.grown {S : Nat → Prop} {w w' : World} {row : Option Nat} (h : w.grownBy w' row) (hr : ∀ k, row = some k → S k ∨ w.heap.size ≤ k) : Turns S w w' :=
  ⟨h.os, h.tape, h.output, h.size, fun i hi hn => h.block i hi (fun e => by
    rcases hr i e.symm with h1 | h1
    · exact hn h1
    · omega)⟩
theorem Turns.below {S : Nat → Prop} {w w' : World} (h : Turns S w w') {B : Nat} (hB : B ≤ w.heap.size) (hs : ∀ k, S k → B ≤ k) : Below B w w' :=
  ⟨h.os, h.tape, h.output, h.size, fun i hi => h.block i (by omega) (fun hc => by have := hs i hc; omega)⟩
theorem Turns.of_below {S : Nat → Prop} {w w' : World} (h : Below w.heap.size w w') : Turns S w w' := ⟨h.os, h.tape, h.output, h.size, fun i hi _ => h.block i hi⟩
theorem Turns.drewN {S : Nat → Prop} {w w' : World} (h : Turns S w w') (q : Nat) : Turns S w (w'.drewN q) := ⟨h.os, h.tape, h.output, h.size, h.block⟩
theorem Turns.mono {S S' : Nat → Prop} {w w' : World} (h : Turns S w w') (hs : ∀ k, S k → S' k) : Turns S' w w' := ⟨h.os, h.tape, h.output, h.size, fun i hi hn => h.block i hi (fun hc => hn (hs i hc))⟩
theorem Turns.cell {S : Nat → Prop} {w w' : World} (h : Turns S w w') {p : Addr} (hp : p.block < w.heap.size) (hn : ¬ S p.block) : w'.cell? p = w.cell? p := World.cell?_of_block (h.block _ hp hn)
theorem Turns.rd {S : Nat → Prop} {w w' : World} (h : Turns S w w') {B size n : Nat} {A : Option Addr} {xs : List Value} (r : Rd w B size A n xs) (hB : B ≤ w.heap.size) (hn : ∀ k, k < B → ¬ S k) : Rd w' B size A n xs :=
  r.keep fun p hp => h.cell (by omega) (hn _ hp)

/-- What a table's keys are: the key's type, the map's, a key as a value, which there are. -/
structure Kd where
  K : TypeId
  M : TypeId
  kv : PP → Value
  Q : PP → Prop
structure Kd.OK (k : Kd) : Prop where
  law : Keyed Try.prog k.K
  ht : Try.prog.underlying k.M = some (.map k.K 3)
  key : ∀ p, k.Q p → ∃ kl, keyOf Try.prog k.K (k.kv p) = some kl
  inj : ∀ p q, k.Q p → k.Q q → k.kv p = k.kv q → p = q

theorem zero_int (w : World) : (zeroValue 3).run Try.prog w = .ok (.int .i64 0) w := by kernel_rfl

/-- The numbers of ps are in the map m (nil: there are none). -/
def MapHas (k : Kd) (w : World) (m : Option Nat) (ps : List PP) : Prop :=
  (m = none ∧ ps = []) ∨ ∃ b, ∃ D : DataW Unit, m = some b ∧ w.ownsMap Try.prog k.K (plainElem Try.prog 3) b ps.length D ∧
    ∀ p kl, k.Q p → keyOf Try.prog k.K (k.kv p) = some kl → Maps.has D kl = hasP ps p ∧ D.atKey kl (.lit (.int .i64 0)) = .lit (.int .i64 (numP ps p : Int))

theorem MapHas.nil (k : Kd) (w : World) : MapHas k w none [] := .inl ⟨rfl, rfl⟩
theorem MapHas.made (k : Kd) (w : World) : MapHas k (w.alloc (.map #[] 0)) (some w.heap.size) [] :=
  .inr ⟨_, .map [], rfl, World.ownsMap_made w _ _ _, fun p kl _ _ => ⟨rfl, rfl⟩⟩
theorem MapHas.keep {k : Kd} {w w' : World} {m : Option Nat} {ps : List PP} (h : MapHas k w m ps) (hk : ∀ b, m = some b → w'.heap[b]? = w.heap[b]?) : MapHas k w' m ps := by
  rcases h with h | ⟨b, D, rfl, ⟨es, clock, hb, F, hs, hD⟩, h2⟩
  · exact .inl h
  · exact .inr ⟨b, D, rfl, ⟨es, clock, (hk b rfl).trans hb, F, hs, hD⟩, h2⟩
theorem MapHas.lt {k : Kd} {w : World} {m : Option Nat} {ps : List PP} (h : MapHas k w m ps) : ∀ b, m = some b → b < w.heap.size := by
  rcases h with ⟨rfl, _⟩ | ⟨b, D, rfl, h, _⟩
  · intro b h; cases h
  · intro b' e; cases e; exact h.lt
theorem MapHas.is {k : Kd} {w : World} {b : Nat} {ps : List PP} (h : MapHas k w (some b) ps) : ∃ es clock, w.heap[b]? = some (.map es clock) := by
  rcases h with ⟨h, _⟩ | ⟨b, D, e, ⟨es, clock, hb, _⟩, _⟩
  · cases h
  · cases e; exact ⟨es, clock, hb⟩

theorem MapHas.look {k : Kd} (ok : k.OK) {w : World} {m : Option Nat} {ps : List PP} (h : MapHas k w m ps) {p : PP} (hp : k.Q p) :
    (Instr.lookup k.M (.map m) (k.kv p) true).run Try.prog w = .ok (.tuple #[.int .i64 (numP ps p : Int), .bool (hasP ps p)]) w := by
  obtain ⟨kl, hkey⟩ := ok.key p hp
  rcases h with ⟨rfl, rfl⟩ | ⟨b, D, rfl, h, h2⟩
  · rw [Maps.look_nil true ok.law ok.ht (zero_int w) hkey]; rfl
  · obtain ⟨v, ps', hrun, hv⟩ := h.look_ok ok.law ok.ht (zero_int w) (plainElem_int Try.underlying3 (by decide)) hkey
    obtain ⟨c, rfl, hc, _⟩ := plainElem_int_inv Try.underlying3 hv
    have hc := congrArg Prod.fst hc
    obtain ⟨e1, e2⟩ := h2 p kl hp hkey
    rw [e2] at hc
    simp only [DataW.lit.injEq, Lit.int.injEq, true_and] at hc
    rw [hrun, e1, ← hc]

theorem MapHas.put {k : Kd} (ok : k.OK) {w' : World} {b : Nat} {ps : List PP} {D : DataW Unit} {p : PP} {kl : Lit} (hp : k.Q p) (hkey : keyOf Try.prog k.K (k.kv p) = some kl) (hn : p ∉ ps) (hM : IsMap D)
    (h2 : ∀ p kl, k.Q p → keyOf Try.prog k.K (k.kv p) = some kl → Maps.has D kl = hasP ps p ∧ D.atKey kl (.lit (.int .i64 0)) = .lit (.int .i64 (numP ps p : Int)))
    (h1 : w'.ownsMap Try.prog k.K (plainElem Try.prog 3) b (ps.length + 1) (D.put kl (.lit (.int .i64 (ps.length : Int))))) : MapHas k w' (some b) (ps ++ [p]) := by
  refine .inr ⟨b, _, rfl, by rw [List.length_append]; exact h1, fun q kq hq hkq => ?_⟩
  by_cases e : q = p
  · subst e
    obtain rfl : kl = kq := Option.some.inj (hkey.symm.trans hkq)
    rw [has_put_same hM (ok.law.key hkey), atKey_put_same hM (ok.law.key hkey), hasP_snoc_new, numP_snoc_new hn]
    exact ⟨rfl, rfl⟩
  · have hne : kq ≠ kl := by
      rintro rfl
      exact e (ok.inj _ _ hq hp (ok.law.inj hkq hkey))
    rw [has_put_other hne, atKey_put_other hne, hasP_snoc_old e, numP_snoc_old e]
    exact h2 q kq hq hkq

/-- 'm[k] = n' at the operation. -/
theorem wpList_put {kd : Kd} (ok : kd.OK) (w : World) {ops : Array Oper} {rest : List Oper} {o : Oper} {a : Act} {Q : Exit → Act → World → Prop}
    (hg : o.guard = none) (m x v : Operand) (hop : o.op = Op.mapUpdate kd.M m x v) (b : Nat) (ps : List PP) (p : PP)
    (hm : a.eval m = .map (some b)) (hx : a.eval x = kd.kv p) (hv : a.eval v = .int .i64 (ps.length : Int)) (h : MapHas kd w (some b) ps) (hp : kd.Q p) (hn : p ∉ ps) (hl : ps.length ≤ 1000000000)
    (hK : ∀ w', MapHas kd w' (some b) (ps ++ [p]) → w.grownBy w' (some b) → wpList Try.prog ops Q rest (a.put o.dst undef) w') : wpList Try.prog ops Q (o :: rest) a w := by
  obtain ⟨kl, hkey⟩ := ok.key p hp
  rcases h with ⟨h, _⟩ | ⟨b', D, e, h, h2⟩
  · cases h
  · cases e
    refine wpList_mapUpdate_own w hg m x v kd.M hop kd.K 3 ok.law ok.ht _ b ps.length D hm h (by unfold maxLen; omega) _ _ kl hx hv hkey _ [] (plainElem_int Try.underlying3 (WalkArith.wf_i64 (by omega))) fun w' h1 hgr => hK w' ?_ hgr
    exact MapHas.put ok hp hkey hn h.isMap h2 h1

end Go.Proofs.Ytidlpiamiglppaa
