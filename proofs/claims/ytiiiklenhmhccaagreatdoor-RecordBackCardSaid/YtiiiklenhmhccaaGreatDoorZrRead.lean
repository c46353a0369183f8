/-
  Layer 4: what bytes are taken as stands as those bytes, plainly.
  Layer 5: the record of a payload, plainly: part by part; it is the record that stands so.
  Contracts of the program's Reader: Err, At, Left, fail, Number, for every input.
-/
import Derived.Test.YtiiiklenhmhccaaGreatDoorZrSup
import Derived.Test.YtiiiklenhmhccaaGreatDoorZrTqn
import Derived.Test.YtiiiklenhmhccaaGreatDoorZpVpm
import Derived.Test.YtiiiklenhmhccaaGreatDoorZpVpu
import Derived.Deep.RegionHeld3
import Derived.Test.YtiiiklenhmhccaaGreatDoorZpVfd

namespace Go.Proofs.YtiiiklenhmhccaaGreatDoor
open Go Go.RowKit
set_option linter.unusedVariables false
theorem numT_some {l : List Nat} (hb : ∀ x ∈ l, x < 256) {a v r : Nat} (h : numT l a = some (v, r)) : v < 18446744073709551616 ∧ l.drop a = enc v ++ l.drop r ∧ r = a + (enc v).length ∧ r ≤ l.length := by
  have hlt := numT_lt hb h
  unfold numT at h
  split at h
  · rename_i hz
    injection h with h
    injection h with h1 h2
    unfold getS at hz h1 h2
    split at hz
    · cases hz
    · rename_i ho
      rw [if_neg ho] at h1 h2
      rw [Int.toNat_natCast] at hz h1 h2
      cases hg : got (l.drop a) with
      | num x k =>
        rw [hg] at h1 h2
        simp only [ans] at h1 h2
        subst h1 h2
        obtain ⟨q1, q2, q3⟩ := got_put (fun x hx => hb x (List.mem_of_mem_drop hx)) hg
        rw [List.length_drop] at q1
        have hlen : (enc x).length = k := by rw [q2, List.length_take, List.length_drop]; omega
        refine ⟨q3, ?_, by omega, by omega⟩
        rw [q2, ← List.drop_drop, List.take_append_drop]
      | err e =>
        rw [hg] at hz
        simp only [ans] at hz
        rcases scan_err4 _ _ _ _ _ hg with h | h <;> omega
  · cases h
theorem numsT_some {l : List Nat} (hb : ∀ x ∈ l, x < 256) : ∀ (j a : Nat) (vs : List Nat) (r : Nat), numsT l j a = some (vs, r) → vs.length = j ∧ (∀ v ∈ vs, v < 18446744073709551616) ∧ l.drop a = vs.flatMap enc ++ l.drop r
  | 0, a, vs, r, h => by
    injection h with h
    injection h with h1 h2
    subst h1 h2
    exact ⟨rfl, by simp, by simp⟩
  | j + 1, a, vs, r, h => by
    obtain ⟨⟨us, b⟩, h1, h2⟩ := Option.bind_eq_some_iff.1 (show (numsT l j a).bind _ = some (vs, r) from h)
    obtain ⟨⟨v, c⟩, h3, h4⟩ := Option.map_eq_some_iff.1 h2
    injection h4 with h4 h5
    subst h4 h5
    obtain ⟨e1, e2, e3⟩ := numsT_some hb j a us b h1
    obtain ⟨f1, f2, -, -⟩ := numT_some hb h3
    refine ⟨by simp [e1], fun x hx => ?_, ?_⟩
    · rcases List.mem_append.1 hx with hx | hx
      · exact e2 x hx
      · obtain rfl : x = v := by simpa using hx
        exact f1
    · rw [e3, f2]; simp
theorem manyT_some {l : List Nat} {f : Nat → Option (T × Nat)} (hf : ∀ a t r, f a = some (t, r) → t.okN ∧ l.drop a = t.stand ++ l.drop r) : ∀ (n a : Nat) (ts : List T) (r : Nat), manyT f n a = some (ts, r) → ts.length = n ∧ T.okL ts ∧ l.drop a = T.standL ts ++ l.drop r
  | 0, a, ts, r, h => by
    injection h with h
    injection h with h1 h2
    subst h1 h2
    exact ⟨rfl, by simp [T.okL], by simp [T.standL]⟩
  | n + 1, a, ts, r, h => by
    obtain ⟨⟨t, b⟩, h1, h2⟩ := Option.bind_eq_some_iff.1 (show (f a).bind _ = some (ts, r) from h)
    obtain ⟨⟨us, c⟩, h3, h4⟩ := Option.map_eq_some_iff.1 h2
    injection h4 with h4 h5
    subst h4 h5
    obtain ⟨e1, e2⟩ := hf a t b h1
    obtain ⟨f1, f2, f3⟩ := manyT_some hf n b us c h3
    exact ⟨by simp [f1], by rw [T.okL]; exact ⟨e1, f2⟩, by rw [e2, f3, T.standL, List.append_assoc]⟩
theorem tk_some {l : List Nat} (hb : ∀ x ∈ l, x < 256) : ∀ (d a : Nat) (t : T) (r : Nat), tkS l d a = some (t, r) → t.okN ∧ l.drop a = t.stand ++ l.drop r
  | 0, a, t, r, h => by cases h
  | d + 1, a, t, r, h => by
    obtain ⟨kd, b, hk⟩ : ∃ kd b, kindT l a = (kd, b) := ⟨_, _, rfl⟩
    by_cases h0 : kd = 0 ∨ 7 < kd
    · exfalso
      have : tkS l (d + 1) a = none := by
        show (if (kindT l a).1 = 0 ∨ 7 < (kindT l a).1 then none else _) = _
        rw [hk, if_pos h0]
      rw [this] at h
      cases h
    rw [tkS_succ hk (by omega) (by omega)] at h
    obtain ⟨⟨vs, r1⟩, h1, h⟩ := Option.bind_eq_some_iff.1 h
    obtain ⟨⟨n, r2⟩, h2, h⟩ := Option.bind_eq_some_iff.1 h
    obtain ⟨⟨ts, r3⟩, h3, h4⟩ := Option.map_eq_some_iff.1 h
    injection h4 with h4 h5
    subst h4 h5
    obtain ⟨e1, e2, e3⟩ := numsT_some hb _ _ _ _ h1
    obtain ⟨f1, f2, f3⟩ := manyT_some (fun a t r => tk_some hb d a t r) _ _ _ _ h3
    simp only at e1 e2 e3 f1 f2 f3 h2
    have hkb : l.drop a = kd :: l.drop b := by
      unfold kindT at hk
      split at hk
      · rename_i hl
        injection hk with hk1 hk2
        subst hk2
        rw [List.drop_eq_getElem_cons hl]
        congr 1
        rw [← hk1, List.getD_eq_getElem?_getD, List.getElem?_eq_getElem hl]
        rfl
      · injection hk with hk1 hk2
        omega
    have hc : l.drop r1 = (if (6 : Int) ≤ (kd : Int) then enc n else []) ++ l.drop r2 ∧ n < 18446744073709551616 := by
      unfold cntT at h2
      by_cases h6 : 6 ≤ kd
      · rw [if_pos h6] at h2
        obtain ⟨g1, g2, -, -⟩ := numT_some hb h2
        rw [if_pos (by omega)]
        exact ⟨g2, g1⟩
      · rw [if_neg h6] at h2
        injection h2 with h2
        injection h2 with h2 h7
        rw [if_neg (by omega), ← h7]
        refine ⟨by simp, ?_⟩
        rw [← h2]; split <;> omega
    have hgd : ∀ i, vs.getD i 0 < 18446744073709551616 := fun i => by
      rw [List.getD_eq_getElem?_getD]
      cases hg : vs[i]? with
      | none => simp
      | some x => exact e2 x (List.mem_of_getElem? hg)
    refine ⟨by rw [T.okN]; exact ⟨hgd 0, hgd 1, by rw [f1]; exact hc.2, f2⟩, ?_⟩
    rw [hkb, e3, hc.1, f3, T.stand, Int.toNat_natCast, f1]
    have hn : numsL (kd : Int) (vs.getD 0 0) (vs.getD 1 0) = vs := by
      unfold numsL
      rw [← e1]
      match vs, e1 with
      | [], _ => rfl
      | [x], _ => rfl
      | [x, y], _ => rfl
      | x :: y :: z :: zs, e1 =>
        exfalso
        have : numN (kd : Int) ≤ 2 := by unfold numN; split; omega; split <;> omega
        simp at e1
        omega
    rw [hn]
    simp
theorem parse_some {l : List Nat} (hb : ∀ x ∈ l, x < 256) {t : T} (h : parseT l = some t) : t.rightB = true ∧ t.okN ∧ l = t.stand := by
  unfold parseT at h
  obtain ⟨⟨t', r⟩, h1, h2⟩ := Option.bind_eq_some_iff.1 h
  simp only at h2
  split at h2
  · rename_i hr
    injection h2 with h2
    subst h2
    unfold takeT at h1
    obtain ⟨⟨t2, r2⟩, h3, h4⟩ := Option.bind_eq_some_iff.1 h1
    simp only at h4
    split at h4
    · rename_i hright
      injection h4 with h4
      injection h4 with h4 h5
      subst h4 h5
      unfold tkI at h3
      rw [if_neg (by omega)] at h3
      obtain ⟨e1, e2⟩ := tk_some hb _ _ _ _ h3
      refine ⟨hright, e1, ?_⟩
      rw [hr, List.drop_length, List.append_nil] at e2
      simpa using e2
    · cases h4
  · cases h2
end Go.Proofs.YtiiiklenhmhccaaGreatDoor

namespace Go.Proofs.YtiiiklenhmhccaaGreatDoor
open Go Go.RowKit
set_option linter.unusedVariables false
def txtT (l : List Nat) (a : Nat) : Option (List Nat × Nat) := (numT l a).bind fun x => if (l.length : Int) - x.2 < x.1 then none else some ((l.drop x.2).take x.1, x.2 + x.1)
def entT (l : List Nat) (a : Nat) : Option (En × Nat) :=
  (numT l a).bind fun x => (numT l x.2).bind fun y => (numT l y.2).bind fun z => if z.2 < l.length ∧ l.getD z.2 0 ≤ 1 then some (⟨x.1, y.1, z.1, l.getD z.2 0 == 1⟩, z.2 + 1) else none
def entsT (l : List Nat) : Nat → Nat → Option (List En × Nat)
  | 0, a => some ([], a)
  | n + 1, a => (entT l a).bind fun x => (entsT l n x.2).map fun y => (x.1 :: y.1, y.2)
def Rc.takeP (q : Rc) (l : List Nat) (a i : Nat) : Option (Rc × Nat) :=
  if i = 0 then (numT l a).map fun x => ({ q with t := x.1 }, x.2)
  else if i = 1 then (numT l a).map fun x => ({ q with x := x.1 }, x.2)
  else if i = 2 then (numT l a).bind fun x => (numT l x.2).map fun y => ({ q with w := x.1, n := y.1 }, y.2)
  else if i = 3 then (numT l a).map fun x => ({ q with v := x.1 }, x.2)
  else if i = 4 then (txtT l a).bind fun x => (parseT x.1).map fun t => ({ q with p := t }, x.2)
  else (numT l a).bind fun x => (entsT l x.1 x.2).map fun y => ({ q with es := y.1 }, y.2)
def goT (l : List Nat) : Rc → Nat → List Nat → Option (Rc × Nat)
  | q, a, [] => some (q, a)
  | q, a, i :: is => (q.takeP l a i).bind fun x => goT l x.1 x.2 is
def payB (k : Nat) (l : List Nat) : Option Rc := (goT l (Rc.zero k) 0 (partsN k 6)).bind fun x => if x.2 = l.length then some x.1 else none
theorem goT_snoc (l : List Nat) (i : Nat) : ∀ (is : List Nat) (q : Rc) (a : Nat), goT l q a (is ++ [i]) = (goT l q a is).bind fun x => x.1.takeP l x.2 i
  | [], q, a => by
    show (q.takeP l a i).bind _ = _
    rw [show goT l q a [] = some (q, a) from rfl, Option.bind_some]
    cases q.takeP l a i with
    | none => rfl
    | some x => rfl
  | j :: is, q, a => by
    show (q.takeP l a j).bind _ = ((q.takeP l a j).bind _).bind _
    cases q.takeP l a j with
    | none => rfl
    | some x => exact goT_snoc l i is x.1 x.2
def Rc.upd (q r : Rc) (i : Nat) : Rc := if i = 0 then { q with t := r.t } else if i = 1 then { q with x := r.x } else if i = 2 then { q with w := r.w, n := r.n } else if i = 3 then { q with v := r.v } else if i = 4 then { q with p := r.p } else { q with es := r.es }
def Rc.okP (r : Rc) (i : Nat) : Prop := if i = 0 then r.t < 18446744073709551616 else if i = 1 then r.x < 18446744073709551616 else if i = 2 then r.w < 18446744073709551616 ∧ r.n < 18446744073709551616 else if i = 3 then r.v < 18446744073709551616 else if i = 4 then r.p.okN else ∀ e ∈ r.es, e.ok
theorem okR_of {r : Rc} (h : ∀ i, i < 6 → r.okP i) : r.okR :=
  have h2 : r.w < 18446744073709551616 ∧ r.n < 18446744073709551616 := h 2 (by omega)
  ⟨h 0 (by omega), h 1 (by omega), h2.1, h2.2, h 3 (by omega), h 4 (by omega), h 5 (by omega)⟩
theorem Rc.okR.part {r : Rc} (h : r.okR) (i : Nat) : r.okP i := by
  unfold Rc.okP
  split; exact h.t
  split; exact h.x
  split; exact ⟨h.w, h.n⟩
  split; exact h.v
  split; exact h.p
  exact h.es
theorem six {i : Nat} (h : i < 6) : i = 0 ∨ i = 1 ∨ i = 2 ∨ i = 3 ∨ i = 4 ∨ i = 5 := by omega
theorem upd_kind (q r : Rc) (i : Nat) : (q.upd r i).kind = q.kind := by
  unfold Rc.upd
  split; rfl
  split; rfl
  split; rfl
  split; rfl
  split <;> rfl
theorem upd_else (q r : Rc) {i j : Nat} (hi : i < 6) (hj : j < 6) (h : j ≠ i) : (q.upd r i).standP j = q.standP j ∧ (q.upd r i).emptyB j = q.emptyB j ∧ ((q.upd r i).okP j ↔ q.okP j) ∧ (j = 4 → (q.upd r i).p = q.p) := by
  rcases six hi with rfl | rfl | rfl | rfl | rfl | rfl <;> rcases six hj with rfl | rfl | rfl | rfl | rfl | rfl <;>
    first
    | exact absurd rfl h
    | exact ⟨rfl, rfl, Iff.rfl, fun _ => rfl⟩
    | exact ⟨rfl, rfl, Iff.rfl, fun h => absurd h (by omega)⟩
theorem entT_some {l : List Nat} (hb : ∀ x ∈ l, x < 256) {a r : Nat} {e : En} (h : entT l a = some (e, r)) : e.ok ∧ l.drop a = e.stand ++ l.drop r ∧ r ≤ l.length ∧ a + 4 ≤ r := by
  obtain ⟨⟨x, a1⟩, h1, h⟩ := Option.bind_eq_some_iff.1 h
  obtain ⟨⟨y, a2⟩, h2, h⟩ := Option.bind_eq_some_iff.1 h
  obtain ⟨⟨z, a3⟩, h3, h⟩ := Option.bind_eq_some_iff.1 h
  simp only at h2 h3 h
  split at h
  · rename_i hc
    injection h with h
    injection h with h4 h5
    subst h4 h5
    obtain ⟨e1, e2, e3, -⟩ := numT_some hb h1
    obtain ⟨f1, f2, f3, -⟩ := numT_some hb h2
    obtain ⟨g1, g2, g3, -⟩ := numT_some hb h3
    have p1 := enc_pos x
    have p2 := enc_pos y
    have p3 := enc_pos z
    refine ⟨⟨by show (x : Int) ≤ _; omega, by show (y : Int) ≤ _; omega, by show (z : Int) ≤ _; omega⟩, ?_, by omega, by omega⟩
    rw [e2, f2, g2, List.drop_eq_getElem_cons hc.1]
    have hm : (if (l.getD a3 0 == 1) = true then 1 else 0 : Nat) = l[a3] := by
      have hx : l.getD a3 0 = l[a3] := by rw [List.getD_eq_getElem?_getD, List.getElem?_eq_getElem hc.1]; rfl
      have h1 := hc.2
      rw [hx] at h1 ⊢
      by_cases e : l[a3] = 1
      · simp [e]
      · have : l[a3] = 0 := by omega
        simp [this]
    show _ = (encs [x, y, z] ++ [if (l.getD a3 0 == 1) = true then 1 else 0]) ++ _
    rw [hm]
    simp [encs]
  · cases h
theorem entsT_some {l : List Nat} (hb : ∀ x ∈ l, x < 256) : ∀ (n a : Nat) (es : List En) (r : Nat), a ≤ l.length → entsT l n a = some (es, r) → es.length = n ∧ (∀ e ∈ es, e.ok) ∧ l.drop a = es.flatMap En.stand ++ l.drop r ∧ r ≤ l.length ∧ a + 4 * n ≤ r
  | 0, a, es, r, ha, h => by
    injection h with h
    injection h with h1 h2
    subst h1 h2
    exact ⟨rfl, by simp, by simp, ha, by omega⟩
  | n + 1, a, es, r, ha, h => by
    obtain ⟨⟨e, a1⟩, h1, h2⟩ := Option.bind_eq_some_iff.1 (show (entT l a).bind _ = some (es, r) from h)
    obtain ⟨⟨fs, a2⟩, h3, h4⟩ := Option.map_eq_some_iff.1 h2
    injection h4 with h4 h5
    subst h4 h5
    obtain ⟨e1, e2, e3, e4⟩ := entT_some hb h1
    obtain ⟨f1, f2, f3, f4, f5⟩ := entsT_some hb n a1 fs a2 e3 h3
    refine ⟨by simp [f1], fun x hx => ?_, ?_, f4, by show a + 4 * (n + 1) ≤ a2; omega⟩
    · rcases List.mem_cons.1 hx with rfl | hx
      · exact e1
      · exact f2 x hx
    · rw [e2, f3]; simp
theorem txtT_some {l m : List Nat} (hb : ∀ x ∈ l, x < 256) {a r : Nat} (h : txtT l a = some (m, r)) : l.drop a = enc m.length ++ m ++ l.drop r ∧ r ≤ l.length ∧ (∀ x ∈ m, x < 256) := by
  obtain ⟨⟨v, a1⟩, h1, h⟩ := Option.bind_eq_some_iff.1 h
  simp only at h
  split at h
  · cases h
  · rename_i hc
    injection h with h
    injection h with h2 h3
    subst h2 h3
    obtain ⟨e1, e2, -, e4⟩ := numT_some hb h1
    have hl : ((l.drop a1).take v).length = v := by rw [List.length_take, List.length_drop]; omega
    refine ⟨?_, by omega, fun x hx => hb x (List.mem_of_mem_drop (List.mem_of_mem_take hx))⟩
    rw [hl, e2, ← List.drop_drop, List.append_assoc, List.take_append_drop]
theorem takeP_some {q q' : Rc} {l : List Nat} {a r i : Nat} (hi : i < 6) (hb : ∀ x ∈ l, x < 256) (ha : a ≤ l.length) (h : q.takeP l a i = some (q', r)) :
    q' = q.upd q' i ∧ l.drop a = q'.standP i ++ l.drop r ∧ r ≤ l.length ∧ q'.okP i ∧ (i = 4 → q'.p.rightB = true) := by
  rcases six hi with rfl | rfl | rfl | rfl | rfl | rfl
  · obtain ⟨⟨v, a1⟩, h1, h2⟩ := Option.map_eq_some_iff.1 (show (numT l a).map _ = some (q', r) from h)
    injection h2 with h2 h3
    subst h2 h3
    obtain ⟨e1, e2, -, e4⟩ := numT_some hb h1
    exact ⟨rfl, e2, e4, e1, fun h => by cases h⟩
  · obtain ⟨⟨v, a1⟩, h1, h2⟩ := Option.map_eq_some_iff.1 (show (numT l a).map _ = some (q', r) from h)
    injection h2 with h2 h3
    subst h2 h3
    obtain ⟨e1, e2, -, e4⟩ := numT_some hb h1
    exact ⟨rfl, e2, e4, e1, fun h => by cases h⟩
  · obtain ⟨⟨v, a1⟩, h1, h2⟩ := Option.bind_eq_some_iff.1 (show (numT l a).bind _ = some (q', r) from h)
    obtain ⟨⟨v2, a2⟩, h3, h4⟩ := Option.map_eq_some_iff.1 h2
    injection h4 with h4 h5
    subst h4 h5
    obtain ⟨e1, e2, -, e4⟩ := numT_some hb h1
    obtain ⟨f1, f2, -, f4⟩ := numT_some hb h3
    refine ⟨rfl, ?_, f4, ⟨e1, f1⟩, fun h => by cases h⟩
    show _ = encs [v, v2] ++ _
    rw [e2, f2]
    simp [encs]
  · obtain ⟨⟨v, a1⟩, h1, h2⟩ := Option.map_eq_some_iff.1 (show (numT l a).map _ = some (q', r) from h)
    injection h2 with h2 h3
    subst h2 h3
    obtain ⟨e1, e2, -, e4⟩ := numT_some hb h1
    exact ⟨rfl, e2, e4, e1, fun h => by cases h⟩
  · obtain ⟨⟨m, a1⟩, h1, h2⟩ := Option.bind_eq_some_iff.1 (show (txtT l a).bind _ = some (q', r) from h)
    obtain ⟨t, h3, h4⟩ := Option.map_eq_some_iff.1 h2
    injection h4 with h4 h5
    subst h4 h5
    obtain ⟨e1, e2, e3⟩ := txtT_some hb h1
    obtain ⟨f1, f2, f3⟩ := parse_some e3 h3
    have hp : t.put = m := by unfold T.put; rw [if_pos f1]; exact f3.symm
    refine ⟨rfl, ?_, e2, f2, fun _ => f1⟩
    show _ = (enc t.put.length ++ t.put) ++ _
    rw [hp]
    exact e1
  · obtain ⟨⟨v, a1⟩, h1, h2⟩ := Option.bind_eq_some_iff.1 (show (numT l a).bind _ = some (q', r) from h)
    obtain ⟨⟨es, a2⟩, h3, h4⟩ := Option.map_eq_some_iff.1 h2
    injection h4 with h4 h5
    subst h4 h5
    obtain ⟨e1, e2, -, e4⟩ := numT_some hb h1
    obtain ⟨f1, f2, f3, f4, -⟩ := entsT_some hb _ _ _ _ e4 h3
    refine ⟨rfl, ?_, f4, f2, fun h => by cases h⟩
    show _ = (enc es.length ++ es.flatMap En.stand) ++ _
    rw [e2, f1, f3]
    simp
theorem goT_some {l : List Nat} (hb : ∀ x ∈ l, x < 256) : ∀ (is : List Nat) (q r : Rc) (a b : Nat), is.Nodup → (∀ i ∈ is, i < 6) → a ≤ l.length → goT l q a is = some (r, b) →
    r.kind = q.kind ∧ l.drop a = r.standN is ++ l.drop b ∧ b ≤ l.length ∧ (∀ j, j < 6 → j ∉ is → r.standP j = q.standP j ∧ r.emptyB j = q.emptyB j ∧ (r.okP j ↔ q.okP j) ∧ (j = 4 → r.p = q.p)) ∧ (∀ j ∈ is, r.okP j ∧ (j = 4 → r.p.rightB = true))
  | [], q, r, a, b, _, _, ha, h => by
    injection h with h
    injection h with h1 h2
    subst h1 h2
    exact ⟨rfl, by simp [Rc.standN], ha, fun j _ _ => ⟨rfl, rfl, Iff.rfl, fun _ => rfl⟩, by simp⟩
  | i :: is, q, r, a, b, hnd, h6, ha, h => by
    obtain ⟨⟨q1, a1⟩, h1, h2⟩ := Option.bind_eq_some_iff.1 (show (q.takeP l a i).bind _ = some (r, b) from h)
    obtain ⟨hni, hnd⟩ := List.nodup_cons.1 hnd
    have hi := h6 i (by simp)
    obtain ⟨e1, e2, e3, e4, e5⟩ := takeP_some hi hb ha h1
    obtain ⟨f1, f2, f3, f4, f5⟩ := goT_some hb is q1 r a1 b hnd (fun j hj => h6 j (by simp [hj])) e3 h2
    obtain ⟨g1, g2, g3, g4⟩ := f4 i hi hni
    refine ⟨?_, ?_, f3, fun j hj hjn => ?_, fun j hj => ?_⟩
    · rw [f1, e1, upd_kind]
    · rw [e2, f2, ← g1]; simp [Rc.standN]
    · have hji : j ≠ i := fun e => hjn (by simp [e])
      obtain ⟨u1, u2, u3, u4⟩ := upd_else q q1 hi hj hji
      rw [← e1] at u1 u2 u3 u4
      obtain ⟨v1, v2, v3, v4⟩ := f4 j hj (fun h => hjn (by simp [h]))
      exact ⟨v1.trans u1, v2.trans u2, v3.trans u3, fun h => (v4 h).trans (u4 h)⟩
    · rcases List.mem_cons.1 hj with rfl | hj
      · exact ⟨g3.2 e4, fun h => by rw [g4 h]; exact e5 h⟩
      · exact f5 j hj
theorem partsN_mem {k : Int} {j : Nat} : j ∈ partsN k 6 ↔ j < 6 ∧ ofB j k = true := by simp [partsN, List.mem_filter]
theorem partsN_nodup (k : Int) : (partsN k 6).Nodup := List.Nodup.sublist List.filter_sublist List.nodup_range
theorem zero_empty (k : Int) (j : Nat) (hj : j < 6) : (Rc.zero k).emptyB j = true ∧ (Rc.zero k).okP j := by
  rcases six hj with rfl | rfl | rfl | rfl | rfl | rfl
  · exact ⟨rfl, by show (0 : Nat) < _; omega⟩
  · exact ⟨rfl, by show (0 : Nat) < _; omega⟩
  · exact ⟨rfl, by show (0 : Nat) < _ ∧ (0 : Nat) < _; omega⟩
  · exact ⟨rfl, by show (0 : Nat) < _; omega⟩
  · exact ⟨(sameB_iff _ _).2 rfl, okN_zero⟩
  · exact ⟨rfl, by intro e he; cases he⟩
theorem pay_some {l : List Nat} (hb : ∀ x ∈ l, x < 256) {k : Nat} (hk : 1 ≤ k ∧ k ≤ 7) {r : Rc} (h : payB k l = some r) : r.rightB = true ∧ r.okR ∧ r.kind = k ∧ r.stand = l := by
  unfold payB at h
  obtain ⟨⟨r', b⟩, h1, h2⟩ := Option.bind_eq_some_iff.1 h
  simp only at h2
  split at h2
  · rename_i hbl
    injection h2 with h2
    subst h2
    obtain ⟨e1, e2, -, e4, e5⟩ := goT_some hb _ _ _ _ _ (partsN_nodup _) (fun i hi => (partsN_mem.1 hi).1) (Nat.zero_le _) h1
    have e1 : r'.kind = (k : Int) := e1
    refine ⟨right_of (by omega) (fun j hj ho => ?_) (fun h5 => ?_), okR_of fun i hi => ?_, e1, ?_⟩
    · rw [e1] at ho
      obtain ⟨-, f, -⟩ := e4 j hj (fun h => by have := (partsN_mem.1 h).2; rw [ho] at this; cases this)
      rw [f]
      exact (zero_empty _ j hj).1
    · refine (e5 4 ?_).2 rfl
      rw [← e1, h5]
      rw [partsN_mem]
      exact ⟨by omega, rfl⟩
    · by_cases hm : i ∈ partsN (k : Int) 6
      · exact (e5 i hm).1
      · obtain ⟨-, -, f, -⟩ := e4 i hi hm
        exact f.2 (zero_empty _ i hi).2
    · unfold Rc.stand
      rw [e1]
      rw [hbl, List.drop_length, List.append_nil, List.drop_zero] at e2
      exact e2.symm
  · cases h2
theorem num_stand {l ys : List Nat} {a v : Nat} (hb : ∀ x ∈ l, x < 256) (hv : v < 18446744073709551616) (h : l.drop a = enc v ++ ys) : numT l a = some (v, a + (enc v).length) ∧ l.drop (a + (enc v).length) = ys := ⟨num_at hb hv h, drop_more h⟩
theorem ent_stand {l ys : List Nat} {a : Nat} {e : En} (hb : ∀ x ∈ l, x < 256) (ok : e.ok) (h : l.drop a = e.stand ++ ys) : entT l a = some (e, a + e.stand.length) ∧ l.drop (a + e.stand.length) = ys := by
  refine ⟨?_, drop_more h⟩
  obtain ⟨x, w, n, m⟩ := e
  obtain ⟨o1, o2, o3⟩ := ok
  simp only at o1 o2 o3
  have hst : (⟨x, w, n, m⟩ : En).stand = enc x ++ (enc w ++ (enc n ++ [if m then 1 else 0])) := by simp [En.stand, encs]
  rw [hst] at h ⊢
  simp only [List.append_assoc] at h
  obtain ⟨a1, b1⟩ := num_stand hb (by omega) h
  obtain ⟨a2, b2⟩ := num_stand hb (by omega) b1
  obtain ⟨a3, b3⟩ := num_stand hb (by omega) b2
  obtain ⟨z, hz⟩ : ∃ z, z = a + (enc x).length + (enc w).length + (enc n).length := ⟨_, rfl⟩
  rw [← hz] at a3 b3
  have hl : z < l.length := by
    have := congrArg List.length b3
    rw [List.length_drop, List.length_append] at this
    simp at this
    omega
  have hg : l.getD z 0 = if m then 1 else 0 := by
    have := congrArg (fun x => x[0]?) b3
    simp only [List.getElem?_drop, Nat.add_zero] at this
    rw [List.getD_eq_getElem?_getD, this]
    rfl
  unfold entT
  rw [a1, Option.bind_some]
  simp only
  rw [a2, Option.bind_some]
  simp only
  rw [a3, Option.bind_some]
  simp only
  rw [hg, if_pos ⟨hl, by split <;> omega⟩]
  have hm : ((if m then 1 else 0 : Nat) == 1) = m := by cases m <;> rfl
  rw [hm]
  simp only [List.length_append, List.length_cons, List.length_nil]
  rw [show z + 1 = a + ((enc x).length + ((enc w).length + ((enc n).length + (0 + 1)))) by omega]
theorem ents_stand {l : List Nat} (hb : ∀ x ∈ l, x < 256) : ∀ (es : List En) (a : Nat) (ys : List Nat), (∀ e ∈ es, e.ok) → l.drop a = es.flatMap En.stand ++ ys → entsT l es.length a = some (es, a + (es.flatMap En.stand).length)
  | [], a, ys, _, h => by simp [entsT]
  | e :: es, a, ys, ok, h => by
    rw [List.flatMap_cons, List.append_assoc] at h
    obtain ⟨h1, h2⟩ := ent_stand hb (ok e (by simp)) h
    have h3 := ents_stand hb es _ ys (fun x hx => ok x (by simp [hx])) h2
    show (entT l a).bind _ = _
    rw [h1, Option.bind_some]
    simp only
    rw [h3, Option.map_some, List.flatMap_cons, List.length_append, Nat.add_assoc]
theorem takeP_stand {q r : Rc} {l ys : List Nat} {a i : Nat} (hi : i < 6) (hb : ∀ x ∈ l, x < 256) (ok : r.okP i) (hp : i = 4 → r.p.rightB = true ∧ r.p.put.length < 18446744073709551616) (hn : i = 5 → r.es.length < 18446744073709551616) (h : l.drop a = r.standP i ++ ys) : q.takeP l a i = some (q.upd r i, a + (r.standP i).length) := by
  rcases six hi with rfl | rfl | rfl | rfl | rfl | rfl
  · show (numT l a).map _ = _
    rw [(num_stand hb ok h).1]; rfl
  · show (numT l a).map _ = _
    rw [(num_stand hb ok h).1]; rfl
  · have e : r.standP 2 = enc r.w ++ enc r.n := by show encs [r.w, r.n] = _; simp [encs]
    rw [e] at h ⊢
    rw [List.append_assoc] at h
    obtain ⟨a1, b1⟩ := num_stand hb ok.1 h
    obtain ⟨a2, b2⟩ := num_stand hb ok.2 b1
    show (numT l a).bind _ = _
    rw [a1, Option.bind_some]
    simp only
    rw [a2, List.length_append, ← Nat.add_assoc]; rfl
  · show (numT l a).map _ = _
    rw [(num_stand hb ok h).1]; rfl
  · obtain ⟨hr, hl⟩ := hp rfl
    have ep : r.p.put = r.p.stand := by unfold T.put; rw [if_pos hr]
    have e : r.standP 4 = enc r.p.stand.length ++ r.p.stand := by
      show enc r.p.put.length ++ r.p.put = _
      rw [ep]
    rw [ep] at hl
    rw [e] at h ⊢
    rw [List.append_assoc] at h
    obtain ⟨a1, b1⟩ := num_stand hb hl h
    have hx : txtT l a = some (r.p.stand, a + (enc r.p.stand.length).length + r.p.stand.length) := by
      unfold txtT
      rw [a1, Option.bind_some]
      simp only
      have h2 := congrArg List.length b1
      rw [List.length_drop, List.length_append] at h2
      have h3 := (numT_some hb a1).2.2.2
      rw [if_neg (by omega), b1, List.take_left' rfl]
    show (txtT l a).bind _ = _
    rw [hx, Option.bind_some]
    simp only
    rw [parse_stand hr ok, List.length_append, ← Nat.add_assoc]; rfl
  · have e : r.standP 5 = enc r.es.length ++ r.es.flatMap En.stand := rfl
    rw [e] at h ⊢
    rw [List.append_assoc] at h
    obtain ⟨a1, b1⟩ := num_stand hb (hn rfl) h
    show (numT l a).bind _ = _
    rw [a1, Option.bind_some]
    simp only
    rw [ents_stand hb _ _ _ ok b1, List.length_append, ← Nat.add_assoc]; rfl
theorem goT_stand {r : Rc} {l : List Nat} (hb : ∀ x ∈ l, x < 256) (ok : r.okR) : ∀ (is : List Nat) (q : Rc) (a : Nat) (ys : List Nat), (∀ i ∈ is, i < 6 ∧ (i = 4 → r.p.rightB = true ∧ r.p.put.length < 18446744073709551616) ∧ (i = 5 → r.es.length < 18446744073709551616)) → l.drop a = r.standN is ++ ys →
    goT l q a is = some (is.foldl (fun q i => q.upd r i) q, a + (r.standN is).length)
  | [], q, a, ys, _, h => rfl
  | i :: is, q, a, ys, H, h => by
    obtain ⟨h6, h4, h5⟩ := H i (by simp)
    have e : r.standN (i :: is) = r.standP i ++ r.standN is := by simp [Rc.standN]
    rw [e, List.append_assoc] at h
    show (q.takeP l a i).bind _ = _
    rw [takeP_stand h6 hb (ok.part i) h4 h5 h, Option.bind_some]
    simp only
    rw [goT_stand hb ok is _ _ ys (fun j hj => H j (by simp [hj])) (drop_more h), e, List.length_append, Nat.add_assoc, List.foldl_cons]
theorem upd_all {r : Rc} (h : r.rightB = true) : (partsN r.kind 6).foldl (fun q i => q.upd r i) (Rc.zero r.kind) = r := by
  obtain ⟨hk, he, hp⟩ := right_shape h
  have E1 : ofB 1 r.kind = false → r.x = 0 := fun h => of_decide_eq_true (he 1 (by omega) h)
  have E2 : ofB 2 r.kind = false → r.w = 0 ∧ r.n = 0 := fun h => of_decide_eq_true (he 2 (by omega) h)
  have E3 : ofB 3 r.kind = false → r.v = 0 := fun h => of_decide_eq_true (he 3 (by omega) h)
  have E4 : ofB 4 r.kind = false → r.p = .node 0 0 0 [] := fun h => (sameB_iff _ _).1 (he 4 (by omega) h)
  have E5 : ofB 5 r.kind = false → r.es = [] := fun h => of_decide_eq_true (he 5 (by omega) h)
  clear he hp h
  obtain ⟨k, t, x, wn, n, v, p, es⟩ := r
  simp only at hk E1 E2 E3 E4 E5
  have hk7 : k = 1 ∨ k = 2 ∨ k = 3 ∨ k = 4 ∨ k = 5 ∨ k = 6 ∨ k = 7 := by omega
  rw [partsN_of]
  rcases hk7 with rfl | rfl | rfl | rfl | rfl | rfl | rfl
  · obtain ⟨rfl, ⟨rfl, rfl⟩, rfl, rfl, rfl⟩ : x = 0 ∧ (wn = 0 ∧ n = 0) ∧ v = 0 ∧ p = .node 0 0 0 [] ∧ es = [] := ⟨E1 rfl, E2 rfl, E3 rfl, E4 rfl, E5 rfl⟩
    rfl
  · obtain ⟨rfl, rfl, rfl⟩ : v = 0 ∧ p = .node 0 0 0 [] ∧ es = [] := ⟨E3 rfl, E4 rfl, E5 rfl⟩
    rfl
  · obtain ⟨⟨rfl, rfl⟩, rfl, rfl⟩ : (wn = 0 ∧ n = 0) ∧ p = .node 0 0 0 [] ∧ es = [] := ⟨E2 rfl, E4 rfl, E5 rfl⟩
    rfl
  · obtain ⟨⟨rfl, rfl⟩, rfl, rfl, rfl⟩ : (wn = 0 ∧ n = 0) ∧ v = 0 ∧ p = .node 0 0 0 [] ∧ es = [] := ⟨E2 rfl, E3 rfl, E4 rfl, E5 rfl⟩
    rfl
  · obtain ⟨rfl, ⟨rfl, rfl⟩, rfl⟩ : x = 0 ∧ (wn = 0 ∧ n = 0) ∧ v = 0 := ⟨E1 rfl, E2 rfl, E3 rfl⟩
    rfl
  · obtain ⟨rfl, ⟨rfl, rfl⟩, rfl, rfl, rfl⟩ : x = 0 ∧ (wn = 0 ∧ n = 0) ∧ v = 0 ∧ p = .node 0 0 0 [] ∧ es = [] := ⟨E1 rfl, E2 rfl, E3 rfl, E4 rfl, E5 rfl⟩
    rfl
  · obtain ⟨rfl, ⟨rfl, rfl⟩, rfl, rfl, rfl⟩ : x = 0 ∧ (wn = 0 ∧ n = 0) ∧ v = 0 ∧ p = .node 0 0 0 [] ∧ es = [] := ⟨E1 rfl, E2 rfl, E3 rfl, E4 rfl, E5 rfl⟩
    rfl
theorem pay_stand {r : Rc} (h : r.rightB = true) (ok : r.okR) (hs : r.p.put.length < 18446744073709551616) (hn : r.es.length < 18446744073709551616) {k : Nat} (hk : r.kind = k) : payB k r.stand = some r := by
  have hg := goT_stand (l := r.stand) (stand_byteR r) ok (partsN r.kind 6) (Rc.zero r.kind) 0 [] (fun i hi => ⟨(partsN_mem.1 hi).1, fun h4 => ⟨?_, hs⟩, fun _ => hn⟩) (by rw [List.append_nil]; rfl)
  · rw [upd_all h] at hg
    unfold payB
    rw [← hk, hg, Option.bind_some]
    simp only
    rw [if_pos (by rw [Nat.zero_add]; rfl)]
  · have h5 : r.kind = 5 := by
      have := (partsN_mem.1 hi).2
      subst h4
      unfold ofB at this
      simpa using this
    exact (right_shape h).2.2 h5
theorem standR_inj {r q : Rc} (h : r.rightB = true) (ok : r.okR) (hs : r.p.put.length < 18446744073709551616) (hn : r.es.length < 18446744073709551616)
    (h' : q.rightB = true) (ok' : q.okR) (hs' : q.p.put.length < 18446744073709551616) (hn' : q.es.length < 18446744073709551616) (hk : r.kind = q.kind) (e : r.stand = q.stand) : r = q := by
  have h17 := (right_shape h).1
  have h1 := pay_stand h ok hs hn (k := r.kind.toNat) (by omega)
  have h2 := pay_stand h' ok' hs' hn' (k := r.kind.toNat) (by omega)
  rw [e, h2] at h1
  exact (Option.some.inj h1).symm
theorem tellR_inj {r q : Rc} (h : r.rightB = true) (ok : r.okR) (h' : q.rightB = true) (ok' : q.okR) (e : r.tell = q.tell) : r = q := by
  have h1 := line_tell h ok
  rw [e, line_tell h' ok'] at h1
  exact (Option.some.inj h1).symm
end Go.Proofs.YtiiiklenhmhccaaGreatDoor

namespace Go.Proofs.YtiiiklenhmhccaaGreatDoor
open Go Go.RowKit
set_option linter.unusedVariables false
structure Rr (T : TypeId) (w : World) (g : Nat) (A : Option Addr) (n c : Nat) (l : List Nat) (a e : Nat) : Prop where
  blk : w.heap[g]? = some (.cells #[.int .i64 (a : Int), .int .i64 (e : Int), .slice A n c] T (0, 0))
  rd : Rd w g 1 A n (bs l)
  nc : n ≤ c ∧ c ≤ 9223372036854775807
  b8 : ∀ x ∈ l, x < 256
  len : l.length ≤ 100000
  place : a ≤ l.length
  err : e < 1000
structure RStp (w w' : World) (g : Nat) : Prop where
  os : w'.os = w.os
  tape : w'.tape = w.tape
  output : w'.output = w.output
  size : w.heap.size ≤ w'.heap.size
  block : ∀ k, k < w.heap.size → k ≠ g → w'.heap[k]? = w.heap[k]?
theorem RStp.refl (w : World) (g : Nat) : RStp w w g := ⟨rfl, rfl, rfl, Nat.le_refl _, fun _ _ _ => rfl⟩
theorem RStp.trans {a b c : World} {g : Nat} (h : RStp a b g) (k : RStp b c g) : RStp a c g :=
  ⟨k.os.trans h.os, k.tape.trans h.tape, k.output.trans h.output, Nat.le_trans h.size k.size, fun i hi hg => (k.block i (Nat.lt_of_lt_of_le hi h.size) hg).trans (h.block i hi hg)⟩
theorem RStp.of {w w' : World} (h : Below w.heap.size w w') (g : Nat) : RStp w w' g := ⟨h.os, h.tape, h.output, h.size, fun k hk _ => h.block k hk⟩
theorem RStp.drewN (w : World) (g n : Nat) : RStp w (w.drewN n) g := RStp.of (below_drew_ (Below.refl _ w)) g
theorem RStp.store (w : World) (g o : Nat) (u : Value) : RStp w (w.setCell ⟨g, o, none⟩ u) g := ⟨rfl, rfl, rfl, by simp, fun k _ hg => Below.heap_setCell w _ _ _ hg⟩
theorem RStp.below {w w' : World} {g : Nat} (h : RStp w w' g) {B : Nat} (hB : B ≤ w.heap.size) (hg : B ≤ g) : Below B w w' := ⟨h.os, h.tape, h.output, h.size, fun k hk => h.block k (by omega) (by omega)⟩
theorem three_set {w : World} {g : Nat} {x y z u : Value} {T : TypeId} (h : w.heap[g]? = some (.cells #[x, y, z] T (0, 0))) :
    (w.setCell ⟨g, 0, none⟩ u).heap[g]? = some (.cells #[u, y, z] T (0, 0)) ∧ (w.setCell ⟨g, 1, none⟩ u).heap[g]? = some (.cells #[x, u, z] T (0, 0)) :=
  ⟨heap_setCell_same w g 0 _ T u h, heap_setCell_same w g 1 _ T u h⟩
section
variable {T : TypeId} {w w' : World} {g n c a e : Nat} {A : Option Addr} {l : List Nat}
theorem Rr.lt (h : Rr T w g A n c l a e) : g < w.heap.size := lt_of_block h.blk
theorem Rr.cells (h : Rr T w g A n c l a e) : w.cell? ⟨g, 0, none⟩ = some (.int .i64 (a : Int)) ∧ w.cell? ⟨g, 1, none⟩ = some (.int .i64 (e : Int)) ∧ w.cell? ⟨g, 2, none⟩ = some (.slice A n c) ∧ w.frozen? ⟨g, 0, none⟩ = false ∧ w.frozen? ⟨g, 1, none⟩ = false := by
  obtain ⟨h1, h2, h3, h4, h5, _⟩ := blk3 h.blk
  exact ⟨h1, h2, h3, h4, h5⟩
theorem Rr.kept (h : Rr T w g A n c l a e) (hb : Below w.heap.size w w') : Rr T w' g A n c l a e :=
  ⟨(hb.block g h.lt).trans h.blk, h.rd.below (hb.mono (Nat.le_of_lt h.lt)), h.nc, h.b8, h.len, h.place, h.err⟩
theorem Rr.kept' {v v' : Value} (h : Rr T w g A n c l a e) (hs : Stp w w' v v') (hv : ∀ k, v.ownBlock = some k → g < k) : Rr T w' g A n c l a e :=
  ⟨(hs.grow.block g h.lt (fun q => by have := hv g q.symm; omega)).trans h.blk, h.rd.keep (fun p hp => World.cell?_of_block (hs.grow.block p.block (by have := h.lt; omega) (fun q => by have := hv p.block q.symm; omega))), h.nc, h.b8, h.len, h.place, h.err⟩
theorem Rr.drewN (h : Rr T w g A n c l a e) (k : Nat) : Rr T (w.drewN k) g A n c l a e := h.kept (below_drew_ (Below.refl _ w))
theorem Rr.stored (h : Rr T w g A n c l a e) (a' e' : Nat) (ha : a' ≤ l.length) (he : e' < 1000) : Rr T ((w.setCell ⟨g, 0, none⟩ (.int .i64 (a' : Int))).setCell ⟨g, 1, none⟩ (.int .i64 (e' : Int))) g A n c l a' e' := by
  refine ⟨(three_set (three_set h.blk).1).2, h.rd.keep fun p hp => ?_, h.nc, h.b8, h.len, ha, he⟩
  rw [World.cell?_setCell_other _ _ _ _ (fun q => by rw [← q] at hp; simp at hp), World.cell?_setCell_other _ _ _ _ (fun q => by rw [← q] at hp; simp at hp)]
theorem Rr.moved (h : Rr T w g A n c l a e) (a' : Nat) (ha : a' ≤ l.length) : Rr T (w.setCell ⟨g, 0, none⟩ (.int .i64 (a' : Int))) g A n c l a' e := by
  refine ⟨(three_set h.blk).1, h.rd.keep fun p hp => ?_, h.nc, h.b8, h.len, ha, h.err⟩
  rw [World.cell?_setCell_other _ _ _ _ (fun q => by rw [← q] at hp; simp at hp)]
end
theorem fail_any (g : Nat) (A : Option Addr) (n c a e : Nat) (l : List Nat) (a' e' : Int) (w : World) (h : Rr 167 w g A n c l a e) :
    Calls Tryz.prog 169 #[.pointer (some ⟨g, 0, none⟩), .int .i64 a', .int .i64 e'] w fun en w' => en = .returned (.tuple #[]) ∧ (w.setCell ⟨g, 0, none⟩ (.int .i64 a')).setCell ⟨g, 1, none⟩ (.int .i64 e') = w' := by
  obtain ⟨c0, c1, c2, f0, f1⟩ := h.cells
  go_enter Tryz.func169, Tryz.ntmps169
  go_wp2
  go_end0
  exact ⟨rfl, rfl⟩
theorem err_any (g : Nat) (A : Option Addr) (n c a e : Nat) (l : List Nat) (w : World) (h : Rr 167 w g A n c l a e) :
    Calls Tryz.prog 96 #[.pointer (some ⟨g, 0, none⟩)] w fun en w' => en = .returned (.int .i64 (e : Int)) ∧ w = w' := by
  obtain ⟨c0, c1, c2, f0, f1⟩ := h.cells
  go_enter Tryz.func96, Tryz.ntmps96
  go_wp2
  go_ret
  exact ⟨rfl, rfl⟩
theorem at_any (g : Nat) (A : Option Addr) (n c a e : Nat) (l : List Nat) (w : World) (h : Rr 167 w g A n c l a e) :
    Calls Tryz.prog 200 #[.pointer (some ⟨g, 0, none⟩)] w fun en w' => en = .returned (.int .i64 (a : Int)) ∧ w = w' := by
  obtain ⟨c0, c1, c2, f0, f1⟩ := h.cells
  go_enter Tryz.func200, Tryz.ntmps200
  go_wp2
  go_ret
  exact ⟨rfl, rfl⟩
theorem left_any (g : Nat) (A : Option Addr) (n c a e : Nat) (l : List Nat) (w : World) (h : Rr 167 w g A n c l a e) :
    Calls Tryz.prog 64 #[.pointer (some ⟨g, 0, none⟩)] w fun en w' => en = .returned (.int .i64 ((n : Int) - a)) ∧ ∃ q, w' = w.drewN q := by
  obtain ⟨c0, c1, c2, f0, f1⟩ := h.cells
  have hl := h.rd.count
  have hp := h.place
  have hn := h.len
  have hw : IntKind.i64.wrap ((n : Int) - (a : Int)) = (n : Int) - (a : Int) := IntWalk.i64_in _ (by omega)
  clear hl
  go_enter Tryz.func64, Tryz.ntmps64
  go_wp2
  go_quiet (fail)
  go_wp2
  go_ret
  exact ⟨rfl, nq, rfl⟩
theorem get_quiet {B : Nat} {A : Option Addr} {n c : Nat} {l : List Nat} {a : Int} {w : World} {k : Nat} (x y z : Nat) (hx : getS l a = (x, y, z)) (h : Rd w B 1 A n (bs l)) (hb : ∀ x ∈ l, x < 256) (hn : n ≤ c) (hc : c ≤ 9223372036854775807) :
    Calls Tryz.prog 168 #[.slice A n c, .int .i64 a] (w.drewN k) fun e w'' => e = .returned (.tuple #[.int .u64 x, .int .i64 y, .int .i64 z]) ∧ ∃ q, w'' = w.drewN q := by
  refine (get_tupl (w.drewN k) x y z hx (h.drewNn k) hb hn hc).mono ?_
  rintro e w' ⟨h1, rfl⟩
  exact ⟨h1, k, rfl⟩
def RLeft (g : Nat) (A : Option Addr) (n c : Nat) (l : List Nat) (a e : Nat) (w w' : World) : Prop := Rr 167 w' g A n c l a e ∧ RStp w w' g
set_option maxRecDepth 100000 in
theorem number_any (g : Nat) (A : Option Addr) (n c a e : Nat) (l : List Nat) (w : World) (h : Rr 167 w g A n c l a e) (a' e' v : Nat) (hS : numR l a e = (a', e', v)) :
    Calls Tryz.prog 107 #[.pointer (some ⟨g, 0, none⟩)] w fun en w' => en = .returned (.int .u64 (v : Int)) ∧ RLeft g A n c l a' e' w w' := by
  obtain ⟨c0, c1, c2, f0, f1⟩ := h.cells
  obtain ⟨hle, hee, hv⟩ := numR_le h.b8 h.place h.err hS
  by_cases h0 : e = 0
  · subst h0
    obtain ⟨⟨x, y, z⟩, hx⟩ : ∃ x, getS l a = x := ⟨_, rfl⟩
    have h1 : numR l a 0 = if z ≠ 0 then (a, z, 0) else (y, 0, x) := by unfold numR; rw [if_neg (by omega), hx]
    rw [h1] at hS
    have HX := Lib_hid hx
    have hrd := h.rd
    have HB := Lib_hid h.b8
    have hnc := h.nc
    clear hx h1
    by_cases hz : z = 0
    · subst hz
      simp only [ne_eq, not_true_eq_false, if_false, Prod.mk.injEq] at hS
      obtain ⟨rfl, rfl, rfl⟩ := hS
      go_enter Tryz.func107, Tryz.ntmps107
      go_wp2_with (go_at_call 96; refine (err_any g A n c a 0 l w h).mono ?_; rintro en w1 ⟨rfl, rfl⟩)
      go_quiet ((go_at_call 168; exact get_quiet x y 0 HX.out hrd HB.out hnc.1 hnc.2))
      go_wp2
      go_ret
      exact ⟨rfl, (h.moved y hle).drewN nq, (RStp.store _ _ _ _).trans (RStp.drewN _ _ _)⟩
    · rw [if_pos hz] at hS
      simp only [Prod.mk.injEq] at hS
      obtain ⟨rfl, rfl, rfl⟩ := hS
      have hz0 : ((z : Int) != 0) = true := by simpa using hz
      go_enter Tryz.func107, Tryz.ntmps107
      go_wp2_with (go_at_call 96; refine (err_any g A n c a 0 l w h).mono ?_; rintro en w1 ⟨rfl, rfl⟩)
      go_quiet ((go_at_call 168; exact get_quiet x y z HX.out hrd HB.out hnc.1 hnc.2))
      go_wp2
      go_region_held3 (fun W => W.cell? ⟨g, 0, none⟩ = some (.int .i64 (a : Int))) (first | exact c0 | exact hst.cells.1)
        ((first | (go_at_call 169; refine (fail_any g A n c a 0 l a z (w.drewN (nq + 1)) (h.drewN (nq + 1))).mono ?_; rintro en w2 ⟨rfl, rfl⟩; have hst := (h.drewN (nq + 1)).stored a z h.place hee)))
      all_goals
        go_wp2
        go_ret
        exact ⟨rfl, (h.stored a z h.place hee).drewN (nq + 1), ((RStp.store _ _ _ _).trans (RStp.store _ _ _ _)).trans (RStp.drewN _ _ _)⟩
  · have h0' : ((e : Int) != 0) = true := by simpa using h0
    unfold numR at hS
    rw [if_pos h0] at hS
    simp only [Prod.mk.injEq] at hS
    obtain ⟨rfl, rfl, rfl⟩ := hS
    go_enter Tryz.func107, Tryz.ntmps107
    go_wp2_with (go_at_call 96; refine (err_any g A n c a e l w h).mono ?_; rintro en w1 ⟨rfl, rfl⟩)
    go_ret
    exact ⟨rfl, h, RStp.refl _ _⟩
end Go.Proofs.YtiiiklenhmhccaaGreatDoor
