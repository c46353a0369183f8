/-
  Layer 5: the record of a payload, plainly: part by part; it is the record that stands so.
  What Get answers, as a tuple of three numbers, on both sides.
  Contracts of the document's reader (alibiref01.Number, Raw, Text, Numbers), for every input.
  Contracts of the program's Reader: Err, At, Left, fail, Number, for every input.
-/
import Derived.Test.YtdmoknnnlfkfoaaGreatDoorZpTdq
import Derived.Test.YtdmoknnnlfkfoaaGreatDoorZpVpm
import Derived.Test.YtdmoknnnlfkfoaaGreatDoorZpVsb
import Derived.Test.YtdmoknnnlfkfoaaGreatDoorZpGet
import Derived.Test.YtdmoknnnlfkfoaaGreatDoorZpTtt
import Derived.Test.YtdmoknnnlfkfoaaGreatDoorZpTrw
import Derived.Laws.IdiomStrings
import Derived.Laws.BytesString
import Derived.Handy
import Derived.Lib.Strings
import Derived.Deep.RegionHeld3

namespace Go.Proofs.YtdmoknnnlfkfoaaGreatDoor
open Go Go.RowKit
set_option linter.unusedVariables false
def txtT (l : List Nat) (a : Nat) : Option (List Nat × Nat) := (numT l a).bind fun x => if (l.length : Int) - x.2 < x.1 then none else some ((l.drop x.2).take x.1, x.2 + x.1)
def entT (l : List Nat) (a : Nat) : Option (En × Nat) :=
  (numT l a).bind fun x => (numT l x.2).bind fun y => (numT l y.2).bind fun z => if z.2 < l.length ∧ l.getD z.2 0 ≤ 1 then some (⟨x.1, y.1, z.1, l.getD z.2 0 == 1⟩, z.2 + 1) else none
def entsT (l : List Nat) : Nat → Nat → Option (List En × Nat)
  | 0, a => some ([], a)
  | n + 1, a => (entT l a).bind fun x => (entsT l n x.2).map fun y => (x.1 :: y.1, y.2)
def Rc.takeP (q : Rc) (l : List Nat) (a i : Nat) : Option (Rc × Nat) :=
  if i = 0 then (numT l a).map fun x => ({ q with t := x.1 }, x.2)
  else if i = 1 then (numT l a).map fun x => ({ q with x := x.1 }, x.2)
  else if i = 2 then (numT l a).bind fun x => (numT l x.2).map fun y => ({ q with w := x.1, n := y.1 }, y.2)
  else if i = 3 then (numT l a).map fun x => ({ q with v := x.1 }, x.2)
  else if i = 4 then (txtT l a).bind fun x => (parseT x.1).map fun t => ({ q with p := t }, x.2)
  else (numT l a).bind fun x => (entsT l x.1 x.2).map fun y => ({ q with es := y.1 }, y.2)
def goT (l : List Nat) : Rc → Nat → List Nat → Option (Rc × Nat)
  | q, a, [] => some (q, a)
  | q, a, i :: is => (q.takeP l a i).bind fun x => goT l x.1 x.2 is
def payB (k : Nat) (l : List Nat) : Option Rc := (goT l (Rc.zero k) 0 (partsN k 6)).bind fun x => if x.2 = l.length then some x.1 else none
theorem goT_snoc (l : List Nat) (i : Nat) : ∀ (is : List Nat) (q : Rc) (a : Nat), goT l q a (is ++ [i]) = (goT l q a is).bind fun x => x.1.takeP l x.2 i
  | [], q, a => by
    show (q.takeP l a i).bind _ = _
    rw [show goT l q a [] = some (q, a) from rfl, Option.bind_some]
    cases q.takeP l a i with
    | none => rfl
    | some x => rfl
  | j :: is, q, a => by
    show (q.takeP l a j).bind _ = ((q.takeP l a j).bind _).bind _
    cases q.takeP l a j with
    | none => rfl
    | some x => exact goT_snoc l i is x.1 x.2
def Rc.upd (q r : Rc) (i : Nat) : Rc := if i = 0 then { q with t := r.t } else if i = 1 then { q with x := r.x } else if i = 2 then { q with w := r.w, n := r.n } else if i = 3 then { q with v := r.v } else if i = 4 then { q with p := r.p } else { q with es := r.es }
def Rc.okP (r : Rc) (i : Nat) : Prop := if i = 0 then r.t < 18446744073709551616 else if i = 1 then r.x < 18446744073709551616 else if i = 2 then r.w < 18446744073709551616 ∧ r.n < 18446744073709551616 else if i = 3 then r.v < 18446744073709551616 else if i = 4 then r.p.okN else ∀ e ∈ r.es, e.ok
theorem okR_of {r : Rc} (h : ∀ i, i < 6 → r.okP i) : r.okR :=
  have h2 : r.w < 18446744073709551616 ∧ r.n < 18446744073709551616 := h 2 (by omega)
  ⟨h 0 (by omega), h 1 (by omega), h2.1, h2.2, h 3 (by omega), h 4 (by omega), h 5 (by omega)⟩
theorem Rc.okR.part {r : Rc} (h : r.okR) (i : Nat) : r.okP i := by
  unfold Rc.okP
  split; exact h.t
  split; exact h.x
  split; exact ⟨h.w, h.n⟩
  split; exact h.v
  split; exact h.p
  exact h.es
theorem six {i : Nat} (h : i < 6) : i = 0 ∨ i = 1 ∨ i = 2 ∨ i = 3 ∨ i = 4 ∨ i = 5 := by omega
theorem upd_kind (q r : Rc) (i : Nat) : (q.upd r i).kind = q.kind := by
  unfold Rc.upd
  split; rfl
  split; rfl
  split; rfl
  split; rfl
  split <;> rfl
theorem upd_else (q r : Rc) {i j : Nat} (hi : i < 6) (hj : j < 6) (h : j ≠ i) : (q.upd r i).standP j = q.standP j ∧ (q.upd r i).emptyB j = q.emptyB j ∧ ((q.upd r i).okP j ↔ q.okP j) ∧ (j = 4 → (q.upd r i).p = q.p) := by
  rcases six hi with rfl | rfl | rfl | rfl | rfl | rfl <;> rcases six hj with rfl | rfl | rfl | rfl | rfl | rfl <;>
    first
    | exact absurd rfl h
    | exact ⟨rfl, rfl, Iff.rfl, fun _ => rfl⟩
    | exact ⟨rfl, rfl, Iff.rfl, fun h => absurd h (by omega)⟩
theorem entT_some {l : List Nat} (hb : ∀ x ∈ l, x < 256) {a r : Nat} {e : En} (h : entT l a = some (e, r)) : e.ok ∧ l.drop a = e.stand ++ l.drop r ∧ r ≤ l.length ∧ a + 4 ≤ r := by
  obtain ⟨⟨x, a1⟩, h1, h⟩ := Option.bind_eq_some_iff.1 h
  obtain ⟨⟨y, a2⟩, h2, h⟩ := Option.bind_eq_some_iff.1 h
  obtain ⟨⟨z, a3⟩, h3, h⟩ := Option.bind_eq_some_iff.1 h
  simp only at h2 h3 h
  split at h
  · rename_i hc
    injection h with h
    injection h with h4 h5
    subst h4 h5
    obtain ⟨e1, e2, e3, -⟩ := numT_some hb h1
    obtain ⟨f1, f2, f3, -⟩ := numT_some hb h2
    obtain ⟨g1, g2, g3, -⟩ := numT_some hb h3
    have p1 := enc_pos x
    have p2 := enc_pos y
    have p3 := enc_pos z
    refine ⟨⟨by show (x : Int) ≤ _; omega, by show (y : Int) ≤ _; omega, by show (z : Int) ≤ _; omega⟩, ?_, by omega, by omega⟩
    rw [e2, f2, g2, List.drop_eq_getElem_cons hc.1]
    have hm : (if (l.getD a3 0 == 1) = true then 1 else 0 : Nat) = l[a3] := by
      have hx : l.getD a3 0 = l[a3] := by rw [List.getD_eq_getElem?_getD, List.getElem?_eq_getElem hc.1]; rfl
      have h1 := hc.2
      rw [hx] at h1 ⊢
      by_cases e : l[a3] = 1
      · simp [e]
      · have : l[a3] = 0 := by omega
        simp [this]
    show _ = (encs [x, y, z] ++ [if (l.getD a3 0 == 1) = true then 1 else 0]) ++ _
    rw [hm]
    simp [encs]
  · cases h
theorem entsT_some {l : List Nat} (hb : ∀ x ∈ l, x < 256) : ∀ (n a : Nat) (es : List En) (r : Nat), a ≤ l.length → entsT l n a = some (es, r) → es.length = n ∧ (∀ e ∈ es, e.ok) ∧ l.drop a = es.flatMap En.stand ++ l.drop r ∧ r ≤ l.length ∧ a + 4 * n ≤ r
  | 0, a, es, r, ha, h => by
    injection h with h
    injection h with h1 h2
    subst h1 h2
    exact ⟨rfl, by simp, by simp, ha, by omega⟩
  | n + 1, a, es, r, ha, h => by
    obtain ⟨⟨e, a1⟩, h1, h2⟩ := Option.bind_eq_some_iff.1 (show (entT l a).bind _ = some (es, r) from h)
    obtain ⟨⟨fs, a2⟩, h3, h4⟩ := Option.map_eq_some_iff.1 h2
    injection h4 with h4 h5
    subst h4 h5
    obtain ⟨e1, e2, e3, e4⟩ := entT_some hb h1
    obtain ⟨f1, f2, f3, f4, f5⟩ := entsT_some hb n a1 fs a2 e3 h3
    refine ⟨by simp [f1], fun x hx => ?_, ?_, f4, by show a + 4 * (n + 1) ≤ a2; omega⟩
    · rcases List.mem_cons.1 hx with rfl | hx
      · exact e1
      · exact f2 x hx
    · rw [e2, f3]; simp
theorem txtT_some {l m : List Nat} (hb : ∀ x ∈ l, x < 256) {a r : Nat} (h : txtT l a = some (m, r)) : l.drop a = enc m.length ++ m ++ l.drop r ∧ r ≤ l.length ∧ (∀ x ∈ m, x < 256) := by
  obtain ⟨⟨v, a1⟩, h1, h⟩ := Option.bind_eq_some_iff.1 h
  simp only at h
  split at h
  · cases h
  · rename_i hc
    injection h with h
    injection h with h2 h3
    subst h2 h3
    obtain ⟨e1, e2, -, e4⟩ := numT_some hb h1
    have hl : ((l.drop a1).take v).length = v := by rw [List.length_take, List.length_drop]; omega
    refine ⟨?_, by omega, fun x hx => hb x (List.mem_of_mem_drop (List.mem_of_mem_take hx))⟩
    rw [hl, e2, ← List.drop_drop, List.append_assoc, List.take_append_drop]
theorem takeP_some {q q' : Rc} {l : List Nat} {a r i : Nat} (hi : i < 6) (hb : ∀ x ∈ l, x < 256) (ha : a ≤ l.length) (h : q.takeP l a i = some (q', r)) :
    q' = q.upd q' i ∧ l.drop a = q'.standP i ++ l.drop r ∧ r ≤ l.length ∧ q'.okP i ∧ (i = 4 → q'.p.rightB = true) := by
  rcases six hi with rfl | rfl | rfl | rfl | rfl | rfl
  · obtain ⟨⟨v, a1⟩, h1, h2⟩ := Option.map_eq_some_iff.1 (show (numT l a).map _ = some (q', r) from h)
    injection h2 with h2 h3
    subst h2 h3
    obtain ⟨e1, e2, -, e4⟩ := numT_some hb h1
    exact ⟨rfl, e2, e4, e1, fun h => by cases h⟩
  · obtain ⟨⟨v, a1⟩, h1, h2⟩ := Option.map_eq_some_iff.1 (show (numT l a).map _ = some (q', r) from h)
    injection h2 with h2 h3
    subst h2 h3
    obtain ⟨e1, e2, -, e4⟩ := numT_some hb h1
    exact ⟨rfl, e2, e4, e1, fun h => by cases h⟩
  · obtain ⟨⟨v, a1⟩, h1, h2⟩ := Option.bind_eq_some_iff.1 (show (numT l a).bind _ = some (q', r) from h)
    obtain ⟨⟨v2, a2⟩, h3, h4⟩ := Option.map_eq_some_iff.1 h2
    injection h4 with h4 h5
    subst h4 h5
    obtain ⟨e1, e2, -, e4⟩ := numT_some hb h1
    obtain ⟨f1, f2, -, f4⟩ := numT_some hb h3
    refine ⟨rfl, ?_, f4, ⟨e1, f1⟩, fun h => by cases h⟩
    show _ = encs [v, v2] ++ _
    rw [e2, f2]
    simp [encs]
  · obtain ⟨⟨v, a1⟩, h1, h2⟩ := Option.map_eq_some_iff.1 (show (numT l a).map _ = some (q', r) from h)
    injection h2 with h2 h3
    subst h2 h3
    obtain ⟨e1, e2, -, e4⟩ := numT_some hb h1
    exact ⟨rfl, e2, e4, e1, fun h => by cases h⟩
  · obtain ⟨⟨m, a1⟩, h1, h2⟩ := Option.bind_eq_some_iff.1 (show (txtT l a).bind _ = some (q', r) from h)
    obtain ⟨t, h3, h4⟩ := Option.map_eq_some_iff.1 h2
    injection h4 with h4 h5
    subst h4 h5
    obtain ⟨e1, e2, e3⟩ := txtT_some hb h1
    obtain ⟨f1, f2, f3⟩ := parse_some e3 h3
    have hp : t.put = m := by unfold T.put; rw [if_pos f1]; exact f3.symm
    refine ⟨rfl, ?_, e2, f2, fun _ => f1⟩
    show _ = (enc t.put.length ++ t.put) ++ _
    rw [hp]
    exact e1
  · obtain ⟨⟨v, a1⟩, h1, h2⟩ := Option.bind_eq_some_iff.1 (show (numT l a).bind _ = some (q', r) from h)
    obtain ⟨⟨es, a2⟩, h3, h4⟩ := Option.map_eq_some_iff.1 h2
    injection h4 with h4 h5
    subst h4 h5
    obtain ⟨e1, e2, -, e4⟩ := numT_some hb h1
    obtain ⟨f1, f2, f3, f4, -⟩ := entsT_some hb _ _ _ _ e4 h3
    refine ⟨rfl, ?_, f4, f2, fun h => by cases h⟩
    show _ = (enc es.length ++ es.flatMap En.stand) ++ _
    rw [e2, f1, f3]
    simp
theorem goT_some {l : List Nat} (hb : ∀ x ∈ l, x < 256) : ∀ (is : List Nat) (q r : Rc) (a b : Nat), is.Nodup → (∀ i ∈ is, i < 6) → a ≤ l.length → goT l q a is = some (r, b) →
    r.kind = q.kind ∧ l.drop a = r.standN is ++ l.drop b ∧ b ≤ l.length ∧ (∀ j, j < 6 → j ∉ is → r.standP j = q.standP j ∧ r.emptyB j = q.emptyB j ∧ (r.okP j ↔ q.okP j) ∧ (j = 4 → r.p = q.p)) ∧ (∀ j ∈ is, r.okP j ∧ (j = 4 → r.p.rightB = true))
  | [], q, r, a, b, _, _, ha, h => by
    injection h with h
    injection h with h1 h2
    subst h1 h2
    exact ⟨rfl, by simp [Rc.standN], ha, fun j _ _ => ⟨rfl, rfl, Iff.rfl, fun _ => rfl⟩, by simp⟩
  | i :: is, q, r, a, b, hnd, h6, ha, h => by
    obtain ⟨⟨q1, a1⟩, h1, h2⟩ := Option.bind_eq_some_iff.1 (show (q.takeP l a i).bind _ = some (r, b) from h)
    obtain ⟨hni, hnd⟩ := List.nodup_cons.1 hnd
    have hi := h6 i (by simp)
    obtain ⟨e1, e2, e3, e4, e5⟩ := takeP_some hi hb ha h1
    obtain ⟨f1, f2, f3, f4, f5⟩ := goT_some hb is q1 r a1 b hnd (fun j hj => h6 j (by simp [hj])) e3 h2
    obtain ⟨g1, g2, g3, g4⟩ := f4 i hi hni
    refine ⟨?_, ?_, f3, fun j hj hjn => ?_, fun j hj => ?_⟩
    · rw [f1, e1, upd_kind]
    · rw [e2, f2, ← g1]; simp [Rc.standN]
    · have hji : j ≠ i := fun e => hjn (by simp [e])
      obtain ⟨u1, u2, u3, u4⟩ := upd_else q q1 hi hj hji
      rw [← e1] at u1 u2 u3 u4
      obtain ⟨v1, v2, v3, v4⟩ := f4 j hj (fun h => hjn (by simp [h]))
      exact ⟨v1.trans u1, v2.trans u2, v3.trans u3, fun h => (v4 h).trans (u4 h)⟩
    · rcases List.mem_cons.1 hj with rfl | hj
      · exact ⟨g3.2 e4, fun h => by rw [g4 h]; exact e5 h⟩
      · exact f5 j hj
theorem partsN_mem {k : Int} {j : Nat} : j ∈ partsN k 6 ↔ j < 6 ∧ ofB j k = true := by simp [partsN, List.mem_filter]
theorem partsN_nodup (k : Int) : (partsN k 6).Nodup := List.Nodup.sublist List.filter_sublist List.nodup_range
theorem zero_empty (k : Int) (j : Nat) (hj : j < 6) : (Rc.zero k).emptyB j = true ∧ (Rc.zero k).okP j := by
  rcases six hj with rfl | rfl | rfl | rfl | rfl | rfl
  · exact ⟨rfl, by show (0 : Nat) < _; omega⟩
  · exact ⟨rfl, by show (0 : Nat) < _; omega⟩
  · exact ⟨rfl, by show (0 : Nat) < _ ∧ (0 : Nat) < _; omega⟩
  · exact ⟨rfl, by show (0 : Nat) < _; omega⟩
  · exact ⟨(sameB_iff _ _).2 rfl, okN_zero⟩
  · exact ⟨rfl, by intro e he; cases he⟩
theorem pay_some {l : List Nat} (hb : ∀ x ∈ l, x < 256) {k : Nat} (hk : 1 ≤ k ∧ k ≤ 7) {r : Rc} (h : payB k l = some r) : r.rightB = true ∧ r.okR ∧ r.kind = k ∧ r.stand = l := by
  unfold payB at h
  obtain ⟨⟨r', b⟩, h1, h2⟩ := Option.bind_eq_some_iff.1 h
  simp only at h2
  split at h2
  · rename_i hbl
    injection h2 with h2
    subst h2
    obtain ⟨e1, e2, -, e4, e5⟩ := goT_some hb _ _ _ _ _ (partsN_nodup _) (fun i hi => (partsN_mem.1 hi).1) (Nat.zero_le _) h1
    have e1 : r'.kind = (k : Int) := e1
    refine ⟨right_of (by omega) (fun j hj ho => ?_) (fun h5 => ?_), okR_of fun i hi => ?_, e1, ?_⟩
    · rw [e1] at ho
      obtain ⟨-, f, -⟩ := e4 j hj (fun h => by have := (partsN_mem.1 h).2; rw [ho] at this; cases this)
      rw [f]
      exact (zero_empty _ j hj).1
    · refine (e5 4 ?_).2 rfl
      rw [← e1, h5]
      rw [partsN_mem]
      exact ⟨by omega, rfl⟩
    · by_cases hm : i ∈ partsN (k : Int) 6
      · exact (e5 i hm).1
      · obtain ⟨-, -, f, -⟩ := e4 i hi hm
        exact f.2 (zero_empty _ i hi).2
    · unfold Rc.stand
      rw [e1]
      rw [hbl, List.drop_length, List.append_nil, List.drop_zero] at e2
      exact e2.symm
  · cases h2
end Go.Proofs.YtdmoknnnlfkfoaaGreatDoor

namespace Go.Proofs.YtdmoknnnlfkfoaaGreatDoor
open Go Go.RowKit
set_option linter.unusedVariables false
theorem Rd.drewNn {w : World} {B size n : Nat} {A : Option Addr} {xs : List Value} (h : Rd w B size A n xs) (k : Nat) : Rd (w.drewN k) B size A n xs := h.keep fun _ _ => rfl
theorem get_tupl {B : Nat} {A : Option Addr} {n c : Nat} {l : List Nat} {a : Int} (w : World) (x y z : Nat) (hx : getS l a = (x, y, z)) (h : Rd w B 1 A n (bs l)) (hb : ∀ x ∈ l, x < 256) (hn : n ≤ c) (hc : c ≤ 9223372036854775807) :
    Calls Tryz.prog 173 #[.slice A n c, .int .i64 a] w fun e w' => e = .returned (.tuple #[.int .u64 x, .int .i64 y, .int .i64 z]) ∧ w = w' := by
  have G := get_any B A n c l a w h hb hn hc
  rw [hx] at G
  exact G
theorem rget_tupl {B : Nat} {A : Option Addr} {n c : Nat} {l : List Nat} {a : Int} (w : World) (x y z : Nat) (hx : getS l a = (x, y, z)) (h : Rd w B 1 A n (bs l)) (hb : ∀ x ∈ l, x < 256) (hc : n ≤ 140737488355300) (hB : B ≤ w.heap.size) :
    Calls Tryz.prog 103 #[.slice A n c, .int .i64 a] w fun e w' => e = .returned (.tuple #[.int .u64 x, .int .i64 y, .int .i64 z]) ∧ Below w.heap.size w w' := by
  have G := rget_any B A n c l a w h hb hc hB
  rw [hx] at G
  exact G
end Go.Proofs.YtdmoknnnlfkfoaaGreatDoor

namespace Go.Proofs.YtdmoknnnlfkfoaaGreatDoor
open Go Go.RowKit
set_option linter.unusedVariables false
theorem addr_flat (b off k : Nat) : (⟨b, off, none⟩ : Addr).add k = ⟨b, off + k, none⟩ := by
  unfold Addr.add
  by_cases h : k = 0 <;> simp [h]
def str (l : List Nat) : ByteArray := ⟨(l.map UInt8.ofNat).toArray⟩
theorem str_size (l : List Nat) : (str l).size = l.length := by simp [str, ByteArray.size]
theorem str_cells (l : List Nat) (h : ∀ x ∈ l, x < 256) : ((str l).data.map (fun b => Value.int .u8 (b.toNat : Int))).toList = bs l := by
  simp only [str, bs, Array.toList_map, List.map_map]
  apply List.map_congr_left
  intro x hx
  have := h x hx
  simp [Nat.mod_eq_of_lt this]
def capOf (l : List Nat) (W : World) : Nat := grownCap W (str l).size 0 5
def objOf (l : List Nat) (W : World) : Obj := .cells (bytesRow (str l) (capOf l W)) 5 ((bytesRow (str l) (capOf l W)).size, (bytesRow (str l) (capOf l W)).size + 1)
theorem bytes_rule (l : List Nat) (W : World) : (convert 9 22 (.string (str l))).run Tryz.prog W = .ok (.slice (some ⟨W.heap.size, 0, none⟩) l.length (capOf l W)) (W.drew.alloc (objOf l W)) := by
  rw [run_bytes_of_string W 9 22 5 (str l) Tryz.underlying9 Tryz.underlying22 Tryz.underlying5]
  unfold capOf objOf capOf
  rw [str_size]
theorem bytes_rd (l : List Nat) (hb : ∀ x ∈ l, x < 256) (W W' : World) (g B : Nat) (hh : W'.heap[g]? = some (objOf l W)) (hB : g < B) : Rd W' B 1 (some ⟨g, 0, none⟩) l.length (bs l) := by
  refine ⟨by rw [bs_length]; simp, fun _ => ⟨_, rfl, hB, fun j u hu => ?_⟩⟩
  have hj : j < l.length := by have := (List.getElem?_eq_some_iff.1 hu).1; rwa [bs_length] at this
  rw [addr_flat, Nat.zero_add]
  unfold World.cell?
  simp only [hh, objOf]
  have hc := str_cells l hb
  have : (bytesRow (str l) (capOf l W))[j]? = some u := by
    unfold bytesRow
    rw [Array.getElem?_append_left (by simp only [Array.size_map]; show j < (str l).size; rw [str_size]; exact hj)]
    rw [← Array.getElem?_toList, hc]
    exact hu
  rw [this]
  rfl
def numR (l : List Nat) (a e : Nat) : Nat × Nat × Nat :=
  if e ≠ 0 then (a, e, 0) else if (getS l a).2.2 ≠ 0 then (a, (getS l a).2.2, 0) else ((getS l a).2.1, 0, (getS l a).1)
theorem rget_str {l : List Nat} {a : Int} (W : World) (g : Nat) (hg : g = W.heap.size) (x y z : Nat) (hx : Hid (getS l a = (x, y, z))) (hb : Hid (∀ x ∈ l, x < 256)) (hl : l.length ≤ 1000) :
    Calls Tryz.prog 103 #[.slice (some ⟨g, 0, none⟩) l.length (capOf l W), .int .i64 a] (W.alloc (objOf l W)).drew fun e w' => e = .returned (.tuple #[.int .u64 x, .int .i64 y, .int .i64 z]) ∧ Below W.heap.size W w' := by
  subst hg
  refine (rget_tupl (W.alloc (objOf l W)).drew x y z hx.out (bytes_rd l hb.out W _ W.heap.size (W.heap.size + 1) (heap_alloc_new W _) (by omega)) hb.out (by omega) (by simp)).mono ?_
  rintro e w' ⟨h1, h2⟩
  exact ⟨h1, (((Below.refl _ W).alloc (Nat.le_refl _) (objOf l W)).drew).trans (h2.mono (by simp))⟩
theorem blk3 {w : World} {b : Nat} {x y z : Value} {T : TypeId} (h : w.heap[b]? = some (.cells #[x, y, z] T (0, 0))) :
    w.cell? ⟨b, 0, none⟩ = some x ∧ w.cell? ⟨b, 1, none⟩ = some y ∧ w.cell? ⟨b, 2, none⟩ = some z ∧ w.frozen? ⟨b, 0, none⟩ = false ∧ w.frozen? ⟨b, 1, none⟩ = false ∧ w.frozen? ⟨b, 2, none⟩ = false :=
  ⟨cell_of_row w b 0 _ T (0, 0) h, cell_of_row w b 1 _ T (0, 0) h, cell_of_row w b 2 _ T (0, 0) h, frozen_of_row w b 0 _ T h, frozen_of_row w b 1 _ T h, frozen_of_row w b 2 _ T h⟩
set_option maxRecDepth 100000 in
theorem rnum_any (l : List Nat) (a e : Nat) (w : World) (hb : ∀ x ∈ l, x < 256) (hl : l.length ≤ 1000) (ha : a ≤ 1000) (he : e < 1000) (a' e' v : Nat) (hS : numR l a e = (a', e', v)) :
    Calls Tryz.prog 82 #[.agg #[.string (str l), .int .i64 a, .int .i64 e]] w fun en w' => en = .returned (.tuple #[.agg #[.string (str l), .int .i64 a', .int .i64 e'], .int .u64 v]) ∧ Below w.heap.size w w' := by
  by_cases h0 : e = 0
  · subst h0
    obtain ⟨⟨x, y, z⟩, hx⟩ : ∃ x, getS l a = x := ⟨_, rfl⟩
    have hrule := bytes_rule l
    have HX := Lib_hid hx
    have HB := Lib_hid hb
    have hS' : Hid ((if z ≠ 0 then (a, z, 0) else (y, 0, x)) = (a', e', v)) := by
      have h1 : numR l a 0 = if z ≠ 0 then (a, z, 0) else (y, 0, x) := by unfold numR; rw [if_neg (by omega), hx]
      unfold Hid; rw [← h1]; exact hS
    clear hx hb hS
    go_enter Tryz.func82, Tryz.ntmps82
    go_wp2_with fail
    refine (rget_str _ _ ?_ x y z HX HB hl).mono ?_
    · simp
    rintro en w1 ⟨rfl, hb1⟩
    have g1 := blk3 ((hb1.block w.heap.size (by simp; omega)).trans ((Below.heap_alloc _ _ _ (by simp)).trans (heap_alloc_new w _)))
    have g2 := blk3 ((hb1.block (w.heap.size + 1) (by simp)).trans (by have := heap_alloc_new (w.alloc (Obj.cells #[Value.string (str l), Value.int IntKind.i64 (a : Int), Value.int IntKind.i64 0] 125)) (Obj.cells #[Value.string { data := #[] }, Value.int IntKind.i64 0, Value.int IntKind.i64 0] 125); simpa using this))
    obtain ⟨p1, p2, p3, f1, f2, f3⟩ := g1
    obtain ⟨q1, q2, q3, k1, k2, k3⟩ := g2
    have hbw : Below w.heap.size w w1 := by
      refine Below.trans ?_ (hb1.mono ?_)
      · go_grown
      · simp; omega
    have hsz := hbw.size
    clear hb1 hrule
    by_cases hz : z = 0
    · subst hz
      have hs := hS'.out
      simp only [ne_eq, not_true_eq_false, if_false, Prod.mk.injEq] at hs
      obtain ⟨rfl, rfl, rfl⟩ := hs
      clear hS'
      go_wp2
      refine bodyPost_ret (v := .tuple #[.agg #[.string (str l), .int .i64 y, .int .i64 0], .int .u64 x]) (by simp [results, Tryz.results82, go_sem, *]) rfl ⟨rfl, ?_⟩
      go_grown
    · have hz0 : ((z : Int) != 0) = true := by simpa using hz
      have hs := hS'.out
      rw [if_pos hz] at hs
      simp only [Prod.mk.injEq] at hs
      obtain ⟨rfl, rfl, rfl⟩ := hs
      clear hS' hz
      go_wp2
      refine bodyPost_ret (v := .tuple #[.agg #[.string (str l), .int .i64 a, .int .i64 z], .int .u64 0]) (by simp [results, Tryz.results82, go_sem, *]) rfl ⟨rfl, ?_⟩
      go_grown
  · have h0' : ((e : Int) != 0) = true := by simpa using h0
    have hs : (a, e, 0) = (a', e', v) := by rw [← hS]; unfold numR; rw [if_pos h0]
    simp only [Prod.mk.injEq] at hs
    obtain ⟨rfl, rfl, rfl⟩ := hs
    clear hS
    go_enter Tryz.func82, Tryz.ntmps82
    go_wp2
    exact bodyPost_ret (v := .tuple #[.agg #[.string (str l), .int .i64 a, .int .i64 e], .int .u64 0]) (by simp [results, Tryz.results82, go_sem]) rfl ⟨rfl, by go_grown⟩
def rawS (l : List Nat) (a e : Nat) (n : Int) : Nat × Nat × List Nat :=
  if e ≠ 0 then (a, e, []) else if n < 0 then (a, 2, []) else if (l.length : Int) - a < n then (a, 4, []) else (a + n.toNat, 0, (l.drop a).take n.toNat)
theorem str_extract (l : List Nat) (a k : Nat) : (str l).extract a (a + k) = str ((l.drop a).take k) := by
  apply ByteArray.ext
  apply Array.ext'
  rw [Lib.extract_data]
  simp [str, List.map_drop, List.map_take]
def RawPost (l : List Nat) (r : Nat × Nat × List Nat) (w : World) (en : Ending) (w' : World) : Prop :=
  ∃ A c, en = .returned (.tuple #[.agg #[.string (str l), .int .i64 (r.1 : Int), .int .i64 (r.2.1 : Int)], .slice A r.2.2.length c]) ∧ Rd w' w'.heap.size 1 A r.2.2.length (bs r.2.2) ∧ Below w.heap.size w w' ∧ ∀ ad, A = some ad → w.heap.size ≤ ad.block
theorem Rd.off {w w' : World} {B B' size n : Nat} {A : Option Addr} {xs : List Value} (h : Rd w B size A n xs) (hk : ∀ ad, A = some ad → ad.block < B → w'.heap[ad.block]? = w.heap[ad.block]?) (hB : B ≤ B') : Rd w' B' size A n xs :=
  ⟨h.len, fun hn => by
    obtain ⟨ad, e, hb, hc⟩ := h.lies hn
    exact ⟨ad, e, by omega, fun j u hu => (World.cell?_of_block (by rw [add_block]; exact hk ad e hb)).trans (hc j u hu)⟩⟩
theorem two_new (w : World) (x y z x' y' z' : Value) (T : TypeId) :
    ((w.alloc (.cells #[x, y, z] T)).alloc (.cells #[x', y', z'] T)).heap[w.heap.size]? = some (.cells #[x, y, z] T (0, 0)) ∧ ((w.alloc (.cells #[x, y, z] T)).alloc (.cells #[x', y', z'] T)).heap[w.heap.size + 1]? = some (.cells #[x', y', z'] T (0, 0)) :=
  ⟨(Below.heap_alloc _ _ _ (by simp)).trans (heap_alloc_new w _), by have := heap_alloc_new (w.alloc (.cells #[x, y, z] T)) (.cells #[x', y', z'] T); simpa using this⟩
set_option maxRecDepth 100000 in
theorem rraw_any (l : List Nat) (a e : Nat) (n : Int) (w : World) (hb : ∀ x ∈ l, x < 256) (hl : l.length ≤ 1000) (ha : a ≤ l.length) (he : e < 1000) :
    Calls Tryz.prog 83 #[.agg #[.string (str l), .int .i64 a, .int .i64 e], .int .i64 n] w (RawPost l (rawS l a e n) w) := by
  by_cases h0 : e = 0
  · subst h0
    by_cases hn : n < 0
    · have hs : rawS l a 0 n = (a, 2, []) := by unfold rawS; rw [if_neg (by omega), if_pos hn]
      rw [hs]
      go_enter Tryz.func83, Tryz.ntmps83
      go_wp2
      refine bodyPost_ret (v := .tuple #[.agg #[.string (str l), .int .i64 a, .int .i64 2], .slice none 0 0]) (by simp [results, Tryz.results83, go_sem]) rfl ⟨none, 0, rfl, Rd.zero, ?_, by simp⟩
      go_grown
    · obtain ⟨k, rfl⟩ : ∃ k : Nat, n = k := ⟨n.toNat, by omega⟩
      have hsz := str_size l
      by_cases hk : (l.length : Int) - a < k
      · have hs : rawS l a 0 k = (a, 4, []) := by unfold rawS; rw [if_neg (by omega), if_neg (by omega), if_pos hk]
        rw [hs]
        go_enter Tryz.func83, Tryz.ntmps83
        go_wp2
        refine bodyPost_ret (v := .tuple #[.agg #[.string (str l), .int .i64 a, .int .i64 4], .slice none 0 0]) (by simp [results, Tryz.results83, go_sem]) rfl ⟨none, 0, rfl, Rd.zero, ?_, by simp⟩
        go_grown
      · obtain ⟨m, hm⟩ : ∃ m, m = (l.drop a).take k := ⟨_, rfl⟩
        have hml : m.length = k := by rw [hm, List.length_take, List.length_drop]; omega
        have hs : rawS l a 0 k = (a + k, 0, m) := by unfold rawS; rw [if_neg (by omega), if_neg (by omega), if_neg hk, hm]; rfl
        have hbm : ∀ x ∈ m, x < 256 := fun x hx => hb x (by rw [hm] at hx; exact List.mem_of_mem_drop (List.mem_of_mem_take hx))
        have hex := str_extract l a k
        rw [← hm] at hex
        have hrule := bytes_rule m
        have HBM := Lib_hid hbm
        have HML := Lib_hid hml
        rw [hs]
        clear hm hml hs hbm hb
        go_enter Tryz.func83, Tryz.ntmps83
        go_wp2
        refine bodyPost_ret (v := .tuple #[.agg #[.string (str l), .int .i64 ((a : Int) + k), .int .i64 0], .slice (some ⟨w.heap.size + 1 + 1, 0, none⟩) m.length _]) (by simp [results, Tryz.results83, go_sem]; rfl) rfl ⟨_, _, rfl, bytes_rd m HBM.out ((w.alloc (Obj.cells #[Value.string (str l), Value.int IntKind.i64 ((a : Int) + k), Value.int IntKind.i64 0] 125)).alloc (Obj.cells #[Value.string { data := #[] }, Value.int IntKind.i64 0, Value.int IntKind.i64 0] 125)) _ (w.heap.size + 1 + 1) _ ?_ ?_, ?_, ?_⟩
        · have := heap_alloc_new ((w.alloc (Obj.cells #[Value.string (str l), Value.int IntKind.i64 ((a : Int) + k), Value.int IntKind.i64 0] 125)).alloc (Obj.cells #[Value.string (str l), Value.int IntKind.i64 ((a : Int) + k), Value.int IntKind.i64 0] 125)) (objOf m ((w.alloc (Obj.cells #[Value.string (str l), Value.int IntKind.i64 ((a : Int) + k), Value.int IntKind.i64 0] 125)).alloc (Obj.cells #[Value.string { data := #[] }, Value.int IntKind.i64 0, Value.int IntKind.i64 0] 125)))
          rw [World.size_alloc, World.size_alloc] at this
          exact this
        · simp
        · go_grown
        · intro ad had; obtain rfl : (⟨w.heap.size + 1 + 1, 0, none⟩ : Addr) = ad := (by injection had); simp; omega
  · have h0' : ((e : Int) != 0) = true := by simpa using h0
    have hs : rawS l a e n = (a, e, []) := by unfold rawS; rw [if_pos h0]
    rw [hs]
    clear hs h0
    go_enter Tryz.func83, Tryz.ntmps83
    go_wp2
    refine bodyPost_ret (v := .tuple #[.agg #[.string (str l), .int .i64 a, .int .i64 e], .slice none 0 0]) (by simp [results, Tryz.results83, go_sem]) rfl ⟨none, 0, rfl, Rd.zero, ?_, by simp⟩
    go_grown
def textS (l : List Nat) (a e : Nat) : Nat × Nat × List Nat :=
  if (numR l a e).2.1 ≠ 0 then (a, (numR l a e).2.1, []) else if (l.length : Int) - (numR l a e).1 < (numR l a e).2.2 then (a, 4, []) else
    ((numR l a e).1 + (numR l a e).2.2, 0, (l.drop (numR l a e).1).take (numR l a e).2.2)
theorem getS_le {l : List Nat} {a : Nat} {x y z : Nat} (hb : ∀ x ∈ l, x < 256) (ha : a ≤ l.length) (h : getS l a = (x, y, z)) : y ≤ l.length ∧ (x : Int) ≤ 18446744073709551615 ∧ z < 1000 := by
  unfold getS at h
  rw [if_neg (by omega), Int.toNat_natCast] at h
  cases hg : got (l.drop a) with
  | num v k =>
    rw [hg] at h
    simp only [ans, Prod.mk.injEq] at h
    obtain ⟨rfl, rfl, rfl⟩ := h
    have := got_put (fun x hx => hb x (List.mem_of_mem_drop hx)) hg
    rw [List.length_drop] at this
    omega
  | err e =>
    rw [hg] at h
    simp only [ans, Prod.mk.injEq] at h
    obtain ⟨rfl, rfl, rfl⟩ := h
    have key : ∀ k i v (r : List Nat) (e : Nat), scan k i v r = .err e → e < 1000 := by
      intro k
      induction k with
      | zero => intro i v r e hh; simp [scan] at hh; omega
      | succ k ih =>
        intro i v r e hh
        cases r with
        | nil => simp [scan] at hh; omega
        | cons c r =>
          simp only [scan] at hh
          split at hh
          · exact ih _ _ _ _ hh
          · split at hh
            · cases hh
            · injection hh with hh; omega
    have := key _ _ _ _ _ hg
    omega
theorem numR_le {l : List Nat} {a e a' e' v : Nat} (hb : ∀ x ∈ l, x < 256) (ha : a ≤ l.length) (he : e < 1000) (h : numR l a e = (a', e', v)) : a' ≤ l.length ∧ e' < 1000 ∧ (v : Int) ≤ 18446744073709551615 := by
  unfold numR at h
  obtain ⟨⟨x, y, z⟩, hx⟩ : ∃ x, getS l a = x := ⟨_, rfl⟩
  have hle := getS_le hb ha hx
  rw [hx] at h
  split at h
  · simp only [Prod.mk.injEq] at h; omega
  · split at h <;> (simp only [Prod.mk.injEq] at h; omega)
set_option maxRecDepth 100000 in
set_option maxHeartbeats 800000 in
theorem rrtext_any (l : List Nat) (a e : Nat) (w : World) (hb : ∀ x ∈ l, x < 256) (hl : l.length ≤ 1000) (ha : a ≤ l.length) (he : e < 1000) :
    Calls Tryz.prog 55 #[.agg #[.string (str l), .int .i64 a, .int .i64 e]] w (RawPost l (textS l a e) w) := by
  obtain ⟨⟨a', e', v⟩, hS⟩ : ∃ x, numR l a e = x := ⟨_, rfl⟩
  obtain ⟨hle, hee, hv⟩ := numR_le hb ha he hS
  have N := rnum_any l a e ((w.alloc (.cells #[.string (str l), .int .i64 a, .int .i64 e] 125)).alloc (.cells #[.string { data := #[] }, .int .i64 0, .int .i64 0] 125)) hb hl (by omega) he a' e' v hS
  obtain ⟨R, hR⟩ : ∃ R, R = textS l a e := ⟨_, rfl⟩
  have hT : R = if e' ≠ 0 then (a, e', []) else if (l.length : Int) - a' < v then (a, 4, []) else (a' + v, 0, (l.drop a').take v) := by rw [hR]; unfold textS; rw [hS]
  rw [← hR]
  clear hR
  have HT := Lib_hid hT
  clear hT
  go_enter Tryz.func55, Tryz.ntmps55
  go_wp2_with fail
  refine N.mono ?_
  rintro en w1 ⟨rfl, hb1⟩
  have g0 := two_new w (.string (str l)) (.int .i64 a) (.int .i64 e) (.string { data := #[] }) (.int .i64 0) (.int .i64 0) 125
  have hbw : Below w.heap.size w w1 := by
    refine Below.trans ?_ (hb1.mono ?_)
    · go_grown
    · simp; omega
  have j1 := (hb1.block w.heap.size (by simp; omega)).trans g0.1
  have j2 := (hb1.block (w.heap.size + 1) (by simp)).trans g0.2
  obtain ⟨p1, p2, p3, f1, f2, f3⟩ := blk3 j1
  obtain ⟨q1, q2, q3, k1, k2, k3⟩ := blk3 j2
  have hsz : w.heap.size + 2 ≤ w1.heap.size := by have := hb1.size; simp at this; omega
  have hz3 : w.heap.size < w1.heap.size := by omega
  have hz4 : w.heap.size + 1 < w1.heap.size := by omega
  have hz5 : w.heap.size ≠ w1.heap.size := by omega
  have hz6 : w.heap.size + 1 ≠ w1.heap.size := by omega
  have HB := Lib_hid hb
  have J1 := Lib_hid j1
  have J2 := Lib_hid j2
  clear hb1 g0 N hS hb j1 j2
  by_cases h0 : e' = 0
  · subst h0
    by_cases hbig : (v : Int) ≤ 9223372036854775807
    · have hz0 : (((0 : Nat) : Int) == 0) = true := rfl
      have W0 := fun W => rraw_any l a' 0 v W HB.out hl hle (by omega)
      by_cases hsh : (l.length : Int) - a' < v
      · have hs : rawS l a' 0 v = (a', 4, []) := by unfold rawS; rw [if_neg (by omega), if_neg (by omega), if_pos hsh]
        rw [hs] at W0
        have HR : Hid (R = (a, 4, [])) := by unfold Hid; rw [HT.out, if_neg (by omega), if_pos hsh]
        have HW := Lib_hid W0
        clear W0 hs HT
        go_wp2_with fail
        refine (HW.out _).mono ?_
        rintro en w2 ⟨A2, c2, rfl, hr2, hb2, hA2⟩
        have hb12 : Below w.heap.size w w2 := (hbw.alloc (by omega) _).trans (hb2.mono (by simp; omega))
        have hs2 : w.heap.size + 2 ≤ w2.heap.size := by have := hb2.size; simp at this; omega
        have hs3 : w.heap.size < w2.heap.size := by omega
        have hs4 : w.heap.size + 1 < w2.heap.size := by omega
        have hs5 : w.heap.size ≠ w2.heap.size := by omega
        have hs6 : w.heap.size + 1 ≠ w2.heap.size := by omega
        clear p1 p2 p3 f1 f2 f3 q1 q2 q3 k1 k2 k3
        obtain ⟨p1, p2, p3, f1, f2, f3⟩ := blk3 ((hb2.block w.heap.size (by simp; omega)).trans ((Below.heap_alloc _ _ _ (by omega)).trans J1.out))
        obtain ⟨q1, q2, q3, k1, k2, k3⟩ := blk3 ((hb2.block (w.heap.size + 1) (by simp; omega)).trans ((Below.heap_alloc _ _ _ (by omega)).trans J2.out))
        clear hb2 hbw
        go_wp2
        exact bodyPost_ret (v := .tuple #[.agg #[.string (str l), .int .i64 a, .int .i64 4], .slice none 0 0]) (by simp [results, Tryz.results55, go_sem, *]) rfl (by rw [HR.out]; exact ⟨none, 0, rfl, Rd.zero, by go_grown, by simp⟩)
      · obtain ⟨m, hm⟩ : ∃ m, m = (l.drop a').take v := ⟨_, rfl⟩
        have hs : rawS l a' 0 v = (a' + v, 0, m) := by unfold rawS; rw [if_neg (by omega), if_neg (by omega), if_neg hsh, hm]; rfl
        rw [hs] at W0
        have HR : Hid (R = (a' + v, 0, m)) := by unfold Hid; rw [HT.out, if_neg (by omega), if_neg hsh, hm]
        have HW := Lib_hid W0
        clear W0 hs HT hm
        go_wp2_with fail
        refine (HW.out _).mono ?_
        rintro en w2 ⟨A2, c2, rfl, hr2, hb2, hA2⟩
        have hb12 : Below w.heap.size w w2 := (hbw.alloc (by omega) _).trans (hb2.mono (by simp; omega))
        have hs2 : w.heap.size + 2 ≤ w2.heap.size := by have := hb2.size; simp at this; omega
        have hs3 : w.heap.size < w2.heap.size := by omega
        have hs4 : w.heap.size + 1 < w2.heap.size := by omega
        have hs5 : w.heap.size ≠ w2.heap.size := by omega
        have hs6 : w.heap.size + 1 ≠ w2.heap.size := by omega
        clear p1 p2 p3 f1 f2 f3 q1 q2 q3 k1 k2 k3
        obtain ⟨q1, q2, q3, k1, k2, k3⟩ := blk3 ((hb2.block (w.heap.size + 1) (by simp; omega)).trans ((Below.heap_alloc _ _ _ (by omega)).trans J2.out))
        clear hb2 hbw
        go_wp2
        have hr3 : Rd w2 w2.heap.size 1 A2 m.length (bs m) := hr2
        exact bodyPost_ret (v := .tuple #[.agg #[.string (str l), .int .i64 ((a' : Int) + v), .int .i64 0], .slice A2 m.length c2]) (by simp [results, Tryz.results55, go_sem, *]) rfl (by
          rw [HR.out]
          refine ⟨A2, c2, rfl, hr3.off (fun ad had hlt => ?_) (by simp), by go_grown, fun ad had => ?_⟩
          · have := hA2 ad had
            simp at this
            rw [Below.heap_alloc _ _ _ (by simp; exact hlt), Below.heap_setCell _ _ _ _ (by simp; omega), Below.heap_setCell _ _ _ _ (by simp; omega), Below.heap_setCell _ _ _ _ (by simp; omega)]
          · have := hA2 ad had
            simp at this
            omega)
    · have HR : Hid (R = (a, 4, [])) := by unfold Hid; rw [HT.out, if_neg (by omega), if_pos (by omega)]
      go_wp2
      exact bodyPost_ret (v := .tuple #[.agg #[.string (str l), .int .i64 a, .int .i64 4], .slice none 0 0]) (by simp [results, Tryz.results55, go_sem, *]) rfl (by rw [HR.out]; exact ⟨none, 0, rfl, Rd.zero, by go_grown, by simp⟩)
  · have HR : Hid (R = (a, e', [])) := by unfold Hid; rw [HT.out, if_pos h0]
    have hz0 : ((e' : Int) == 0) = false := by simpa using h0
    have hz1 : ((e' : Int) != 0) = true := by simpa using h0
    clear HT h0
    go_wp2
    exact bodyPost_ret (v := .tuple #[.agg #[.string (str l), .int .i64 a, .int .i64 e'], .slice none 0 0]) (by simp [results, Tryz.results55, go_sem, *]) rfl (by rw [HR.out]; exact ⟨none, 0, rfl, Rd.zero, by go_grown, by simp⟩)
end Go.Proofs.YtdmoknnnlfkfoaaGreatDoor

namespace Go.Proofs.YtdmoknnnlfkfoaaGreatDoor
open Go Go.RowKit
set_option linter.unusedVariables false
structure Rr (T : TypeId) (w : World) (g : Nat) (A : Option Addr) (n c : Nat) (l : List Nat) (a e : Nat) : Prop where
  blk : w.heap[g]? = some (.cells #[.int .i64 (a : Int), .int .i64 (e : Int), .slice A n c] T (0, 0))
  rd : Rd w g 1 A n (bs l)
  nc : n ≤ c ∧ c ≤ 9223372036854775807
  b8 : ∀ x ∈ l, x < 256
  len : l.length ≤ 100000
  place : a ≤ l.length
  err : e < 1000
structure RStp (w w' : World) (g : Nat) : Prop where
  os : w'.os = w.os
  tape : w'.tape = w.tape
  output : w'.output = w.output
  size : w.heap.size ≤ w'.heap.size
  block : ∀ k, k < w.heap.size → k ≠ g → w'.heap[k]? = w.heap[k]?
theorem RStp.refl (w : World) (g : Nat) : RStp w w g := ⟨rfl, rfl, rfl, Nat.le_refl _, fun _ _ _ => rfl⟩
theorem RStp.trans {a b c : World} {g : Nat} (h : RStp a b g) (k : RStp b c g) : RStp a c g :=
  ⟨k.os.trans h.os, k.tape.trans h.tape, k.output.trans h.output, Nat.le_trans h.size k.size, fun i hi hg => (k.block i (Nat.lt_of_lt_of_le hi h.size) hg).trans (h.block i hi hg)⟩
theorem RStp.of {w w' : World} (h : Below w.heap.size w w') (g : Nat) : RStp w w' g := ⟨h.os, h.tape, h.output, h.size, fun k hk _ => h.block k hk⟩
theorem RStp.drewN (w : World) (g n : Nat) : RStp w (w.drewN n) g := RStp.of (below_drew_ (Below.refl _ w)) g
theorem RStp.store (w : World) (g o : Nat) (u : Value) : RStp w (w.setCell ⟨g, o, none⟩ u) g := ⟨rfl, rfl, rfl, by simp, fun k _ hg => Below.heap_setCell w _ _ _ hg⟩
theorem RStp.below {w w' : World} {g : Nat} (h : RStp w w' g) {B : Nat} (hB : B ≤ w.heap.size) (hg : B ≤ g) : Below B w w' := ⟨h.os, h.tape, h.output, h.size, fun k hk => h.block k (by omega) (by omega)⟩
theorem three_set {w : World} {g : Nat} {x y z u : Value} {T : TypeId} (h : w.heap[g]? = some (.cells #[x, y, z] T (0, 0))) :
    (w.setCell ⟨g, 0, none⟩ u).heap[g]? = some (.cells #[u, y, z] T (0, 0)) ∧ (w.setCell ⟨g, 1, none⟩ u).heap[g]? = some (.cells #[x, u, z] T (0, 0)) :=
  ⟨heap_setCell_same w g 0 _ T u h, heap_setCell_same w g 1 _ T u h⟩
section
variable {T : TypeId} {w w' : World} {g n c a e : Nat} {A : Option Addr} {l : List Nat}
theorem Rr.lt (h : Rr T w g A n c l a e) : g < w.heap.size := lt_of_block h.blk
theorem Rr.cells (h : Rr T w g A n c l a e) : w.cell? ⟨g, 0, none⟩ = some (.int .i64 (a : Int)) ∧ w.cell? ⟨g, 1, none⟩ = some (.int .i64 (e : Int)) ∧ w.cell? ⟨g, 2, none⟩ = some (.slice A n c) ∧ w.frozen? ⟨g, 0, none⟩ = false ∧ w.frozen? ⟨g, 1, none⟩ = false := by
  obtain ⟨h1, h2, h3, h4, h5, _⟩ := blk3 h.blk
  exact ⟨h1, h2, h3, h4, h5⟩
theorem Rr.kept (h : Rr T w g A n c l a e) (hb : Below w.heap.size w w') : Rr T w' g A n c l a e :=
  ⟨(hb.block g h.lt).trans h.blk, h.rd.below (hb.mono (Nat.le_of_lt h.lt)), h.nc, h.b8, h.len, h.place, h.err⟩
theorem Rr.kept' {v v' : Value} (h : Rr T w g A n c l a e) (hs : Stp w w' v v') (hv : ∀ k, v.ownBlock = some k → g < k) : Rr T w' g A n c l a e :=
  ⟨(hs.grow.block g h.lt (fun q => by have := hv g q.symm; omega)).trans h.blk, h.rd.keep (fun p hp => World.cell?_of_block (hs.grow.block p.block (by have := h.lt; omega) (fun q => by have := hv p.block q.symm; omega))), h.nc, h.b8, h.len, h.place, h.err⟩
theorem Rr.drewN (h : Rr T w g A n c l a e) (k : Nat) : Rr T (w.drewN k) g A n c l a e := h.kept (below_drew_ (Below.refl _ w))
theorem Rr.stored (h : Rr T w g A n c l a e) (a' e' : Nat) (ha : a' ≤ l.length) (he : e' < 1000) : Rr T ((w.setCell ⟨g, 0, none⟩ (.int .i64 (a' : Int))).setCell ⟨g, 1, none⟩ (.int .i64 (e' : Int))) g A n c l a' e' := by
  refine ⟨(three_set (three_set h.blk).1).2, h.rd.keep fun p hp => ?_, h.nc, h.b8, h.len, ha, he⟩
  rw [World.cell?_setCell_other _ _ _ _ (fun q => by rw [← q] at hp; simp at hp), World.cell?_setCell_other _ _ _ _ (fun q => by rw [← q] at hp; simp at hp)]
theorem Rr.moved (h : Rr T w g A n c l a e) (a' : Nat) (ha : a' ≤ l.length) : Rr T (w.setCell ⟨g, 0, none⟩ (.int .i64 (a' : Int))) g A n c l a' e := by
  refine ⟨(three_set h.blk).1, h.rd.keep fun p hp => ?_, h.nc, h.b8, h.len, ha, h.err⟩
  rw [World.cell?_setCell_other _ _ _ _ (fun q => by rw [← q] at hp; simp at hp)]
end
theorem fail_any (g : Nat) (A : Option Addr) (n c a e : Nat) (l : List Nat) (a' e' : Int) (w : World) (h : Rr 138 w g A n c l a e) :
    Calls Tryz.prog 174 #[.pointer (some ⟨g, 0, none⟩), .int .i64 a', .int .i64 e'] w fun en w' => en = .returned (.tuple #[]) ∧ (w.setCell ⟨g, 0, none⟩ (.int .i64 a')).setCell ⟨g, 1, none⟩ (.int .i64 e') = w' := by
  obtain ⟨c0, c1, c2, f0, f1⟩ := h.cells
  go_enter Tryz.func174, Tryz.ntmps174
  go_wp2
  go_end0
  exact ⟨rfl, rfl⟩
theorem err_any (g : Nat) (A : Option Addr) (n c a e : Nat) (l : List Nat) (w : World) (h : Rr 138 w g A n c l a e) :
    Calls Tryz.prog 60 #[.pointer (some ⟨g, 0, none⟩)] w fun en w' => en = .returned (.int .i64 (e : Int)) ∧ w = w' := by
  obtain ⟨c0, c1, c2, f0, f1⟩ := h.cells
  go_enter Tryz.func60, Tryz.ntmps60
  go_wp2
  go_ret
  exact ⟨rfl, rfl⟩
theorem at_any (g : Nat) (A : Option Addr) (n c a e : Nat) (l : List Nat) (w : World) (h : Rr 138 w g A n c l a e) :
    Calls Tryz.prog 201 #[.pointer (some ⟨g, 0, none⟩)] w fun en w' => en = .returned (.int .i64 (a : Int)) ∧ w = w' := by
  obtain ⟨c0, c1, c2, f0, f1⟩ := h.cells
  go_enter Tryz.func201, Tryz.ntmps201
  go_wp2
  go_ret
  exact ⟨rfl, rfl⟩
theorem left_any (g : Nat) (A : Option Addr) (n c a e : Nat) (l : List Nat) (w : World) (h : Rr 138 w g A n c l a e) :
    Calls Tryz.prog 27 #[.pointer (some ⟨g, 0, none⟩)] w fun en w' => en = .returned (.int .i64 ((n : Int) - a)) ∧ ∃ q, w' = w.drewN q := by
  obtain ⟨c0, c1, c2, f0, f1⟩ := h.cells
  have hl := h.rd.count
  have hp := h.place
  have hn := h.len
  have hw : IntKind.i64.wrap ((n : Int) - (a : Int)) = (n : Int) - (a : Int) := IntWalk.i64_in _ (by omega)
  clear hl
  go_enter Tryz.func27, Tryz.ntmps27
  go_wp2
  go_quiet (fail)
  go_wp2
  go_ret
  exact ⟨rfl, nq, rfl⟩
theorem get_quiet {B : Nat} {A : Option Addr} {n c : Nat} {l : List Nat} {a : Int} {w : World} {k : Nat} (x y z : Nat) (hx : getS l a = (x, y, z)) (h : Rd w B 1 A n (bs l)) (hb : ∀ x ∈ l, x < 256) (hn : n ≤ c) (hc : c ≤ 9223372036854775807) :
    Calls Tryz.prog 173 #[.slice A n c, .int .i64 a] (w.drewN k) fun e w'' => e = .returned (.tuple #[.int .u64 x, .int .i64 y, .int .i64 z]) ∧ ∃ q, w'' = w.drewN q := by
  refine (get_tupl (w.drewN k) x y z hx (h.drewNn k) hb hn hc).mono ?_
  rintro e w' ⟨h1, rfl⟩
  exact ⟨h1, k, rfl⟩
def RLeft (g : Nat) (A : Option Addr) (n c : Nat) (l : List Nat) (a e : Nat) (w w' : World) : Prop := Rr 138 w' g A n c l a e ∧ RStp w w' g
set_option maxRecDepth 100000 in
theorem number_any (g : Nat) (A : Option Addr) (n c a e : Nat) (l : List Nat) (w : World) (h : Rr 138 w g A n c l a e) (a' e' v : Nat) (hS : numR l a e = (a', e', v)) :
    Calls Tryz.prog 110 #[.pointer (some ⟨g, 0, none⟩)] w fun en w' => en = .returned (.int .u64 (v : Int)) ∧ RLeft g A n c l a' e' w w' := by
  obtain ⟨c0, c1, c2, f0, f1⟩ := h.cells
  obtain ⟨hle, hee, hv⟩ := numR_le h.b8 h.place h.err hS
  by_cases h0 : e = 0
  · subst h0
    obtain ⟨⟨x, y, z⟩, hx⟩ : ∃ x, getS l a = x := ⟨_, rfl⟩
    have h1 : numR l a 0 = if z ≠ 0 then (a, z, 0) else (y, 0, x) := by unfold numR; rw [if_neg (by omega), hx]
    rw [h1] at hS
    have HX := Lib_hid hx
    have hrd := h.rd
    have HB := Lib_hid h.b8
    have hnc := h.nc
    clear hx h1
    by_cases hz : z = 0
    · subst hz
      simp only [ne_eq, not_true_eq_false, if_false, Prod.mk.injEq] at hS
      obtain ⟨rfl, rfl, rfl⟩ := hS
      go_enter Tryz.func110, Tryz.ntmps110
      go_wp2_with (go_at_call 60; refine (err_any g A n c a 0 l w h).mono ?_; rintro en w1 ⟨rfl, rfl⟩)
      go_quiet ((go_at_call 173; exact get_quiet x y 0 HX.out hrd HB.out hnc.1 hnc.2))
      go_wp2
      go_ret
      exact ⟨rfl, (h.moved y hle).drewN nq, (RStp.store _ _ _ _).trans (RStp.drewN _ _ _)⟩
    · rw [if_pos hz] at hS
      simp only [Prod.mk.injEq] at hS
      obtain ⟨rfl, rfl, rfl⟩ := hS
      have hz0 : ((z : Int) != 0) = true := by simpa using hz
      go_enter Tryz.func110, Tryz.ntmps110
      go_wp2_with (go_at_call 60; refine (err_any g A n c a 0 l w h).mono ?_; rintro en w1 ⟨rfl, rfl⟩)
      go_quiet ((go_at_call 173; exact get_quiet x y z HX.out hrd HB.out hnc.1 hnc.2))
      go_wp2
      go_region_held3 (fun W => W.cell? ⟨g, 0, none⟩ = some (.int .i64 (a : Int))) (first | exact c0 | exact hst.cells.1)
        ((first | (go_at_call 174; refine (fail_any g A n c a 0 l a z (w.drewN (nq + 1)) (h.drewN (nq + 1))).mono ?_; rintro en w2 ⟨rfl, rfl⟩; have hst := (h.drewN (nq + 1)).stored a z h.place hee)))
      all_goals
        go_wp2
        go_ret
        exact ⟨rfl, (h.stored a z h.place hee).drewN (nq + 1), ((RStp.store _ _ _ _).trans (RStp.store _ _ _ _)).trans (RStp.drewN _ _ _)⟩
  · have h0' : ((e : Int) != 0) = true := by simpa using h0
    unfold numR at hS
    rw [if_pos h0] at hS
    simp only [Prod.mk.injEq] at hS
    obtain ⟨rfl, rfl, rfl⟩ := hS
    go_enter Tryz.func110, Tryz.ntmps110
    go_wp2_with (go_at_call 60; refine (err_any g A n c a e l w h).mono ?_; rintro en w1 ⟨rfl, rfl⟩)
    go_ret
    exact ⟨rfl, h, RStp.refl _ _⟩
end Go.Proofs.YtdmoknnnlfkfoaaGreatDoor
