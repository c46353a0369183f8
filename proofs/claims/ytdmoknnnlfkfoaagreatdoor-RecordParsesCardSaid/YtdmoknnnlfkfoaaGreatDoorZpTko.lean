/-
  Words for memory: a slice that reads as a list, a row of the call's own, what a step leaves as it was. No program is named here.
  Trees of layer 4 as plain data, and how one lies in memory. No program is named here.
  What every seat's texts share: the byte's row of the table of types; slices in new memory.
  Contracts of the statements' helpers Own, SameBytes and Spoil, for every input.
  Layer 4: the statements' FewNodes; the document's Depth and Nodes.
  Layer 4: the program's kinds, and kindOf.
  Layer 4: the program's kindOf.
-/
import Derived.Below
import Derived.Laws.OwnMore
import Derived.Maps.AppendAt
import Derived.Deep.AppendLies
import Derived.Deep.Draws
import Derived.WalkKit
import Derived.RegionTactic
import Derived.Test.YtdmoknnnlfkfoaaGreatDoorChecked
import Derived.WalkSpells
import Derived.Deep.QuietTactic
import Derived.BigQuiet
import Derived.Great.BuildSlice
import Derived.Deep.DeepCutAuto
import Derived.Deep.CutBlock
import Derived.Laws.EntriesVeiled
import Derived.Lib.SmallJoins

namespace Go.Proofs.YtdmoknnnlfkfoaaGreatDoor
open Go Go.RowKit
theorem Lib_hid {p : Prop} (h : p) : Hid p := h
theorem add_block (a : Addr) (n : Nat) : (a.add n).block = a.block := by unfold Addr.add; split <;> rfl
theorem add_add (a : Addr) (i j : Nat) : (a.add i).add j = a.add (i + j) := by
  unfold Addr.add
  by_cases hi : i = 0 <;> by_cases hj : j = 0 <;> simp [hi, hj, Nat.add_assoc]
def bs (l : List Nat) : List Value := l.map fun (n : Nat) => Value.int .u8 (n : Int)
theorem bs_length (l : List Nat) : (bs l).length = l.length := by simp [bs]
theorem bs_append (l m : List Nat) : bs (l ++ m) = bs l ++ bs m := by simp [bs]
theorem bs_one (l : List Nat) : ∀ u ∈ bs l, u.oneCell' = true := by
  intro u hu
  simp only [bs, List.mem_map] at hu
  obtain ⟨n, _, rfl⟩ := hu
  rfl
theorem bs_get {l : List Nat} {j : Nat} (h : j < l.length) : (bs l)[j]? = some (.int .u8 (l[j] : Nat)) := by simp [bs, h]
structure Rd (w : World) (B size : Nat) (A : Option Addr) (n : Nat) (xs : List Value) : Prop where
  len : xs.length = n * size
  lies : 0 < n → ∃ ad, A = some ad ∧ ad.block < B ∧ ∀ j u, xs[j]? = some u → w.cell? (ad.add j) = some u
section
variable {w w' : World} {B B' size n : Nat} {A : Option Addr} {xs : List Value}
theorem Rd.zero : Rd w B size A 0 [] := ⟨by simp, fun h => absurd h (by omega)⟩
theorem Rd.keep (h : Rd w B size A n xs) (hk : ∀ p : Addr, p.block < B → w'.cell? p = w.cell? p) : Rd w' B size A n xs :=
  ⟨h.len, fun hn => by
    obtain ⟨ad, e, hb, hc⟩ := h.lies hn
    exact ⟨ad, e, hb, fun j u hu => (hk _ (by rw [add_block]; exact hb)).trans (hc j u hu)⟩⟩
theorem Rd.more (h : Rd w B size A n xs) (hB : B ≤ B') : Rd w B' size A n xs :=
  ⟨h.len, fun hn => by obtain ⟨ad, e, hb, hc⟩ := h.lies hn; exact ⟨ad, e, by omega, hc⟩⟩
theorem Rd.below (h : Rd w B size A n xs) (hb : Below B w w') : Rd w' B size A n xs := h.keep fun _ hp => hb.cell hp
theorem Rd.alloc (h : Rd w B size A n xs) (hB : B ≤ w.heap.size) (o : Obj) : Rd (w.alloc o) B size A n xs := h.keep fun p hp => World.cell?_alloc_lt w o p (by omega)
theorem Rd.grown (h : Rd w B size A n xs) {row : Option Nat} (hg : w.grownBy w' row) (hB : B ≤ w.heap.size) (hr : ∀ g, row = some g → B ≤ g) : Rd w' B size A n xs :=
  h.keep fun p hp => World.cell?_of_block (hg.block p.block (by omega) (fun e => by have := hr _ e.symm; omega))
theorem Rd.byte {l : List Nat} (h : Rd w B 1 A n (bs l)) {k : Nat} (hk : k < n) : ∃ ad, A = some ad ∧ ad.block < B ∧ w.cell? (ad.add k) = some (.int .u8 ((l.getD k 0 : Nat) : Int)) := by
  obtain ⟨ad, e, hb, hc⟩ := h.lies (by omega)
  have hl : k < l.length := by have := h.len; rw [bs_length] at this; omega
  exact ⟨ad, e, hb, hc k _ (by rw [bs_get hl, List.getD_eq_getElem?_getD, List.getElem?_eq_getElem hl]; rfl)⟩
theorem Rd.count {l : List Nat} (h : Rd w B 1 A n (bs l)) : l.length = n := by have := h.len; rw [bs_length] at this; omega
theorem Rd.take (h : Rd w B size A n xs) {k : Nat} (hk : k ≤ n) : Rd w B size A k (xs.take (k * size)) :=
  ⟨by rw [List.length_take, h.len]; exact Nat.min_eq_left (Nat.mul_le_mul_right _ hk), fun hn => by
    obtain ⟨ad, e, hb, hc⟩ := h.lies (by omega)
    refine ⟨ad, e, hb, fun j u hu => hc j u ?_⟩
    rw [List.getElem?_take] at hu
    split at hu
    · exact hu
    · cases hu⟩
theorem Rd.cut (h : Rd w B size A n xs) {k cap : Nat} (hk : k ≤ n) (hc : n ≤ cap) :
    Rd w B size (if cap = k then A else A.map (·.add (k * size))) (n - k) (xs.drop (k * size)) := by
  refine ⟨by rw [List.length_drop, h.len, Nat.sub_mul], fun hn => ?_⟩
  obtain ⟨ad, rfl, hb, hcell⟩ := h.lies (by omega)
  rw [if_neg (by omega)]
  refine ⟨ad.add (k * size), rfl, by rw [add_block]; exact hb, fun j u hu => ?_⟩
  rw [add_add]
  exact hcell _ u (by rw [← hu, List.getElem?_drop])
theorem Rd.own {base : Nat} {e : TypeId} {c : Nat} (h : w.ownsRow base e size (.slice A n c) n xs) : Rd w w.heap.size size A n xs := by
  refine ⟨h.1, fun hn => ?_⟩
  obtain ⟨g, cap, hv, _, hlt⟩ := h.form hn
  have hA : A = some ⟨g, 0, none⟩ := by injection hv
  subst hA
  exact ⟨_, rfl, hlt, h.cells (g := g) rfl⟩
end
theorem own_form {w : World} {base size n : Nat} {e : TypeId} {v : Value} {xs : List Value} (h : w.ownsRow base e size v n xs) : ∃ A c, v = .slice A n c ∧ n ≤ c := by
  rcases h.2 with ⟨rfl, rfl⟩ | ⟨g, cap, cur, rfl, _, _, hnc, _⟩
  · exact ⟨none, 0, rfl, Nat.le_refl _⟩
  · exact ⟨_, cap, rfl, hnc⟩
theorem own_cap {w : World} {base n c : Nat} {A : Option Addr} {size : Nat} {e : TypeId} {xs : List Value} (h : w.ownsRow base e size (.slice A n c) n xs) : n ≤ c ∧ c ≤ 9223372036854775807 := by
  rcases h.2 with ⟨h, rfl⟩ | ⟨g, cap, cur, h, _, _, hnc, hm, _⟩
  · simp only [Value.slice.injEq] at h; obtain ⟨_, _, rfl⟩ := h; omega
  · simp only [Value.slice.injEq] at h; obtain ⟨_, _, rfl⟩ := h; unfold maxLen at hm; omega
theorem own_base {w : World} {b b' size n : Nat} {e : TypeId} {v : Value} {xs : List Value} (h : w.ownsRow b e size v n xs) (hb : ∀ k, v.ownBlock = some k → b' ≤ k) : w.ownsRow b' e size v n xs := by
  refine ⟨h.1, ?_⟩
  rcases h.2 with h2 | ⟨g, cap, cur, rfl, hg, r⟩
  · exact .inl h2
  · exact .inr ⟨g, cap, cur, rfl, hb g rfl, r⟩
theorem own_keep {w w' : World} {b size n : Nat} {e : TypeId} {v : Value} {xs : List Value} (h : w.ownsRow b e size v n xs) (hk : ∀ k, v.ownBlock = some k → w'.heap[k]? = w.heap[k]?) : w'.ownsRow b e size v n xs := by
  refine ⟨h.1, ?_⟩
  rcases h.2 with h2 | ⟨g, cap, cur, rfl, hg, hh, r⟩
  · exact .inl h2
  · exact .inr ⟨g, cap, cur, rfl, hg, (hk g rfl).trans hh, r⟩
theorem own_below {w w' : World} {B b size n : Nat} {e : TypeId} {v : Value} {xs : List Value} (h : w.ownsRow b e size v n xs) (hb : Below B w w') (hv : ∀ k, v.ownBlock = some k → k < B) : w'.ownsRow b e size v n xs :=
  own_keep h fun k hk => hb.block k (hv k hk)
theorem own_lt {w : World} {b size n : Nat} {e : TypeId} {v : Value} {xs : List Value} (h : w.ownsRow b e size v n xs) : ∀ k, v.ownBlock = some k → k < w.heap.size := fun k hk => (h.lt k hk).2
theorem alloc_le {B : Nat} {w w1 : World} {o : Obj} (hb : Below B (w.alloc o) w1) : w.heap.size ≤ w1.heap.size := by have := hb.size; simp at this; omega
structure Stp (w w' : World) (v v' : Value) : Prop where
  grow : w.grownBy w' v.ownBlock
  row : v'.ownBlock = v.ownBlock ∨ ∃ k, v'.ownBlock = some k ∧ w.heap.size ≤ k
theorem Stp.refl (w : World) (v : Value) : Stp w w v v := ⟨⟨rfl, rfl, rfl, Nat.le_refl _, fun _ _ _ => rfl⟩, .inl rfl⟩
theorem Stp.alloc (w : World) (o : Obj) (v : Value) : Stp w (w.alloc o) v v := ⟨World.grownBy_alloc w o _, .inl rfl⟩
theorem Stp.trans {a b c : World} {u v x : Value} (h : Stp a b u v) (k : Stp b c v x) : Stp a c u x := by
  refine ⟨⟨k.grow.os.trans h.grow.os, k.grow.tape.trans h.grow.tape, k.grow.output.trans h.grow.output, Nat.le_trans h.grow.size k.grow.size, fun i hi hne => ?_⟩, ?_⟩
  · refine (k.grow.block i (Nat.lt_of_lt_of_le hi h.grow.size) ?_).trans (h.grow.block i hi hne)
    rcases h.row with e | ⟨g, e, hg⟩
    · rw [e]; exact hne
    · rw [e]; intro e2; have : i = g := by injection e2
      omega
  · have := h.grow.size
    rcases k.row with e | ⟨g, e, hg⟩
    · rw [e]; rcases h.row with e1 | ⟨g, e1, hg⟩
      · exact .inl e1
      · exact .inr ⟨g, e1, hg⟩
    · exact .inr ⟨g, e, by omega⟩
theorem Stp.below {w w' : World} {v v' : Value} (h : Stp w w' v v') {B : Nat} (hB : B ≤ w.heap.size) (hv : ∀ k, v.ownBlock = some k → B ≤ k) : Below B w w' :=
  (Below.refl B w).grown h.grow hB (fun k hk => hv k hk)
theorem own_ge {w : World} {base size n : Nat} {e : TypeId} {v : Value} {xs : List Value} (h : w.ownsRow base e size v n xs) : ∀ k, v.ownBlock = some k → base ≤ k := fun k hk => (h.lt k hk).1
theorem Rd.new1 (w : World) (c : Nat) (t : TypeId) : Rd (w.alloc (.cells #[.int .u8 (c : Int)] t)) (w.heap.size + 1) 1 (some ⟨w.heap.size, 0, none⟩) 1 (bs [c]) :=
  ⟨rfl, fun _ => ⟨_, rfl, by simp, fun j u hu => by
    match j, hu with
    | 0, hu => simp [bs] at hu; subst hu; simp [Addr.add]⟩⟩
theorem Rd.newi (w : World) (z : Int) (c : Nat) (h : z = c) (t : TypeId) : Rd (w.alloc (.cells #[.int .u8 z] t)) (w.heap.size + 1) 1 (some ⟨w.heap.size, 0, none⟩) 1 (bs [c]) := by
  subst h; exact Rd.new1 w c t
theorem own_new1 (w : World) (z : Int) (c : Nat) (h : z = c) (t : TypeId) : (w.alloc (.cells #[.int .u8 z] t)).ownsRow w.heap.size t 1 (.slice (some ⟨w.heap.size, 0, none⟩) 1 1) 1 (bs [c]) := by
  subst h; exact World.ownsRow_lit w #[.int .u8 (c : Int)] 1 (Nat.le_refl _) (by decide) rfl
def Grew (E : TypeId) (B : Nat) (v0 : Value) (ys : List Value) (w : World) (e : Ending) (w' : World) : Prop :=
  ∃ A n c, e = .returned (.slice A n c) ∧ w'.ownsRow B E 1 (.slice A n c) n ys ∧ Stp w w' v0 (.slice A n c)
section
variable {P : Program}
theorem run_app_nil (w : World) (base : Nat) (t ty e : TypeId) (i : TypeInfo) (size : Nat) (ht : P.underlying t = some (.slice e)) (hi : P.info? e = some i)
    (v : Value) (n : Nat) (xs : List Value) (hown : w.ownsRow base e size v n xs) (c : Nat) : (Builtin.append_ #[t, t] ty #[v, .slice none 0 c]).run P w = .ok v w := by
  rcases hown.2 with ⟨rfl, rfl⟩ | ⟨g, cap, cur, rfl, _, _, hnc, _⟩
  · simp [Builtin.append_, run_underlying ht, sizeOf, typeInfo, hi, Builtin.lenOf, Builtin.firstCells]
  · simp [Builtin.append_, run_underlying ht, sizeOf, typeInfo, hi, Builtin.lenOf, Builtin.firstCells, hnc, storeCells]
theorem run_app (w : World) (base : Nat) (t ty e : TypeId) (i : TypeInfo) (z : Value) (size bytes : Nat) (ht : P.underlying t = some (.slice e)) (hi : P.info? e = some i) (hz : i.zero = some z)
    (hsize : i.size = size) (hby : i.bytes = bytes) (hzs : z.cells.size = size) (hsz : 0 < size)
    (v : Value) (n : Nat) (xs : List Value) (hown : w.ownsRow base e size v n xs)
    (B : Nat) (A : Option Addr) (m c : Nat) (news : List Value) (hr : Rd w B size A m news) (h1 : ∀ u ∈ news, u.oneCell' = true)
    (h63 : n + m ≤ maxLen) (hbytes : (n + m) * bytes ≤ 140737488355328) (hbase : base ≤ w.heap.size) :
    ∃ v' w', (Builtin.append_ #[t, t] ty #[v, .slice A m c]).run P w = .ok v' w' ∧ w'.ownsRow base e size v' (n + m) (xs ++ news) ∧ Stp w w' v v' := by
  have key : ∀ ad : Addr, A = some ad → (∀ j u, news[j]? = some u → w.cell? (ad.add j) = some u) →
      ∃ v' w', (Builtin.append_ #[t, t] ty #[v, .slice A m c]).run P w = .ok v' w' ∧ w'.ownsRow base e size v' (n + m) (xs ++ news) ∧ Stp w w' v v' := by
    rintro ad rfl hc
    obtain ⟨v', w', hrun, h2, h3, _, h5⟩ := run_append_own_at (P := P) w base t ty e i z size bytes ht hi hz hsize hby hzs hsz v n xs hown ad m c news hr.len hc h1 h63 hbytes hbase
    exact ⟨v', w', hrun, h2, h3, h5.imp id fun h => ⟨_, h, Nat.le_refl _⟩⟩
  rcases Nat.eq_zero_or_pos m with h0 | h0
  · subst h0
    have hn : news = [] := List.eq_nil_of_length_eq_zero (by simpa using hr.len)
    subst hn
    rcases A with _ | ad
    · exact ⟨v, w, run_app_nil w base t ty e i size ht hi v n xs hown c, by simpa using hown, Stp.refl _ _⟩
    · exact key ad rfl (by simp)
  · obtain ⟨ad, hA, _, hc⟩ := hr.lies h0
    exact key ad hA hc
theorem wp_app {w : World} {o : Oper} {a : Act} {K : Act → World → Prop} {Q : Exit → Act → World → Prop} (s x : Operand) (t : TypeId)
    (ho : o.op = .call { callee := .builtin .append, args := #[s, x], argTypes := #[t, t] })
    (base : Nat) (e : TypeId) (i : TypeInfo) (z : Value) (size bytes : Nat) (ht : P.underlying t = some (.slice e)) (hi : P.info? e = some i) (hz : i.zero = some z)
    (hsize : i.size = size) (hby : i.bytes = bytes) (hzs : z.cells.size = size) (hsz : 0 < size)
    (v : Value) (n : Nat) (xs : List Value) (hs : a.eval s = v) (hown : w.ownsRow base e size v n xs)
    (B : Nat) (A : Option Addr) (m c : Nat) (news : List Value) (hx : a.eval x = .slice A m c) (hr : Rd w B size A m news) (h1 : ∀ u ∈ news, u.oneCell' = true)
    (h63 : n + m ≤ maxLen) (hbytes : (n + m) * bytes ≤ 140737488355328) (hbase : base ≤ w.heap.size)
    (h : ∀ v' w', w'.ownsRow base e size v' (n + m) (xs ++ news) → Stp w w' v v' → K (a.put o.dst v') w') : o.wp P a w K Q := by
  obtain ⟨v', w', hrun, h2, h3⟩ := run_app (P := P) w base t o.type e i z size bytes ht hi hz hsize hby hzs hsz v n xs hown B A m c news hr h1 h63 hbytes hbase
  unfold Oper.wp execOp
  simp only [ho, resolve, invoke, builtin, Sem.run_bind, Sem.run_pure, Result.andThen_ok, List.map_toArray, List.map_cons, List.map_nil, hs, hx, hrun]
  exact h v' w' h2 h3
theorem wpList_app {w : World} {ops : Array Oper} {rest : List Oper} {o : Oper} {a : Act} {Q : Exit → Act → World → Prop} (hgd : o.guard = none) (s x : Operand) (t : TypeId)
    (ho : o.op = .call { callee := .builtin .append, args := #[s, x], argTypes := #[t, t] })
    (base : Nat) (e : TypeId) (i : TypeInfo) (z : Value) (size bytes : Nat) (ht : P.underlying t = some (.slice e)) (hi : P.info? e = some i) (hz : i.zero = some z)
    (hsize : i.size = size) (hby : i.bytes = bytes) (hzs : z.cells.size = size) (hsz : 0 < size)
    (v : Value) (n : Nat) (xs : List Value) (hs : a.eval s = v) (hown : w.ownsRow base e size v n xs)
    (B : Nat) (A : Option Addr) (m c : Nat) (news : List Value) (hx : a.eval x = .slice A m c) (hr : Rd w B size A m news) (h1 : ∀ u ∈ news, u.oneCell' = true)
    (h63 : n + m ≤ maxLen) (hbytes : (n + m) * bytes ≤ 140737488355328) (hbase : base ≤ w.heap.size)
    (h : ∀ v' w', w'.ownsRow base e size v' (n + m) (xs ++ news) → Stp w w' v v' → wpList P ops Q rest (a.put o.dst v') w') : wpList P ops Q (o :: rest) a w :=
  wpList_plain hgd fun _ hK => wp_app s x t ho base e i z size bytes ht hi hz hsize hby hzs hsz v n xs hs hown B A m c news hx hr h1 h63 hbytes hbase fun v' w' h2 h3 => hK _ _ (h v' w' h2 h3)
theorem step_app {w : World} {ops : Array Oper} {o : Oper} {a : Act} {K : Act → World → Prop} {Q : Exit → Act → World → Prop} {X : Prop} (hgd : o.guard = none) (s x : Operand) (t : TypeId)
    (ho : o.op = .call { callee := .builtin .append, args := #[s, x], argTypes := #[t, t] })
    (base : Nat) (e : TypeId) (i : TypeInfo) (z : Value) (size bytes : Nat) (ht : P.underlying t = some (.slice e)) (hi : P.info? e = some i) (hz : i.zero = some z)
    (hsize : i.size = size) (hby : i.bytes = bytes) (hzs : z.cells.size = size) (hsz : 0 < size)
    (v : Value) (n : Nat) (xs : List Value) (hs : a.eval s = v) (hown : w.ownsRow base e size v n xs)
    (B : Nat) (A : Option Addr) (m c : Nat) (news : List Value) (hx : a.eval x = .slice A m c) (hr : Rd w B size A m news) (h1 : ∀ u ∈ news, u.oneCell' = true)
    (h63 : n + m ≤ maxLen) (hbytes : (n + m) * bytes ≤ 140737488355328) (hbase : base ≤ w.heap.size)
    (h : ∀ v' w', w'.ownsRow base e size v' (n + m) (xs ++ news) → Stp w w' v v' → K (a.put o.dst v') w') :
    if Region.wanted o (yielded ops a.tmps) = true then Oper.wp P o a w K Q else X := by
  have hw : Region.wanted o (yielded ops a.tmps) = true := by simp [Region.wanted, hgd]
  rw [if_pos hw]
  exact wp_app s x t ho base e i z size bytes ht hi hz hsize hby hzs hsz v n xs hs hown B A m c news hx hr h1 h63 hbytes hbase h
end
theorem below_drew_ {B : Nat} {a b : World} (h : Below B a b) {n : Nat} : Below B a (b.drewN n) := ⟨h.os, h.tape, h.output, h.size, h.block⟩
theorem below_new (w : World) (o : Obj) : Below w.heap.size w (w.alloc o) := (Below.refl _ _).alloc (Nat.le_refl _) o
end Go.Proofs.YtdmoknnnlfkfoaaGreatDoor

namespace Go.Proofs.YtdmoknnnlfkfoaaGreatDoor
open Go Go.RowKit
set_option linter.unusedVariables false
inductive T where
  | node (k : Int) (a b : Nat) (ps : List T)
inductive V where
  | node (k : Int) (a b : Nat) (A : Option Addr) (c : Nat) (ps : List V)
theorem T.ind {P : T → Prop} (h : ∀ k a b ps, (∀ p ∈ ps, P p) → P (.node k a b ps)) : ∀ t, P t :=
  fun t => T.rec (motive_1 := P) (motive_2 := fun ps => ∀ p ∈ ps, P p) (fun k a b ps ih => h k a b ps ih) (by simp) (fun p ps h1 h2 q hq => by
    rcases List.mem_cons.1 hq with rfl | hq
    · exact h1
    · exact h2 q hq) t
theorem V.ind {P : V → Prop} (h : ∀ k a b A c ps, (∀ p ∈ ps, P p) → P (.node k a b A c ps)) : ∀ t, P t :=
  fun t => V.rec (motive_1 := P) (motive_2 := fun ps => ∀ p ∈ ps, P p) (fun k a b A c ps ih => h k a b A c ps ih) (by simp) (fun p ps h1 h2 q hq => by
    rcases List.mem_cons.1 hq with rfl | hq
    · exact h1
    · exact h2 q hq) t
namespace V
def kind : V → Int | node k _ _ _ _ _ => k
def a : V → Nat | node _ a _ _ _ _ => a
def b : V → Nat | node _ _ b _ _ _ => b
def addr : V → Option Addr | node _ _ _ A _ _ => A
def cap : V → Nat | node _ _ _ _ c _ => c
def parts : V → List V | node _ _ _ _ _ ps => ps
def sl (v : V) : Value := .slice v.addr v.parts.length v.cap
def cells (v : V) : List Value := [.int .i64 v.kind, .int .u64 (v.a : Int), .int .u64 (v.b : Int), v.sl]
def val (v : V) : Value := .agg #[.int .i64 v.kind, .int .u64 (v.a : Int), .int .u64 (v.b : Int), v.sl]
end V
def vCells (vs : List V) : List Value := vs.flatMap V.cells
theorem vCells_length (vs : List V) : (vCells vs).length = vs.length * 4 := by
  induction vs with
  | nil => rfl
  | cons x l ih => show (x.cells ++ vCells l).length = _; rw [List.length_append, ih]; simp [V.cells]; omega
theorem vCells_append (xs ys : List V) : vCells (xs ++ ys) = vCells xs ++ vCells ys := by simp [vCells]
theorem v_one (xs : List V) : ∀ u ∈ vCells xs, u.oneCell' = true := by
  intro u hu
  obtain ⟨f, _, hu⟩ := List.mem_flatMap.1 hu
  simp only [V.cells, List.mem_cons, List.not_mem_nil, or_false] at hu
  rcases hu with rfl | rfl | rfl | rfl <;> rfl
theorem vCells_get : ∀ (l : List V) (i j : Nat) (x : V), l[i]? = some x → j < 4 → (vCells l)[i * 4 + j]? = x.cells[j]? := by
  intro l
  induction l with
  | nil => intro i j x h; simp at h
  | cons y l ih =>
    intro i j x h hj
    show (y.cells ++ vCells l)[i * 4 + j]? = _
    have hy : y.cells.length = 4 := rfl
    cases i with
    | zero =>
      simp only [List.getElem?_cons_zero, Option.some.injEq] at h
      subst h
      rw [List.getElem?_append_left (by omega)]
      simp
    | succ i =>
      rw [List.getElem?_append_right (by omega), hy, show (i + 1) * 4 + j - 4 = i * 4 + j by omega]
      exact ih i j x (by simpa using h) hj
mutual
def V.abs : V → T
  | .node k a b _ _ ps => .node k a b (V.absL ps)
def V.absL : List V → List T
  | [] => []
  | p :: ps => p.abs :: V.absL ps
end
theorem absL_map (ps : List V) : V.absL ps = ps.map V.abs := by
  induction ps with
  | nil => rw [V.absL]; rfl
  | cons p ps ih => rw [V.absL, ih]; rfl
inductive Lies (w : World) (lo hi : Nat) : V → Prop
  | mk (k : Int) (a b : Nat) (A : Option Addr) (c : Nat) (ps : List V) : -9223372036854775808 ≤ k ∧ k ≤ 9223372036854775807 → a < 18446744073709551616 → b < 18446744073709551616 → Rd w hi 4 A ps.length (vCells ps) →
      ps.length ≤ c ∧ c ≤ 9223372036854775807 → (∀ ad, A = some ad → 0 < ps.length → lo ≤ ad.block) → (∀ p, p ∈ ps → Lies w lo hi p) → Lies w lo hi (.node k a b A c ps)
theorem Lies.keep {w w' : World} {lo hi : Nat} {v : V} (h : Lies w lo hi v) (hk : ∀ p : Addr, lo ≤ p.block → p.block < hi → w'.cell? p = w.cell? p) : Lies w' lo hi v := by
  induction h with
  | mk k a b A c ps h1 h2 h3 h4 h5 h6 _ ih =>
    refine .mk k a b A c ps h1 h2 h3 ⟨h4.len, fun hn => ?_⟩ h5 h6 ih
    obtain ⟨ad, e, hb, hc⟩ := h4.lies hn
    exact ⟨ad, e, hb, fun j u hu => (hk _ (by rw [add_block]; exact h6 ad e hn) (by rw [add_block]; exact hb)).trans (hc j u hu)⟩
theorem Lies.more {w : World} {lo hi lo' hi' : Nat} {v : V} (h : Lies w lo hi v) (h1 : lo' ≤ lo) (h2 : hi ≤ hi') : Lies w lo' hi' v := by
  induction h with
  | mk k a b A c ps g1 g2 g3 g4 g5 g6 _ ih => exact .mk k a b A c ps g1 g2 g3 (g4.more h2) g5 (fun ad e hn => Nat.le_trans h1 (g6 ad e hn)) ih
theorem Lies.under {w w' : World} {lo hi : Nat} {v : V} (h : Lies w lo hi v) (hb : Below hi w w') : Lies w' lo hi v := h.keep fun p _ hp => hb.cell hp
namespace T
def kind : T → Int | node k _ _ _ => k
def a : T → Nat | node _ a _ _ => a
def b : T → Nat | node _ _ b _ => b
def parts : T → List T | node _ _ _ ps => ps
end T
mutual
def T.count : T → Nat
  | .node _ _ _ ps => 1 + T.countL ps
def T.countL : List T → Nat
  | [] => 0
  | p :: ps => p.count + T.countL ps
end
mutual
def T.depth : T → Nat
  | .node _ _ _ ps => T.depthL ps + 1
def T.depthL : List T → Nat
  | [] => 0
  | p :: ps => max p.depth (T.depthL ps)
end
theorem countL_append : ∀ (xs ys : List T), T.countL (xs ++ ys) = T.countL xs + T.countL ys
  | [], ys => by simp [T.countL]
  | x :: xs, ys => by rw [List.cons_append, T.countL, T.countL, countL_append xs ys]; omega
theorem depthL_append : ∀ (xs ys : List T), T.depthL (xs ++ ys) = max (T.depthL xs) (T.depthL ys)
  | [], ys => by simp [T.depthL]
  | x :: xs, ys => by rw [List.cons_append, T.depthL, T.depthL, depthL_append xs ys]; omega
theorem take_one {α : Type} {l : List α} {i : Nat} {x : α} (h : l[i]? = some x) : l.take (i + 1) = l.take i ++ [x] := by
  have hi := (List.getElem?_eq_some_iff.1 h).1
  rw [List.take_succ_eq_append_getElem hi]
  congr 2
  exact (List.getElem?_eq_some_iff.1 h).2
theorem absL_take {ps : List V} {i : Nat} {p : V} (h : ps[i]? = some p) : V.absL (ps.take (i + 1)) = V.absL (ps.take i) ++ [p.abs] := by
  rw [take_one h, absL_map, absL_map, List.map_append]; rfl
theorem countL_take {ps : List V} {i : Nat} {p : V} (h : ps[i]? = some p) : T.countL (V.absL (ps.take (i + 1))) = T.countL (V.absL (ps.take i)) + p.abs.count := by
  rw [absL_take h, countL_append]; simp [T.countL]
theorem depthL_take {ps : List V} {i : Nat} {p : V} (h : ps[i]? = some p) : T.depthL (V.absL (ps.take (i + 1))) = max (T.depthL (V.absL (ps.take i))) p.abs.depth := by
  rw [absL_take h, depthL_append]; simp [T.depthL]
theorem count_le {ps : List V} {i : Nat} {p : V} (h : ps[i]? = some p) : T.countL (V.absL (ps.take i)) + p.abs.count ≤ T.countL (V.absL ps) := by
  have h2 := List.take_append_drop (i + 1) ps
  have : T.countL (V.absL ps) = T.countL (V.absL (ps.take (i + 1))) + T.countL (V.absL (ps.drop (i + 1))) := by
    conv => lhs; rw [← h2]
    rw [absL_map, List.map_append, countL_append, ← absL_map, ← absL_map]
  rw [countL_take h] at this
  omega
theorem count_pos (t : T) : 0 < t.count := by cases t; rw [T.count]; omega
theorem depth_le_count : ∀ t : T, t.depth ≤ t.count := by
  refine T.ind fun k a b ps ih => ?_
  rw [T.depth, T.count]
  have : T.depthL ps ≤ T.countL ps := by
    induction ps with
    | nil => simp [T.depthL]
    | cons p ps ih2 =>
      rw [T.depthL, T.countL]
      have h1 := ih p (by simp)
      have h2 := ih2 fun q hq => ih q (by simp [hq])
      omega
  omega
theorem length_le_countL : ∀ ts : List T, ts.length ≤ T.countL ts
  | [] => by simp
  | t :: ts => by rw [T.countL, List.length_cons]; have := length_le_countL ts; have := count_pos t; omega
theorem absL_length (ps : List V) : (V.absL ps).length = ps.length := by rw [absL_map]; simp
theorem Lies.top {w : World} {lo hi : Nat} {v : V} (h : Lies w lo hi v) : (-9223372036854775808 ≤ v.kind ∧ v.kind ≤ 9223372036854775807) ∧ v.a < 18446744073709551616 ∧ v.b < 18446744073709551616 ∧ v.parts.length ≤ v.cap ∧ v.cap ≤ 9223372036854775807 ∧ Rd w hi 4 v.addr v.parts.length (vCells v.parts) := by
  cases h with
  | mk k a b A c ps h1 h2 h3 h4 h5 h6 h7 => exact ⟨h1, h2, h3, h5.1, h5.2, h4⟩
theorem Lies.part {w : World} {lo hi : Nat} {v p : V} (h : Lies w lo hi v) (hp : p ∈ v.parts) : Lies w lo hi p := by
  cases h with
  | mk k a b A c ps h1 h2 h3 h4 h5 h6 h7 => exact h7 p hp
theorem Lies.at {w : World} {lo hi i : Nat} {v : V} (h : Lies w lo hi v) (hi' : i < v.parts.length) : ∃ (b off : Nat) (p : V), v.addr = some ⟨b, off, none⟩ ∧ b < hi ∧ lo ≤ b ∧ v.parts[i]? = some p ∧ Lies w lo hi p ∧
    w.cell? ⟨b, off + i * 4, none⟩ = some (.int .i64 p.kind) ∧ w.cell? ⟨b, off + i * 4 + 1, none⟩ = some (.int .u64 (p.a : Int)) ∧ w.cell? ⟨b, off + i * 4 + 2, none⟩ = some (.int .u64 (p.b : Int)) ∧ w.cell? ⟨b, off + i * 4 + 3, none⟩ = some p.sl := by
  have hx : v.parts[i]? = some (v.parts[i]) := List.getElem?_eq_getElem hi'
  have hpart := h.part (List.mem_of_getElem? hx)
  cases h with
  | mk k a b A c ps h1 h2 h3 h4 h5 h6 h7 =>
    obtain ⟨ad, e, hb, hc⟩ := h4.lies (by show 0 < ps.length; have : i < ps.length := hi'; omega)
    have hl := h4.len
    have hps : i < ps.length := hi'
    obtain ⟨bb, off, spot⟩ := ad
    have h0 : ps[0]? = some (ps[0]'(by omega)) := List.getElem?_eq_getElem (by omega)
    have hspot : spot = none := World.cell?_spot (a := ⟨bb, off, spot⟩) (hc 0 _ (vCells_get ps 0 0 _ h0 (by omega)))
    subst hspot
    have hc4 : ∀ j u, j < 4 → (V.cells (ps[i]'hps))[j]? = some u → w.cell? ⟨bb, off + i * 4 + j, none⟩ = some u := by
      intro j u hj hu
      have := hc (i * 4 + j) u ((vCells_get ps i j _ hx hj).trans hu)
      rw [show (⟨bb, off, none⟩ : Addr).add (i * 4 + j) = ⟨bb, off + (i * 4 + j), none⟩ by unfold Addr.add; split <;> simp_all, ← Nat.add_assoc] at this
      exact this
    exact ⟨bb, off, _, e, hb, h6 _ e (by omega), hx, hpart, hc4 0 _ (by omega) rfl, hc4 1 _ (by omega) rfl, hc4 2 _ (by omega) rfl, hc4 3 _ (by omega) rfl⟩
theorem Lies.nth {w : World} {lo hi i : Nat} {k : Int} {a b c : Nat} {A : Option Addr} {ps : List V} (h : Lies w lo hi (.node k a b A c ps)) (hi' : i < ps.length) : ∃ (bb off : Nat) (p : V), A = some ⟨bb, off, none⟩ ∧ bb < hi ∧ lo ≤ bb ∧ ps[i]? = some p ∧ Lies w lo hi p ∧
    w.cell? ⟨bb, off + i * 4, none⟩ = some (.int .i64 p.kind) ∧ w.cell? ⟨bb, off + i * 4 + 1, none⟩ = some (.int .u64 (p.a : Int)) ∧ w.cell? ⟨bb, off + i * 4 + 2, none⟩ = some (.int .u64 (p.b : Int)) ∧ w.cell? ⟨bb, off + i * 4 + 3, none⟩ = some p.sl := h.at hi'
theorem Lies.caps {w : World} {lo hi : Nat} {k : Int} {a b c : Nat} {A : Option Addr} {ps : List V} (h : Lies w lo hi (.node k a b A c ps)) : ps.length ≤ c ∧ c ≤ 9223372036854775807 ∧ (-9223372036854775808 ≤ k ∧ k ≤ 9223372036854775807) ∧ a < 18446744073709551616 ∧ b < 18446744073709551616 :=
  let ⟨h1, h2, h3, h4, h5, _⟩ := h.top; ⟨h4, h5, h1, h2, h3⟩
theorem V.count_node (k : Int) (a b : Nat) (A : Option Addr) (c : Nat) (ps : List V) : (V.node k a b A c ps).abs.count = 1 + T.countL (V.absL ps) := by rw [V.abs, T.count]
theorem V.depth_node (k : Int) (a b : Nat) (A : Option Addr) (c : Nat) (ps : List V) : (V.node k a b A c ps).abs.depth = T.depthL (V.absL ps) + 1 := by rw [V.abs, T.depth]
theorem countL_le_take (ps : List V) (i : Nat) : T.countL (V.absL (ps.take i)) ≤ T.countL (V.absL ps) := by
  have h2 := List.take_append_drop i ps
  have : T.countL (V.absL ps) = T.countL (V.absL (ps.take i)) + T.countL (V.absL (ps.drop i)) := by
    conv => lhs; rw [← h2]
    rw [absL_map, List.map_append, countL_append, ← absL_map, ← absL_map]
  omega
end Go.Proofs.YtdmoknnnlfkfoaaGreatDoor

namespace Go.Proofs.YtdmoknnnlfkfoaaGreatDoor
open Go Go.RowKit
set_option linter.unusedVariables false
theorem Tryz.info5 : (Tryz.prog.info? 5).map (fun i => (i.zero, i.size, i.bytes)) = some (some (.int .u8 0), 1, 1) := by kernel_rfl
theorem int_beq (a b : Nat) : ((a : Int) == (b : Int)) = (a == b) := by rw [Bool.eq_iff_iff]; simp [Int.natCast_inj]
theorem int_bne (a b : Nat) : ((a : Int) != (b : Int)) = (a != b) := by simp only [bne, int_beq]
theorem own_none (w : World) (B : Nat) (E : TypeId) : w.ownsRow B E 1 (.slice none 0 0) 0 [] := World.ownsRow_nil w B E 1
def Made (E : TypeId) (ys : List Nat) (w : World) (e : Ending) (w' : World) : Prop :=
  ∃ A c, e = .returned (.slice A ys.length c) ∧ w'.ownsRow w.heap.size E 1 (.slice A ys.length c) ys.length (bs ys) ∧ Below w.heap.size w w'
theorem made_iff {E : TypeId} {ys : List Nat} {w : World} {e : Ending} {w' : World} : Made E ys w e w' ↔ ∃ A n c, e = .returned (.slice A n c) ∧ w'.ownsRow w.heap.size E 1 (.slice A n c) n (bs ys) ∧ Below w.heap.size w w' := by
  constructor
  · rintro ⟨A, c, h⟩; exact ⟨A, _, c, h⟩
  · rintro ⟨A, n, c, he, ho, hb⟩
    have hl : ys.length = n := by have := ho.1; rw [bs_length] at this; omega
    subst hl
    exact ⟨A, c, he, ho, hb⟩
theorem made_of_grew {E : TypeId} {ys : List Nat} {w : World} {e : Ending} {w' : World} (h : Grew E w.heap.size (.slice none 0 0) (bs ys) w e w') : Made E ys w e w' := by
  obtain ⟨A, n, c, he, ho, hs⟩ := h
  have hl : ys.length = n := by have := ho.1; rw [bs_length] at this; omega
  subst hl
  exact ⟨A, c, he, ho, hs.below (Nat.le_refl _) (by intro k hk; simp [Value.ownBlock] at hk)⟩
end Go.Proofs.YtdmoknnnlfkfoaaGreatDoor

namespace Go.Proofs.YtdmoknnnlfkfoaaGreatDoor
open Go Go.RowKit
set_option linter.unusedVariables false
def eqB (l m : List Nat) : Bool := decide (l = m)
def Agree (l m : List Nat) (k : Nat) : Prop := ∀ j, j < k → l.getD j 0 = m.getD j 0
theorem Agree.zero (l m : List Nat) : Agree l m 0 := fun j h => by omega
theorem Agree.succ {l m : List Nat} {k : Nat} (h : Agree l m k) (e : l.getD k 0 = m.getD k 0) : Agree l m (k + 1) := fun j hj => by
  rcases Nat.lt_or_ge j k with h1 | h1
  · exact h j h1
  · obtain rfl : j = k := by omega
    exact e
theorem Agree.all {l m : List Nat} (h : Agree l m l.length) (e : l.length = m.length) : eqB l m = true := by
  unfold eqB
  rw [decide_eq_true_iff]
  apply List.ext_getElem e
  intro i h1 h2
  have := h i h1
  rw [List.getD_eq_getElem?_getD, List.getD_eq_getElem?_getD, List.getElem?_eq_getElem h1, List.getElem?_eq_getElem h2] at this
  exact this
theorem eqB_ne {l m : List Nat} {k : Nat} (e : ¬ l.getD k 0 = m.getD k 0) : eqB l m = false := by
  unfold eqB
  rw [decide_eq_false_iff_not]
  rintro rfl
  exact e rfl
theorem eqB_len {l m : List Nat} (e : ¬ l.length = m.length) : eqB l m = false := by
  unfold eqB
  rw [decide_eq_false_iff_not]
  rintro rfl
  exact e rfl
theorem eqB_self (l : List Nat) : eqB l l = true := by unfold eqB; simp
set_option maxRecDepth 100000 in
theorem same_any (B B' : Nat) (A A' : Option Addr) (n n' c c' : Nat) (l m : List Nat) (w : World) (h : Rd w B 1 A n (bs l)) (h' : Rd w B' 1 A' n' (bs m)) (hn : n ≤ 9223372036854775807) :
    Calls Tryz.prog 21 #[.slice A n c, .slice A' n' c'] w fun e w' => e = .returned (.bool (eqB l m)) ∧ ∃ q, w' = w.drewN q := by
  have hl := h.count
  have hl' := h'.count
  by_cases hnn : n = n'
  · subst hnn
    go_enter Tryz.func21, Tryz.ntmps21
    go_wp2
    go_loopw [5] (fun i wr => ∃ k q : Nat, i = .int .i64 k ∧ k ≤ n ∧ Agree l m k ∧ wr = w.drewN q) (fun i _ => n - (intOf i).toNat)
    case atStart => exact ⟨0, 0, rfl, Nat.zero_le _, Agree.zero _ _, rfl⟩
    case round =>
      obtain ⟨k, q, rfl, hk, hag, rfl⟩ := hrel
      by_cases hlt : k < n
      · obtain ⟨ad, rfl, _, c1⟩ := h.byte hlt
        obtain ⟨ad', rfl, _, c2⟩ := h'.byte hlt
        by_cases he : l.getD k 0 = m.getD k 0
        · have hag' := hag.succ he
          rw [← he] at c2
          clear hag he h h'
          go_wp2
          go_quiet (fail)
          go_wp2
          go_roundw
          case rel => exact ⟨k + 1, q + nq, by go_num, by omega, hag', rfl⟩
          case measure => simp [intOf]; omega
        · have hf := eqB_ne he
          have hd : ((l.getD k 0 : Nat) : Int) ≠ ((m.getD k 0 : Nat) : Int) := by omega
          generalize l.getD k 0 = x at *
          generalize m.getD k 0 = y at *
          have hd' : (((x : Nat) : Int) != ((y : Nat) : Int)) = true := by simpa using hd
          clear hag he h h' hd
          go_wp2
          go_quiet (fail)
          go_wp2
          go_ret
          exact ⟨by rw [hf]; rfl, q + nq, by simp⟩
      · obtain rfl : k = n := by omega
        have ht := (show Agree l m l.length by rw [hl]; exact hag).all (by omega)
        clear hag
        go_wp2
        go_ret
        exact ⟨by rw [ht]; rfl, q, rfl⟩
  · have hf := eqB_len (l := l) (m := m) (by omega)
    have hd : ((n : Int) != (n' : Int)) = true := by simp only [bne, int_beq]; simpa using hnn
    go_enter Tryz.func21, Tryz.ntmps21
    go_wp2
    go_ret
    exact ⟨by rw [hf]; rfl, 0, rfl⟩
theorem same_yes {B B' : Nat} {A A' : Option Addr} {n n' c c' : Nat} (l : List Nat) (w : World) (h : Rd w B 1 A n (bs l)) (h' : Rd w B' 1 A' n' (bs l)) (hn : n ≤ 9223372036854775807) :
    Calls Tryz.prog 21 #[.slice A n c, .slice A' n' c'] w fun e w' => e = .returned (.bool true) ∧ ∃ q, w' = w.drewN q := by
  have G := same_any B B' A A' n n' c c' l l w h h' hn
  rw [eqB_self] at G
  exact G
end Go.Proofs.YtdmoknnnlfkfoaaGreatDoor

namespace Go.Proofs.YtdmoknnnlfkfoaaGreatDoor
open Go Go.RowKit
set_option linter.unusedVariables false
theorem ret_i {k : IntKind} {a b : Int} (h : a = b) : Ending.returned (.int k a) = .returned (.int k b) := by rw [h]
theorem ret_b {a b : Bool} (h : a = b) : Ending.returned (.bool a) = .returned (.bool b) := by rw [h]
end Go.Proofs.YtdmoknnnlfkfoaaGreatDoor

namespace Go.Proofs.YtdmoknnnlfkfoaaGreatDoor
open Go Go.RowKit
set_option linter.unusedVariables false
def numF (k : Int) : FuncId := if k = 2 ∨ k = 3 then 209 else if k = 4 then 213 else 206
def fitF (k : Int) : FuncId := if k = 1 then 207 else if k = 2 ∨ k = 3 then 210 else if k = 4 then 214 else if k = 5 then 216 else 218
def askF (k : Int) : FuncId := if k = 1 then 208 else if k = 2 then 211 else if k = 3 then 212 else if k = 4 then 215 else if k = 5 then 217 else if k = 6 then 219 else 220
def partN (k : Int) : Nat := if k = 5 then 1 else if k = 6 ∨ k = 7 then 2 else 0
def wordA (k : Int) : Array UInt8 := if k = 1 then #[97, 108, 108] else if k = 2 then #[120, 60, 61] else if k = 3 then #[118, 60, 61] else if k = 4 then #[118, 37] else if k = 5 then #[33] else if k = 6 then #[38] else #[124]
def kindC (k : Int) : List Value := [.string ⟨wordA k⟩, .int .i64 (partN k : Nat), .func (.func (numF k)) #[] #[], .func (.func (fitF k)) #[] #[], .func (.func (askF k)) #[] #[]]
def kindV (k : Int) : Value := .agg (kindC k).toArray
def kindsA : Array Value := #[.string ⟨#[]⟩, .int .i64 0, .nilFunc, .nilFunc, .nilFunc,
  .string ⟨#[97, 108, 108]⟩, .int .i64 0, .func (.func 206) #[] #[], .func (.func 207) #[] #[], .func (.func 208) #[] #[],
  .string ⟨#[120, 60, 61]⟩, .int .i64 0, .func (.func 209) #[] #[], .func (.func 210) #[] #[], .func (.func 211) #[] #[],
  .string ⟨#[118, 60, 61]⟩, .int .i64 0, .func (.func 209) #[] #[], .func (.func 210) #[] #[], .func (.func 212) #[] #[],
  .string ⟨#[118, 37]⟩, .int .i64 0, .func (.func 213) #[] #[], .func (.func 214) #[] #[], .func (.func 215) #[] #[],
  .string ⟨#[33]⟩, .int .i64 1, .func (.func 206) #[] #[], .func (.func 216) #[] #[], .func (.func 217) #[] #[],
  .string ⟨#[38]⟩, .int .i64 2, .func (.func 206) #[] #[], .func (.func 218) #[] #[], .func (.func 219) #[] #[],
  .string ⟨#[124]⟩, .int .i64 2, .func (.func 206) #[] #[], .func (.func 218) #[] #[], .func (.func 220) #[] #[]]
def kindsZ : Array Value := ((List.replicate 8 [Value.string ⟨#[]⟩, .int .i64 0, .nilFunc, .nilFunc, .nilFunc]).flatten).toArray
theorem kindsA_one : (kindsA.all fun x => x.oneCell') = true := by kernel_rfl
theorem setrow_new (w : World) (c cs : Array Value) (T : TypeId) : ((w.alloc (.cells c T)).setRow w.heap.size cs).heap[w.heap.size]? = some (.cells cs T (0, 0)) :=
  setRow_heap _ _ c cs T _ (heap_alloc_new w _)
theorem setrow_below (w : World) (c cs : Array Value) (T : TypeId) : Below w.heap.size w ((w.alloc (.cells c T)).setRow w.heap.size cs) := by
  refine ⟨rfl, rfl, rfl, by simp, fun k hk => ?_⟩
  refine Eq.trans ?_ (heap_alloc_old w (.cells c T) hk)
  simp only [World.setRow, Array.getElem?_modify]
  rw [if_neg (by omega)]
set_option maxRecDepth 100000 in
set_option maxHeartbeats 1600000 in
theorem kinds_any (w : World) : Calls Tryz.prog 188 #[] w fun e w' => e = .returned (.agg kindsA) ∧ Below w.heap.size w w' := by
  have hsz : (Tryz.prog.info? 230).map (·.size) = some 40 := by kernel_rfl
  go_enter Tryz.func188, Tryz.ntmps188
  go_upto_region 1 with (fail)
  refine wp_region_lit ?_
  refine wpList_buildTo rfl 205 _ rfl (some 1) rfl #[.string ⟨#[97, 108, 108]⟩, .int .i64 0, .func (.func 206) #[] #[], .func (.func 207) #[] #[], .func (.func 208) #[] #[]] (by kernel_rfl) ?_
  refine wpList_buildTo rfl 205 _ rfl (some 2) rfl #[.string ⟨#[120, 60, 61]⟩, .int .i64 0, .func (.func 209) #[] #[], .func (.func 210) #[] #[], .func (.func 211) #[] #[]] (by kernel_rfl) ?_
  refine wpList_buildTo rfl 205 _ rfl (some 3) rfl #[.string ⟨#[118, 60, 61]⟩, .int .i64 0, .func (.func 209) #[] #[], .func (.func 210) #[] #[], .func (.func 212) #[] #[]] (by kernel_rfl) ?_
  refine wpList_buildTo rfl 205 _ rfl (some 4) rfl #[.string ⟨#[118, 37]⟩, .int .i64 0, .func (.func 213) #[] #[], .func (.func 214) #[] #[], .func (.func 215) #[] #[]] (by kernel_rfl) ?_
  refine wpList_buildTo rfl 205 _ rfl (some 5) rfl #[.string ⟨#[33]⟩, .int .i64 1, .func (.func 206) #[] #[], .func (.func 216) #[] #[], .func (.func 217) #[] #[]] (by kernel_rfl) ?_
  refine wpList_buildTo rfl 205 _ rfl (some 6) rfl #[.string ⟨#[38]⟩, .int .i64 2, .func (.func 206) #[] #[], .func (.func 218) #[] #[], .func (.func 219) #[] #[]] (by kernel_rfl) ?_
  refine wpList_buildTo rfl 205 _ rfl (some 7) rfl #[.string ⟨#[124]⟩, .int .i64 2, .func (.func 206) #[] #[], .func (.func 218) #[] #[], .func (.func 220) #[] #[]] (by kernel_rfl) ?_
  refine wpList_buildTo rfl 230 _ rfl (some 8) rfl kindsA (by kernel_rfl) ?_
  refine wpList_store_rowTo rfl 230 (.tmp 0) (.tmp 8) rfl rfl w.heap.size kindsA rfl rfl 230 kindsZ (heap_alloc_new w _) hsz rfl kindsA_one ?_
  go_wp2
  refine bodyPost_ret (results_cell_row (p := 0) (ty := 230) rfl _ _ w.heap.size 230 kindsA (0, 0) _ rfl (setrow_new w _ _ _) Tryz.underlying230 rfl hsz) rfl ⟨rfl, setrow_below w _ _ _⟩
end Go.Proofs.YtdmoknnnlfkfoaaGreatDoor

namespace Go.Proofs.YtdmoknnnlfkfoaaGreatDoor
open Go Go.RowKit
set_option linter.unusedVariables false
def isKind (k : Int) : Bool := decide (1 ≤ k ∧ k ≤ 7)
def kindAt (k : Int) : Value := if isKind k then kindV k else .agg #[.string ⟨#[]⟩, .int .i64 0, .nilFunc, .nilFunc, .nilFunc]
theorem kindAt_eq {k : Int} (h : 1 ≤ k ∧ k ≤ 7) : kindAt k = .agg #[.string ⟨wordA k⟩, .int .i64 (partN k : Nat), .func (.func (numF k)) #[] #[], .func (.func (fitF k)) #[] #[], .func (.func (askF k)) #[] #[]] := by
  unfold kindAt isKind
  rw [decide_eq_true h, if_pos rfl]
  rfl
theorem kindof_ret {w W : World} {k : Int} {b : Bool} {v0 v1 v2 v3 v4 : Value} (F : W.heap[w.heap.size]? = some (.cells #[v0, v1, v2, v3, v4] 205 (0, 0))) (hbw : Below w.heap.size w W) (HR : kindAt k = .agg #[v0, v1, v2, v3, v4]) (HL : isKind k = b)
    (tmps : Array Value) (h2 : tmps.getD 2 undef = .pointer (some ⟨w.heap.size, 0, none⟩)) (h3 : tmps.getD 3 undef = .bool b) :
    bodyPost Tryz.prog Tryz.f160 (fun e w' => e = .returned (.tuple #[kindAt k, .bool (isKind k)]) ∧ Below w.heap.size w w') .ret { tmps := tmps, defers := [] } W := by
  rw [Array.getD_eq_getD_getElem?] at h2 h3
  have e0 := cell_of_row W _ 0 _ _ _ F
  have e1 := cell_of_row W _ 1 _ _ _ F
  have e2 := cell_of_row W _ 2 _ _ _ F
  have e3 := cell_of_row W _ 3 _ _ _ F
  have e4 := cell_of_row W _ 4 _ _ _ F
  simp at e0 e1 e2 e3 e4
  exact bodyPost_ret (v := .tuple #[.agg #[v0, v1, v2, v3, v4], .bool b]) (by simp [results, Tryz.results160, go_sem, h2, h3, e0, e1, e2, e3, e4]) rfl ⟨by rw [HR, HL], hbw⟩
theorem below_set5 {B g : Nat} {w w1 : World} (h : Below B w w1) (hg : B ≤ g) (v0 v1 v2 v3 v4 : Value) : Below B w (((((w1.setCell ⟨g, 0, none⟩ v0).setCell ⟨g, 1, none⟩ v1).setCell ⟨g, 2, none⟩ v2).setCell ⟨g, 3, none⟩ v3).setCell ⟨g, 4, none⟩ v4) :=
  ((((h.setCell hg _).setCell hg _).setCell hg _).setCell hg _).setCell hg _
set_option maxRecDepth 100000 in
set_option maxHeartbeats 1600000 in
theorem kindof_any (k : Int) (w : World) : Calls Tryz.prog 160 #[.int .i64 k] w fun e w' => e = .returned (.tuple #[kindAt k, .bool (isKind k)]) ∧ Below w.heap.size w w' := by
  have hb0 := below_new w (.cells #[.string ⟨#[]⟩, .int .i64 0, .nilFunc, .nilFunc, .nilFunc] 205)
  have hh0 := heap_alloc_new w (.cells #[.string ⟨#[]⟩, .int .i64 0, .nilFunc, .nilFunc, .nilFunc] 205)
  by_cases h : 1 ≤ k ∧ k ≤ 7
  · have hk : k = 1 ∨ k = 2 ∨ k = 3 ∨ k = 4 ∨ k = 5 ∨ k = 6 ∨ k = 7 := by omega
    have HX : ∀ wx, (Instr.index 230 (.agg kindsA) (.int .i64 k)).run Tryz.prog wx = .ok (.agg #[.string ⟨wordA k⟩, .int .i64 (partN k : Nat), .func (.func (numF k)) #[] #[], .func (.func (fitF k)) #[] #[], .func (.func (askF k)) #[] #[]]) wx := by
      rcases hk with rfl | rfl | rfl | rfl | rfl | rfl | rfl <;> exact fun wx => by kernel_rfl
    have HR := Lib_hid (kindAt_eq h)
    have HL : Hid (isKind k = true) := by unfold isKind Hid; simp; omega
    obtain ⟨h1, h2⟩ := h
    have hd1 : ¬ k < 1 := by omega
    have hd2 : ¬ 7 < k := by omega
    have KD := kinds_any (w.alloc (.cells #[.string ⟨#[]⟩, .int .i64 0, .nilFunc, .nilFunc, .nilFunc] 205))
    clear hk
    generalize wordA k = wd at *
    generalize partN k = pn at *
    generalize numF k = f1 at *
    generalize fitF k = f2 at *
    generalize askF k = f3 at *
    generalize kindsA = ka at *
    go_enter Tryz.func160, Tryz.ntmps160
    go_wp2_with fail
    refine KD.mono ?_
    rintro e w1 ⟨rfl, hb1⟩
    have hh1 := (hb1.block w.heap.size (by simp)).trans hh0
    have d0 := cell_of_row w1 _ 0 _ _ _ hh1
    have d1 := cell_of_row w1 _ 1 _ _ _ hh1
    have d2 := cell_of_row w1 _ 2 _ _ _ hh1
    have d3 := cell_of_row w1 _ 3 _ _ _ hh1
    have d4 := cell_of_row w1 _ 4 _ _ _ hh1
    have z0 := frozen_of_row w1 _ 0 _ _ hh1
    have z1 := frozen_of_row w1 _ 1 _ _ hh1
    have z2 := frozen_of_row w1 _ 2 _ _ hh1
    have z3 := frozen_of_row w1 _ 3 _ _ hh1
    have z4 := frozen_of_row w1 _ 4 _ _ hh1
    have hbw := hb0.trans (hb1.mono hb0.size)
    clear KD hb1 hb0 hh0
    have hbs := below_set5 hbw (Nat.le_refl _) (.string ⟨wd⟩) (.int .i64 (pn : Nat)) (.func (.func f1) #[] #[]) (.func (.func f2) #[] #[]) (.func (.func f3) #[] #[])
    have HB := Lib_hid (And.intro hh1 hbs)
    clear hh1 hbw hbs
    go_wp2
    exact kindof_ret (Joins.block_setCell (Joins.block_setCell (Joins.block_setCell (Joins.block_setCell (Joins.block_setCell HB.out.1 _) _) _) _) _) HB.out.2 HR.out HL.out _ rfl rfl
  · have HL : Hid (isKind k = false) := by unfold isKind Hid; simp; omega
    have HR : Hid (kindAt k = .agg #[.string ⟨#[]⟩, .int .i64 0, .nilFunc, .nilFunc, .nilFunc]) := by unfold kindAt; rw [HL.out]; exact Lib_hid rfl
    clear hb0 hh0
    go_enter Tryz.func160, Tryz.ntmps160
    by_cases h1 : k < 1
    · clear h
      go_wp2
      exact kindof_ret (heap_alloc_new w _) (below_new w _) HR.out HL.out _ rfl rfl
    · have h2 : 7 < k := by omega
      clear h
      go_wp2
      exact kindof_ret (heap_alloc_new w _) (below_new w _) HR.out HL.out _ rfl rfl
end Go.Proofs.YtdmoknnnlfkfoaaGreatDoor
