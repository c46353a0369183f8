/-
  Layer 13: the map of the places of edges; steps that write a graph's own blocks alone.
-/
import Derived.Test.YtopecdkkmbpnbaaGba
import Derived.Maps.OwnSet
import Derived.Maps.Views
import Derived.DeepKeys4
import Derived.MapViews
namespace Go.Proofs.Ytopecdkkmbpnbaa
open Go Go.RowKit Go.Maps
set_option linter.unusedVariables false

/-- Which blocks a step may write: those of S, and new ones. -/
structure Turns (S : Nat → Prop) (w w' : World) : Prop where
  os : w'.os = w.os
  tape : w'.tape = w.tape
  output : w'.output = w.output
  size : w.heap.size ≤ w'.heap.size
  block : ∀ k, k < w.heap.size → ¬ S k → w'.heap[k]? = w.heap[k]?
theorem Turns.refl (S : Nat → Prop) (w : World) : Turns S w w := ⟨rfl, rfl, rfl, Nat.le_refl _, fun _ _ _ => rfl⟩
theorem Turns.trans {S S' : Nat → Prop} {a b c : World} (h : Turns S a b) (k : Turns S' b c) (hs : ∀ k, S' k → S k ∨ a.heap.size ≤ k) : Turns S a c :=
  ⟨k.os.trans h.os, k.tape.trans h.tape, k.output.trans h.output, Nat.le_trans h.size k.size, fun i hi hn => by
    refine (k.block i (Nat.lt_of_lt_of_le hi h.size) fun hc => ?_).trans (h.block i hi hn)
    rcases hs i hc with h1 | h1
    · exact hn h1
    · omega⟩
theorem Turns.grown {S : Nat → Prop} {w w' : World} {row : Option Nat} (h : w.grownBy w' row) (hr : ∀ k, row = some k → S k ∨ w.heap.size ≤ k) : Turns S w w' :=
  ⟨h.os, h.tape, h.output, h.size, fun i hi hn => h.block i hi (fun e => by
    rcases hr i e.symm with h1 | h1
    · exact hn h1
    · omega)⟩
theorem Turns.below {S : Nat → Prop} {w w' : World} (h : Turns S w w') {B : Nat} (hB : B ≤ w.heap.size) (hs : ∀ k, S k → B ≤ k) : Below B w w' :=
  ⟨h.os, h.tape, h.output, h.size, fun i hi => h.block i (by omega) (fun hc => by have := hs i hc; omega)⟩
theorem Turns.of_below {S : Nat → Prop} {w w' : World} (h : Below w.heap.size w w') : Turns S w w' := ⟨h.os, h.tape, h.output, h.size, fun i hi _ => h.block i hi⟩
theorem Turns.drewN {S : Nat → Prop} {w w' : World} (h : Turns S w w') (q : Nat) : Turns S w (w'.drewN q) := ⟨h.os, h.tape, h.output, h.size, h.block⟩
theorem Turns.mono {S S' : Nat → Prop} {w w' : World} (h : Turns S w w') (hs : ∀ k, S k → S' k) : Turns S' w w' := ⟨h.os, h.tape, h.output, h.size, fun i hi hn => h.block i hi (fun hc => hn (hs i hc))⟩
theorem Turns.cell {S : Nat → Prop} {w w' : World} (h : Turns S w w') {p : Addr} (hp : p.block < w.heap.size) (hn : ¬ S p.block) : w'.cell? p = w.cell? p := World.cell?_of_block (h.block _ hp hn)
theorem Turns.rd {S : Nat → Prop} {w w' : World} (h : Turns S w w') {B size n : Nat} {A : Option Addr} {xs : List Value} (r : Rd w B size A n xs) (hB : B ≤ w.heap.size) (hn : ∀ k, k < B → ¬ S k) : Rd w' B size A n xs :=
  r.keep fun p hp => h.cell (by omega) (hn _ hp)
theorem turns_setCell (w : World) (p j : Nat) (v : Value) : Turns (fun k => k = p) w (w.setCell ⟨p, j, none⟩ v) :=
  ⟨rfl, rfl, rfl, by simp, fun k _ hn => heap_setCell_other w ⟨p, j, none⟩ k v hn⟩
theorem turns_alloc (S : Nat → Prop) (w : World) (o : Obj) : Turns S w (w.alloc o) := .of_below (below_new w o)

/-- Places as values. -/
def plV (p : Pl) : Value := .agg #[.int .i64 (p.1 : Int), .int .i64 (p.2 : Int)]
def plD (p : Pl) : DataW Unit := .agg [.lit (.int .i64 (p.1 : Int)), .lit (.int .i64 (p.2 : Int))]
def plR : Value → Option (DataW Unit × List MemPlace)
  | .agg cs => match cs.toList with
    | [.int .i64 a, .int .i64 b] => some (.agg [.lit (.int .i64 a), .lit (.int .i64 b)], [])
    | _ => none
  | _ => none
theorem plR_mk (p : Pl) : plR (plV p) = some (plD p, []) := rfl
theorem plR_inv {v : Value} {p : Pl} {ps : List MemPlace} (h : plR v = some (plD p, ps)) : v = plV p := by
  unfold plR at h
  split at h
  · rename_i cs
    split at h
    · rename_i a b e
      simp only [Option.some.injEq, Prod.mk.injEq, plD, DataW.agg.injEq, List.cons.injEq, DataW.lit.injEq, Lit.int.injEq, true_and, and_true] at h
      obtain ⟨⟨rfl, rfl⟩, _⟩ := h
      unfold plV
      congr 1
      exact Array.ext' e
    · cases h
  · cases h

theorem ke_laid : laidOutB Try.prog = true := by kernel_rfl
theorem ke_row : (39 : TypeId) < Try.prog.types.size := of_decide_eq_true (by kernel_rfl)
theorem ke_wide : (match Try.prog.underlying 39 with | some (.array _ _) | some (.struct _) => true | _ => false) = true := by rw [Try.underlying39]
theorem ke_cells : Try.prog.cellsOf 39 = 3 := by kernel_rfl
theorem ke_cell1 : Try.prog.cellsOf 3 = 1 := by kernel_rfl
theorem wf_i64' {x : Int} (h : I64 x) : (Lit.int .i64 x).wf = true := by
  unfold I64 at h
  simp [Lit.wf, IntKind.min, IntKind.max, IntKind.bits, IntKind.signed]
  omega
theorem ke_lits {p : Ed} (h : EdOk p) (d : Nat) : Try.prog.keyLits (d + 2) 39 (eC p) = some [.int .i64 p.1, .int .i64 p.2.1, .int .i64 p.2.2] := by
  have w1 := wf_i64' h.1
  have w2 := wf_i64' h.2.1
  have w3 := wf_i64' h.2.2
  simp [Program.keyLits, Try.underlying39, Try.underlying3, ke_cells, ke_cell1, eC, w1, w2, w3]
theorem ke_key {p : Ed} (h : EdOk p) : ∃ kl, keyOf Try.prog 39 (eV p) = some kl := by
  obtain ⟨e, he⟩ : ∃ e, Try.prog.types.size = e + 1 := Nat.exists_eq_succ_of_ne_zero (Nat.ne_of_gt (Nat.lt_of_le_of_lt (Nat.zero_le _) ke_row))
  have hk : Try.prog.keyType 39 = true := by kernel_rfl
  have hf : (eV p).formed Try.prog 39 = true := by simp [Value.formed, eV, Try.underlying39, ke_cells]
  refine ⟨.string (keyBytes [.int .i64 p.1, .int .i64 p.2.1, .int .i64 p.2.2]), ?_⟩
  unfold keyOf
  rw [Try.underlying39]
  simp only [hk, hf, Bool.and_self, if_true]
  rw [he, show (eV p).cells.toList = eC p from rfl, ke_lits h e]
  rfl
theorem ke_at : Try.prog.keyTypeAt 2 39 = true := by kernel_rfl
set_option maxRecDepth 100000 in
theorem ke_law : Keyed Try.prog 39 := Keyed.of_law (deep_law_laid ke_laid (m := 2) (by omega) ke_row ke_at ke_wide)
theorem ke_inj {p q : Ed} {kl : Lit} (hp : keyOf Try.prog 39 (eV p) = some kl) (hq : keyOf Try.prog 39 (eV q) = some kl) : p = q := by
  have h := ke_law.inj hp hq
  unfold eV at h
  simp at h
  exact ed_ext h.1 h.2.1 h.2.2
theorem zero_place (w : World) : (zeroValue 86).run Try.prog w = .ok (plV (0, 0)) w := by kernel_rfl

/-- The places f of n edges are in the map at block b. -/
def MapF (w : World) (b : Nat) (f : Ed → Option Pl) (n : Nat) : Prop :=
  ∃ D : DataW Unit, w.ownsMap Try.prog 39 plR b n D ∧ Maps.size D = n ∧
    ∀ e kl, EdOk e → keyOf Try.prog 39 (eV e) = some kl → Maps.has D kl = (f e).isSome ∧ D.atKey kl (plD (0, 0)) = plD ((f e).getD (0, 0))

theorem MapF.made (w : World) : MapF (w.alloc (.map #[] 0)) w.heap.size (fun _ => none) 0 :=
  ⟨.map [], World.ownsMap_made w _ _ _, rfl, fun e kl _ _ => ⟨rfl, rfl⟩⟩
theorem MapF.keep {w w' : World} {b n : Nat} {f : Ed → Option Pl} (h : MapF w b f n) (hk : w'.heap[b]? = w.heap[b]?) : MapF w' b f n := by
  obtain ⟨D, ⟨es, clock, hb, F, hs, hD⟩, h1, h2⟩ := h
  exact ⟨D, ⟨es, clock, hk.trans hb, F, hs, hD⟩, h1, h2⟩
theorem MapF.lt {w : World} {b n : Nat} {f : Ed → Option Pl} (h : MapF w b f n) : b < w.heap.size := by
  obtain ⟨D, h, _⟩ := h
  exact h.lt
theorem MapF.is {w : World} {b n : Nat} {f : Ed → Option Pl} (h : MapF w b f n) : ∃ es clock, w.heap[b]? = some (.map es clock) := by
  obtain ⟨D, ⟨es, clock, hb, _⟩, _⟩ := h
  exact ⟨es, clock, hb⟩
theorem MapF.look {w : World} {b n : Nat} {f : Ed → Option Pl} (h : MapF w b f n) {e : Ed} (he : EdOk e) :
    (Instr.lookup 73 (.map (some b)) (eV e) true).run Try.prog w = .ok (.tuple #[plV ((f e).getD (0, 0)), .bool (f e).isSome]) w := by
  obtain ⟨D, h, _, h2⟩ := h
  obtain ⟨kl, hkey⟩ := ke_key he
  obtain ⟨v, ps', hrun, hv⟩ := h.look_ok ke_law Try.underlying73 (zero_place w) (plR_mk (0, 0)) hkey
  obtain ⟨e1, e2⟩ := h2 e kl he hkey
  rw [e2] at hv
  rw [hrun, e1, plR_inv hv]
theorem MapF.look1 {w : World} {b n : Nat} {f : Ed → Option Pl} (h : MapF w b f n) {e : Ed} (he : EdOk e) :
    (Instr.lookup 73 (.map (some b)) (eV e) false).run Try.prog w = .ok (plV ((f e).getD (0, 0))) w := by
  obtain ⟨D, h, _, h2⟩ := h
  obtain ⟨kl, hkey⟩ := ke_key he
  obtain ⟨v, ps', hrun, hv⟩ := h.lookup ke_law Try.underlying73 (zero_place w) (plR_mk (0, 0)) hkey
  obtain ⟨e1, e2⟩ := h2 e kl he hkey
  rw [e2] at hv
  rw [hrun, plR_inv hv]
theorem MapF.len {w : World} {b n : Nat} {f : Ed → Option Pl} (h : MapF w b f n) (ty : TypeId) : (Builtin.len_ #[73] ty #[.map (some b)]).run Try.prog w = .ok (.int .i64 (n : Int)) w := by
  obtain ⟨D, h, h1, _⟩ := h
  rw [h.len Try.underlying73 ty, h1]
theorem fit_size {w : World} {b n : Nat} {D : DataW Unit} (h : w.ownsMap Try.prog 39 plR b n D) : w.ownsMap Try.prog 39 plR b (Maps.size D) D := by
  obtain ⟨es, clock, hb, F, hs, rfl⟩ := h
  exact ⟨es, clock, hb, F, by simp [Maps.size, length_sorted], rfl⟩
theorem MapF.store {w : World} {b n : Nat} {f : Ed → Option Pl} (h : MapF w b f n) {e : Ed} (he : EdOk e) (p : Pl) (hn : n ≤ 1000000000) :
    ∃ w', (Instr.mapUpdate 73 (.map (some b)) (eV e) (plV p)).run Try.prog w = .ok () w' ∧ MapF w' b (upF f e (some p)) (n + if (f e).isSome then 0 else 1) ∧ w.grownBy w' (some b) := by
  obtain ⟨D, h, h1, h2⟩ := h
  obtain ⟨kl, hkey⟩ := ke_key he
  obtain ⟨w', hrun, h3, h4⟩ := h.store ke_law Try.underlying73 (by unfold maxLen; omega) hkey (plR_mk p)
  have hsz : Maps.size (D.put kl (plD p)) = n + if (f e).isSome then 0 else 1 := by
    rw [size_put (h.tidy ke_law), (h2 e kl he hkey).1, h1]
    split <;> rfl
  refine ⟨w', hrun, ⟨_, by rw [← hsz]; exact fit_size h3, hsz, fun q kq hq hkq => ?_⟩, h4.grown⟩
  by_cases hqe : q = e
  · subst hqe
    obtain rfl : kl = kq := Option.some.inj (hkey.symm.trans hkq)
    rw [has_put_same h.isMap (ke_law.key hkey), atKey_put_same h.isMap (ke_law.key hkey), upF_same]
    exact ⟨rfl, rfl⟩
  · have hne : kq ≠ kl := by
      rintro rfl
      exact hqe (ke_inj hkq hkey)
    rw [has_put_other hne, atKey_put_other hne, upF_other _ _ hqe]
    exact h2 q kq hq hkq
theorem MapF.drop {w : World} {b n : Nat} {f : Ed → Option Pl} (h : MapF w b f n) {e : Ed} (he : EdOk e) (hs : (f e).isSome = true) (ty : TypeId) :
    ∃ w', (Builtin.delete_ #[73, 39] ty #[.map (some b), eV e]).run Try.prog w = .ok (.tuple #[]) w' ∧ MapF w' b (upF f e none) (n - 1) ∧ w.grownBy w' (some b) := by
  obtain ⟨D, h, h1, h2⟩ := h
  obtain ⟨kl, hkey⟩ := ke_key he
  obtain ⟨w', hrun, h3, h4⟩ := h.drop ke_law Try.underlying73 hkey ty
  have hsz : Maps.size (D.del kl) = n - 1 := by
    have := size_del (k := kl) (h.tidy ke_law)
    rw [(h2 e kl he hkey).1, hs, h1] at this
    simp at this
    omega
  refine ⟨w', hrun, ⟨_, by rw [← hsz]; exact fit_size h3, hsz, fun q kq hq hkq => ?_⟩, h4.grown⟩
  by_cases hqe : q = e
  · subst hqe
    obtain rfl : kl = kq := Option.some.inj (hkey.symm.trans hkq)
    rw [has_del_same, atKey_del_same, upF_same]
    exact ⟨rfl, rfl⟩
  · have hne : kq ≠ kl := by
      rintro rfl
      exact hqe (ke_inj hkq hkey)
    rw [has_del_other hne, atKey_del_other hne, upF_other _ _ hqe]
    exact h2 q kq hq hkq

end Go.Proofs.Ytopecdkkmbpnbaa
