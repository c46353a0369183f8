/-
  Layer 4: what the listed variables give the walks; the door's own start meets the condition.
  A tree of layer 4 that came in: what its cells hold.
  A record of layer 5 that came in: what its cells hold.
  A slice of bytes that came in reads as a list of bytes.
  Layer 5: the wrap of a row with listed variables, where the walk also wants the world's shape; what is had of MaxLen; a frame that came in.
-/
import Derived.Test.YtiiiklenhmhccaaGreatDoorRows
import Derived.Test.YtiiiklenhmhccaaGreatDoorZpTqb
import Derived.Test.YtiiiklenhmhccaaGreatDoorTie
import Derived.ProofKit
import Derived.LaidMore
import Derived.OpenShut
import Derived.Stop.Joined
import Derived.Stop.LaidErr
import Derived.Lib.LaidTab
import Derived.Lay
import Derived.Test.YtiiiklenhmhccaaGreatDoorZpTkd
import Derived.Test.YtiiiklenhmhccaaGreatDoorProg
import Derived.Deep.Slices
import Derived.Deep.Fields
import Derived.ChangeSame
import Derived.ChangeOld
import Derived.Test.YtiiiklenhmhccaaGreatDoorZpVri
import Derived.ShutString
import Derived.SevenTiedAt
import Derived.WalkKit
import Derived.Below
import Derived.Shelf.Vars
import Derived.Handed

namespace Go.Proofs.YtiiiklenhmhccaaGreatDoor
open Go.ChangeShapes Go.WideShapes Go.ChangeAt Go.RowKit Go
set_option linter.unusedVariables false
abbrev laidL : List (String × DataW Unit) := [("math/bits.deBruijn32tab", Rows.laid_math_bits_deBruijn32tab), ("math/bits.deBruijn64tab", Rows.laid_math_bits_deBruijn64tab), ("internal/strconv.uint64pow10", Rows.laid_internal_strconv_uint64pow10), ("unicode/utf8.acceptRanges", Rows.laid_unicode_utf8_acceptRanges), ("strconv.ErrRange", Rows.laid_strconv_ErrRange), ("strconv.ErrSyntax", Rows.laid_strconv_ErrSyntax), ("unicode/utf8.first", Rows.laid_unicode_utf8_first)]
theorem var_keep {P : Program} {W w' : World} {n : String} {cs : Array Value} (h : W.var? P n = some cs) (hk : ∀ g, g < W.heap.size → w'.heap[g]? = W.heap[g]?) : w'.var? P n = some cs := by
  unfold World.var? at *
  obtain ⟨g, hg, h2⟩ := Option.bind_eq_some_iff.1 h
  rw [hg, Option.bind_some]
  cases ho : W.heap[g]? with
  | none => rw [ho] at h2; cases h2
  | some o =>
    rw [hk g (Array.getElem?_eq_some_iff.1 ho).1, ho]
    rw [ho] at h2
    exact h2
theorem gPow : Tryz.prog.globalNamed "internal/strconv.uint64pow10" = some 1 := by kernel_rfl
theorem tPow : (Tryz.prog.globals[1]?).map (·.type) = some 251 := by kernel_rfl
theorem gSyn : Tryz.prog.globalNamed "strconv.ErrSyntax" = some 2 := by kernel_rfl
theorem tSyn : (Tryz.prog.globals[2]?).map (·.type) = some 176 := by kernel_rfl
theorem gRng : Tryz.prog.globalNamed "strconv.ErrRange" = some 3 := by kernel_rfl
theorem tRng : (Tryz.prog.globals[3]?).map (·.type) = some 176 := by kernel_rfl
theorem starE : "*" ++ "errors.errorString" = "*errors.errorString" := by decide
theorem rowES (u : TypeId) (h : Tryz.prog.typeName? 3 u = some "*errors.errorString") : u = 278 :=
  typeName_ptr_named (nm := "errors.errorString") (by rw [starE]; kernel_rfl) (by kernel_rfl) (by decide) u (by rw [starE]; exact h)
theorem env_of_laid {W : World} (h : laidMetH Tryz.prog laidL W) : Env W.heap.size W := by
  rw [MakeChecks.laidMetH_plain _ _ _ (by kernel_rfl)] at h
  have h1 : Lib.TabIs Tryz.prog W "internal/strconv.uint64pow10" .u64 Lib.pow10Tab :=
    Lib.tabIs_of_head gPow tPow Tryz.underlying251 Tryz.underlying22 (by kernel_rfl) (by kernel_rfl) (show laidMet Tryz.prog (("internal/strconv.uint64pow10", Lib.tabData .u64 Lib.pow10Tab) :: _) W from h.tail.tail)
  obtain ⟨a0, s0, hv0, -, -, -⟩ := laid_sentinel h.tail.tail.tail.tail gRng tRng Tryz.underlying176 rowES Tryz.underlying278 Tryz.underlying280 rfl rfl Tryz.underlying9 (by kernel_rfl) (by kernel_rfl)
  obtain ⟨a1, s1, hv1, -, -, -⟩ := laid_sentinel h.tail.tail.tail.tail.tail gSyn tSyn Tryz.underlying176 rowES Tryz.underlying278 Tryz.underlying280 rfl rfl Tryz.underlying9 (by kernel_rfl) (by kernel_rfl)
  exact fun w' hk => ⟨var_keep h1 hk, ⟨_, _, var_keep hv1 hk⟩, ⟨_, _, var_keep hv0 hk⟩⟩
end Go.Proofs.YtiiiklenhmhccaaGreatDoor

namespace Go.Proofs.YtiiiklenhmhccaaGreatDoor
open Go Go.RowKit Go.Deep Go.ChangeShapes Go.WideShapes
set_option linter.unusedVariables false
section
variable {H : Type} {enc : TypeId × Value → H} {w : World} {base : Nat} {held : Bool}
theorem fields_read4 {P : Program} {t : TypeId} {fs : Array Field} {fuel : Nat} {cs : List Value} {x : DataW H × List MemPlace} (hs : P.underlying t = some (.struct fs)) (hone : oneCellFields P fs = true)
    (h : DataW.trod enc P w base (fun _ => true) held fuel t cs = some x) :
    cs.length = P.cellsOf t ∧ ∃ n, fuel = n + 1 ∧ ∀ (j : Nat) (f : Field), fs[j]? = some f → ∃ y, DataW.trod enc P w base (fun _ => true) held n f.type ((cs.drop j).take 1) = some y := by
  obtain ⟨ys, n, hn, _, hlen, hyl, hf⟩ := DataW.trod_struct hs h
  refine ⟨hlen, n, hn, fun j f hj => ?_⟩
  obtain ⟨ho, hk⟩ := hone_of hone j f hj
  have hjl : j < fs.size := (Array.getElem?_eq_some_iff.1 hj).1
  have h1 := hf j f hj
  rw [ho, hk] at h1
  exact ⟨ys[j]'(by omega), h1.trans (List.getElem?_eq_getElem (by omega))⟩
theorem list_of {α : Type} {q : Nat → α → Prop} : ∀ k : Nat, (∀ i, i < k → ∃ a, q i a) → ∃ l : List α, l.length = k ∧ ∀ i a, l[i]? = some a → q i a := by
  intro k
  induction k with
  | zero => intro _; exact ⟨[], rfl, by simp⟩
  | succ k ih =>
    intro h
    obtain ⟨l, h1, h2⟩ := ih fun i hi => h i (by omega)
    obtain ⟨a, ha⟩ := h k (by omega)
    refine ⟨l ++ [a], by simp [h1], fun i x hx => ?_⟩
    rcases Nat.lt_or_ge i k with h3 | h3
    · rw [List.getElem?_append_left (by omega)] at hx; exact h2 i x hx
    · rw [List.getElem?_append_right (by omega)] at hx
      have : i = k := by
        rcases Nat.lt_or_ge (i - l.length) 1 with h4 | h4
        · omega
        · rw [List.getElem?_eq_none (by simpa using h4)] at hx; cases hx
      subst this
      simp [h1] at hx
      subst hx
      exact ha
theorem expr_read : ∀ (fuel : Nat) (cs : List Value) (x : DataW H × List MemPlace), DataW.trod enc Tryz.prog w base (fun _ => true) held fuel 27 cs = some x → ∃ v : V, cs = v.cells ∧ Lies w 0 w.heap.size v := by
  intro fuel
  induction fuel using Nat.strongRecOn with
  | _ fuel ih =>
  intro cs x h
  obtain ⟨hlen, n, hn, hf⟩ := fields_read4 Tryz.underlying27 (by kernel_rfl) h
  have h4 : Tryz.prog.cellsOf 27 = 4 := by kernel_rfl
  rw [h4] at hlen
  match cs, hlen with
  | [c0, c1, c2, c3], _ =>
    obtain ⟨y0, g0⟩ := hf 0 _ rfl
    obtain ⟨y1, g1⟩ := hf 1 _ rfl
    obtain ⟨y2, g2⟩ := hf 2 _ rfl
    obtain ⟨y3, g3⟩ := hf 3 _ rfl
    obtain ⟨d0, e0, _, w0⟩ := DataW.trod_int Tryz.underlying3 g0
    obtain ⟨d1, e1, _, w1⟩ := DataW.trod_int Tryz.underlying22 g1
    obtain ⟨d2, e2, _, w2⟩ := DataW.trod_int Tryz.underlying22 g2
    simp at e0 e1 e2
    subst e0 e1 e2
    have hv0 := (bounds_i64 w0)
    have hv1 := (bounds_u64 w1)
    have hv2 := (bounds_u64 w2)
    obtain ⟨a, rfl⟩ : ∃ u : Nat, d1 = u := ⟨d1.toNat, by omega⟩
    obtain ⟨b, rfl⟩ : ∃ u : Nat, d2 = u := ⟨d2.toNat, by omega⟩
    rcases DataW.trod_slice Tryz.underlying25 g3 with ⟨hcs, _⟩ | ⟨ad, len, cap, elems, rest, m, hm, hcs, -, hbs, hl, hmx, hel, helem, -, -⟩
    · simp at hcs
      subst hcs
      exact ⟨.node d0 a b none 0 [], rfl, .mk _ _ _ _ _ _ hv0 (by omega) (by omega) Rd.zero (by simp) (fun ad e => by cases e) (by simp)⟩
    · simp at hcs
      subst hcs
      have each : ∀ i, i < len → ∃ v : V, Lies w 0 w.heap.size v ∧ ∀ j, j < 4 → w.cell? ((ad.add (i * 4)).add j) = v.cells[j]? := by
        intro i hil
        have h1 := helem i hil
        rw [h4] at h1
        rw [List.getElem?_eq_getElem (by omega)] at h1
        obtain ⟨cs', hc, ht⟩ := Option.bind_eq_some_iff.1 h1
        obtain ⟨v, rfl, hL⟩ := ih m (by omega) cs' _ ht
        exact ⟨v, hL, (World.cells?_some hc).2.2⟩
      obtain ⟨ps, hpl, hps⟩ := list_of len each
      refine ⟨.node d0 a b (some ad) cap ps, by rw [← hpl]; rfl, .mk _ _ _ _ _ _ hv0 (by omega) (by omega) ⟨by rw [vCells_length], fun h0 => ⟨ad, rfl, ?_, ?_⟩⟩ ⟨by omega, by unfold maxLen at hmx; omega⟩ (fun _ _ _ => Nat.zero_le _) (fun p hp => ?_)⟩
      · have := (hps 0 _ (List.getElem?_eq_getElem (show 0 < ps.length by omega))).2 0 (by omega)
        have h1 := World.block_lt_of_cell? w _ (this.trans rfl)
        rw [add_block, add_block] at h1
        exact h1
      · intro j u hu
        have hjl : j < (vCells ps).length := (List.getElem?_eq_some_iff.1 hu).1
        rw [vCells_length] at hjl
        have hq : j / 4 < ps.length := by omega
        have hg := vCells_get ps (j / 4) (j % 4) _ (List.getElem?_eq_getElem hq) (by omega)
        rw [show j / 4 * 4 + j % 4 = j by omega, hu] at hg
        have := (hps (j / 4) _ (List.getElem?_eq_getElem hq)).2 (j % 4) (by omega)
        rw [add_add, show j / 4 * 4 + j % 4 = j by omega] at this
        rw [this, hg]
      · obtain ⟨i, hi⟩ := List.getElem?_of_mem hp
        exact (hps i p hi).1
end
end Go.Proofs.YtiiiklenhmhccaaGreatDoor

namespace Go.Proofs.YtiiiklenhmhccaaGreatDoor
open Go Go.RowKit Go.Deep Go.ChangeShapes Go.WideShapes
set_option linter.unusedVariables false
section
variable {H : Type} {enc : TypeId × Value → H} {w : World} {base : Nat} {held : Bool}
theorem int_read {t : TypeId} {k : IntKind} {fuel : Nat} {cs : List Value} {x : DataW H × List MemPlace} (ht : Tryz.prog.underlying t = some (.int k)) (h : DataW.trod enc Tryz.prog w base (fun _ => true) held fuel t cs = some x) : ∃ z : Int, cs = [.int k z] ∧ (Lit.int k z).wf = true := by
  obtain ⟨z, e, _, w0⟩ := DataW.trod_int ht h
  exact ⟨z, e, w0⟩
theorem u64_read {fuel : Nat} {cs : List Value} {x : DataW H × List MemPlace} (h : DataW.trod enc Tryz.prog w base (fun _ => true) held fuel 22 cs = some x) : ∃ n : Nat, cs = [.int .u64 (n : Int)] ∧ n < 18446744073709551616 := by
  obtain ⟨z, e, w0⟩ := int_read Tryz.underlying22 h
  have hv := bounds_u64 w0
  obtain ⟨n, rfl⟩ : ∃ u : Nat, z = u := ⟨z.toNat, by omega⟩
  exact ⟨n, e, by omega⟩
set_option maxRecDepth 100000 in
theorem ver_read {fuel : Nat} {cs : List Value} {x : DataW H × List MemPlace} (h : DataW.trod enc Tryz.prog w base (fun _ => true) held fuel 24 cs = some x) : ∃ a b : Nat, cs = [.int .u64 (a : Int), .int .u64 (b : Int)] ∧ a < 18446744073709551616 ∧ b < 18446744073709551616 := by
  obtain ⟨y0, y1, n, -, hl, h0, h1⟩ := trod_struct2 Tryz.underlying24 h
  have hc : Tryz.prog.cellsOf 24 = 2 := by kernel_rfl
  have hu : Tryz.prog.cellsOf 22 = 1 := by kernel_rfl
  rw [hc] at hl
  match cs, hl with
  | [c0, c1], _ =>
    obtain ⟨a, e0, ha⟩ := u64_read h0
    obtain ⟨b, e1, hb⟩ := u64_read h1
    simp only [hu] at e0 e1
    simp at e0 e1
    subst e0 e1
    exact ⟨a, b, rfl, ha, hb⟩
set_option maxRecDepth 100000 in
theorem en_read {fuel : Nat} {cs : List Value} {x : DataW H × List MemPlace} (h : DataW.trod enc Tryz.prog w base (fun _ => true) held fuel 84 cs = some x) : ∃ e : En, cs = e.cells ∧ e.ok := by
  obtain ⟨xs, n, -, -, hl, hlen, hf⟩ := DataW.trod_struct Tryz.underlying84 h
  have hc : Tryz.prog.cellsOf 84 = 4 := by kernel_rfl
  have hu : Tryz.prog.cellsOf 22 = 1 := by kernel_rfl
  have hv : Tryz.prog.cellsOf 24 = 2 := by kernel_rfl
  have hb : Tryz.prog.cellsOf 4 = 1 := by kernel_rfl
  rw [hc] at hl
  match cs, hl, xs, hlen with
  | [c0, c1, c2, c3], _, [y0, y1, y2], _ =>
    have h0 := hf 0 _ rfl
    have h1 := hf 1 _ rfl
    have h2 := hf 2 _ rfl
    simp only [List.getElem_toArray, List.getElem_cons_zero, List.getElem_cons_succ, hu, hv, hb] at h0 h1 h2
    obtain ⟨a, e0, ha⟩ := u64_read (h0.trans rfl)
    obtain ⟨p, q, e1, hp, hq⟩ := ver_read (h1.trans rfl)
    obtain ⟨m, e2, -⟩ := DataW.trod_bool Tryz.underlying4 (h2.trans rfl)
    simp at e0 e1 e2
    obtain ⟨e1, e3⟩ := e1
    subst e0 e1 e2 e3
    exact ⟨⟨a, p, q, m⟩, rfl, by show (a : Int) ≤ _; omega, by show (p : Int) ≤ _; omega, by show (q : Int) ≤ _; omega⟩
theorem ens_read {fuel : Nat} {v : Value} {x : DataW H × List MemPlace} (h : DataW.trod enc Tryz.prog w base (fun _ => true) held fuel 28 [v] = some x) :
    ∃ (A : Option Addr) (c : Nat) (es : List En), v = .slice A es.length c ∧ Rd w w.heap.size 4 A es.length (enCells es) ∧ (es.length ≤ c ∧ c ≤ 9223372036854775807) ∧ ∀ e ∈ es, e.ok := by
  have h4 : Tryz.prog.cellsOf 84 = 4 := by kernel_rfl
  rcases DataW.trod_slice Tryz.underlying28 h with ⟨hcs, _⟩ | ⟨ad, len, cap, elems, rest, m, hm, hcs, -, hbs, hl, hmx, hel, helem, -, -⟩
  · simp at hcs
    subst hcs
    exact ⟨none, 0, [], rfl, Rd.zero, ⟨Nat.le_refl _, by omega⟩, by simp⟩
  · simp at hcs
    subst hcs
    have each : ∀ i, i < len → ∃ e : En, e.ok ∧ ∀ j, j < 4 → w.cell? ((ad.add (i * 4)).add j) = e.cells[j]? := by
      intro i hil
      have h1 := helem i hil
      rw [h4] at h1
      rw [List.getElem?_eq_getElem (by omega)] at h1
      obtain ⟨cs', hc, ht⟩ := Option.bind_eq_some_iff.1 h1
      obtain ⟨e, rfl, ok⟩ := en_read ht
      exact ⟨e, ok, (World.cells?_some hc).2.2⟩
    obtain ⟨ps, hpl, hps⟩ := list_of len each
    subst hpl
    refine ⟨some ad, cap, ps, rfl, ⟨by rw [enCells_length], fun h0 => ⟨ad, rfl, ?_, ?_⟩⟩, ⟨hl, by unfold maxLen at hmx; omega⟩, fun p hp => ?_⟩
    · have := (hps 0 _ (List.getElem?_eq_getElem h0)).2 0 (by omega)
      have h1 := World.block_lt_of_cell? w _ (this.trans rfl)
      rw [add_block, add_block] at h1
      exact h1
    · intro j u hu
      have hjl : j < (enCells ps).length := (List.getElem?_eq_some_iff.1 hu).1
      rw [enCells_length] at hjl
      have hq : j / 4 < ps.length := by omega
      have hg := enCells_get ps (j / 4) (j % 4) _ (List.getElem?_eq_getElem hq) (by omega)
      rw [show j / 4 * 4 + j % 4 = j by omega, hu] at hg
      have := (hps (j / 4) _ (List.getElem?_eq_getElem hq)).2 (j % 4) (by omega)
      rw [add_add, show j / 4 * 4 + j % 4 = j by omega] at this
      rw [this, hg]
    · obtain ⟨i, hi⟩ := List.getElem?_of_mem hp
      exact (hps i p hi).1
set_option maxRecDepth 100000 in
theorem rec_read {fuel : Nat} {cs : List Value} {x : DataW H × List MemPlace} (h : DataW.trod enc Tryz.prog w base (fun _ => true) held fuel 30 cs = some x) : ∃ r : Rv, cs = r.arr.toList ∧ RLies w 0 w.heap.size r := by
  obtain ⟨xs, n, -, -, hl, hlen, hf⟩ := DataW.trod_struct Tryz.underlying30 h
  have hc : Tryz.prog.cellsOf 30 = 11 := by kernel_rfl
  have hi : Tryz.prog.cellsOf 3 = 1 := by kernel_rfl
  have hu : Tryz.prog.cellsOf 22 = 1 := by kernel_rfl
  have hv : Tryz.prog.cellsOf 24 = 2 := by kernel_rfl
  have hp : Tryz.prog.cellsOf 27 = 4 := by kernel_rfl
  have he : Tryz.prog.cellsOf 28 = 1 := by kernel_rfl
  rw [hc] at hl
  match cs, hl, xs, hlen with
  | [c0, c1, c2, c3, c4, c5, c6, c7, c8, c9, c10], _, [y0, y1, y2, y3, y4, y5, y6], _ =>
    have h0 := hf 0 _ rfl
    have h1 := hf 1 _ rfl
    have h2 := hf 2 _ rfl
    have h3 := hf 3 _ rfl
    have h4 := hf 4 _ rfl
    have h5 := hf 5 _ rfl
    have h6 := hf 6 _ rfl
    simp only [List.getElem_toArray, List.getElem_cons_zero, List.getElem_cons_succ, hi, hu, hv, hp, he] at h0 h1 h2 h3 h4 h5 h6
    obtain ⟨k, e0, w0⟩ := int_read Tryz.underlying3 (h0.trans rfl)
    obtain ⟨t, e1, w1⟩ := u64_read (h1.trans rfl)
    obtain ⟨x, e2, w2⟩ := u64_read (h2.trans rfl)
    obtain ⟨a, b, e3, w3, w3'⟩ := ver_read (h3.trans rfl)
    obtain ⟨z, e4, w4⟩ := u64_read (h4.trans rfl)
    obtain ⟨p, e5, hL⟩ := expr_read _ _ _ (h5.trans rfl)
    simp at e0 e1 e2 e3 e4
    obtain ⟨e3, e3'⟩ := e3
    subst e0 e1 e2 e3 e3' e4
    have e5 : [c6, c7, c8, c9] = [.int .i64 p.kind, .int .u64 (p.a : Int), .int .u64 (p.b : Int), p.sl] := e5
    injection e5 with f6 e5
    injection e5 with f7 e5
    injection e5 with f8 e5
    injection e5 with f9 e5
    subst f6 f7 f8 f9
    obtain ⟨A, c, es, rfl, g1, g2, g3⟩ := ens_read (v := c10) (h6.trans rfl)
    have hv0 := bounds_i64 w0
    exact ⟨⟨k, t, x, a, b, z, p, A, c, es⟩, rfl, ⟨hv0, by show (t : Int) ≤ _; omega, by show (x : Int) ≤ _; omega, by show (a : Int) ≤ _; omega, by show (b : Int) ≤ _; omega, by show (z : Int) ≤ _; omega, hL, g1, g2, g3, fun _ _ _ => Nat.zero_le _⟩⟩
end
end Go.Proofs.YtiiiklenhmhccaaGreatDoor

namespace Go.Proofs.YtiiiklenhmhccaaGreatDoor
open Go Go.RowKit
def IsRow (k : IntKind) (w : World) (a : Option Addr) (len cap : Nat) (zs : List Int) : Prop :=
  (a = none ∧ len = 0 ∧ cap = 0 ∧ zs = []) ∨
  ∃ x, a = some x ∧ len ≤ cap ∧ cap ≤ maxLen ∧ zs.length = cap ∧ (∀ i, i < zs.length → w.cell? (x.add i) = some (.int k (zs.getD i 0))) ∧ ∀ n ∈ zs, (Lit.int k n).wf = true
theorem IsRow.rd {w : World} {a : Option Addr} {len cap : Nat} {zs : List Int} (h : IsRow .u8 w a len cap zs) :
    ∃ l : List Nat, Rd w w.heap.size 1 a len (bs l) ∧ (∀ x ∈ l, x < 256) ∧ len ≤ cap ∧ cap ≤ 9223372036854775807 := by
  rcases h with ⟨rfl, rfl, rfl, rfl⟩ | ⟨x, rfl, hl, hm, hz, hc, hw⟩
  · exact ⟨[], Rd.zero, by simp, Nat.le_refl _, by omega⟩
  · have hmem : ∀ n ∈ zs, 0 ≤ n ∧ n ≤ 255 := fun n hn => bounds_u8 (hw n hn)
    refine ⟨(zs.take len).map Int.toNat, ⟨?_, fun h0 => ⟨x, rfl, ?_, ?_⟩⟩, ?_, hl, by unfold maxLen at hm; omega⟩
    · rw [bs_length, List.length_map, List.length_take]; omega
    · have := World.block_lt_of_cell? w _ (hc 0 (by omega)); rw [add_block] at this; exact this
    · intro j u hu
      have hj : j < len := by
        rcases Nat.lt_or_ge j len with h1 | h1
        · exact h1
        · rw [List.getElem?_eq_none (by rw [bs_length, List.length_map, List.length_take]; omega)] at hu; cases hu
      have hjz : j < zs.length := by omega
      rw [hc j hjz]
      simp only [bs, List.map_map, List.getElem?_map, List.getElem?_take, hj, if_true, List.getElem?_eq_getElem hjz, Option.map_some, Option.some.injEq] at hu
      rw [List.getD_eq_getElem?_getD, List.getElem?_eq_getElem hjz]
      have hb := hmem zs[j] (List.getElem_mem hjz)
      rw [← hu]
      simp only [Option.getD_some, Function.comp_apply, Option.some.injEq, Value.int.injEq, true_and]
      omega
    · intro y hy
      obtain ⟨n, hn, rfl⟩ := List.mem_map.1 hy
      have := hmem n (List.mem_of_mem_take hn)
      omega
end Go.Proofs.YtiiiklenhmhccaaGreatDoor

namespace Go.Proofs.YtiiiklenhmhccaaGreatDoor
open Go Go.RowKit Go.Deep Go.ChangeShapes Go.WideShapes Go.ChangeAt
open Go.ChangeMaps (open_string shut_string)
set_option linter.unusedVariables false
theorem ownH : ownKnob Tryz.prog.godebug = none := by kernel_rfl
theorem laidOutH : laidOutB Tryz.prog = true := by kernel_rfl
theorem maxlen_intH {W : World} (h : W.ShapedOpen Tryz.prog) : ∃ m : Int, W.cell? ⟨0, 0, none⟩ = some (.int .i64 m) :=
  cell_of_shapedOpen_int (zero := #[.int .i64 0]) h (by decide +kernel) (by kernel_rfl) rfl (by kernel_rfl) (by kernel_rfl) Tryz.underlying3
theorem pos_of_cellH {W : World} {g : Nat} {x : Value} (h : W.cell? ⟨g, 0, none⟩ = some x) : 0 < W.heap.size := by
  rcases Nat.eq_zero_or_pos W.heap.size with h0 | h0
  · have h1 : W.heap[g]? = none := Array.getElem?_eq_none (by omega)
    simp [World.cell?, h1] at h
  · exact h0
theorem handedH {H : Type} {enc : TypeId × Value → H} {C : Checked} {os : Os} {f : FuncId} {fn : Func} {s : ChangeSpec} {apart fresh handsOn again : Bool} {X : World → Array Value → Prop}
    (hX : ∀ (w w' : World) (args : Array Value), w.heap = w'.heap → X w args → X w' args) (own : ownKnob C.prog.godebug = none) (started : os.Started) (noInit : C.prog.inits.idxOf? f = none) (hfn : C.prog.funcs[f]? = some fn)
    (witness : ∃ (w : World) (tape : Tape) (i : Input), w.os = os ∧ (w.forCall tape i).Shaped C.prog ∧ i.vars = [] ∧ Input.okWide C.prog (w.forCall tape i) .any w.heap.size f i ∧
      ((s.pre enc C.prog fn [] apart (w.forCall tape i).memory i.args ∧ X (w.forCall tape i).memory i.args) ∧ sizedMet enc C.prog fn (OpenSpec.ofChange s) apart (w.forCall tape i).memory i.args) ∧ Assume.holds {} C.prog (lone (Frame.enter C.prog f i.args .normal) [] (w.forCall tape i)))
    (walk : ∀ (W : World) (base : Nat) (args : Array Value) (ds gs : List (DataW H)) (before : List MemPlace), (∀ (j : Nat) t v, fn.params[j]? = some t → args[j]? = some v → Value.okWide C.prog W .any base t v) →
      DataW.Whole enc C.prog fn.params.toList s.vars apart W args.toList ds gs before → X W args → W.ShapedOpen C.prog → Calls C.prog f args W fun e W' => ∃ v, e = .returned v ∧ s.post enc C.prog fn apart fresh handsOn again W args v W') :
    ReturnsInHanded {} C os f .any (fun w args => (s.pre enc C.prog fn [] apart w args ∧ X w args) ∧ sizedMet enc C.prog fn (OpenSpec.ofChange s) apart w args) (s.post enc C.prog fn apart fresh handsOn again) :=
  returnsInHanded_of_calls own started noInit witness fun w tape i _ hs _ hok hp _ => by
    obtain ⟨⟨⟨ds, gs, before, hw, _⟩, hx⟩, _⟩ := hp
    have hval : ∀ (j : Nat) t v, fn.params[j]? = some t → i.args[j]? = some v → Value.okWide C.prog (w.forCall tape i) .any w.heap.size t v := by
      obtain ⟨_, _, _, fn', hfn', _, _, _, _, hv⟩ := hok
      rw [Option.some.inj (hfn.symm.trans hfn')]
      exact hv
    refine (walk (w.forCall tape i) w.heap.size i.args ds gs before hval (DataW.Whole.of_heap (by rfl) hw) (hX _ _ _ (by rfl) hx) hs).mono ?_
    rintro e W' ⟨v, rfl, hq⟩
    exact ChangeSpec.post_blind hq
section
variable {H : Type} {enc : TypeId × Value → H} {w : World} {base : Nat} {held : Bool}
end
end Go.Proofs.YtiiiklenhmhccaaGreatDoor
