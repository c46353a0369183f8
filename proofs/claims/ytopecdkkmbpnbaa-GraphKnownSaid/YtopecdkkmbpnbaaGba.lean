/-
  What layer 13's texts share: the rows of the table of types; edges and numbers as cells.
-/
import Derived.Test.YtopecdkkmbpnbaaChecked
import Derived.Test.YtopecdkkmbpnbaaMem
import Derived.Test.YtopecdkkmbpnbaaGpa
import Derived.WalkSpells
import Derived.Deep.QuietTactic
import Derived.BigQuiet
import Derived.Laws.StructEq
namespace Go.Proofs.Ytopecdkkmbpnbaa
open Go Go.RowKit
set_option linter.unusedVariables false

theorem Try.infoI : (Try.prog.info? 3).map (fun i => (i.zero, i.size, i.bytes)) = some (some (.int .i64 0), 1, 8) := by kernel_rfl
theorem Try.infoE : (Try.prog.info? 39).map (fun i => (i.zero, i.size, i.bytes)) = some (some (.agg #[.int .i64 0, .int .i64 0, .int .i64 0]), 3, 24) := by kernel_rfl
theorem Try.infoD : (Try.prog.info? 48).map (fun i => (i.zero, i.size, i.bytes)) = some (some (.agg #[.int .i64 0, .int .i64 0, .int .i64 0]), 3, 24) := by kernel_rfl

/-- Edges as cells, as a value; numbers as cells. -/
def eC (e : Ed) : List Value := [.int .i64 e.1, .int .i64 e.2.1, .int .i64 e.2.2]
def eV (e : Ed) : Value := .agg #[.int .i64 e.1, .int .i64 e.2.1, .int .i64 e.2.2]
def ec (l : List Ed) : List Value := l.flatMap eC
def zc (l : List Int) : List Value := l.map fun n => Value.int .i64 n
def I64 (n : Int) : Prop := -9223372036854775808 ≤ n ∧ n ≤ 9223372036854775807
def EdOk (e : Ed) : Prop := I64 e.1 ∧ I64 e.2.1 ∧ I64 e.2.2
def at3 (l : List Ed) (k : Nat) : Ed := l.getD k (0, 0, 0)
def atZ (l : List Int) (k : Nat) : Int := l.getD k 0
theorem at3_lt {l : List Ed} {k : Nat} (h : k < l.length) : at3 l k = l[k] := by unfold at3; rw [List.getD_eq_getElem?_getD, List.getElem?_eq_getElem h]; rfl
theorem at3_mem {l : List Ed} {k : Nat} (h : k < l.length) : at3 l k ∈ l := by rw [at3_lt h]; exact List.getElem_mem h
theorem at3_get {l : List Ed} {k : Nat} (h : k < l.length) : l[k]? = some (at3 l k) := by rw [at3_lt h]; exact List.getElem?_eq_getElem h
theorem take_snoc3 {l : List Ed} {k : Nat} (h : k < l.length) : l.take (k + 1) = l.take k ++ [at3 l k] := by
  rw [List.take_add_one, List.getElem?_eq_getElem h, at3_lt h]; rfl
theorem atZ_lt {l : List Int} {k : Nat} (h : k < l.length) : atZ l k = l[k] := by unfold atZ; rw [List.getD_eq_getElem?_getD, List.getElem?_eq_getElem h]; rfl
theorem take_snocZ {l : List Int} {k : Nat} (h : k < l.length) : l.take (k + 1) = l.take k ++ [atZ l k] := by
  rw [List.take_add_one, List.getElem?_eq_getElem h, atZ_lt h]; rfl

theorem ec_append (l m : List Ed) : ec (l ++ m) = ec l ++ ec m := by simp [ec]
theorem ec_one1 (e : Ed) : ec [e] = eC e := by simp [ec]
theorem ec_length (l : List Ed) : (ec l).length = l.length * 3 := by
  induction l with
  | nil => rfl
  | cons x l ih => show (eC x ++ ec l).length = _; rw [List.length_append, ih]; simp [eC]; omega
theorem zc_length (l : List Int) : (zc l).length = l.length := by simp [zc]
theorem zc_append (l m : List Int) : zc (l ++ m) = zc l ++ zc m := by simp [zc]
theorem zc_one (l : List Int) : ∀ u ∈ zc l, u.oneCell' = true := by
  intro u hu
  simp only [zc, List.mem_map] at hu
  obtain ⟨n, _, rfl⟩ := hu
  rfl
theorem ec_one (l : List Ed) : ∀ u ∈ ec l, u.oneCell' = true := by
  intro u hu
  obtain ⟨f, _, hu⟩ := List.mem_flatMap.1 hu
  simp only [eC, List.mem_cons, List.not_mem_nil, or_false] at hu
  rcases hu with rfl | rfl | rfl <;> rfl
theorem zc_get {l : List Int} {j : Nat} (h : j < l.length) : (zc l)[j]? = some (.int .i64 (atZ l j)) := by
  rw [atZ_lt h]; simp [zc, h]
theorem ec_get : ∀ (l : List Ed) (i j : Nat) (a : Ed), l[i]? = some a → j < 3 → (ec l)[i * 3 + j]? = (eC a)[j]? := by
  intro l
  induction l with
  | nil => intro i j a h; simp at h
  | cons x l ih =>
    intro i j a h hj
    have e : ec (x :: l) = eC x ++ ec l := rfl
    have hx : (eC x).length = 3 := rfl
    cases i with
    | zero =>
      simp at h
      subst h
      rw [e, Nat.zero_mul, Nat.zero_add, List.getElem?_append_left (by omega)]
    | succ i =>
      rw [e, List.getElem?_append_right (by omega), hx, show (i + 1) * 3 + j - 3 = i * 3 + j by omega]
      exact ih i j a (by simpa using h) hj
theorem add_plain (b off k : Nat) : (⟨b, off, none⟩ : Addr).add k = ⟨b, off + k, none⟩ := by
  unfold Addr.add
  by_cases h : k = 0 <;> simp [h]

section
variable {w : World} {B n : Nat} {A : Option Addr}
theorem rde_count {l : List Ed} (h : Rd w B 3 A n (ec l)) : l.length = n := by have := h.len; rw [ec_length] at this; omega
theorem rdz_count {l : List Int} (h : Rd w B 1 A n (zc l)) : l.length = n := by have := h.len; rw [zc_length] at this; omega
theorem z_at {l : List Int} (h : Rd w B 1 A n (zc l)) {k : Nat} (hk : k < n) : ∃ ad, A = some ad ∧ ad.block < B ∧ w.cell? (ad.add k) = some (.int .i64 (atZ l k)) := by
  obtain ⟨ad, e, hb, hc⟩ := h.lies (by omega)
  exact ⟨ad, e, hb, hc k _ (zc_get (by rw [rdz_count h]; exact hk))⟩
theorem e_at {l : List Ed} (h : Rd w B 3 A n (ec l)) {i : Nat} (hi : i < n) :
    ∃ b off : Nat, A = some ⟨b, off, none⟩ ∧ b < B ∧ w.cell? ⟨b, off + i * 3, none⟩ = some (.int .i64 (at3 l i).1) ∧ w.cell? ⟨b, off + i * 3 + 1, none⟩ = some (.int .i64 (at3 l i).2.1) ∧ w.cell? ⟨b, off + i * 3 + 2, none⟩ = some (.int .i64 (at3 l i).2.2) := by
  have hl := rde_count h
  obtain ⟨ad, e, hb, hc⟩ := h.lies (by omega)
  obtain ⟨b, off, spot⟩ := ad
  have at_ : ∀ i, i < n → l[i]? = some (at3 l i) := fun i hi => at3_get (by omega)
  have hspot : spot = none := World.cell?_spot (a := ⟨b, off, spot⟩) (hc 0 _ (ec_get l 0 0 _ (at_ 0 (by omega)) (by omega)))
  subst hspot
  have k : ∀ j, j < 3 → w.cell? ⟨b, off + i * 3 + j, none⟩ = (eC (at3 l i))[j]? := by
    intro j hj
    have h5 : (eC (at3 l i))[j]? = some ((eC (at3 l i))[j]'(by show j < 3; omega)) := List.getElem?_eq_getElem _
    have := hc _ _ ((ec_get l i j _ (at_ i hi) hj).trans h5)
    rw [add_plain] at this
    rw [h5, ← this, Nat.add_assoc]
  exact ⟨b, off, e, hb, k 0 (by omega), k 1 (by omega), k 2 (by omega)⟩
end

/-- Ends with a slice in new memory that holds the cells ys; nothing that was there has turned. -/
def MadeC (E : TypeId) (size n : Nat) (ys : List Value) (w : World) (e : Ending) (w' : World) : Prop :=
  ∃ A c, e = .returned (.slice A n c) ∧ w'.ownsRow w.heap.size E size (.slice A n c) n ys ∧ Below w.heap.size w w'

theorem own_zero (w : World) (B : Nat) (E : TypeId) (size : Nat) : w.ownsRow B E size (.slice none 0 0) 0 [] := World.ownsRow_nil w B E size
theorem ret_int {k : IntKind} {a b : Int} (h : a = b) : Ending.returned (.int k a) = .returned (.int k b) := by rw [h]

theorem eV_beq (a b : Ed) : ((a.1 == b.1) && ((a.2.1 == b.2.1) && (a.2.2 == b.2.2))) = decide (a = b) := by
  rw [Bool.eq_iff_iff]
  simp [Prod.ext_iff]
set_option maxRecDepth 100000 in
theorem eql_dd (a b : Ed) (w : World) : (binOp .eql 48 (eV a) (eV b)).run Try.prog w = .ok (.bool (decide (a = b))) w := by
  rw [← eV_beq]
  unfold eV
  obtain ⟨fs, hf⟩ : ∃ fs, Try.prog.fieldsOf 48 = fs := ⟨_, rfl⟩
  rw [run_eql_struct, run_equalIn_agg w 9999 _ _ _ (by kernel_rfl) (by kernel_rfl), hf]
  simp only [Program.fieldsOf, Try.underlying48] at hf
  subst hf
  simp only [Op.eqFields]
  have e1 := fun wx (x y : Int) => run_equalIn_int (P := Try.prog) wx 9998 3 .i64 .i64 x y Try.underlying3
  generalize a.1 = a1
  generalize a.2.1 = a2
  generalize a.2.2 = a3
  generalize b.1 = b1
  generalize b.2.1 = b2
  generalize b.2.2 = b3
  by_cases h1 : a1 = b1 <;> by_cases h2 : a2 = b2 <;> by_cases h3 : a3 = b3 <;> simp [go_sem, e1, h1, h2, h3]

end Go.Proofs.Ytopecdkkmbpnbaa
