/-
  What layer 7's texts share: the rows of the table of types; names, pairs and numbers as cells.
-/
import Derived.Test.YtidlpiamiglppaaChecked
import Derived.Test.YtidlpiamiglppaaMem
import Derived.Test.YtidlpiamiglppaaIpa
import Derived.WalkSpells
import Derived.Deep.QuietTactic
import Derived.BigQuiet
import Derived.Laws.StructEq
namespace Go.Proofs.Ytidlpiamiglppaa
open Go Go.RowKit
set_option linter.unusedVariables false

theorem Try.infoU : (Try.prog.info? 23).map (fun i => (i.zero, i.size, i.bytes)) = some (some (.int .u64 0), 1, 8) := by kernel_rfl
theorem Try.infoI : (Try.prog.info? 3).map (fun i => (i.zero, i.size, i.bytes)) = some (some (.int .i64 0), 1, 8) := by kernel_rfl
theorem Try.infoP : (Try.prog.info? 50).map (fun i => (i.zero, i.size, i.bytes)) = some (some (.agg #[.int .u64 0, .int .u64 0]), 2, 16) := by kernel_rfl
theorem Try.infoQ : (Try.prog.info? 59).map (fun i => (i.zero, i.size, i.bytes)) = some (some (.agg #[.int .u64 0, .int .u64 0]), 2, 16) := by kernel_rfl

theorem ret_int {k : IntKind} {a b : Int} (h : a = b) : Ending.returned (.int k a) = .returned (.int k b) := by rw [h]
theorem int_beq (a b : Nat) : ((a : Int) == (b : Int)) = (a == b) := by rw [Bool.eq_iff_iff]; simp [Int.natCast_inj]
theorem int_bne (a b : Nat) : ((a : Int) != (b : Int)) = (a != b) := by simp only [bne, int_beq]

/-- Names as cells (their first part); pairs as cells; numbers as cells. -/
def uc (l : List PP) : List Value := l.map fun p => Value.int .u64 (p.1 : Int)
def pv (p : PP) : Value := .agg #[.int .u64 (p.1 : Int), .int .u64 (p.2 : Int)]
def pcell (p : PP) : List Value := [.int .u64 (p.1 : Int), .int .u64 (p.2 : Int)]
def pc (l : List PP) : List Value := l.flatMap pcell
def ic (l : List Nat) : List Value := l.map fun (n : Nat) => Value.int .i64 (n : Int)
/-- A name, or a pair, of numbers that are below 2^64. -/
def U64 (p : PP) : Prop := p.1 < 18446744073709551616 ∧ p.2 < 18446744073709551616
def Us (l : List PP) : Prop := ∀ p ∈ l, U64 p

theorem uc_length (l : List PP) : (uc l).length = l.length := by simp [uc]
theorem ic_length (l : List Nat) : (ic l).length = l.length := by simp [ic]
theorem uc_append (l m : List PP) : uc (l ++ m) = uc l ++ uc m := by simp [uc]
theorem pc_append (l m : List PP) : pc (l ++ m) = pc l ++ pc m := by simp [pc]
theorem pc_length (l : List PP) : (pc l).length = l.length * 2 := by
  induction l with
  | nil => rfl
  | cons x l ih => show (pcell x ++ pc l).length = _; rw [List.length_append, ih]; simp [pcell]; omega
theorem uc_one (l : List PP) : ∀ u ∈ uc l, u.oneCell' = true := by
  intro u hu
  simp only [uc, List.mem_map] at hu
  obtain ⟨n, _, rfl⟩ := hu
  rfl
theorem ic_one (l : List Nat) : ∀ u ∈ ic l, u.oneCell' = true := by
  intro u hu
  simp only [ic, List.mem_map] at hu
  obtain ⟨n, _, rfl⟩ := hu
  rfl
theorem pc_one (l : List PP) : ∀ u ∈ pc l, u.oneCell' = true := by
  intro u hu
  obtain ⟨f, _, hu⟩ := List.mem_flatMap.1 hu
  simp only [pcell, List.mem_cons, List.not_mem_nil, or_false] at hu
  rcases hu with rfl | rfl <;> rfl
theorem uc_get {l : List PP} {j : Nat} (h : j < l.length) : (uc l)[j]? = some (.int .u64 ((at0 l j).1 : Int)) := by
  rw [at0_lt h]; simp [uc, h]
theorem ic_get {l : List Nat} {j : Nat} (h : j < l.length) : (ic l)[j]? = some (.int .i64 ((l.getD j 0 : Nat) : Int)) := by
  rw [List.getD_eq_getElem?_getD, List.getElem?_eq_getElem h]; simp [ic, h]
theorem pc_get : ∀ (l : List PP) (i j : Nat) (a : PP), l[i]? = some a → j < 2 → (pc l)[i * 2 + j]? = (pcell a)[j]? := by
  intro l
  induction l with
  | nil => intro i j a h; simp at h
  | cons x l ih =>
    intro i j a h hj
    have e : pc (x :: l) = pcell x ++ pc l := rfl
    have hx : (pcell x).length = 2 := rfl
    cases i with
    | zero =>
      simp at h
      subst h
      rw [e, Nat.zero_mul, Nat.zero_add, List.getElem?_append_left (by omega)]
    | succ i =>
      rw [e, List.getElem?_append_right (by omega), hx, show (i + 1) * 2 + j - 2 = i * 2 + j by omega]
      exact ih i j a (by simpa using h) hj

theorem add_plain (b off k : Nat) : (⟨b, off, none⟩ : Addr).add k = ⟨b, off + k, none⟩ := by
  unfold Addr.add
  by_cases h : k = 0 <;> simp [h]

section
variable {w : World} {B n : Nat} {A : Option Addr}
theorem rdu_count {l : List PP} (h : Rd w B 1 A n (uc l)) : l.length = n := by have := h.len; rw [uc_length] at this; omega
theorem rdi_count {l : List Nat} (h : Rd w B 1 A n (ic l)) : l.length = n := by have := h.len; rw [ic_length] at this; omega
theorem rdp_count {l : List PP} (h : Rd w B 2 A n (pc l)) : l.length = n := by have := h.len; rw [pc_length] at this; omega
theorem u_at {l : List PP} (h : Rd w B 1 A n (uc l)) {k : Nat} (hk : k < n) : ∃ ad, A = some ad ∧ ad.block < B ∧ w.cell? (ad.add k) = some (.int .u64 ((at0 l k).1 : Int)) := by
  obtain ⟨ad, e, hb, hc⟩ := h.lies (by omega)
  exact ⟨ad, e, hb, hc k _ (uc_get (by rw [rdu_count h]; exact hk))⟩
theorem i_at {l : List Nat} (h : Rd w B 1 A n (ic l)) {k : Nat} (hk : k < n) : ∃ ad, A = some ad ∧ ad.block < B ∧ w.cell? (ad.add k) = some (.int .i64 ((l.getD k 0 : Nat) : Int)) := by
  obtain ⟨ad, e, hb, hc⟩ := h.lies (by omega)
  exact ⟨ad, e, hb, hc k _ (ic_get (by rw [rdi_count h]; exact hk))⟩
theorem p_at {l : List PP} (h : Rd w B 2 A n (pc l)) {i : Nat} (hi : i < n) :
    ∃ b off : Nat, A = some ⟨b, off, none⟩ ∧ b < B ∧ w.cell? ⟨b, off + i * 2, none⟩ = some (.int .u64 ((at0 l i).1 : Int)) ∧ w.cell? ⟨b, off + i * 2 + 1, none⟩ = some (.int .u64 ((at0 l i).2 : Int)) := by
  have hl := rdp_count h
  obtain ⟨ad, e, hb, hc⟩ := h.lies (by omega)
  obtain ⟨b, off, spot⟩ := ad
  have at_ : ∀ i, i < n → l[i]? = some (at0 l i) := fun i hi => by rw [at0_lt (by omega)]; exact List.getElem?_eq_getElem (by omega)
  have hspot : spot = none := World.cell?_spot (a := ⟨b, off, spot⟩) (hc 0 _ (pc_get l 0 0 _ (at_ 0 (by omega)) (by omega)))
  subst hspot
  have k : ∀ j, j < 2 → w.cell? ⟨b, off + i * 2 + j, none⟩ = (pcell (at0 l i))[j]? := by
    intro j hj
    have h5 : (pcell (at0 l i))[j]? = some ((pcell (at0 l i))[j]'(by show j < 2; omega)) := List.getElem?_eq_getElem _
    have := hc _ _ ((pc_get l i j _ (at_ i hi) hj).trans h5)
    rw [add_plain] at this
    rw [h5, ← this, Nat.add_assoc]
  exact ⟨b, off, e, hb, k 0 (by omega), k 1 (by omega)⟩
end

/-- Ends with a slice in new memory that holds the cells ys; nothing that was there has turned. -/
def MadeC (E : TypeId) (size n : Nat) (ys : List Value) (w : World) (e : Ending) (w' : World) : Prop :=
  ∃ A c, e = .returned (.slice A n c) ∧ w'.ownsRow w.heap.size E size (.slice A n c) n ys ∧ Below w.heap.size w w'

theorem own_zero (w : World) (B : Nat) (E : TypeId) (size : Nat) : w.ownsRow B E size (.slice none 0 0) 0 [] := World.ownsRow_nil w B E size

theorem pv_beq (a b : PP) : (((a.1 : Int) == (b.1 : Int)) && ((a.2 : Int) == (b.2 : Int))) = decide (a = b) := by
  rw [int_beq, int_beq, Bool.eq_iff_iff]
  simp [Prod.ext_iff]
set_option maxRecDepth 100000 in
theorem eql_pp (a b : PP) (w : World) : (binOp .eql 50 (pv a) (pv b)).run Try.prog w = .ok (.bool (decide (a = b))) w := by
  rw [← pv_beq]
  unfold pv
  obtain ⟨fs, hf⟩ : ∃ fs, Try.prog.fieldsOf 50 = fs := ⟨_, rfl⟩
  rw [run_eql_struct, run_equalIn_agg w 9999 _ _ _ (by kernel_rfl) (by kernel_rfl), hf]
  simp only [Program.fieldsOf, Try.underlying50] at hf
  subst hf
  simp only [Op.eqFields]
  have e1 := fun wx (x y : Int) => run_equalIn_int (P := Try.prog) wx 9998 23 .u64 .u64 x y Try.underlying23
  generalize (a.1 : Int) = a1
  generalize (a.2 : Int) = a2
  generalize (b.1 : Int) = b1
  generalize (b.2 : Int) = b2
  by_cases h1 : a1 = b1 <;> by_cases h2 : a2 = b2 <;> simp [go_sem, e1, h1, h2]

end Go.Proofs.Ytidlpiamiglppaa
