/-
  A frame as the document has it; few; equality of such frames.
-/
import Derived.Test.YtedglcbeheeonaaDoorFby
import Derived.Laws.StructEq
import Derived.WalkSpells
namespace Go.Proofs.YtedglcbeheeonaaDoor
open Go Go.RowKit
set_option linter.unusedVariables false

/-- The document's frame. -/
def dfv (k : Nat) (p : List Nat) : Value := .agg #[.int .u8 (k : Int), .string (str p)]

set_option maxRecDepth 100000 in
theorem dframe_any (B k : Nat) (A : Option Addr) (n c : Nat) (p : List Nat) (w : World) (h : Rd w B 1 A n (bs p)) (hB : B ≤ w.heap.size) :
    Calls Tryd.prog 9 #[.agg #[.int .u8 (k : Int), .slice A n c]] w fun e w' => e = .returned (dfv k p) ∧ Below w.heap.size w w' := by
  have hs := fun (W : World) (hW : Below w.heap.size w W) => run_str (c := c) (h.below (hW.mono hB)) (rd_none h)
  have h1 := below_new w (.cells #[.int .u8 (k : Int), .slice A n c] 25)
  have h2 := h1.alloc h1.size (.cells #[.int .u8 0, .string ⟨#[]⟩] 30)
  have hs2 := hs _ h2
  have HS := Lib_hid hs
  clear hs h
  unfold dfv
  rw [show str p = strb p from rfl]
  generalize strb p = s at *
  go_enter Tryd.func9, Tryd.ntmps9
  go_wp2
  exact bodyPost_ret (v := .agg #[.int .u8 (k : Int), .string s]) (by simp [results, Tryd.results9, go_sem]) rfl ⟨rfl, (below_new w _).alloc (by simp) _⟩

theorem str_inj {l m : List Nat} (hl : ∀ x ∈ l, x < 256) (hm : ∀ x ∈ m, x < 256) (h : str l = str m) : l = m :=
  strb_inj hl hm (congrArg (fun s => s.data.toList) (show strb l = strb m from h))
theorem str_beq {l m : List Nat} (hl : ∀ x ∈ l, x < 256) (hm : ∀ x ∈ m, x < 256) : ((str l).toList == (str m).toList) = eqB l m := by
  rw [Bool.eq_iff_iff]
  unfold eqB
  rw [beq_iff_eq, decide_eq_true_iff]
  exact ⟨fun e => strb_inj hl hm (by rw [← Lib.toList_data, ← Lib.toList_data]; exact e), fun e => by rw [e]⟩
set_option maxRecDepth 100000 in
theorem eql_fr (k k' : Nat) (p p' : List Nat) (w : World) (hp : ∀ x ∈ p, x < 256) (hp' : ∀ x ∈ p', x < 256) : (binOp .eql 30 (dfv k p) (dfv k' p')).run Tryd.prog w = .ok (.bool (sameF (k, p) (k', p'))) w := by
  have h2 := str_beq hp hp'
  unfold dfv
  obtain ⟨fs, hf⟩ : ∃ fs, Tryd.prog.fieldsOf 30 = fs := ⟨_, rfl⟩
  rw [run_eql_struct, run_equalIn_agg w 9999 _ _ _ (by kernel_rfl) (by kernel_rfl), hf]
  simp only [Program.fieldsOf, Tryd.underlying30] at hf
  subst hf
  unfold sameF
  rw [← h2]
  generalize str p = s
  generalize str p' = s'
  simp only [Op.eqFields]
  have e1 := fun wx => run_equalIn_int (P := Tryd.prog) wx 9998 5 .u8 .u8 (k : Int) (k' : Int) Tryd.underlying5
  have e2 := fun wx => run_equalIn_string (P := Tryd.prog) wx 9998 9 s s' Tryd.underlying9
  by_cases hk : k = k'
  · subst hk
    by_cases hs : s.toList = s'.toList <;> simp [go_sem, e1, e2, hs]
  · have hkk : ((k : Int) == (k' : Int)) = false := by simp; omega
    simp [go_sem, e1, e2, hkk, hk]

set_option maxRecDepth 100000 in
theorem neq_fr (k k' : Nat) (p p' : List Nat) (w : World) (hp : ∀ x ∈ p, x < 256) (hp' : ∀ x ∈ p', x < 256) : (binOp .neq 30 (dfv k p) (dfv k' p')).run Tryd.prog w = .ok (.bool (!sameF (k, p) (k', p'))) w := by
  have h2 := str_beq hp hp'
  unfold dfv
  obtain ⟨fs, hf⟩ : ∃ fs, Tryd.prog.fieldsOf 30 = fs := ⟨_, rfl⟩
  rw [run_neq_struct, run_equalIn_agg w 9999 _ _ _ (by kernel_rfl) (by kernel_rfl), hf]
  simp only [Program.fieldsOf, Tryd.underlying30] at hf
  subst hf
  unfold sameF
  rw [← h2]
  generalize str p = s
  generalize str p' = s'
  simp only [Op.eqFields]
  have e1 := fun wx => run_equalIn_int (P := Tryd.prog) wx 9998 5 .u8 .u8 (k : Int) (k' : Int) Tryd.underlying5
  have e2 := fun wx => run_equalIn_string (P := Tryd.prog) wx 9998 9 s s' Tryd.underlying9
  by_cases hk : k = k'
  · subst hk
    by_cases hs : s.toList = s'.toList <;> simp [go_sem, e1, e2, hs]
  · have hkk : ((k : Int) == (k' : Int)) = false := by simp; omega
    simp [go_sem, e1, e2, hkk, hk]

def FFew (l : List FrV) (i : Nat) : Prop := ∀ (j : Nat) (a : FrV), j < i → l[j]? = some a → a.n ≤ 200
theorem FFew.zero (l : List FrV) : FFew l 0 := fun j a h => by omega
theorem FFew.succ {l : List FrV} {i : Nat} {a : FrV} (h : FFew l i) (ha : l[i]? = some a) (h1 : (a.n : Int) ≤ 200) : FFew l (i + 1) := fun j x hj hx => by
  rcases Nat.lt_or_ge j i with h3 | h3
  · exact h j x h3 hx
  · obtain rfl : j = i := by omega
    rw [ha] at hx
    obtain rfl : a = x := by injection hx
    omega
/-- What few says when it says yes. -/
def FFewSays (l : List FrV) (n : Nat) (w : World) (e : Ending) (w' : World) : Prop :=
  ∃ b, e = .returned (.bool b) ∧ w = w' ∧ (b = true → n ≤ 12 ∧ FFew l n)

set_option maxRecDepth 100000 in
set_option maxHeartbeats 1600000 in
theorem ffew_any (B n c : Nat) (A : Option Addr) (l : List FrV) (w : World) (h : Rd w B 2 A n (frCells l)) (hn : n ≤ 9223372036854775807) :
    Calls Tryd.prog 7 #[.slice A n c] w (FFewSays l n w) := by
  have hl : l.length = n := by have := h.len; rw [frCells_length] at this; omega
  have HL := Lib_hid hl
  clear hl
  go_enter Tryd.func7, Tryd.ntmps7
  go_wp2
  go_loop [3] (fun x => ∃ i : Nat, x = .int .i64 i ∧ i ≤ n ∧ i ≤ 13 ∧ FFew l i) (fun x => 13 - (intOf x).toNat)
  case atStart => exact ⟨0, rfl, by omega, by omega, FFew.zero l⟩
  case round =>
    obtain ⟨i, rfl, hi, hi2, hf⟩ := hrel
    by_cases hlt : i < n ∧ i < 13
    · obtain ⟨h1, h2⟩ := hlt
      obtain ⟨b, off, a, rfl, _, ha, c0, c1⟩ := fr_at h HL.out h1
      have HA := Lib_hid ha
      clear ha h
      obtain ⟨k, bA, bn, bc⟩ := a
      simp only at c0 c1
      by_cases hb : (bn : Int) ≤ 200
      · have hf' := hf.succ HA.out hb
        clear hf
        go_wp2
        go_round
        case rel => exact ⟨i + 1, by go_num, by omega, by omega, hf'⟩
        case measure => simp [intOf]; omega
      · go_wp2
        go_ret
        exact ⟨false, rfl, rfl, by simp⟩
    · by_cases h30 : n ≤ 12
      · obtain rfl : i = n := by omega
        have hd : decide ((i : Int) ≤ 12) = true := by simp; omega
        clear hlt
        go_wp2
        go_ret
        exact ⟨true, rfl, rfl, fun _ => ⟨h30, hf⟩⟩
      · obtain rfl : i = 13 := by omega
        have hd : decide ((n : Int) ≤ 12) = false := by simp; omega
        clear hlt
        go_wp2
        all_goals
          go_ret
          exact ⟨false, rfl, rfl, by simp⟩

end Go.Proofs.YtedglcbeheeonaaDoor
