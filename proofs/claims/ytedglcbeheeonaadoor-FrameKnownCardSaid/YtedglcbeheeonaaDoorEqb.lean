/-
  The contract of the library's bytes.Equal: the library's own text is walked. (For a program without slices.Clone.)
-/
import Derived.Test.YtedglcbeheeonaaDoorHlp
import Derived.Test.YtedglcbeheeonaaDoorCut
import Derived.Laws.BytesString
import Derived.Lib.Strings
import Derived.Lib.SliceRun
import Derived.Lib.Walk
import Derived.WalkSpells
namespace Go.Proofs.YtedglcbeheeonaaDoor
open Go Go.RowKit
set_option linter.unusedVariables false

/-- The string of the bytes l. -/
def strb (l : List Nat) : ByteArray := ⟨(l.map fun (n : Nat) => UInt8.ofNat n).toArray⟩
theorem strb_inj {l m : List Nat} (hl : ∀ x ∈ l, x < 256) (hm : ∀ x ∈ m, x < 256) (h : (strb l).data.toList = (strb m).data.toList) : l = m := by
  simp only [strb] at h
  induction l generalizing m with
  | nil => cases m <;> simp_all
  | cons a l ih =>
    cases m with
    | nil => simp at h
    | cons b m =>
      simp only [List.map_cons, List.cons.injEq] at h
      have hab : a = b := by
        have := congrArg UInt8.toNat h.1
        simp only [UInt8.toNat_ofNat'] at this
        have h1 := hl a (by simp)
        have h2 := hm b (by simp)
        omega
      rw [hab, ih (m := m) (fun x hx => hl x (by simp [hx])) (fun x hx => hm x (by simp [hx])) h.2]
theorem push_bytes : ∀ (l : List Nat) (s : ByteArray), (l.map fun (n : Nat) => (n : Int)).foldl (fun r n => r.push (UInt8.ofNat n.toNat)) s = ⟨s.data ++ (l.map fun (n : Nat) => UInt8.ofNat n).toArray⟩
  | [], s => by simp
  | n :: ns, s => by
    rw [List.map_cons, List.foldl_cons, push_bytes ns]
    simp [ByteArray.push]
theorem run_loadCells_rd {P : Program} {w : World} {B n : Nat} {ad : Addr} {l : List Nat} (h : Rd w B 1 (some ad) n (bs l)) : (loadCells ad n).run P w = .ok ((l.map fun (n : Nat) => (n : Int)).map (Value.int .u8)).toArray w := by
  have hc := h.count
  have := run_loadCells_list (P := P) w ad (bs l) (fun j v hj => by
    have hjl : j < l.length := by
      rcases Nat.lt_or_ge j l.length with h | h
      · exact h
      · rw [List.getElem?_eq_none (by rw [bs_length]; exact h)] at hj; cases hj
    obtain ⟨ad', e, _, hc'⟩ := h.lies (by omega)
    injection e with e
    subst e
    exact hc' j v hj)
  rw [bs_length, hc] at this
  rw [this]
  simp [bs]
theorem run_str {w : World} {B n c : Nat} {A : Option Addr} {l : List Nat} (h : Rd w B 1 A n (bs l)) (hc : A = none → n = 0) :
    (convert 23 9 (.slice A n c)).run Tryd.prog w = .ok (.string (strb l)) w := by
  rw [run_convert_bytes_string w 23 9 5 A n c Tryd.underlying23 Tryd.underlying5 Tryd.underlying9]
  cases A with
  | none =>
    have : l = [] := List.eq_nil_of_length_eq_zero (by rw [h.count]; exact hc rfl)
    subst this
    simp [Conv.bytesToString, strb, ByteArray.empty, ByteArray.emptyWithCapacity]
    rfl
  | some ad =>
    rw [run_bytesToString w ad n c _ (run_loadCells_rd h), push_bytes]
    simp [strb, ByteArray.empty, ByteArray.emptyWithCapacity]
    rfl
theorem rd_none {w : World} {B n size : Nat} {A : Option Addr} {xs : List Value} (h : Rd w B size A n xs) : A = none → n = 0 := by
  intro e
  rcases Nat.eq_zero_or_pos n with h0 | h0
  · exact h0
  · obtain ⟨ad, e2, _⟩ := h.lies h0
    rw [e] at e2; cases e2

theorem equal_any (B B' : Nat) (A A' : Option Addr) (n n' c c' : Nat) (l m : List Nat) (w : World) (h : Rd w B 1 A n (bs l)) (h' : Rd w B' 1 A' n' (bs m)) (hl : ∀ x ∈ l, x < 256) (hm : ∀ x ∈ m, x < 256) :
    Calls Tryd.prog 29 #[.slice A n c, .slice A' n' c'] w fun e w' => e = .returned (.bool (eqB l m)) ∧ w = w' := by
  have h1 := run_str (c := c) h (rd_none h)
  have h2 := run_str (c := c') h' (rd_none h')
  have he : eqB l m = ((strb l).data.toList == (strb m).data.toList) := by
    rw [Bool.eq_iff_iff]
    unfold eqB
    rw [decide_eq_true_iff, beq_iff_eq]
    exact ⟨fun e => by rw [e], strb_inj hl hm⟩
  have HE := Lib_hid he
  clear he hl hm h h'
  generalize strb l = s1 at *
  generalize strb m = s2 at *
  go_enter Tryd.func29, Tryd.ntmps29
  go_wp2
  go_ret
  exact ⟨by rw [HE.out, ← Lib.toList_data, ← Lib.toList_data]; rfl, rfl⟩

end Go.Proofs.YtedglcbeheeonaaDoor
