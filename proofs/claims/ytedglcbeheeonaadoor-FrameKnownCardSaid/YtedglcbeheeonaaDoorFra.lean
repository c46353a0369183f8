/-
  A frame's bytes. No program is named here.
-/
import Derived.Test.YtedglcbeheeonaaDoorMa
import Derived.Test.YtedglcbeheeonaaDoorCmb
namespace Go.Proofs.YtedglcbeheeonaaDoor

/-- A check's bytes, the lowest first. -/
def le4 (v : Nat) : List Nat := [v % 256, v / 256 % 256, v / 65536 % 256, v / 16777216 % 256]
theorem le4_length (v : Nat) : (le4 v).length = 4 := rfl
theorem le4_byte (v : Nat) : ∀ x ∈ le4 v, x < 256 := by
  intro x hx
  simp only [le4, List.mem_cons, List.not_mem_nil, or_false] at hx
  omega
theorem le4_inj {v u : Nat} (hv : v < 4294967296) (hu : u < 4294967296) (h : le4 v = le4 u) : v = u := by
  simp only [le4, List.cons.injEq, and_true] at h
  omega

/-- A frame's bytes ahead of its check, and all of them. -/
def frB (k : Nat) (p : List Nat) : List Nat := k :: (enc p.length ++ p)
def frS (k : Nat) (p : List Nat) : List Nat := frB k p ++ le4 (crcN (frB k p))
def frAll (ds : List (Nat × List Nat)) : List Nat := ds.flatMap fun d => frS d.1 d.2

theorem frB_length (k : Nat) (p : List Nat) : (frB k p).length = 1 + (enc p.length).length + p.length := by
  simp [frB]; omega
theorem frS_length (k : Nat) (p : List Nat) : (frS k p).length = 1 + (enc p.length).length + p.length + 4 := by
  rw [frS, List.length_append, frB_length, le4_length]
theorem frB_byte {k : Nat} {p : List Nat} (hk : k < 256) (hp : ∀ x ∈ p, x < 256) : ∀ x ∈ frB k p, x < 256 := by
  intro x hx
  simp only [frB, List.mem_cons, List.mem_append] at hx
  rcases hx with rfl | hx | hx
  · exact hk
  · exact enc_byte _ x hx
  · exact hp x hx
theorem frS_byte {k : Nat} {p : List Nat} (hk : k < 256) (hp : ∀ x ∈ p, x < 256) : ∀ x ∈ frS k p, x < 256 := by
  intro x hx
  rcases List.mem_append.1 hx with hx | hx
  · exact frB_byte hk hp x hx
  · exact le4_byte _ x hx
theorem frAll_byte {ds : List (Nat × List Nat)} (h : ∀ d ∈ ds, d.1 < 256 ∧ ∀ x ∈ d.2, x < 256) : ∀ x ∈ frAll ds, x < 256 := by
  intro x hx
  obtain ⟨d, hd, hx⟩ := List.mem_flatMap.1 hx
  exact frS_byte (h d hd).1 (h d hd).2 x hx
theorem frAll_take {ds : List (Nat × List Nat)} {i : Nat} {d : Nat × List Nat} (h : ds[i]? = some d) : frAll (ds.take (i + 1)) = frAll (ds.take i) ++ frS d.1 d.2 := by
  have hi := (List.getElem?_eq_some_iff.1 h).1
  have e : ds[i] = d := (List.getElem?_eq_some_iff.1 h).2
  rw [List.take_succ_eq_append_getElem hi, frAll, List.flatMap_append, e]
  simp [frAll]
theorem frAll_append (l m : List (Nat × List Nat)) : frAll (l ++ m) = frAll l ++ frAll m := by simp [frAll]
theorem frAll_le (ds : List (Nat × List Nat)) (i : Nat) : (frAll (ds.take i)).length ≤ (frAll ds).length := by
  have : frAll ds = frAll (ds.take i) ++ frAll (ds.drop i) := by rw [← frAll_append, List.take_append_drop]
  rw [this, List.length_append]; omega

end Go.Proofs.YtedglcbeheeonaaDoor
