/-
  An array of four bytes that came in.
-/
import Derived.Test.YtaafladmpdkfjabDoorOpf
import Derived.OpenShut
namespace Go.Proofs.YtaafladmpdkfjabDoor
open Go Go.RowKit Go.Deep Go.ChangeShapes Go.WideShapes
set_option linter.unusedVariables false

section
variable {H : Type} {enc : TypeId × Value → H} {w : World} {base : Nat} {held : Bool}
theorem by_one {n : Nat} {c : Value} {y : DataW H × List MemPlace} (h : DataW.trod enc Tryd.prog w base (fun _ => true) held n 5 [c] = some y) : ∃ b : Nat, c = .int .u8 (b : Int) ∧ b < 256 := by
  obtain ⟨d, e0, _, w0⟩ := DataW.trod_int Tryd.underlying5 h
  simp at e0
  have hv := bounds_u8 w0
  exact ⟨d.toNat, by rw [e0]; congr 1; omega, by omega⟩
theorem by_read {fuel : Nat} {cs : List Value} {x : DataW H × List MemPlace} (h : DataW.trod enc Tryd.prog w base (fun _ => true) held fuel 57 cs = some x) :
    ∃ b0 b1 b2 b3 : Nat, cs = [.int .u8 (b0 : Int), .int .u8 (b1 : Int), .int .u8 (b2 : Int), .int .u8 (b3 : Int)] ∧ b0 < 256 ∧ b1 < 256 ∧ b2 < 256 ∧ b3 < 256 := by
  obtain ⟨xs, m, _, _, hlen, hxl, hi⟩ := DataW.trod_array Tryd.underlying57 h
  have h4 : Tryd.prog.cellsOf 57 = 4 := by kernel_rfl
  have h1 : Tryd.prog.cellsOf 5 = 1 := by kernel_rfl
  rw [h4] at hlen
  rw [h1] at hi
  match cs, hlen with
  | [c0, c1, c2, c3], _ =>
    obtain ⟨b0, rfl, g0⟩ := by_one ((hi 0 (by omega)).trans (List.getElem?_eq_getElem (by omega)))
    obtain ⟨b1, rfl, g1⟩ := by_one ((hi 1 (by omega)).trans (List.getElem?_eq_getElem (by omega)))
    obtain ⟨b2, rfl, g2⟩ := by_one ((hi 2 (by omega)).trans (List.getElem?_eq_getElem (by omega)))
    obtain ⟨b3, rfl, g3⟩ := by_one ((hi 3 (by omega)).trans (List.getElem?_eq_getElem (by omega)))
    exact ⟨b0, b1, b2, b3, rfl, g0, g1, g2, g3⟩
end
theorem okWide_four {t e : TypeId} {n : Nat} {P : Program} {w : World} {r : Reach} {base : Nat} {v : Value} (ht : P.underlying t = some (.array n e)) (h : Value.okWide P w r base t v) : ∃ cs, v = .agg cs := by
  simp only [Value.okWide, ht] at h
  obtain ⟨cs, h1, h2, _⟩ := h
  exact ⟨cs, h1⟩

end Go.Proofs.YtaafladmpdkfjabDoor
