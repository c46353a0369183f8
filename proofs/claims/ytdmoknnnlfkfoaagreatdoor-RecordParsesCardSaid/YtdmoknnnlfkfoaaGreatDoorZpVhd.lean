/-
  Layer 5: the wrap of a row with listed variables, where the walk also wants the world's shape; what is had of MaxLen; a frame that came in.
-/
import Derived.Test.YtdmoknnnlfkfoaaGreatDoorZpOpen
import Derived.SevenTiedAt
import Derived.WalkKit
import Derived.ProofKit
import Derived.OpenShut
import Derived.ShutString
import Derived.ChangeOld
import Derived.Below
import Derived.Lay
import Derived.Shelf.Vars
import Derived.Handed

namespace Go.Proofs.YtdmoknnnlfkfoaaGreatDoor
open Go Go.RowKit Go.Deep Go.ChangeShapes Go.WideShapes Go.ChangeAt
open Go.ChangeMaps (open_string shut_string)
set_option linter.unusedVariables false
theorem ownH : ownKnob Tryz.prog.godebug = none := by kernel_rfl
theorem laidOutH : laidOutB Tryz.prog = true := by kernel_rfl
theorem maxlen_intH {W : World} (h : W.ShapedOpen Tryz.prog) : ∃ m : Int, W.cell? ⟨0, 0, none⟩ = some (.int .i64 m) :=
  cell_of_shapedOpen_int (zero := #[.int .i64 0]) h (by decide +kernel) (by kernel_rfl) rfl (by kernel_rfl) (by kernel_rfl) Tryz.underlying3
theorem pos_of_cellH {W : World} {g : Nat} {x : Value} (h : W.cell? ⟨g, 0, none⟩ = some x) : 0 < W.heap.size := by
  rcases Nat.eq_zero_or_pos W.heap.size with h0 | h0
  · have h1 : W.heap[g]? = none := Array.getElem?_eq_none (by omega)
    simp [World.cell?, h1] at h
  · exact h0
theorem handedH {H : Type} {enc : TypeId × Value → H} {C : Checked} {os : Os} {f : FuncId} {fn : Func} {s : ChangeSpec} {apart fresh handsOn again : Bool} {X : World → Array Value → Prop}
    (hX : ∀ (w w' : World) (args : Array Value), w.heap = w'.heap → X w args → X w' args) (own : ownKnob C.prog.godebug = none) (started : os.Started) (noInit : C.prog.inits.idxOf? f = none) (hfn : C.prog.funcs[f]? = some fn)
    (witness : ∃ (w : World) (tape : Tape) (i : Input), w.os = os ∧ (w.forCall tape i).Shaped C.prog ∧ i.vars = [] ∧ Input.okWide C.prog (w.forCall tape i) .any w.heap.size f i ∧
      ((s.pre enc C.prog fn [] apart (w.forCall tape i).memory i.args ∧ X (w.forCall tape i).memory i.args) ∧ sizedMet enc C.prog fn (OpenSpec.ofChange s) apart (w.forCall tape i).memory i.args) ∧ Assume.holds {} C.prog (lone (Frame.enter C.prog f i.args .normal) [] (w.forCall tape i)))
    (walk : ∀ (W : World) (base : Nat) (args : Array Value) (ds gs : List (DataW H)) (before : List MemPlace), (∀ (j : Nat) t v, fn.params[j]? = some t → args[j]? = some v → Value.okWide C.prog W .any base t v) →
      DataW.Whole enc C.prog fn.params.toList s.vars apart W args.toList ds gs before → X W args → W.ShapedOpen C.prog → Calls C.prog f args W fun e W' => ∃ v, e = .returned v ∧ s.post enc C.prog fn apart fresh handsOn again W args v W') :
    ReturnsInHanded {} C os f .any (fun w args => (s.pre enc C.prog fn [] apart w args ∧ X w args) ∧ sizedMet enc C.prog fn (OpenSpec.ofChange s) apart w args) (s.post enc C.prog fn apart fresh handsOn again) :=
  returnsInHanded_of_calls own started noInit witness fun w tape i _ hs _ hok hp _ => by
    obtain ⟨⟨⟨ds, gs, before, hw, _⟩, hx⟩, _⟩ := hp
    have hval : ∀ (j : Nat) t v, fn.params[j]? = some t → i.args[j]? = some v → Value.okWide C.prog (w.forCall tape i) .any w.heap.size t v := by
      obtain ⟨_, _, _, fn', hfn', _, _, _, _, hv⟩ := hok
      rw [Option.some.inj (hfn.symm.trans hfn')]
      exact hv
    refine (walk (w.forCall tape i) w.heap.size i.args ds gs before hval (DataW.Whole.of_heap (by rfl) hw) (hX _ _ _ (by rfl) hx) hs).mono ?_
    rintro e W' ⟨v, rfl, hq⟩
    exact ChangeSpec.post_blind hq
section
variable {H : Type} {enc : TypeId × Value → H} {w : World} {base : Nat} {held : Bool}
set_option maxRecDepth 100000 in
theorem frame_read {fuel : Nat} {cs : List Value} {x : DataW H × List MemPlace} (h : DataW.trod enc Tryz.prog w base (fun _ => true) held fuel 24 cs = some x) :
    ∃ (k : Nat) (A : Option Addr) (n c : Nat) (l : List Nat), cs = [.int .u8 (k : Int), .slice A n c] ∧ k < 256 ∧ Rd w w.heap.size 1 A n (bs l) ∧ (∀ x ∈ l, x < 256) ∧ n ≤ c ∧ c ≤ 9223372036854775807 := by
  obtain ⟨y0, y1, n, -, hl, h0, h1⟩ := trod_struct2 Tryz.underlying24 h
  have hc : Tryz.prog.cellsOf 24 = 2 := by kernel_rfl
  have hu : Tryz.prog.cellsOf 5 = 1 := by kernel_rfl
  have hs : Tryz.prog.cellsOf 22 = 1 := by kernel_rfl
  rw [hc] at hl
  match cs, hl with
  | [c0, c1], _ =>
    obtain ⟨d, e0, w0⟩ := int_read Tryz.underlying5 h0
    simp only [hu] at e0
    simp at e0
    subst e0
    simp only [hs] at h1
    have h1 : DataW.trod enc Tryz.prog w base (fun _ => true) held n 22 [c1] = some y1 := h1
    have hv := bounds_u8 w0
    obtain ⟨d, rfl⟩ : ∃ u : Nat, d = u := ⟨d.toNat, by omega⟩
    rcases open_ints Tryz.underlying22 Tryz.underlying5 (by kernel_rfl) h1 with ⟨hcs, _⟩ | ⟨a, len, cap, zs, hcs, _, hl2, hm, hz, _, hcell, hw⟩
    · obtain rfl : c1 = .slice none 0 0 := by injection (show [c1] = [.slice none 0 0] from hcs)
      exact ⟨d, none, 0, 0, [], rfl, by omega, Rd.zero, by simp, Nat.le_refl _, by omega⟩
    · obtain rfl : c1 = .slice (some a) len cap := by injection (show [c1] = [.slice (some a) len cap] from hcs)
      obtain ⟨l, r1, r2, r3⟩ := IsRow.rd (.inr ⟨a, rfl, hl2, hm, by simpa using hz, hcell, hw⟩ : IsRow .u8 w (some a) len cap zs)
      exact ⟨d, some a, len, cap, l, rfl, by omega, r1, r2, r3⟩
end
end Go.Proofs.YtdmoknnnlfkfoaaGreatDoor
