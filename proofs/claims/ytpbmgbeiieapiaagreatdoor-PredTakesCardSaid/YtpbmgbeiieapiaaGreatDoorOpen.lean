/-
  A slice of bytes that came in reads as a list of bytes.
-/
import Derived.Test.YtpbmgbeiieapiaaGreatDoorMem
import Derived.ProofKit
import Derived.OpenShut
import Derived.ShutString
import Derived.ChangeOld
namespace Go.Proofs.YtpbmgbeiieapiaaGreatDoor
open Go Go.RowKit

/-- A slice of integers that came in: nil, or a row of cap cells that hold the numbers zs, each fitting its kind. -/
def IsRow (k : IntKind) (w : World) (a : Option Addr) (len cap : Nat) (zs : List Int) : Prop :=
  (a = none ∧ len = 0 ∧ cap = 0 ∧ zs = []) ∨
  ∃ x, a = some x ∧ len ≤ cap ∧ cap ≤ maxLen ∧ zs.length = cap ∧ (∀ i, i < zs.length → w.cell? (x.add i) = some (.int k (zs.getD i 0))) ∧ ∀ n ∈ zs, (Lit.int k n).wf = true

theorem IsRow.rd {w : World} {a : Option Addr} {len cap : Nat} {zs : List Int} (h : IsRow .u8 w a len cap zs) :
    ∃ l : List Nat, Rd w w.heap.size 1 a len (bs l) ∧ (∀ x ∈ l, x < 256) ∧ len ≤ cap ∧ cap ≤ 9223372036854775807 := by
  rcases h with ⟨rfl, rfl, rfl, rfl⟩ | ⟨x, rfl, hl, hm, hz, hc, hw⟩
  · exact ⟨[], Rd.zero, by simp, Nat.le_refl _, by omega⟩
  · have hmem : ∀ n ∈ zs, 0 ≤ n ∧ n ≤ 255 := fun n hn => bounds_u8 (hw n hn)
    refine ⟨(zs.take len).map Int.toNat, ⟨?_, fun h0 => ⟨x, rfl, ?_, ?_⟩⟩, ?_, hl, by unfold maxLen at hm; omega⟩
    · rw [bs_length, List.length_map, List.length_take]; omega
    · have := World.block_lt_of_cell? w _ (hc 0 (by omega)); rw [add_block] at this; exact this
    · intro j u hu
      have hj : j < len := by
        rcases Nat.lt_or_ge j len with h1 | h1
        · exact h1
        · rw [List.getElem?_eq_none (by rw [bs_length, List.length_map, List.length_take]; omega)] at hu; cases hu
      have hjz : j < zs.length := by omega
      rw [hc j hjz]
      simp only [bs, List.map_map, List.getElem?_map, List.getElem?_take, hj, if_true, List.getElem?_eq_getElem hjz, Option.map_some, Option.some.injEq] at hu
      rw [List.getD_eq_getElem?_getD, List.getElem?_eq_getElem hjz]
      have hb := hmem zs[j] (List.getElem_mem hjz)
      rw [← hu]
      simp only [Option.getD_some, Function.comp_apply, Option.some.injEq, Value.int.injEq, true_and]
      omega
    · intro y hy
      obtain ⟨n, hn, rfl⟩ := List.mem_map.1 hy
      have := hmem n (List.mem_of_mem_take hn)
      omega

end Go.Proofs.YtpbmgbeiieapiaaGreatDoor
