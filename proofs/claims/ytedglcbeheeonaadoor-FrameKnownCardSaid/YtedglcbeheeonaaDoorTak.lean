/-
  The contract of the program's state.take, for every state and every slice of bytes.
-/
import Derived.Test.YtedglcbeheeonaaDoorHlp
import Derived.Test.YtedglcbeheeonaaDoorCmb
import Derived.Laws.BitsAllLaws
import Derived.Lib.SmallJoins
namespace Go.Proofs.YtedglcbeheeonaaDoor
open Go Go.RowKit
set_option linter.unusedVariables false

theorem not_u32 {s : Nat} (h : s < 4294967296) : bits BinOp.xor IntKind.u32 IntKind.u32.max (s : Int) = ((neg s : Nat) : Int) := by
  have e : IntKind.u32.max = ((4294967295 : Nat) : Int) := by decide
  rw [e, u32_xor_nat _ _ (by decide) h]
  have hx : 4294967295 ^^^ s = neg s := by
    have := BitVec.toNat_not (x := BitVec.ofNat 32 s)
    have e2 : (~~~ BitVec.ofNat 32 s) = BitVec.ofNat 32 4294967295 ^^^ BitVec.ofNat 32 s := by
      apply BitVec.eq_of_getLsbD_eq
      intro i hi
      have : (BitVec.ofNat 32 4294967295).getLsbD i = true := by
        rw [show BitVec.ofNat 32 4294967295 = BitVec.allOnes 32 by decide, BitVec.getLsbD_allOnes]; simpa using hi
      rw [BitVec.getLsbD_not, BitVec.getLsbD_xor, this]; simp [hi]
    rw [e2, ← xor_nat, BitVec.toNat_ofNat, BitVec.toNat_ofNat, Nat.mod_eq_of_lt h, Nat.mod_eq_of_lt (Nat.xor_lt_two_pow (n := 32) (by decide) h)] at this
    rw [this]; rfl
  rw [hx]

/-- The program's table lies where the program laid it. -/
def Tab (w : World) : Prop := 0 < w.heap.size ∧ ∀ k, k < 16 → w.cell? ⟨0, k, none⟩ = some (.int .u32 (tb k : Nat))
theorem Tab.below {B : Nat} {w w' : World} (h : Tab w) (hb : Below B w w') (hB : 0 < B) : Tab w' :=
  ⟨Nat.lt_of_lt_of_le h.1 hb.size, fun k hk => (hb.cell (p := ⟨0, k, none⟩) hB).trans (h.2 k hk)⟩
theorem Tab.grown {w w' : World} {g : Nat} (h : Tab w) (hg : w.grownBy w' (some g)) (h0 : 0 < g) : Tab w' :=
  ⟨Nat.lt_of_lt_of_le h.1 hg.size, fun k hk => (World.cell?_of_block (hg.block 0 h.1 (by intro e; injection e with e; omega)) : w'.cell? ⟨0, k, none⟩ = w.cell? ⟨0, k, none⟩).trans (h.2 k hk)⟩

/-- A state, or a row, of the check s and the number z, in block g. -/
def St (w : World) (g : Nat) (T : TypeId) (s : Nat) (z : Int) : Prop := w.heap[g]? = some (.cells #[.int .u32 (s : Nat), .int .i64 z] T (0, 0))

theorem nib_xor (x : Nat) (h : x < 4294967296) : bits BinOp.xor IntKind.u32 ((x : Int) / 16) ((tb (x % 16) : Nat) : Int) = ((nib x : Nat) : Int) := by
  rw [show (x : Int) / 16 = ((x / 16 : Nat) : Int) by omega, u32_xor_nat _ _ (by omega) (tb_lt _)]
  rfl
theorem take_next {l : List Nat} {k : Nat} (h : k < l.length) : l.take (k + 1) = l.take k ++ [l.getD k 0] := by
  rw [List.take_succ_eq_append_getElem h, List.getD_eq_getElem?_getD, List.getElem?_eq_getElem h]; rfl

theorem grown_set (w : World) (g i : Nat) (x : Value) : w.grownBy (w.setCell ⟨g, i, none⟩ x) (some g) :=
  ⟨rfl, rfl, rfl, by simp, fun k _ hk => by
    show (w.heap.modify g _)[k]? = _
    have : g ≠ k := fun e => hk (by rw [e])
    rw [Array.getElem?_modify, if_neg this]⟩
theorem grown_two (w : World) (g i j : Nat) (x y : Value) : w.grownBy ((w.setCell ⟨g, i, none⟩ x).setCell ⟨g, j, none⟩ y) (some g) := (grown_set w g i x).trans (grown_set _ g j y)

set_option maxRecDepth 100000 in
theorem take_any (g : Nat) (T : TypeId) (s : Nat) (z : Int) (B : Nat) (A : Option Addr) (n c : Nat) (l : List Nat) (w : World) (hT : Tab w) (hS : St w g T s z) (hs : s < 4294967296) (hrd : Rd w B 1 A n (bs l)) (hb : ∀ x ∈ l, x < 256) (hn : n ≤ 9223372036854775807) :
    Calls Tryd.prog 43 #[.pointer (some ⟨g, 0, none⟩), .slice A n c] w fun e w' => e = .returned (.tuple #[]) ∧ St w' g T (neg (regs (neg s) l)) (wrap64 (z + n)) ∧ w.grownBy w' (some g) := by
  have c0 : w.cell? ⟨g, 0, none⟩ = some (.int .u32 (s : Nat)) := Joins.cell_of_block hS 0
  have c1 : w.cell? ⟨g, 1, none⟩ = some (.int .i64 z) := Joins.cell_of_block hS 1
  have f0 := Joins.unfrozen_of_block hS 0
  have f1 := Joins.unfrozen_of_block hS 1
  have HX : Hid (bits BinOp.xor IntKind.u32 IntKind.u32.max (s : Int) = ((neg s : Nat) : Int)) := not_u32 hs
  have HB := Lib_hid hb
  clear hb
  go_enter Tryd.func43, Tryd.ntmps43
  go_wp2
  go_loop [4, 14] (fun v i => ∃ k : Nat, i = .int .i64 k ∧ k ≤ n ∧ v = .int .u32 (regs (neg s) (l.take k) : Nat)) (fun _ i => n - (intOf i).toNat)
  case atStart => exact ⟨0, rfl, Nat.zero_le _, by rw [HX.out]; rfl⟩
  case round =>
    obtain ⟨k, rfl, hk, rfl⟩ := hrel
    by_cases hlt : k < n
    · obtain ⟨ad, rfl, _, cc⟩ := hrd.byte hlt
      have hc : l.getD k 0 < 256 := by
        rw [List.getD_eq_getElem?_getD, List.getElem?_eq_getElem (by rw [hrd.count]; exact hlt)]
        exact HB.out _ (List.getElem_mem _)
      have hv : regs (neg s) (l.take k) < 4294967296 := regs_lt _ (neg_lt _) fun x hx => HB.out x (List.mem_of_mem_take hx)
      have hk' : k < l.length := by rw [hrd.count]; exact hlt
      generalize EV0 : regs (neg s) (l.take k) = v at *
      generalize EC0 : l.getD k 0 = c at *
      have EV := Lib_hid EV0.symm
      have EC := Lib_hid EC0.symm
      clear EV0 EC0
      have hx : bits BinOp.xor IntKind.u32 (v : Int) (c : Int) = ((v ^^^ c : Nat) : Int) := u32_xor_nat v c hv (by omega)
      have hxl : v ^^^ c < 4294967296 := Nat.xor_lt_two_pow (n := 32) hv (by omega)
      obtain ⟨x, ex⟩ : ∃ x, x = v ^^^ c := ⟨_, rfl⟩
      rw [← ex] at hx hxl
      have EX := Lib_hid ex
      clear ex
      have hn1 := nib_xor x hxl
      have hn2 := nib_xor (nib x) (nib_lt hxl)
      have t1 := hT.2 (x % 16) (Nat.mod_lt _ (by decide))
      have t2 := hT.2 (nib x % 16) (Nat.mod_lt _ (by decide))
      have hl1 := nib_lt hxl
      have hl2 := nib_lt hl1
      have EY : Hid (regs (neg s) (l.take (k + 1)) = nib (nib x)) := by
        unfold Hid
        rw [EX.out, take_next hk', regs_append, ← EV.out, ← EC.out]; rfl
      clear EX
      have HT := Lib_hid hT
      clear hT
      generalize tb (x % 16) = y at *
      generalize tb (nib x % 16) = y2 at *
      generalize nib (nib x) = x3 at *
      generalize nib x = x2 at *
      go_wp2
      go_round
      case rel => exact ⟨k + 1, by go_num, by omega, by rw [EY.out]⟩
      case measure => simp [intOf]; omega
    · obtain rfl : k = n := by omega
      have e : l.take k = l := List.take_of_length_le (by rw [hrd.count]; exact Nat.le_refl _)
      rw [e]
      have hv : regs (neg s) l < 4294967296 := regs_lt _ (neg_lt _) HB.out
      have hnv := not_u32 hv
      have hst : St ((w.setCell ⟨g, 0, none⟩ (.int .u32 ((neg (regs (neg s) l) : Nat) : Int))).setCell ⟨g, 1, none⟩ (.int .i64 (wrap64 (z + k)))) g T (neg (regs (neg s) l)) (wrap64 (z + k)) :=
        Joins.block_setCell (Joins.block_setCell hS _) _
      have hgr := grown_two w g 0 1 (.int .u32 ((neg (regs (neg s) l) : Nat) : Int)) (.int .i64 (wrap64 (z + k)))
      generalize EV0 : regs (neg s) l = v at *
      have EV := Lib_hid EV0
      clear EV0
      go_wp2
      go_end0
      exact ⟨rfl, by rw [EV.out]; exact hst, hgr⟩

end Go.Proofs.YtedglcbeheeonaaDoor
