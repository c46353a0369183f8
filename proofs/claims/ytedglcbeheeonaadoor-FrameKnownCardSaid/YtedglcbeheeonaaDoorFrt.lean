/-
  The contract of the document's Split.
-/
import Derived.Test.YtedglcbeheeonaaDoorFrs
import Derived.Test.YtedglcbeheeonaaDoorFsp
namespace Go.Proofs.YtedglcbeheeonaaDoor
open Go Go.RowKit
set_option linter.unusedVariables false

theorem Tryd.info71 : (Tryd.prog.info? 71).map (fun i => (i.zero, i.size, i.bytes)) = some (some (.agg #[.int .u8 0, .string ⟨#[]⟩, .int .i64 0, .int .i64 0]), 4, 40) := by kernel_rfl

abbrev Dv := Nat × List Nat × Nat × Nat
def pdRow (d : Dv) : List Value := [.int .u8 (d.1 : Int), .string (str d.2.1), .int .i64 (d.2.2.1 : Int), .int .i64 (d.2.2.2 : Int)]
def pdCells (ds : List Dv) : List Value := ds.flatMap pdRow
theorem pdCells_add (ds : List Dv) (d : Dv) : pdCells (ds ++ [d]) = pdCells ds ++ pdCells [d] := by simp [pdCells]
theorem pd_one (ds : List Dv) : ∀ u ∈ pdCells ds, u.oneCell' = true := by
  intro u hu
  obtain ⟨d, _, hu⟩ := List.mem_flatMap.1 hu
  simp only [pdRow, List.mem_cons, List.not_mem_nil, or_false] at hu
  rcases hu with rfl | rfl | rfl | rfl <;> rfl

theorem pd_in_row {w : World} {B g n : Nat} {cs : List Value} {T : TypeId} (hb : w.heap[g]? = some (.cells cs.toArray T (0, 0))) (hg : g < B) (hl : cs.length = n * 4) : Rd w B 4 (some ⟨g, 0, none⟩) n cs :=
  ⟨hl, fun _ => ⟨_, rfl, hg, fun j u hu => by rw [add_plain, Nat.zero_add, cell_of_row w g j _ T (0, 0) hb]; simpa using hu⟩⟩

/-- How the document's Split ends. -/
def RSplitEnd (l : List Nat) (w : World) (e : Ending) (w' : World) : Prop :=
  ∃ (ds : List Dv) (t0 r : Nat) (A : Option Addr) (c : Nat), splitS l = (ds, t0, r) ∧ ds.length ≤ l.length ∧ e = .returned (.tuple #[.slice A ds.length c, .int .i64 (t0 : Int), .int .i64 (r : Int)]) ∧ w'.ownsRow w.heap.size 71 4 (.slice A ds.length c) ds.length (pdCells ds) ∧ Below w.heap.size w w'

set_option maxRecDepth 100000 in
set_option maxHeartbeats 1600000 in
theorem rsplitf_any (B : Nat) (A : Option Addr) (n c : Nat) (l : List Nat) (w : World) (hr : Rd w B 1 A n (bs l)) (hb8 : ∀ x ∈ l, x < 256) (hn : n ≤ 1500) (hnc : n ≤ c) (hB : B ≤ w.heap.size) :
    Calls Tryd.prog 17 #[.slice A n c] w (RSplitEnd l w) := by
  have hln : l.length = n := hr.count
  obtain ⟨i0, hi, hz0, hz1, hz2⟩ := info_parts Tryd.info71
  have GG : Hid (∀ (W : World) (a : Nat), Below w.heap.size w W → a < n → Calls Tryd.prog 20 #[.slice A n c, .int .i64 (a : Int)] W (RGetEnd (frN l a) W)) := fun W a hW ha => by
    have := rgetf_any B A n c l a W (hr.below (hW.mono hB)) hb8 hn hnc (Nat.le_trans hB hW.size)
    rwa [frG_in (by omega)] at this
  have HB := Lib_hid hb8
  have HLN := Lib_hid hln
  clear hr hb8 hln
  go_enter Tryd.func17, Tryd.ntmps17
  go_wp2
  go_loopw [5, 6] (fun x y wr => ∃ (a co : Nat) (Ao : Option Addr) (ds : List Dv), x = .slice Ao ds.length co ∧ y = .int .i64 a ∧ a ≤ n ∧ Hid (At l ds a) ∧ ds.length ≤ a ∧ wr.ownsRow w.heap.size 71 4 (.slice Ao ds.length co) ds.length (pdCells ds) ∧ Below w.heap.size w wr) (fun _ y _ => n - (intOf y).toNat)
  case atStart => exact ⟨0, 0, none, [], rfl, rfl, Nat.zero_le _, Lib_hid (At.zero l), Nat.zero_le _, World.ownsRow_nil _ _ _ _, Below.refl _ _⟩
  case round =>
    obtain ⟨a, co, Ao, ds, rfl, rfl, ha, hat, hds, ho, hbw⟩ := hrel
    by_cases hlt : a < n
    · have G := GG.out _ a hbw hlt
      cases hfr : frN l a with
      | bad r =>
        rw [hfr] at G
        have HSP := Lib_hid (hat.out.bad (by rw [HLN.out]; exact hlt) hfr)
        have hq := frN_rule hfr
        have hq0 : ((r : Int) != 0) = true := by simp; omega
        have HG := Lib_hid G
        clear G hq hfr hat
        go_wp2_with fail
        refine HG.out.mono ?_
        rintro e w1 ⟨rfl, hbx⟩
        have hbw1 := hbw.trans (hbx.mono hbw.size)
        have ho1 := own_below ho hbx (own_lt ho)
        have hb2 := hbw1.alloc hbw1.size (.cells #[.int .u8 0, .string ⟨#[]⟩] 30)
        have ho2 := own_below ho1 (below_new w1 (.cells #[.int .u8 0, .string ⟨#[]⟩] 30)) (own_lt ho1)
        clear HG hbx ho ho1 hbw hbw1
        go_wp2
        refine bodyPost_ret (v := .tuple #[.slice Ao ds.length co, .int .i64 (a : Int), .int .i64 (r : Int)]) (by simp [results, Tryd.results17, go_sem]) rfl ?_
        exact ⟨ds, a, r, Ao, co, HSP.out, by rw [HLN.out]; omega, rfl, ho2, hb2⟩
      | good k p nx =>
        rw [hfr] at G
        obtain ⟨hat2, hnx⟩ := hat.out.step HB.out (by rw [HLN.out]; exact hlt) hfr
        have hnx2 : nx ≤ n := by have := hat2.1; rw [HLN.out] at this; exact this
        have HAT := Lib_hid hat2
        have HG := Lib_hid G
        clear G hfr hat hat2
        go_wp2_with fail
        refine HG.out.mono ?_
        rintro e w1 ⟨rfl, hbx⟩
        have hbw1 := hbw.trans (hbx.mono hbw.size)
        have ho1 := own_below ho hbx (own_lt ho)
        have hb2 := hbw1.alloc hbw1.size (.cells #[.int .u8 (k : Int), .string (str p)] 30)
        have ho2 := own_below ho1 (below_new w1 (.cells #[.int .u8 (k : Int), .string (str p)] 30)) (own_lt ho1)
        have hf2 := heap_alloc_new w1 (.cells #[.int .u8 (k : Int), .string (str p)] 30)
        clear HG hbx ho ho1 hbw hbw1
        go_upto_region 5 with (fail)
        have hs2 : (w1.alloc (.cells #[.int .u8 (k : Int), .string (str p)] 30)).heap.size = w1.heap.size + 1 := by simp
        generalize w1.alloc (.cells #[.int .u8 (k : Int), .string (str p)] 30) = w2 at *
        have d0 := cell_of_row w2 w1.heap.size 0 _ _ _ hf2
        have d1 := cell_of_row w2 w1.heap.size 1 _ _ _ hf2
        have hnw : Rd (w2.alloc (.cells #[.int .u8 (k : Int), .string (str p), .int .i64 (a : Int), .int .i64 (nx : Int)] 71)) (w1.heap.size + 1 + 1) 4 (some ⟨w1.heap.size + 1, 0, none⟩) 1 (pdCells [(k, p, a, nx)]) := pd_in_row (cs := pdCells [(k, p, a, nx)]) (by rw [← hs2]; exact heap_alloc_new w2 _) (by omega) rfl
        have hm1 : ds.length + 1 ≤ maxLen := by unfold maxLen; omega
        have hm2 : (ds.length + 1) * 40 ≤ 140737488355328 := by omega
        have hsB : ∀ o, w.heap.size ≤ (w2.alloc o).heap.size := by intro o; have := hb2.size; simp; omega
        have hon := ho2.alloc (.cells #[.int .u8 (k : Int), .string (str p), .int .i64 (a : Int), .int .i64 (nx : Int)] 71)
        clear hf2
        go_wp2_with (at_builtin; (refine wpList_app rfl _ _ 40 rfl w.heap.size 71 i0 (.agg #[.int .u8 0, .string ⟨#[]⟩, .int .i64 0, .int .i64 0]) 4 40 Tryd.underlying40 hi hz0 hz1 hz2 rfl (by decide) _ ds.length _ rfl hon (w1.heap.size + 1 + 1) (some ⟨w1.heap.size + 1, 0, none⟩) 1 1 (pdCells [(k, p, a, nx)]) rfl hnw (pd_one _) hm1 hm2 (hsB _) ?_); intro v' w3 hown' hst; obtain ⟨A5, c5, rfl, _⟩ := own_form hown')
        rw [← pdCells_add] at hown'
        have hb5 := (hb2.alloc hb2.size (.cells #[.int .u8 (k : Int), .string (str p), .int .i64 (a : Int), .int .i64 (nx : Int)] 71)).trans (hst.below (hsB _) (own_ge hon))
        have hle : (ds ++ [(k, p, a, nx)]).length = ds.length + 1 := by simp
        clear hst hb2 hnw hsB d0 d1 hon ho2
        go_wp2
        go_roundw
        case rel => exact ⟨nx, c5, A5, ds ++ [(k, p, a, nx)], by rw [hle], rfl, hnx2, HAT, by rw [hle]; omega, by rw [hle]; exact hown', hb5⟩
        case measure => simp [intOf]; omega
    · obtain rfl : a = n := by omega
      have HSP := Lib_hid (At.fin (l := l) (ds := ds) (by rw [HLN.out]; exact hat.out))
      clear hat
      go_wp2
      refine bodyPost_ret (v := .tuple #[.slice Ao ds.length co, .int .i64 (a : Int), .int .i64 0]) (by simp [results, Tryd.results17, go_sem]) rfl ?_
      exact ⟨ds, l.length, 0, Ao, co, HSP.out, by rw [HLN.out]; omega, by rw [HLN.out]; rfl, ho, hbw⟩

end Go.Proofs.YtedglcbeheeonaaDoor
