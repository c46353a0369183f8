/-
  The contracts of the program's reader.frame at any place, and of frame.Get.
-/
import Derived.Test.YtedglcbeheeonaaDoorFrf
namespace Go.Proofs.YtedglcbeheeonaaDoor
open Go Go.RowKit
set_option linter.unusedVariables false

theorem frame_any (B g : Nat) (A : Option Addr) (n c : Nat) (l : List Nat) (a : Int) (w : World) (hT : Tab w) (c0 : w.cell? ⟨g, 0, none⟩ = some (.slice A n c)) (c1 : w.cell? ⟨g, 1, none⟩ = some (.int .i64 a)) (f1 : w.frozen? ⟨g, 1, none⟩ = false)
    (hr : Rd w B 1 A n (bs l)) (hb8 : ∀ x ∈ l, x < 256) (hnc : n ≤ c ∧ c ≤ 9223372036854775807) (hn : n ≤ 1000000000) (hB : B ≤ w.heap.size) (hBg : B ≤ g) :
    Calls Tryd.prog 33 #[.pointer (some ⟨g, 0, none⟩)] w (FrEnd (frG l a) g w) := by
  have hln : l.length = n := hr.count
  by_cases ho : a < 0 ∨ (n : Int) ≤ a
  · rw [frG_out (by rw [hln]; exact ho)]
    exact frame_out g A n c a w c0 c1 ho
  · obtain ⟨a, rfl⟩ : ∃ k : Nat, a = k := ⟨a.toNat, by omega⟩
    rw [frG_in (by omega)]
    have h : Rdr w B g A n c l a := ⟨c0, c1, f1, hr, hb8, hnc, hn, hB, hBg⟩
    obtain ⟨⟨x, y, z⟩, hx⟩ : ∃ q, getS l ((a + 1 : Nat) : Int) = q := ⟨_, rfl⟩
    by_cases hz : z = 10 ∨ z = 4 ∨ (z = 0 ∧ n < y + 4 + x)
    · exact frame_bad B g A n c l a w h (by omega) x y z hx hz
    · have : z = 0 := by
        rcases getS_form hb8 (by omega) hx with h1 | h1 <;> omega
      subst this
      exact frame_fit B g A n c l a w hT h (by omega) x y hx (by omega)

/-- Behind a frame that was got: the reader's place has turned, nothing else that was there. -/
theorem fr_after {g : Nat} {w w1 w' : World} {v u : Value} (h1 : Below w.heap.size w w1) (h2 : Below w.heap.size (w1.setCell ⟨g, 1, none⟩ v) w') (hg : g < w.heap.size) (c1 : w.cell? ⟨g, 1, none⟩ = some u) :
    w'.cell? ⟨g, 1, none⟩ = some v ∧ (∀ p : Addr, p.block < w.heap.size → p ≠ ⟨g, 1, none⟩ → w'.cell? p = w.cell? p) ∧ (∀ p : Addr, p.block < w.heap.size → w'.frozen? p = w.frozen? p) ∧ ∀ B, B ≤ g → Below B w w' := by
  refine ⟨?_, fun p hp hne => ?_, fun p hp => ?_, fun B hB => ?_⟩
  · exact (h2.cell (p := ⟨g, 1, none⟩) hg).trans (World.cell?_setCell_same (h := (h1.cell (p := ⟨g, 1, none⟩) hg).trans c1) ..)
  · exact (h2.cell hp).trans ((World.cell?_setCell_other (h := fun e => hne e.symm) ..).trans (h1.cell hp))
  · exact (h2.frozen hp).trans ((World.frozen?_setCell ..).trans (h1.frozen hp))
  · exact ((h1.mono (by omega)).setCell (p := ⟨g, 1, none⟩) hB v).trans (h2.mono (by omega))

theorem put2_cells {w : World} {h : Nat} {u0 u1 : Value} (e0 : w.cell? ⟨h, 0, none⟩ = some u0) (e1 : w.cell? ⟨h, 1, none⟩ = some u1) (x y : Value) :
    ((w.setCell ⟨h, 0, none⟩ x).setCell ⟨h, 1, none⟩ y).cell? ⟨h, 0, none⟩ = some x ∧ ((w.setCell ⟨h, 0, none⟩ x).setCell ⟨h, 1, none⟩ y).cell? ⟨h, 1, none⟩ = some y := by
  have a0 : (w.setCell ⟨h, 0, none⟩ x).cell? ⟨h, 0, none⟩ = some x := World.cell?_setCell_same (h := e0) ..
  have a1 : (w.setCell ⟨h, 0, none⟩ x).cell? ⟨h, 1, none⟩ = some u1 := (World.cell?_setCell_other (h := by simp) ..).trans e1
  exact ⟨(World.cell?_setCell_other (h := by simp) ..).trans a0, World.cell?_setCell_same (h := a1) ..⟩

/-- How Get ends. -/
def GetEnd (r : FG) (w : World) (e : Ending) (w' : World) : Prop :=
  match r with
  | .bad r => e = .returned (.tuple #[.agg #[.int .u8 0, .slice none 0 0], .int .i64 0, .int .i64 (r : Int)]) ∧ Below w.heap.size w w'
  | .good k p nx => ∃ A' c', e = .returned (.tuple #[.agg #[.int .u8 (k : Int), .slice A' p.length c'], .int .i64 (nx : Int), .int .i64 0]) ∧ w'.ownsRow w.heap.size 5 1 (.slice A' p.length c') p.length (bs p) ∧ Below w.heap.size w w'

theorem frN_rule {l : List Nat} {a r : Nat} (h : frN l a = .bad r) : r = 1 ∨ r = 2 ∨ r = 3 := by
  unfold frN at h
  split at h
  · injection h with h; omega
  · split at h
    · injection h with h; omega
    · split at h
      · cases h
      · injection h with h; omega
theorem frG_rule {l : List Nat} {a : Int} {r : Nat} (h : frG l a = .bad r) : r = 1 ∨ r = 2 ∨ r = 3 := by
  unfold frG at h
  split at h
  · injection h with h; omega
  · exact frN_rule h

set_option maxRecDepth 100000 in
set_option maxHeartbeats 800000 in
theorem fget_any (B : Nat) (A : Option Addr) (n c : Nat) (l : List Nat) (a : Int) (w : World) (hT : Tab w) (hr : Rd w B 1 A n (bs l)) (hb8 : ∀ x ∈ l, x < 256) (hnc : n ≤ c ∧ c ≤ 9223372036854775807) (hn : n ≤ 1000000000) (hB : B ≤ w.heap.size) :
    Calls Tryd.prog 19 #[.slice A n c, .int .i64 a] w (GetEnd (frG l a) w) := by
  have hb1 := below_new w (.cells #[.int .u8 0, .slice none 0 0] 25)
  have hb2 := hb1.trans ((below_new (w.alloc (.cells #[.int .u8 0, .slice none 0 0] 25)) (.cells #[.slice A n c, .int .i64 a] 73)).mono hb1.size)
  have hh0 := (heap_alloc_old (w.alloc (.cells #[.int .u8 0, .slice none 0 0] 25)) (.cells #[.slice A n c, .int .i64 a] 73) (by simp : w.heap.size < _)).trans (heap_alloc_new w _)
  have hh1 := heap_alloc_new (w.alloc (.cells #[.int .u8 0, .slice none 0 0] 25)) (.cells #[.slice A n c, .int .i64 a] 73)
  have hsz : ((w.alloc (.cells #[.int .u8 0, .slice none 0 0] 25)).alloc (.cells #[.slice A n c, .int .i64 a] 73)).heap.size = w.heap.size + 2 := by simp
  rw [World.size_alloc] at hh1
  have G : ∀ W : World, Below w.heap.size w W → W.heap[w.heap.size]? = some (.cells #[.int .u8 0, .slice none 0 0] 25 (0, 0)) → W.heap[w.heap.size + 1]? = some (.cells #[.slice A n c, .int .i64 a] 73 (0, 0)) → Calls Tryd.prog 33 #[.pointer (some ⟨w.heap.size + 1, 0, none⟩)] W (FrEnd (frG l a) (w.heap.size + 1) W) := fun W hb h0 h1 =>
    frame_any B (w.heap.size + 1) A n c l a W (hT.below hb hT.1) (Joins.cell_of_block h1 0) (Joins.cell_of_block h1 1) (frozen_of_row _ _ 1 _ _ h1) (hr.below (hb.mono hB)) hb8 hnc hn (Nat.le_trans hB hb.size) (by omega)
  have HG := Lib_hid (G _ hb2 hh0 hh1)
  clear G hr hb8 hb1
  obtain ⟨r, hR⟩ : ∃ r, r = frG l a := ⟨_, rfl⟩
  rw [← hR] at HG ⊢
  have HRl : Hid (∀ q, r = .bad q → q = 1 ∨ q = 2 ∨ q = 3) := fun q hq => frG_rule (hR.symm.trans hq)
  clear hR
  go_enter Tryd.func19, Tryd.ntmps19
  go_upto_region 2 with (fail)
  generalize (w.alloc (.cells #[.int .u8 0, .slice none 0 0] 25)).alloc (.cells #[.slice A n c, .int .i64 a] 73) = W at *
  cases r with
  | bad q =>
    have hq := HRl.out q rfl
    have hq0 : ((q : Int) != 0) = true := by simp; omega
    go_wp2_with fail
    refine HG.out.mono ?_
    rintro e w1 ⟨rfl, hbx⟩
    have hh0' := (hbx.block w.heap.size (by omega)).trans hh0
    have e0 := cell_of_row w1 w.heap.size 0 _ _ _ hh0'
    have e1 := cell_of_row w1 w.heap.size 1 _ _ _ hh0'
    have z0 := frozen_of_row w1 w.heap.size 0 _ _ hh0'
    have z1 := frozen_of_row w1 w.heap.size 1 _ _ hh0'
    have hbw := hb2.trans (hbx.mono (by omega))
    clear hbx hh0 hh1 hh0' hb2 HRl HG
    go_wp2_with fail
    have F1 := put2_cells e0 e1 (.int .u8 0) (.slice none 0 0)
    have F := put2_cells F1.1 F1.2 (.int .u8 0) (.slice none 0 0)
    exact bodyPost_ret (v := .tuple #[.agg #[.int .u8 0, .slice none 0 0], .int .i64 0, .int .i64 (q : Int)]) (by simp [results, Tryd.results19, go_sem, F.1, F.2]) rfl ⟨rfl, (by first | exact below_put2 hbw _ _ | exact below_put2 (below_put2 hbw _ _) _ _)⟩
  | good k p nx =>
    go_wp2_with fail
    refine HG.out.mono ?_
    rintro e w1 ⟨A1, c1, rfl, ho1, wm, hb4, hb5⟩
    have hgl : w.heap.size + 1 < W.heap.size := by omega
    obtain ⟨v1, hsame, hfr, hbl⟩ := fr_after hb4 hb5 hgl (Joins.cell_of_block hh1 1)
    have e0 := (hsame ⟨w.heap.size, 0, none⟩ (by show w.heap.size < _; omega) (by simp)).trans (cell_of_row W w.heap.size 0 _ _ _ hh0)
    have e1 := (hsame ⟨w.heap.size, 1, none⟩ (by show w.heap.size < _; omega) (by simp)).trans (cell_of_row W w.heap.size 1 _ _ _ hh0)
    have z0 := (hfr ⟨w.heap.size, 0, none⟩ (by show w.heap.size < _; omega)).trans (frozen_of_row W w.heap.size 0 _ _ hh0)
    have z1 := (hfr ⟨w.heap.size, 1, none⟩ (by show w.heap.size < _; omega)).trans (frozen_of_row W w.heap.size 1 _ _ hh0)
    have hbw := hb2.trans (hbl w.heap.size (by omega))
    have hs1 : W.heap.size ≤ w1.heap.size := Nat.le_trans hb4.size (by have := hb5.size; simp at this; omega)
    clear hsame hfr hbl hb4 hb5 hh0 hh1 HG HRl hb2
    have F1 := put2_cells e0 e1 (.int .u8 (k : Int)) (.slice A1 p.length c1)
    have F := put2_cells F1.1 F1.2 (.int .u8 (k : Int)) (.slice A1 p.length c1)
    go_wp2_with fail
    go_region
    all_goals go_wp2
    have hg4 := (grown_two w1 w.heap.size 0 1 (.int .u8 (k : Int)) (.slice A1 p.length c1)).trans (grown_two _ w.heap.size 0 1 (.int .u8 (k : Int)) (.slice A1 p.length c1))
    have fo := own_keep ho1 fun j hj => hg4.block j (own_lt ho1 j hj) (fun e => by injection e with e; have := own_ge ho1 j hj; omega)
    have hb9 := below_put2 (below_put2 hbw (.int .u8 (k : Int)) (.slice A1 p.length c1)) (.int .u8 (k : Int)) (.slice A1 p.length c1)
    obtain ⟨G0, G1⟩ := F
    clear F1 hg4 ho1 hbw e0 e1 z0 z1 v1
    generalize (((w1.setCell ⟨w.heap.size, 0, none⟩ (.int .u8 (k : Int))).setCell ⟨w.heap.size, 1, none⟩ (.slice A1 p.length c1)).setCell ⟨w.heap.size, 0, none⟩ (.int .u8 (k : Int))).setCell ⟨w.heap.size, 1, none⟩ (.slice A1 p.length c1) = W4 at *
    exact bodyPost_ret (v := .tuple #[.agg #[.int .u8 (k : Int), .slice A1 p.length c1], .int .i64 (nx : Int), .int .i64 0]) (by simp [results, Tryd.results19, go_sem, G0, G1]) rfl
      ⟨A1, c1, rfl, own_keep (own_base fo (fun j hj => by have := own_ge fo j hj; omega)) (fun _ _ => rfl), below_like hb9 rfl rfl rfl rfl⟩

end Go.Proofs.YtedglcbeheeonaaDoor
