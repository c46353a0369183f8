/-
  The contract of the program's crc.Open, for every slice of bytes.
-/
import Derived.Test.YtaidegnjegmfdabDoorPuc
import Derived.Deep.RegionHeld3
import Derived.RegionTactic
import Derived.Handy
namespace Go.Proofs.YtaidegnjegmfdabDoor
open Go Go.RowKit
set_option linter.unusedVariables false

/-- Sum of rows that a literal lists. -/
theorem sum_lit {w W : World} {B : Nat} {vs : List Value} {ls : List (List Nat)} (cs : Array Value) (hcs : cs.toList = vs) (hW : W.heap = (w.alloc (.cells cs 23)).heap) (hT : Tab w) (hR : Rws w B vs ls) (hB : B ≤ w.heap.size) (hn : vs.length ≤ 1000) :
    Calls Tryd.prog 19 #[.slice (some ⟨w.heap.size, 0, none⟩) vs.length vs.length] W fun e w' => e = .returned (.int .u32 (crcN ls.flatten : Nat)) ∧ Below W.heap.size W w' := by
  have hsz : W.heap.size = w.heap.size + 1 := by rw [hW]; simp
  have old : ∀ k, k < w.heap.size → W.heap[k]? = w.heap[k]? := fun k hk => by rw [hW]; exact heap_alloc_old w _ hk
  have hT' : Tab W := ⟨by omega, fun k hk => (World.cell?_of_block (old 0 hT.1) : W.cell? ⟨0, k, none⟩ = w.cell? ⟨0, k, none⟩).trans (hT.2 k hk)⟩
  have hR' : Rws W B vs ls := hR.keep fun p hp => World.cell?_of_block (old _ (by omega))
  refine sum_any (w.heap.size + 1) _ vs.length _ vs ls W hT' ⟨by simp, fun h0 => ⟨_, rfl, by show w.heap.size < _; omega, fun j u hu => ?_⟩⟩ (hR'.more (by omega)) (by omega) (by omega)
  have hb : W.heap[w.heap.size]? = some (.cells cs 23 (0, 0)) := by rw [hW]; exact heap_alloc_new w _
  have := Joins.cell_of_block hb j
  have e : (⟨w.heap.size, 0, none⟩ : Addr).add j = ⟨w.heap.size, j, none⟩ := by unfold Addr.add; split <;> simp_all
  rw [e, this, ← hu, ← hcs]
  simp

/-- What Open answers: what stands ahead of its check, and an error's number. -/
def opened (l : List Nat) : List Nat × Nat :=
  if l.length < 4 then ([], 4) else if eqB (l.drop (l.length - 4)) (std (crcN (l.take (l.length - 4)))) = true then (l.take (l.length - 4), 0) else ([], 20)

/-- Ends with the bytes ys in new memory, and the error's number z; nothing that was there has turned. -/
def MadeErr (ys : List Nat) (z : Nat) (w : World) (e : Ending) (w' : World) : Prop :=
  ∃ A c, e = .returned (.tuple #[.slice A ys.length c, .int .i64 (z : Int)]) ∧ w'.ownsRow w.heap.size 5 1 (.slice A ys.length c) ys.length (bs ys) ∧ Below w.heap.size w w'

theorem opened_short {l : List Nat} (h : l.length < 4) : opened l = ([], 4) := by unfold opened; rw [if_pos h]
theorem opened_yes {l : List Nat} {k : Nat} (h : l.length = k + 4) (he : eqB (l.drop k) (std (crcN (l.take k))) = true) : opened l = (l.take k, 0) := by
  unfold opened; rw [if_neg (by omega), show l.length - 4 = k by omega, if_pos he]
theorem opened_no {l : List Nat} {k : Nat} (h : l.length = k + 4) (he : eqB (l.drop k) (std (crcN (l.take k))) = false) : opened l = ([], 20) := by
  unfold opened; rw [if_neg (by omega), show l.length - 4 = k by omega, he]; rfl

set_option maxRecDepth 100000 in
theorem open_any (B : Nat) (A : Option Addr) (n c : Nat) (l : List Nat) (w : World) (hT : Tab w) (h : Rd w B 1 A n (bs l)) (hb : ∀ x ∈ l, x < 256) (hnc : n ≤ c) (hc : c ≤ 9223372036854775807) (hB : B ≤ w.heap.size) (hn : n ≤ 140737488355300) :
    Calls Tryd.prog 21 #[.slice A n c] w (MadeErr (opened l).1 (opened l).2 w) := by
  have hl := h.count
  by_cases h4 : n < 4
  · rw [opened_short (by omega)]
    have HL := Lib_hid hl
    clear hl h
    go_enter Tryd.func21, Tryd.ntmps21
    go_wp2
    go_ret2
    exact ⟨none, 0, rfl, own_none _ _ _, Below.refl _ _⟩
  · obtain ⟨k, rfl⟩ : ∃ k, n = k + 4 := ⟨n - 4, by omega⟩
    obtain ⟨A2, hs2, r2⟩ := slice_lo (j := k) h (by omega) hnc
    obtain ⟨A3, hs3, r3⟩ := slice_hi (k := k) h (by omega) hnc
    rw [← bs_take] at r3
    rw [← bs_drop] at r2
    have e4 : k + 4 - k = 4 := by omega
    rw [e4] at hs2 r2
    clear e4
    have hbt : ∀ x ∈ l.take k, x < 256 := fun x hx => hb x (List.mem_of_mem_take hx)
    have hbd : ∀ x ∈ l.drop k, x < 256 := fun x hx => hb x (List.mem_of_mem_drop hx)
    have G := fun (W : World) (hW : W.heap = (w.alloc (.cells #[.slice A3 k c] 23)).heap) => sum_lit #[.slice A3 k c] rfl hW hT (Rws.one (c := c) r3 hbt (by omega) hc) hB (by simp)
    simp only [List.flatten_cons, List.flatten_nil, List.append_nil, List.length_cons, List.length_nil, Nat.zero_add] at G
    have HG := Lib_hid G
    have HBD := Lib_hid hbd
    have hcl := crcN_lt (l.take k)
    have YES := fun he => opened_yes (l := l) (k := k) hl he
    have NO := fun he => opened_no (l := l) (k := k) hl he
    have HY := Lib_hid YES
    have HN := Lib_hid NO
    have HL := Lib_hid hl
    clear G YES NO hl hbt hbd
    have KR : Hid (∀ W1 w8 w8' w9 w9' : World, W1.heap = (w.alloc (.cells #[.slice A3 k c] 23)).heap → Below W1.heap.size W1 w8 → w8'.heap = w8.heap → Below w8'.heap.size w8' w9 → w9'.heap = w9.heap →
        Rd w9' B 1 A2 4 (bs (l.drop k)) ∧ Rd w9' B 1 A3 k (bs (l.take k))) := by
      intro W1 w8 w8' w9 w9' h1 h2 h3 h4 h5
      have hsz : W1.heap.size = w.heap.size + 1 := by rw [h1]; simp
      have hs2 := h2.size
      have key : ∀ p : Addr, p.block < B → w9'.cell? p = w.cell? p := by
        intro p hp
        refine (World.cell?_of_block (by rw [h5])).trans ((h4.cell (by rw [h3]; omega)).trans ((World.cell?_of_block (by rw [h3])).trans ((h2.cell (by omega)).trans (World.cell?_of_block ?_))))
        rw [h1]; exact heap_alloc_old w _ (by omega)
      exact ⟨r2.keep key, r3.keep key⟩
    clear r2 r3
    generalize l.drop k = ld at *
    generalize l.take k = lt at *
    generalize crcN lt = s at *
    cases he : eqB ld (std s) with
    | true =>
      have HE := Lib_hid he
      clear he
      rw [HY.out HE.out]
      go_enter Tryd.func21, Tryd.ntmps21
      go_wp2_with fail
      go_region_held3 (fun _ => True) (trivial) ((first | (go_at_call 19; refine (HG.out _ (by rfl)).mono ?_; rintro e w8 ⟨rfl, hb8⟩) | (go_at_call 27; refine (stand_any s _ hcl).mono ?_; rintro e w9 ⟨A9, c9, rfl, ho9, hb9⟩)  | (go_at_call 28; refine (equal_any _ _ _ _ _ _ _ _ _ _ _ (KR.out _ _ _ _ _ (by rfl) hb8 (by rfl) hb9 (by rfl)).1 (Rd.own ho9) HBD.out (std_byte s)).mono ?_; rw [HE.out]; rintro e w10 ⟨rfl, rfl⟩)))
      have hbw : Below w.heap.size w w9 := by
        have h1 : Below w.heap.size w (w.alloc (.cells #[.slice A3 k c] 23)).drew := ((Below.refl _ _).alloc (Nat.le_refl _) _).drew
        have h2 := h1.trans (hb8.mono h1.size)
        exact h2.trans (hb9.mono h2.size)
      have r3 := (KR.out _ _ _ _ w9 (by rfl) hb8 (by rfl) hb9 (by rfl)).2
      clear ho9 hb8 hb9
      go_wp2_with fail
      refine (clone_any B A3 k c lt w9 r3 (by omega)).mono ?_
      rintro e w10 ⟨A10, c10, rfl, ho10, hb10⟩
      go_wp2_with fail
      go_ret2
      exact ⟨A10, c10, rfl, own_base ho10 (fun k hk => Nat.le_trans hbw.size (own_ge ho10 k hk)), hbw.trans (hb10.mono hbw.size)⟩
    | false =>
      have HE := Lib_hid he
      clear he
      rw [HN.out HE.out]
      go_enter Tryd.func21, Tryd.ntmps21
      go_wp2_with fail
      go_region_held3 (fun _ => True) (trivial) ((first | (go_at_call 19; refine (HG.out _ (by rfl)).mono ?_; rintro e w8 ⟨rfl, hb8⟩) | (go_at_call 27; refine (stand_any s _ hcl).mono ?_; rintro e w9 ⟨A9, c9, rfl, ho9, hb9⟩)  | (go_at_call 28; refine (equal_any _ _ _ _ _ _ _ _ _ _ _ (KR.out _ _ _ _ _ (by rfl) hb8 (by rfl) hb9 (by rfl)).1 (Rd.own ho9) HBD.out (std_byte s)).mono ?_; rw [HE.out]; rintro e w10 ⟨rfl, rfl⟩)))
      have hbw : Below w.heap.size w w9 := by
        have h1 : Below w.heap.size w (w.alloc (.cells #[.slice A3 k c] 23)).drew := ((Below.refl _ _).alloc (Nat.le_refl _) _).drew
        have h2 := h1.trans (hb8.mono h1.size)
        exact h2.trans (hb9.mono h2.size)
      clear ho9 hb8 hb9
      go_wp2_with fail
      go_ret2
      exact ⟨none, 0, rfl, own_none _ _ _, hbw⟩

end Go.Proofs.YtaidegnjegmfdabDoor
