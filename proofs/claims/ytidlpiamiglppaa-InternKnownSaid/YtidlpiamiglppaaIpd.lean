/-
  Layer 7: tables of pairs: add, name, and the calls; the statement's own rows of pairs.
-/
import Derived.Test.YtidlpiamiglppaaIpr
import Derived.Test.YtidlpiamiglppaaItw
namespace Go.Proofs.Ytidlpiamiglppaa
open Go Go.RowKit Go.Maps
set_option linter.unusedVariables false

set_option maxRecDepth 100000 in
set_option maxHeartbeats 800000 in
theorem padd_any {w : World} {p c n c' : Nat} {A A' : Option Addr} {m : Option Nat} {l xs : List PP} (h : Tab kP w p A c m l) (hr : Rs w (Own p A m) 2 A' n (pc xs)) (hx : ∀ q ∈ xs, U64 q) (hl : l.length + n ≤ 1000000000) :
    Calls Try.prog 39 #[.pointer (some ⟨p, 0, none⟩), .slice A' n c'] w (AddEnd kP l xs (Own p A m) p w) := by
  have hxl : Hid (xs.length = n) := by have := hr.len; rw [pc_length] at this; unfold Hid; omega
  have HR := Lib_hid (fun (W : World) (t : Turns (Own p A m) w W) => hr.rd t)
  have HX := Lib_hid hx
  have HL : Hid (∀ k, k ≤ n → (addL l (xs.take k)).length ≤ 1000000000) := fun k hk => by
    have := addL_len l (xs.take k)
    rw [List.length_take] at this; omega
  have h0 := Lib_hid h
  clear h hr hx
  generalize hS : Own p A m = S at *
  have HS := Lib_hid hS
  clear hS
  go_enter Try.func39, Try.ntmps39
  go_wp2
  go_loopw [5, 12] (fun la i wr => ∃ (k c1 : Nat) (A1 : Option Addr) (m1 : Option Nat), la = .int .i64 (lastP l (xs.take k)) ∧ i = .int .i64 k ∧ k ≤ n ∧ Hid (Tab kP wr p A1 c1 m1 (addL l (xs.take k))) ∧ Hid (Turns S w wr) ∧ Hid (∀ j, Own p A1 m1 j → S j ∨ w.heap.size ≤ j)) (fun _ i _ => n - (intOf i).toNat)
  case atStart => exact ⟨0, c, A, m, rfl, rfl, Nat.zero_le _, h0, Lib_hid (Turns.refl _ _), Lib_hid fun j hj => .inl (by rw [← HS.out]; exact hj)⟩
  case round =>
    obtain ⟨k, c1, A1, m1, rfl, rfl, hk, ht, hw, hown⟩ := hrel
    by_cases hlt : k < n
    · obtain ⟨b, off, rfl, hb, cc, cd⟩ := p_at (HR.out wr hw.out) hlt
      have hkl : k < xs.length := by rw [hxl.out]; exact hlt
      have AT := Lib_hid (addL_take l hkl)
      have LT := Lib_hid (lastP_take l hkl)
      have hq : U64 (at0 xs k) := HX.out _ (at0_mem hkl)
      have hll := HL.out k hk
      have hb1 := below_new wr (.cells #[.int .u64 ((at0 xs k).1 : Int), .int .u64 ((at0 xs k).2 : Int)] 59)
      have hbx := heap_alloc_new wr (.cells #[.int .u64 ((at0 xs k).1 : Int), .int .u64 ((at0 xs k).2 : Int)] 59)
      have ht1 := ht.out.below hb1 ht.out.lt
      have F := pfind_any ht1 hq
      have hs1 : (wr.alloc (.cells #[.int .u64 ((at0 xs k).1 : Int), .int .u64 ((at0 xs k).2 : Int)] 59)).heap.size = wr.heap.size + 1 := by simp
      have H1 := Lib_hid (And.intro ht1 (And.intro hb1 (And.intro hbx hs1)))
      have HP : Hid (∀ W, Tab kP W p A1 c1 m1 (addL l (xs.take k)) → (at0 xs k) ∉ addL l (xs.take k) → Calls Try.prog 49 #[.pointer (some ⟨p, 0, none⟩), .agg #[.int .u64 ((at0 xs k).1 : Int), .int .u64 ((at0 xs k).2 : Int)]] W (PutEnd kP (addL l (xs.take k)).length (addL l (xs.take k) ++ [at0 xs k]) (Own p A1 m1) p W)) := fun W hW hn => pput_any hW hq hn hll
      clear hkl ht1 hb1 hbx hs1 hq hll
      unfold pv at F
      by_cases hm : at0 xs k ∈ addL l (xs.take k)
      · rw [numP_old hm, show hasP (addL l (xs.take k)) (at0 xs k) = true by unfold hasP; exact decide_eq_true hm] at F
        have e1 : Hid (addL l (xs.take (k + 1)) = addL l (xs.take k)) := by unfold Hid; rw [AT.out, addP_old hm]
        have e2 : Hid (lastP l (xs.take (k + 1)) = ((addL l (xs.take k)).idxOf (at0 xs k) : Int)) := by unfold Hid; rw [LT.out, addP_old hm]
        clear hm HP
        generalize lastP l (xs.take k) = last at *
        generalize (addL l (xs.take k)).idxOf (at0 xs k) = x at *
        generalize ((at0 xs k).1 : Int) = x1 at *
        generalize ((at0 xs k).2 : Int) = x2 at *
        go_wp2_with fail
        refine F.mono ?_
        rintro e w2 ⟨rfl, hb2⟩
        have hbw := H1.out.2.1.trans (hb2.mono H1.out.2.1.size)
        have ht2 := Lib_hid (ht.out.below hbw ht.out.lt)
        have hw2 : Hid (Turns S w w2) := hw.out.trans (Turns.of_below (S := S) hbw) (fun k hk => .inl hk)
        clear F hb2 hbw H1 ht
        go_wp2
        go_roundw
        case rel => exact ⟨k + 1, c1, A1, m1, by rw [e2.out], by go_num, by omega, by rw [e1.out]; exact ht2, hw2, hown⟩
        case measure => simp [intOf]; omega
      · rw [numP_new hm, show hasP (addL l (xs.take k)) (at0 xs k) = false by unfold hasP; exact decide_eq_false hm] at F
        have e1 : Hid (addL l (xs.take (k + 1)) = addL l (xs.take k) ++ [at0 xs k]) := by unfold Hid; rw [AT.out, addP_new hm]
        have e2 : Hid (lastP l (xs.take (k + 1)) = ((addL l (xs.take k)).length : Int)) := by unfold Hid; rw [LT.out, addP_new hm, idx_new hm]
        have HM := Lib_hid hm
        clear hm
        generalize lastP l (xs.take k) = last at *
        generalize hg1 : ((at0 xs k).1 : Int) = x1 at *
        generalize hg2 : ((at0 xs k).2 : Int) = x2 at *
        clear hg1 hg2
        go_wp2_with fail
        refine F.mono ?_
        rintro e w2 ⟨rfl, hb2⟩
        have hbw := H1.out.2.1.trans (hb2.mono H1.out.2.1.size)
        have ht2 := ht.out.below hbw ht.out.lt
        have P := HP.out w2 ht2 HM.out
        have hbx2 := (hb2.block wr.heap.size (by have := H1.out.2.2.2; omega)).trans H1.out.2.2.1
        have g0 := cell_of_row w2 wr.heap.size 0 _ _ _ hbx2
        have g1 := cell_of_row w2 wr.heap.size 1 _ _ _ hbx2
        simp at g0 g1
        have hw2 : Hid (Turns S w w2) := hw.out.trans (Turns.of_below (S := S) hbw) (fun k hk => .inl hk)
        have hsz2 := hw2.out.size
        have HO : Hid (∀ j, Own p A1 m1 j → S j ∨ w.heap.size ≤ j) := hown
        clear F hb2 hbw H1 ht ht2 hbx2 HP hown
        go_wp2_with fail
        refine P.mono ?_
        rintro e w3 ⟨rfl, A2, c2, m2, ht3, hw3, hown3⟩
        have hw4 : Hid (Turns S w w3) := hw2.out.trans hw3 HO.out
        have hown4 : Hid (∀ j, Own p A2 m2 j → S j ∨ w.heap.size ≤ j) := fun j hj => by
          rcases hown3 j hj with h1 | h1
          · exact HO.out j h1
          · exact .inr (by omega)
        have ht4 := Lib_hid ht3
        clear P ht3 hw3 hown3 g0 g1 hsz2
        go_wp2
        go_roundw
        case rel => exact ⟨k + 1, c2, A2, m2, by rw [e2.out], by go_num, by omega, by rw [e1.out]; exact ht4, hw4, hown4⟩
        case measure => simp [intOf]; omega
    · obtain rfl : k = n := by omega
      have e : xs.take k = xs := List.take_of_length_le (by rw [hxl.out]; exact Nat.le_refl _)
      rw [e] at ht ⊢
      clear e
      go_wp2
      go_ret
      exact ⟨rfl, A1, c1, m1, ht.out, hw.out, hown.out⟩

end Go.Proofs.Ytidlpiamiglppaa
