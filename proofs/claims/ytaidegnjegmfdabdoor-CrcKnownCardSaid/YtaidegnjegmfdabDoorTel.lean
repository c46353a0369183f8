/-
  The statement's function CrcTells returns true, for every input.
-/
import Derived.Test.YtaidegnjegmfdabDoorWrk
import Derived.Test.YtaidegnjegmfdabDoorRsu
import Derived.Test.YtaidegnjegmfdabDoorRow
import Derived.Test.YtaidegnjegmfdabDoorJnd
namespace Go.Proofs.YtaidegnjegmfdabDoor
open Go Go.RowKit
set_option linter.unusedVariables false

theorem St.below {w w' : World} {g B : Nat} {T : TypeId} {s : Nat} {z : Int} (h : St w g T s z) (hb : Below B w w') (hg : g < B) : St w' g T s z := (hb.block g hg).trans h
theorem St.alloc {w : World} {g : Nat} {T : TypeId} {s : Nat} {z : Int} (h : St w g T s z) (o : Obj) : St (w.alloc o) g T s z := (heap_alloc_old w o (lt_of_block h)).trans h
theorem St.same {w w' : World} {g : Nat} {T : TypeId} {s : Nat} {z : Int} (h : St w g T s z) (hw : w'.heap = w.heap) : St w' g T s z := by unfold St; rw [hw]; exact h
theorem St.lt {w : World} {g : Nat} {T : TypeId} {s : Nat} {z : Int} (h : St w g T s z) : g < w.heap.size := lt_of_block h

theorem iwrap_few {z n : Nat} (h : z + n ≤ 400) : IntKind.i64.wrap ((z : Int) + n) = (z : Int) + n := by rw [IntKind.wrap_i64]; omega
theorem iwrap_few4 {z : Nat} (h : z ≤ 400) : IntKind.i64.wrap ((z : Int) + 4) = (z : Int) + 4 := by rw [IntKind.wrap_i64]; omega
theorem wrap_few {z n : Nat} (h : z + n ≤ 400) : wrap64 ((z : Int) + n) = (z : Int) + n := by unfold wrap64; omega

set_option maxRecDepth 100000 in
set_option maxHeartbeats 3200000 in
theorem tells_any (B : Nat) (A : Option Addr) (n c : Nat) (vs : List Value) (ls : List (List Nat)) (w : World) (hT : Tab w) (hrd : Rd w B 1 A n vs) (hR : Rws w B vs ls) (hB : B ≤ w.heap.size) (hnm : n ≤ 9223372036854775807) :
    Calls Tryd.prog 3 #[.slice A n c] w fun e w' => e = .returned (.bool true) ∧ Below w.heap.size w w' := by
  by_cases hok : jOk ls
  case neg =>
    have J := joined_no B A n c vs ls w hrd hR hB hnm hok
    go_enter Tryd.func3, Tryd.ntmps3
    go_wp2_with fail
    refine J.mono ?_
    rintro e w1 ⟨A1, n1, c1, rfl, hb1⟩
    go_wp2_with fail
    refine (works_any w1 (hT.below hb1 hT.1)).mono ?_
    rintro e w2 ⟨rfl, hb2⟩
    go_wp2
    go_ret
    exact ⟨rfl, hb1.trans (hb2.mono hb1.size)⟩
  have hl : ls.length = n := by have := hrd.len; have := hR.len; omega
  have hn20 : n ≤ 20 := by have := hok.1; omega
  have hN400 := hok.2
  have hfb : ∀ x ∈ ls.flatten, x < 256 := by have := hR.bytes ls.length; rwa [List.take_length] at this
  have HL := Lib_hid hl
  have HOK := Lib_hid hok
  have HFB := Lib_hid hfb
  clear hl hok hfb
  have J := joined_yes B A n c vs ls w hrd hR hB HOK.out
  obtain ⟨N, HN⟩ : ∃ N, Hid (ls.flatten.length = N) := ⟨_, Lib_hid rfl⟩
  rw [HN.out] at J hN400
  go_enter Tryd.func3, Tryd.ntmps3
  go_wp2_with fail
  refine J.mono ?_
  rintro e w1 ⟨A1, c1, rfl, ho1, hb1⟩
  clear J
  have RS := rsum_any w1.heap.size A1 N c1 ls.flatten w1 (Rd.own ho1) HFB.out (Nat.le_refl _) (by omega)
  go_wp2_with fail
  refine RS.mono ?_
  rintro e w2 ⟨rfl, hb2⟩
  clear RS
  have hb12 := hb1.trans (hb2.mono hb1.size)
  have rall := ((Rd.own ho1).below hb2).more hb2.size
  have hcap1 := own_cap ho1
  clear ho1 hb1 hb2
  obtain ⟨gs, hgs⟩ : ∃ gs, gs = w2.heap.size := ⟨_, rfl⟩
  have hS0 : St (w2.alloc (.cells #[.int .u32 0, .int .i64 0] 32)) gs 32 0 0 := by rw [hgs]; exact heap_alloc_new w2 _
  go_wp2
  rw [← hgs]
  have HGS := Lib_hid hgs
  clear hgs
  go_loopw [8, 9, 10, 11] (fun i _ _ _ wr => ∃ k : Nat, i = .int .i64 k ∧ k ≤ n ∧ St wr gs 32 (crcN (ls.take k).flatten) (((ls.take k).flatten.length : Nat) : Int) ∧ Below w2.heap.size w2 wr) (fun i _ _ _ _ => n - (intOf i).toNat)
  case atStart =>
    refine ⟨0, rfl, Nat.zero_le _, ?_, below_new _ _⟩
    rw [List.take_zero, List.flatten_nil, crcN_nil]
    exact hS0
  case round =>
    clear hS0
    obtain ⟨k, rfl, hk, hS, hbr⟩ := hrel
    by_cases hlt : k < n
    · have hbwr := hb12.trans (hbr.mono hb12.size)
      have hgl := hS.lt
      obtain ⟨ad, A2, n2, c2, rfl, hcell, hrow, hb, hnc, hc⟩ := (hR.below (hbwr.mono hB)).at (hrd.below (hbwr.mono hB)) hlt
      have hcount := hrow.count
      have e1 := flatten_next (ls := ls) (k := k) (by rw [HL.out]; exact hlt)
      have hle := Nat.le_trans (flat_le' (ls := ls) (k + 1)) HOK.out.2
      have e2 : (ls.take (k + 1)).flatten.length = (ls.take k).flatten.length + n2 := by rw [e1, List.length_append, hcount]
      rw [e2] at hle
      have hcr := crcN_append (ls.take k).flatten (ls.getD k []) (hR.bytes k)
      rw [← e1] at hcr
      have hv := crcN_lt (ls.take k).flatten
      have HE2 := Lib_hid e2
      have HCR := Lib_hid hcr
      clear e1 e2 hcr hcount
      generalize (ls.take k).flatten.length = z at *
      generalize crcN (ls.take k).flatten = v at *
      have C1 := copy_any gs 32 v (z : Int) wr hS
      have hSc : St (wr.alloc (.cells #[.int .u32 (v : Nat), .int .i64 (z : Int)] 32)) wr.heap.size 32 v z := heap_alloc_new wr _
      have hS3 := hS.alloc (.cells #[.int .u32 (v : Nat), .int .i64 (z : Int)] 32)
      have hT3 := (hT.below hbwr hT.1).below (below_new wr (.cells #[.int .u32 (v : Nat), .int .i64 (z : Int)] 32)) (Nat.lt_of_lt_of_le hT.1 hbwr.size)
      have hBwr : B ≤ wr.heap.size := Nat.le_trans hB hbwr.size
      have hrow3 := hrow.alloc hBwr (.cells #[.int .u32 (v : Nat), .int .i64 (z : Int)] 32)
      have hcl3 := (World.cell?_alloc_lt wr (.cells #[.int .u32 (v : Nat), .int .i64 (z : Int)] 32) (ad.add k) (World.block_lt_of_cell? wr _ hcell)).trans hcell
      have hbr3 := hbr.alloc hbr.size (.cells #[.int .u32 (v : Nat), .int .i64 (z : Int)] 32)
      have hclt : (ad.add k).block < gs := by
        obtain ⟨ad', ea, hab, _⟩ := hrd.lies (by omega)
        injection ea with ea
        subst ea
        rw [add_block, HGS.out]
        exact Nat.lt_of_lt_of_le hab (Nat.le_trans hB hb12.size)
      have A3 := add_any gs 32 v (z : Int) B A2 n2 c2 (ls.getD k []) (wr.alloc (.cells #[.int .u32 (v : Nat), .int .i64 (z : Int)] 32)) hT3 hS3 hv hrow3 hb (by omega)
      rw [← HCR.out] at A3
      have hwz : wrap64 ((z : Int) + n2) = (z : Int) + n2 := wrap_few hle
      rw [hwz] at A3
      obtain ⟨gc, hgc⟩ : ∃ gc, gc = wr.heap.size := ⟨_, rfl⟩
      rw [← hgc] at hSc C1
      have hcs : gs < gc := by omega
      have HGC := Lib_hid hgc
      clear hgc
      clear hrow hrow3 hS hb hT3
      go_wp2_with fail
      refine C1.mono ?_
      rintro e w3 ⟨rfl, rfl⟩
      generalize wr.alloc (.cells #[.int .u32 (v : Nat), .int .i64 (z : Int)] 32) = w3 at *
      clear C1 hcell
      go_wp2_with fail
      refine (value_any gs 32 v z _ hS3).mono ?_
      rintro e w' ⟨rfl, rfl⟩
      go_wp2_with fail
      refine (len_any gs 32 v z _ hS3).mono ?_
      rintro e w' ⟨rfl, rfl⟩
      go_wp2_with fail
      refine A3.mono ?_
      rintro e w4 ⟨rfl, hS4, hg4⟩
      clear A3
      have hSc4 : St w4 gc 32 v z := (hg4.block gc hSc.lt (by intro e; injection e with e; omega)).trans hSc
      have hcl4 : w4.cell? (ad.add k) = some (.slice A2 n2 c2) := (World.cell?_of_block (hg4.block _ (Nat.lt_of_lt_of_le hclt (by have := hS3.lt; omega)) (by intro e; injection e with e; omega))).trans hcl3
      have hb4 : Below w2.heap.size w2 w4 := hbr3.grown hg4 hbr3.size (fun k hk => by injection hk with hk; have := HGS.out; omega)
      clear hg4 hSc hS3 hcl3 hbr3
      go_wp2_with fail
      refine (add_nil _ _).mono ?_
      rintro e w' ⟨rfl, rfl⟩
      go_wp2_with fail
      have hiw : IntKind.i64.wrap ((z : Int) + n2) = (z : Int) + n2 := iwrap_few hle
      have HS4 : Hid (∀ W : World, W.heap = w4.heap → St W gs 32 (crcN (ls.take (k + 1)).flatten) ((z : Int) + n2)) := fun W h => hS4.same h
      have HC4 : Hid (∀ W : World, W.heap = w4.heap → St W gc 32 v z) := fun W h => hSc4.same h
      go_region_held3 (fun W => W.cell? (ad.add k) = some (.slice A2 n2 c2)) (first | exact hcl4 | exact (World.cell?_of_block (by rfl)).trans hcl4) ((first | (go_at_call 12; refine (value_any gc 32 v z _ (HC4.out _ (by rfl))).mono ?_; rintro e w' ⟨rfl, rfl⟩) | (go_at_call 13; ((with_reducible refine (len_any gc 32 v z _ (HC4.out _ ?hw)).mono ?_); case hw => rfl); rintro e w' ⟨rfl, rfl⟩) | (go_at_call 13; ((with_reducible refine (len_any gs 32 (crcN (ls.take (k + 1)).flatten) ((z : Int) + n2) _ (HS4.out _ ?hw)).mono ?_); case hw => rfl); rintro e w' ⟨rfl, rfl⟩)))
      have hb5 : Below w2.heap.size w2 w4.drew := hb4.drew
      have hS5 := HS4.out w4.drew rfl
      clear hS4 hSc4 hcl4 hb4 HS4 HC4 hiw hwz
      go_wp2
      go_roundw
      case rel => exact ⟨k + 1, by go_num, by omega, by rw [HE2.out]; exact hS5, hb5⟩
      case measure => simp [intOf]; omega
    · obtain rfl : k = n := by omega
      have e : ls.take k = ls := List.take_of_length_le (by rw [HL.out]; exact Nat.le_refl _)
      rw [e, HN.out] at hS
      clear e
      obtain ⟨w5, rfl⟩ : ∃ x, x = wr := ⟨wr, rfl⟩
      have hbw5 := hb12.trans (hbr.mono hb12.size)
      have rall5 := (rall.below hbr).more hbr.size
      have hgs5 := hS.lt
      have hcr := crcN_lt ls.flatten
      have hpl : (crcPut ls.flatten).length = N + 4 := by rw [← HN.out]; simp [crcPut, std]
      have HPL := Lib_hid hpl
      have ht1 : Hid ((crcPut ls.flatten).take N = ls.flatten) := by unfold Hid crcPut; rw [← HN.out, List.take_left]
      have ht2 : Hid ((crcPut ls.flatten).drop N = std (crcN ls.flatten)) := by unfold Hid crcPut; rw [← HN.out, List.drop_left]
      have HPU := fun (wx : World) (hbx : Below w5.heap.size w5 wx) => cput_any B A k c vs ls wx (hT.below (hbw5.trans (hbx.mono hbw5.size)) hT.1) (hrd.below ((hbw5.trans (hbx.mono hbw5.size)).mono hB)) (hR.below ((hbw5.trans (hbx.mono hbw5.size)).mono hB)) (Nat.le_trans hB (hbw5.trans (hbx.mono hbw5.size)).size) hnm (by rw [HN.out]; omega)
      have HU := Lib_hid HPU
      have iw4 : IntKind.i64.wrap ((N : Int) + 4) = (N : Int) + 4 := iwrap_few4 hN400
      clear hpl HPU hbr rall
      generalize HSQ : crcN ls.flatten = s at *
      have HCRC := Lib_hid HSQ
      clear HSQ
      go_wp2
      go_loopw [12, 13] (fun i _ wr => ∃ j : Nat, i = .int .i64 j ∧ j ≤ 2 ∧ Below w5.heap.size w5 wr) (fun i _ _ => 2 - (intOf i).toNat)
      case atStart => exact ⟨0, rfl, by omega, Below.refl _ _⟩
      case round =>
        obtain ⟨j, rfl, hj, hbr⟩ := hrel
        by_cases hlt2 : j < 2
        · go_wp2_with fail
          refine (HU.out wr hbr).mono ?_
          rintro e w3 ⟨A3, c3, rfl, ho3, hb3⟩
          rw [HPL.out] at ho3 ⊢
          have hb53 := hbr.trans (hb3.mono hbr.size)
          have hcap3 := own_cap ho3
          obtain ⟨D1, hd1, q1⟩ := slice_hi (k := N) (Rd.own ho3) (by omega) hcap3.1
          obtain ⟨D2, hd2, q2⟩ := slice_lo (j := N) (Rd.own ho3) (by omega) hcap3.1
          rw [← bs_take, ht1.out] at q1
          rw [← bs_drop, ht2.out] at q2
          have e4 : N + 4 - N = 4 := by omega
          rw [e4] at hd2 q2
          have HQ1 : Hid (∀ W : World, W.heap = w3.heap → Rd W w3.heap.size 1 D1 N (bs ls.flatten)) := fun W h => q1.keep fun p _ => World.cell?_of_block (by rw [h])
          have HRA : Hid (∀ W : World, W.heap = w3.heap → Rd W w5.heap.size 1 A1 N (bs ls.flatten)) := fun W h => (rall5.below hb53).keep fun p _ => World.cell?_of_block (by rw [h])
          have HQ2 : Hid (∀ W w6 : World, W.heap = w3.heap → Below W.heap.size W w6 → Rd w6 w3.heap.size 1 D2 4 (bs (std s))) := fun W w6 h hb => (q2.keep (w' := W) fun p _ => World.cell?_of_block (by rw [h])).keep fun p hp => hb.cell (by rw [h]; exact hp)
          clear e4 q1 q2 hcap3
          go_wp2_with fail
          go_region_held3 (fun _ => True) (trivial) ((first | (go_at_call 16; refine (same_yes (std s) w6 (HQ2.out _ _ (by rfl) hb6) (Rd.own ho6) (by omega)).mono ?_; rintro e w7 ⟨rfl, qq, rfl⟩) | (go_at_call 17; refine (rstands_any s _ hcr).mono ?_; rintro e w6 ⟨A6, c6, rfl, ho6, hb6⟩) | (go_at_call 16; refine (same_yes ls.flatten _ (HQ1.out _ (by rfl)) (HRA.out _ (by rfl)) (by omega)).mono ?_; rintro e w7 ⟨rfl, qr, rfl⟩)))
          have b36 : Below w3.heap.size w3 w6 := (below_drew_ (Below.refl _ w3)).trans hb6
          have hok6 := own_keep (w' := w6.drewN qq) (own_below ho3 b36 (own_lt ho3)) (fun _ _ => rfl)
          have hbr6 : Below wr.heap.size wr (w6.drewN qq) := below_drew_ (hb3.trans (b36.mono hb3.size))
          have SP := spoil_any wr.heap.size (N + 4) c3 A3 _ (w6.drewN qq) hok6 (by omega)
          clear ho3 ho6 hb6 hb3 hb53 b36 HQ1 HQ2 HRA hd1 hd2
          go_wp2_with fail
          refine SP.mono ?_
          rintro e w9 ⟨rfl, hg9⟩
          have hb9 : Below w5.heap.size w5 w9 := (hbr.trans (hbr6.mono hbr.size)).grown hg9 (Nat.le_trans hbr.size hbr6.size) (fun k hk => Nat.le_trans hbr.size (own_ge hok6 k hk))
          clear hg9 SP hok6 hbr6
          go_wp2
          go_roundw
          case rel => exact ⟨j + 1, by go_num, by omega, hb9⟩
          case measure => simp [intOf]; omega
        · obtain rfl : j = 2 := by omega
          have hbw := hbw5.trans (hbr.mono hbw5.size)
          have J2 := joined_yes B A k c vs ls wr (hrd.below (hbw.mono hB)) (hR.below (hbw.mono hB)) (Nat.le_trans hB hbw.size) HOK.out
          rw [HN.out] at J2
          have hS6 := hS.below hbr hgs5
          have ra6 := rall5.below hbr
          clear iw4 HU ht1 ht2
          go_wp2_with fail
          refine J2.mono ?_
          rintro e w6 ⟨A6, c6, rfl, ho6, hb6⟩
          clear J2
          have hbw6 := hbw.trans (hb6.mono hbw.size)
          have SU := sum_any B A k c vs ls w6 (hT.below hbw6 hT.1) (hrd.below (hbw6.mono hB)) (hR.below (hbw6.mono hB)) (Nat.le_trans hB hbw6.size) hnm
          rw [HCRC.out] at SU
          have hS7 := hS6.below hb6 (Nat.lt_of_lt_of_le hgs5 hbr.size)
          have ra7 := ra6.below (hb6.mono hbr.size)
          have rn7 := Rd.own ho6
          have hs56 : w5.heap.size ≤ w6.heap.size := Nat.le_trans hbr.size hb6.size
          clear hS6 ra6 ho6 hb6
          go_wp2_with fail
          refine SU.mono ?_
          rintro e w7 ⟨rfl, hb7⟩
          clear SU
          have hbw7 := hbw6.trans (hb7.mono hbw6.size)
          have hS8 := hS7.below hb7 (Nat.lt_of_lt_of_le hgs5 hs56)
          have ra8 := ra7.below (hb7.mono hs56)
          have rn8 := rn7.below hb7
          have hs57 : w5.heap.size ≤ w7.heap.size := Nat.le_trans hs56 hb7.size
          have SR := sum_row (w := w7) (g := w7.heap.size) (c := c1) (s : Nat) (hT.below hbw7 hT.1) ra8 HFB.out hcap1.1 hcap1.2 hs57 rfl (by rw [HCRC.out])
          have hs67 := hb7.size
          clear hS7 ra7 rn7 hb7
          go_wp2_with fail
          refine SR.mono ?_
          rintro e w8 ⟨rfl, hb8, hT8⟩
          clear SR
          have hbw8 := hbw7.trans (hb8.mono hbw7.size)
          have hS9 := hS8.below hb8 (Nat.lt_of_lt_of_le hgs5 hs57)
          have ra9 := ra8.below (hb8.mono hs57)
          have rn9 := rn8.below (hb8.mono hs67)
          clear hS8 ra8 rn8 hb8
          go_wp2_with fail
          refine (value_any gs 32 s N _ hS9).mono ?_
          rintro e w' ⟨rfl, rfl⟩
          go_wp2_with fail
          refine (value_any gs 32 s N _ hS9).mono ?_
          rintro e w' ⟨rfl, rfl⟩
          go_wp2_with fail
          refine (len_any gs 32 s N _ hS9).mono ?_
          rintro e w' ⟨rfl, rfl⟩
          go_wp2_with fail
          refine (value_nil _).mono ?_
          rintro e w' ⟨rfl, rfl⟩
          go_wp2_with fail
          refine (len_nil _).mono ?_
          rintro e w' ⟨rfl, rfl⟩
          go_wp2_with fail
          refine (copy_nil _).mono ?_
          rintro e w' ⟨rfl, rfl⟩
          go_wp2_with fail
          refine (same_yes ls.flatten w8 rn9 ra9 (by omega)).mono ?_
          rintro e w' ⟨rfl, q, rfl⟩
          have hbw9 : Below w.heap.size w (w8.drewN q) := below_drew_ hbw8
          have WK := works_any (w8.drewN q) (hT.below hbw9 hT.1)
          clear hS9 ra9 rn9
          go_wp2_with fail
          refine WK.mono ?_
          rintro e w9 ⟨rfl, hb9⟩
          go_wp2
          go_ret
          exact ⟨rfl, hbw9.trans (hb9.mono hbw9.size)⟩

end Go.Proofs.YtaidegnjegmfdabDoor
