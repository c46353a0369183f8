/-
  The statement's function CrcOpens returns true, for every input.
-/
import Derived.Test.YtaidegnjegmfdabDoorWrk
import Derived.Test.YtaidegnjegmfdabDoorRsu
namespace Go.Proofs.YtaidegnjegmfdabDoor
open Go Go.RowKit
set_option linter.unusedVariables false

theorem open_case {B : Nat} {A : Option Addr} {n c : Nat} {l ys : List Nat} {w : World} {z n' : Nat} {zi : Int} (hT : Tab w) (h : Rd w B 1 A n (bs l)) (hb : ∀ x ∈ l, x < 256) (hnc : n ≤ c) (hc : c ≤ 9223372036854775807) (hB : B ≤ w.heap.size) (hn : n ≤ 140737488355300)
    (h1 : opened l = (ys, z)) (hy : ys.length = n') (hz : (z : Int) = zi) :
    Calls Tryd.prog 21 #[.slice A n c] w fun e w' => ∃ A' c', e = .returned (.tuple #[.slice A' n' c', .int .i64 zi]) ∧ w'.ownsRow w.heap.size 5 1 (.slice A' n' c') n' (bs ys) ∧ Below w.heap.size w w' := by
  subst hy hz
  have G := open_any B A n c l w hT h hb hnc hc hB hn
  rw [h1] at G
  exact G
theorem opened_put {l : List Nat} : opened (crcPut l) = (l, 0) := by
  have hl : (crcPut l).length = l.length + 4 := by simp [crcPut, std]
  have h1 : (crcPut l).drop l.length = std (crcN l) := by unfold crcPut; rw [List.drop_left]
  have h2 : (crcPut l).take l.length = l := by unfold crcPut; rw [List.take_left]
  have := opened_yes hl (by rw [h1, h2]; exact eqB_self _)
  rw [this, h2]
theorem crcPut_byte {l : List Nat} (h : ∀ x ∈ l, x < 256) : ∀ x ∈ crcPut l, x < 256 := by
  intro x hx
  rcases List.mem_append.1 hx with hx | hx
  · exact h x hx
  · exact std_byte _ x hx
theorem same_is {B B' : Nat} {A A' : Option Addr} {n n' c c' : Nat} {l m : List Nat} {b : Bool} (he : eqB l m = b) (w : World) (h : Rd w B 1 A n (bs l)) (h' : Rd w B' 1 A' n' (bs m)) (hn : n ≤ 9223372036854775807) :
    Calls Tryd.prog 16 #[.slice A n c, .slice A' n' c'] w fun e w' => e = .returned (.bool b) ∧ ∃ q, w' = w.drewN q := by
  have G := same_any B B' A A' n n' c c' l m w h h' hn
  rw [he] at G
  exact G
theorem Rd.drewN {w : World} {B size n q : Nat} {A : Option Addr} {xs : List Value} (h : Rd w B size A n xs) : Rd (w.drewN q) B size A n xs := h.keep fun p _ => World.cell?_of_block rfl

/-- What stands behind the loop: what was put is opened as it was. -/
theorem spoilt_below {w1 wr w2 w3 : World} {E : TypeId} {v : Value} {n : Nat} {xs : List Value} (hbr : Below w1.heap.size w1 wr) (hb : Below wr.heap.size wr w2) (ho : w2.ownsRow wr.heap.size E 1 v n xs) (hg : w2.grownBy w3 v.ownBlock) : Below w1.heap.size w1 w3 :=
  (hbr.trans (hb.mono hbr.size)).grown hg (Nat.le_trans hbr.size hb.size) fun k hk => Nat.le_trans hbr.size (own_ge ho k hk)

set_option maxRecDepth 100000 in
set_option maxHeartbeats 3200000 in
theorem opens_any (B : Nat) (A : Option Addr) (n c : Nat) (l : List Nat) (w : World) (hT : Tab w) (hr : Rd w B 1 A n (bs l)) (hb : ∀ x ∈ l, x < 256) (hnc : n ≤ c) (hc : c ≤ 9223372036854775807) (hB : B ≤ w.heap.size) :
    Calls Tryd.prog 4 #[.slice A n c] w fun e w' => e = .returned (.bool true) ∧ Below w.heap.size w w' := by
  have HW := Lib_hid (works_any w hT)
  by_cases h400 : 400 < n
  · go_enter Tryd.func4, Tryd.ntmps4
    go_wp2_with fail
    refine HW.out.mono ?_
    rintro e w1 ⟨rfl, hb1⟩
    go_wp2
    go_ret
    exact ⟨rfl, hb1⟩
  have O := own_any B A n c l w hr (by omega)
  have hl := hr.count
  subst hl
  have HB := Lib_hid hb
  have hcl := crcPut_byte hb
  have hpl : (crcPut l).length = l.length + 4 := by simp [crcPut, std]
  have HCL := Lib_hid hcl
  have HPL := Lib_hid hpl
  clear hb hcl hpl
  -- what stands behind the loop, from whatever world it leaves
  by_cases h4 : l.length < 4
  · have h1 := opened_short h4
    go_enter Tryd.func4, Tryd.ntmps4
    go_wp2_with fail
    refine O.mono ?_
    rintro e w1 ⟨A1, c1, rfl, ho1, hb1⟩
    clear O
    go_wp2_with fail
    have G := fun wx (hbx : Below w1.heap.size w1 wx) => open_case (c := c) (hT.below (hb1.trans (hbx.mono hb1.size)) hT.1) (hr.below ((hb1.trans (hbx.mono hb1.size)).mono hB)) HB.out hnc hc (Nat.le_trans hB (hb1.trans (hbx.mono hb1.size)).size) (by omega) h1 (n' := 0) (zi := 4) rfl rfl
    have HG := Lib_hid G
    clear G h1
    go_loopw [4] (fun i wr => ∃ k : Nat, i = .int .i64 k ∧ k ≤ 2 ∧ Below w1.heap.size w1 wr) (fun i _ => 2 - (intOf i).toNat)
    case atStart => exact ⟨0, rfl, by omega, Below.refl _ _⟩
    case round =>
      obtain ⟨k, rfl, hk, hbr⟩ := hrel
      by_cases hlt : k < 2
      · go_wp2_with fail
        refine (HG.out wr hbr).mono ?_
        rintro e w3 ⟨A3, c3, rfl, ho3, hb3⟩
        go_wp2_with fail
        refine (spoil_any wr.heap.size 0 c3 A3 _ w3 ho3 (by omega)).mono ?_
        rintro e w4 ⟨rfl, hg4⟩
        have hb4 := spoilt_below hbr hb3 ho3 hg4
        clear hg4 ho3 hb3
        go_wp2
        go_roundw
        case rel => exact ⟨k + 1, by go_num, by omega, hb4⟩
        case measure => simp [intOf]; omega
      · obtain rfl : k = 2 := by omega
        have hbw := hb1.trans (hbr.mono hb1.size)
        have hTr := hT.below hbw hT.1
        have q1 := hr.below (hbw.mono hB)
        have q2 := (Rd.own ho1).below hbr
        have HP := put_row (g := wr.heap.size) (c := c) hTr q1 HB.out hnc hc (Nat.le_trans hB hbw.size) rfl (by omega)
        go_wp2_with fail
        refine HP.mono ?_
        rintro e w3 ⟨⟨A3, c3, rfl, ho3, hb3⟩, hT3⟩
        rw [HPL.out] at ho3 ⊢
        clear HP
        have hcap := own_cap ho3
        have HO := open_case (c := c3) hT3 (Rd.own ho3) HCL.out hcap.1 hcap.2 (Nat.le_refl _) (by omega) opened_put (n' := l.length) (zi := 0) rfl rfl
        have hbw3 := hbw.trans (hb3.mono hbw.size)
        have q3 := q1.below (hb3.mono (Nat.le_trans hB hbw.size))
        have q4 := q2.below (hb3.mono hbr.size)
        have hs13 : w1.heap.size ≤ w3.heap.size := Nat.le_trans hbr.size hb3.size
        clear ho3 hb3 hcap q1 q2
        go_wp2_with fail
        refine HO.mono ?_
        rintro e w4 ⟨A4, c4, rfl, ho4, hb4⟩
        have hbw4 := hbw3.trans (hb4.mono hbw3.size)
        have q5 := q3.below (hb4.mono (Nat.le_trans hB hbw3.size))
        have q6 := q4.below (hb4.mono hs13)
        go_wp2_with fail
        refine (same_yes l w4 (Rd.own ho4) q6 (by omega)).mono ?_
        rintro e w5 ⟨rfl, q, rfl⟩
        go_wp2_with fail
        refine (same_yes l _ q5.drewN q6.drewN (by omega)).mono ?_
        rintro e w6 ⟨rfl, q', rfl⟩
        have hbw6 : Below w.heap.size w (w4.drewN (q + q')) := below_drew_ hbw4
        have HWK := works_any (w4.drewN (q + q')) (hT.below hbw6 hT.1)
        clear ho4 hb4 q3 q4 q5 q6
        go_wp2_with fail
        refine HWK.mono ?_
        rintro e w7 ⟨rfl, hb7⟩
        go_wp2
        go_ret
        exact ⟨rfl, hbw6.trans (hb7.mono hbw6.size)⟩
  · obtain ⟨k0, hk0⟩ : ∃ k0, l.length = k0 + 4 := ⟨l.length - 4, by omega⟩
    have hki : (l.length : Int) - 4 = (k0 : Int) := by omega
    have hkw : IntKind.i64.wrap (k0 : Int) = (k0 : Int) := by rw [IntKind.wrap_i64]; omega
    have hkl : k0 ≤ l.length := by omega
    have htl : (l.take k0).length = k0 := by simp; omega
    have HD : Hid (∀ x ∈ l.take k0, x < 256) := fun x hx => HB.out x (List.mem_of_mem_take hx)
    have hcl := crcN_lt (l.take k0)
    cases he : eqB (l.drop k0) (std (crcN (l.take k0))) with
    | true =>
      have h1 := opened_yes hk0 he
      have HK := Lib_hid hk0
      clear hk0
      go_enter Tryd.func4, Tryd.ntmps4
      go_wp2_with fail
      refine O.mono ?_
      rintro e w1 ⟨A1, c1, rfl, ho1, hb1⟩
      clear O
      have hcap1 := own_cap ho1
      obtain ⟨A2, hs2, r2⟩ := slice_lo (j := k0) (Rd.own ho1) hkl hcap1.1
      obtain ⟨A3, hs3, r3⟩ := slice_hi (k := k0) (Rd.own ho1) hkl hcap1.1
      rw [← bs_drop] at r2
      rw [← bs_take] at r3
      have e4 : l.length - k0 = 4 := by have := HK.out; omega
      rw [e4] at hs2 r2
      clear e4
      have G := fun wx (hbx : Below w1.heap.size w1 wx) => open_case (c := c) (hT.below (hb1.trans (hbx.mono hb1.size)) hT.1) (hr.below ((hb1.trans (hbx.mono hb1.size)).mono hB)) HB.out hnc hc (Nat.le_trans hB (hb1.trans (hbx.mono hb1.size)).size) (by omega) h1 (n' := k0) (zi := 0) htl rfl
      have GS := fun wy (hby : Below w1.heap.size w1 wy) => rsum_any w1.heap.size A3 k0 c1 (l.take k0) wy (r3.below hby) HD.out hby.size (by omega)
      have HG := Lib_hid G
      have HGS := Lib_hid GS
      have HE := Lib_hid he
      clear G GS h1 he
      generalize l.take k0 = lt at *
      generalize l.drop k0 = ld at *
      generalize crcN lt = s at *
      go_wp2_with fail
      go_loopw [4] (fun i wr => ∃ k : Nat, i = .int .i64 k ∧ k ≤ 2 ∧ Below w1.heap.size w1 wr) (fun i _ => 2 - (intOf i).toNat)
      case atStart => exact ⟨0, rfl, by omega, Below.refl _ _⟩
      case round =>
        obtain ⟨k, rfl, hk, hbr⟩ := hrel
        by_cases hlt : k < 2
        · go_wp2_with fail
          refine (HG.out wr hbr).mono ?_
          rintro e w3 ⟨A4, c4, rfl, ho3, hb3⟩
          have hb13 := hbr.trans (hb3.mono hbr.size)
          go_wp2_with fail
          go_region_held3 (fun _ => True) (trivial) ((first | (go_at_call 10; refine (HGS.out _ (below_drew_ (n := 1) hb13)).mono ?_; rintro e w5 ⟨rfl, hb5⟩) | (go_at_call 17; refine (rstands_any s _ hcl).mono ?_; rintro e w6 ⟨A6, c6, rfl, ho6, hb6⟩) | (go_at_call 16; refine (same_is HE.out w6 (r2.below ((hb13.drew.trans (hb5.mono hb13.drew.size)).trans (hb6.mono (hb13.drew.trans (hb5.mono hb13.drew.size)).size))) (Rd.own ho6) (by omega)).mono ?_; rintro e w7 ⟨rfl, q, rfl⟩)))
          have hb36 := (hb13.drew.trans (hb5.mono hb13.drew.size)).trans (hb6.mono (hb13.drew.trans (hb5.mono hb13.drew.size)).size)
          have b35 := ((Below.refl w3.heap.size w3).drew).trans (hb5.mono (Nat.le_refl _))
          have b36 := b35.trans (hb6.mono b35.size)
          have ra := ((Rd.own ho3).below b36).drewN (q := q)
          have rb := (r3.below hb36).drewN (q := q)
          have ho36 := own_below ho3 b36 (own_lt ho3)
          have hbr6 := hb3.trans (b36.mono hb3.size)
          clear ho3 ho6 hb5 hb6 hb3 hb13 b35 b36 hb36
          go_wp2_with fail
          refine (same_yes lt _ ra rb (by omega)).mono ?_
          rintro e w8 ⟨rfl, q', rfl⟩
          have SP := spoil_any wr.heap.size k0 c4 A4 _ (w6.drewN (q + q')) (own_keep (w' := w6.drewN (q + q')) ho36 (fun _ _ => rfl)) (by omega)
          go_wp2_with fail
          refine SP.mono ?_
          rintro e w9 ⟨rfl, hg9⟩
          have hb9 : Below w1.heap.size w1 w9 := spoilt_below hbr (below_drew_ hbr6) (own_keep (w' := w6.drewN (q + q')) ho36 (fun _ _ => rfl)) hg9
          clear hg9 SP ra rb ho36 hbr6
          go_wp2
          go_roundw
          case rel => exact ⟨k + 1, by go_num, by omega, hb9⟩
          case measure => simp [intOf]; omega
        · obtain rfl : k = 2 := by omega
          have hbw := hb1.trans (hbr.mono hb1.size)
          have hTr := hT.below hbw hT.1
          have q1 := hr.below (hbw.mono hB)
          have q2 := (Rd.own ho1).below hbr
          have HP := put_row (g := wr.heap.size) (c := c) hTr q1 HB.out hnc hc (Nat.le_trans hB hbw.size) rfl (by omega)
          go_wp2_with fail
          refine HP.mono ?_
          rintro e w3 ⟨⟨A3, c3, rfl, ho3, hb3⟩, hT3⟩
          rw [HPL.out] at ho3 ⊢
          clear HP
          have hcap := own_cap ho3
          have HO := open_case (c := c3) hT3 (Rd.own ho3) HCL.out hcap.1 hcap.2 (Nat.le_refl _) (by omega) opened_put (n' := l.length) (zi := 0) rfl rfl
          have hbw3 := hbw.trans (hb3.mono hbw.size)
          have q3 := q1.below (hb3.mono (Nat.le_trans hB hbw.size))
          have q4 := q2.below (hb3.mono hbr.size)
          have hs13 : w1.heap.size ≤ w3.heap.size := Nat.le_trans hbr.size hb3.size
          clear ho3 hb3 hcap q1 q2
          go_wp2_with fail
          refine HO.mono ?_
          rintro e w4 ⟨A4, c4, rfl, ho4, hb4⟩
          have hbw4 := hbw3.trans (hb4.mono hbw3.size)
          have q5 := q3.below (hb4.mono (Nat.le_trans hB hbw3.size))
          have q6 := q4.below (hb4.mono hs13)
          go_wp2_with fail
          refine (same_yes l w4 (Rd.own ho4) q6 (by omega)).mono ?_
          rintro e w5 ⟨rfl, q, rfl⟩
          go_wp2_with fail
          refine (same_yes l _ q5.drewN q6.drewN (by omega)).mono ?_
          rintro e w6 ⟨rfl, q', rfl⟩
          have hbw6 : Below w.heap.size w (w4.drewN (q + q')) := below_drew_ hbw4
          have HWK := works_any (w4.drewN (q + q')) (hT.below hbw6 hT.1)
          clear ho4 hb4 q3 q4 q5 q6
          go_wp2_with fail
          refine HWK.mono ?_
          rintro e w7 ⟨rfl, hb7⟩
          go_wp2
          go_ret
          exact ⟨rfl, hbw6.trans (hb7.mono hbw6.size)⟩
    | false =>
      have h1 := opened_no hk0 he
      have HK := Lib_hid hk0
      clear hk0
      go_enter Tryd.func4, Tryd.ntmps4
      go_wp2_with fail
      refine O.mono ?_
      rintro e w1 ⟨A1, c1, rfl, ho1, hb1⟩
      clear O
      have hcap1 := own_cap ho1
      obtain ⟨A2, hs2, r2⟩ := slice_lo (j := k0) (Rd.own ho1) hkl hcap1.1
      obtain ⟨A3, hs3, r3⟩ := slice_hi (k := k0) (Rd.own ho1) hkl hcap1.1
      rw [← bs_drop] at r2
      rw [← bs_take] at r3
      have e4 : l.length - k0 = 4 := by have := HK.out; omega
      rw [e4] at hs2 r2
      clear e4
      have G := fun wx (hbx : Below w1.heap.size w1 wx) => open_case (c := c) (hT.below (hb1.trans (hbx.mono hb1.size)) hT.1) (hr.below ((hb1.trans (hbx.mono hb1.size)).mono hB)) HB.out hnc hc (Nat.le_trans hB (hb1.trans (hbx.mono hb1.size)).size) (by omega) h1 (n' := 0) (zi := 20) rfl rfl
      have GS := fun wy (hby : Below w1.heap.size w1 wy) => rsum_any w1.heap.size A3 k0 c1 (l.take k0) wy (r3.below hby) HD.out hby.size (by omega)
      have HG := Lib_hid G
      have HGS := Lib_hid GS
      have HE := Lib_hid he
      clear G GS h1 he
      generalize l.take k0 = lt at *
      generalize l.drop k0 = ld at *
      generalize crcN lt = s at *
      go_wp2_with fail
      go_loopw [4] (fun i wr => ∃ k : Nat, i = .int .i64 k ∧ k ≤ 2 ∧ Below w1.heap.size w1 wr) (fun i _ => 2 - (intOf i).toNat)
      case atStart => exact ⟨0, rfl, by omega, Below.refl _ _⟩
      case round =>
        obtain ⟨k, rfl, hk, hbr⟩ := hrel
        by_cases hlt : k < 2
        · go_wp2_with fail
          refine (HG.out wr hbr).mono ?_
          rintro e w3 ⟨A4, c4, rfl, ho3, hb3⟩
          have hb13 := hbr.trans (hb3.mono hbr.size)
          go_wp2_with fail
          go_region_held3 (fun _ => True) (trivial) ((first | (go_at_call 10; refine (HGS.out _ (below_drew_ (n := 1) hb13)).mono ?_; rintro e w5 ⟨rfl, hb5⟩) | (go_at_call 17; refine (rstands_any s _ hcl).mono ?_; rintro e w6 ⟨A6, c6, rfl, ho6, hb6⟩) | (go_at_call 16; refine (same_is HE.out w6 (r2.below ((hb13.drew.trans (hb5.mono hb13.drew.size)).trans (hb6.mono (hb13.drew.trans (hb5.mono hb13.drew.size)).size))) (Rd.own ho6) (by omega)).mono ?_; rintro e w7 ⟨rfl, q, rfl⟩)))
          have hb36 := (hb13.drew.trans (hb5.mono hb13.drew.size)).trans (hb6.mono (hb13.drew.trans (hb5.mono hb13.drew.size)).size)
          have b35 := ((Below.refl w3.heap.size w3).drew).trans (hb5.mono (Nat.le_refl _))
          have b36 := b35.trans (hb6.mono b35.size)
          have ho36 := own_below ho3 b36 (own_lt ho3)
          have hbr6 := hb3.trans (b36.mono hb3.size)
          clear ho3 ho6 hb5 hb6 hb3 hb13 b35 b36 hb36
          have SP := spoil_any wr.heap.size 0 c4 A4 _ (w6.drewN q) (own_keep (w' := w6.drewN q) ho36 (fun _ _ => rfl)) (by omega)
          go_wp2_with fail
          refine SP.mono ?_
          rintro e w9 ⟨rfl, hg9⟩
          have hb9 : Below w1.heap.size w1 w9 := spoilt_below hbr (below_drew_ hbr6) (own_keep (w' := w6.drewN q) ho36 (fun _ _ => rfl)) hg9
          clear hg9 SP ho36 hbr6
          go_wp2
          go_roundw
          case rel => exact ⟨k + 1, by go_num, by omega, hb9⟩
          case measure => simp [intOf]; omega
        · obtain rfl : k = 2 := by omega
          have hbw := hb1.trans (hbr.mono hb1.size)
          have hTr := hT.below hbw hT.1
          have q1 := hr.below (hbw.mono hB)
          have q2 := (Rd.own ho1).below hbr
          have HP := put_row (g := wr.heap.size) (c := c) hTr q1 HB.out hnc hc (Nat.le_trans hB hbw.size) rfl (by omega)
          go_wp2_with fail
          refine HP.mono ?_
          rintro e w3 ⟨⟨A3, c3, rfl, ho3, hb3⟩, hT3⟩
          rw [HPL.out] at ho3 ⊢
          clear HP
          have hcap := own_cap ho3
          have HO := open_case (c := c3) hT3 (Rd.own ho3) HCL.out hcap.1 hcap.2 (Nat.le_refl _) (by omega) opened_put (n' := l.length) (zi := 0) rfl rfl
          have hbw3 := hbw.trans (hb3.mono hbw.size)
          have q3 := q1.below (hb3.mono (Nat.le_trans hB hbw.size))
          have q4 := q2.below (hb3.mono hbr.size)
          have hs13 : w1.heap.size ≤ w3.heap.size := Nat.le_trans hbr.size hb3.size
          clear ho3 hb3 hcap q1 q2
          go_wp2_with fail
          refine HO.mono ?_
          rintro e w4 ⟨A4, c4, rfl, ho4, hb4⟩
          have hbw4 := hbw3.trans (hb4.mono hbw3.size)
          have q5 := q3.below (hb4.mono (Nat.le_trans hB hbw3.size))
          have q6 := q4.below (hb4.mono hs13)
          go_wp2_with fail
          refine (same_yes l w4 (Rd.own ho4) q6 (by omega)).mono ?_
          rintro e w5 ⟨rfl, q, rfl⟩
          go_wp2_with fail
          refine (same_yes l _ q5.drewN q6.drewN (by omega)).mono ?_
          rintro e w6 ⟨rfl, q', rfl⟩
          have hbw6 : Below w.heap.size w (w4.drewN (q + q')) := below_drew_ hbw4
          have HWK := works_any (w4.drewN (q + q')) (hT.below hbw6 hT.1)
          clear ho4 hb4 q3 q4 q5 q6
          go_wp2_with fail
          refine HWK.mono ?_
          rintro e w7 ⟨rfl, hb7⟩
          go_wp2
          go_ret
          exact ⟨rfl, hbw6.trans (hb7.mono hbw6.size)⟩


end Go.Proofs.YtaidegnjegmfdabDoor
