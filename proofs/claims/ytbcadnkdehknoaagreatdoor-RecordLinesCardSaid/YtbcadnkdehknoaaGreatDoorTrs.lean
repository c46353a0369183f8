/-
  Layer 4: the document's stands, Put; the program's Put.
-/
import Derived.Test.YtbcadnkdehknoaaGreatDoorTst
namespace Go.Proofs.YtbcadnkdehknoaaGreatDoor
open Go Go.RowKit
set_option linter.unusedVariables false

set_option maxRecDepth 100000 in
set_option maxHeartbeats 1600000 in
theorem trstands_any : ∀ (v : V) (w : World) (lo hi : Nat), Lies w lo hi v → hi ≤ w.heap.size → v.abs.allB = true → v.abs.count ≤ 1000 → Calls Tryz.prog 74 #[v.val] w (Made 5 v.abs.stand w) := by
  refine V.ind fun k a b A c ps ih w lo hi hL hhi hall hlen => ?_
  obtain ⟨hcl, hcap', hkr, ha, hb⟩ := hL.caps
  rw [V.all_node, Bool.and_eq_true] at hall
  rw [V.count_node] at hlen
  have hk : 1 ≤ k ∧ k ≤ 7 := by
    have := hall.2
    unfold fitsB at this
    split at this; omega
    split at this; omega
    split at this; omega
    split at this; omega
    split at this; omega
    cases this
  obtain ⟨kn, rfl⟩ : ∃ kn : Nat, k = kn := ⟨k.toNat, by omega⟩
  have hlc : ps.length ≤ T.countL (V.absL ps) := by have := length_le_countL (V.absL ps); rwa [absL_length] at this
  obtain ⟨i0, hi0, hz0, hz1, hz2⟩ := info_parts Tryz.info5
  have HA : Hid (∀ (i : Nat) (p : V), ps[i]? = some p → p.abs.allB = true) := fun i p hp => by
    cases h : p.abs.allB with
    | true => rfl
    | false => rw [allL_bad hp h] at hall; cases hall.1
  have IH : Hid (∀ (i : Nat) (p : V), ps[i]? = some p → ∀ (W : World), Lies W lo hi p → hi ≤ W.heap.size → Calls Tryz.prog 74 #[.agg #[.int .i64 p.kind, .int .u64 (p.a : Int), .int .u64 (p.b : Int), .slice p.addr p.parts.length p.cap]] W (Made 5 p.abs.stand W)) :=
    fun i p hp W h1 h2 => ih p (List.mem_of_getElem? hp) W lo hi h1 h2 (HA.out i p hp) (by have := count_le hp; omega)
  have hbx := heap_alloc_new w (.cells #[.int .i64 (kn : Int), .int .u64 (a : Int), .int .u64 (b : Int), .slice A ps.length c] 36)
  have hb0 := below_new w (.cells #[.int .i64 (kn : Int), .int .u64 (a : Int), .int .u64 (b : Int), .slice A ps.length c] 36)
  have hs1 : (w.alloc (.cells #[.int .i64 (kn : Int), .int .u64 (a : Int), .int .u64 (b : Int), .slice A ps.length c] 36)).heap.size = w.heap.size + 1 := by simp
  have HL := Lib_hid hL
  have HS : Hid ((V.node kn a b A c ps).abs.stand = [kn] ++ (numsL kn a b).flatMap enc ++ (if 6 ≤ kn then enc ps.length else []) ++ T.standL (V.absL ps)) := by
    unfold Hid; rw [V.abs, T.stand, absL_length, Int.toNat_natCast, show (if (6 : Int) ≤ (kn : Int) then enc ps.length else []) = (if 6 ≤ kn then enc ps.length else []) by split <;> split <;> first | rfl | omega]; simp [List.append_assoc]
  clear ih hL hall
  simp only [V.val, V.kind, V.a, V.b, V.sl, V.addr, V.parts, V.cap]
  generalize (V.node kn a b A c ps).abs.stand = res at *
  have hkb : IntKind.u8.wrap (kn : Int) = (kn : Int) := by rw [IntKind.wrap_u8]; omega
  go_enter Tryz.func74, Tryz.ntmps74
  obtain ⟨w1, hw1⟩ : ∃ w1, w1 = w.alloc (.cells #[.int .i64 (kn : Int), .int .u64 (a : Int), .int .u64 (b : Int), .slice A ps.length c] 36) := ⟨_, rfl⟩
  rw [← hw1] at hbx hb0 hs1
  have c0 := cell_of_row w1 _ 0 _ _ _ hbx
  simp at c0
  subst hw1
  go_upto_region 1 with (fail)
  generalize w.alloc (.cells #[.int .i64 (kn : Int), .int .u64 (a : Int), .int .u64 (b : Int), .slice A ps.length c] 36) = w1 at *
  have ho1 := own_new1 w1 (kn : Int) kn rfl 5
  have hbl1 := below_new w1 (.cells #[.int .u8 (kn : Int)] 5)
  go_upto_region 2 with (fail)
  generalize w1.alloc (.cells #[.int .u8 (kn : Int)] 5) = w2 at *
  have hx2 := (hbl1.block w.heap.size (by omega)).trans hbx
  have c20 := cell_of_row w2 _ 0 _ _ _ hx2
  have c21 := cell_of_row w2 _ 1 _ _ _ hx2
  have c22 := cell_of_row w2 _ 2 _ _ _ hx2
  have c23 := cell_of_row w2 _ 3 _ _ _ hx2
  simp at c20 c21 c22 c23
  rw [hs1] at ho1 hbl1
  have HO1 := Lib_hid ho1
  have HBX := Lib_hid hbx
  clear hbx c0 ho1
  have hsz2 : w.heap.size + 2 ≤ w2.heap.size := by have := own_lt HO1.out (w.heap.size + 1) rfl; omega
  have hwr : IntKind.u64.wrap (ps.length : Int) = (ps.length : Int) := by rw [IntKind.wrap_u64]; omega
  have htena := enc_ten (v := a) (by omega)
  have htenb := enc_ten (v := b) (by omega)
  have htenn := enc_ten (v := ps.length) (by omega)
  have hm9 : 1000000 ≤ maxLen := by unfold maxLen; omega
  have HST : Hid (∀ (W W1 W2 : World) (v v' : Value), Below (w.heap.size + 1) w1 W → Below W.heap.size W W1 → (∀ k, v.ownBlock = some k → w.heap.size + 1 ≤ k) → Stp W1 W2 v v' → Below (w.heap.size + 1) w1 W2) := fun W W1 W2 v v' h1 h2 hv h3 =>
    (h1.trans (h2.mono (by have := h1.size; omega))).trans (h3.below (by have := h1.size; have := h2.size; omega) hv)
  have HBC : Hid (∀ W, Below (w.heap.size + 1) w1 W → W.cell? ⟨w.heap.size, 0, none⟩ = some (.int .i64 (kn : Int)) ∧ W.cell? ⟨w.heap.size, 1, none⟩ = some (.int .u64 (a : Int)) ∧ W.cell? ⟨w.heap.size, 2, none⟩ = some (.int .u64 (b : Int)) ∧ W.cell? ⟨w.heap.size, 3, none⟩ = some (.slice A ps.length c) ∧ w.heap.size + 1 ≤ W.heap.size) := fun W hW => by
    have hx := (hW.block w.heap.size (by omega)).trans HBX.out
    exact ⟨(cell_of_row W _ 0 _ _ _ hx).trans rfl, (cell_of_row W _ 1 _ _ _ hx).trans rfl, (cell_of_row W _ 2 _ _ _ hx).trans rfl, (cell_of_row W _ 3 _ _ _ hx).trans rfl, by have := hW.size; omega⟩
  have HB1 := Lib_hid hbl1
  have hE : w2 = w2 := rfl
  clear hx2 c21 c22 c23 hbl1
  go_cut [16] from 9 to 15 (fun v W => v = .bool (decide (2 ≤ kn ∧ kn ≤ 4)) ∧ W = w2)
  case first =>
    by_cases h2 : 2 ≤ kn
    · by_cases h4 : kn ≤ 4
      · go_wp2_with fail
        go_meet
        exact ⟨by simp [h2, h4]; omega, rfl⟩
      · go_wp2_with fail
        go_meet
        exact ⟨by simp [h4]; omega, rfl⟩
    · go_wp2_with fail
      go_meet
      exact ⟨by simp [h2], rfl⟩
  case rest =>
  obtain ⟨rfl, rfl⟩ := hcut
  clear c20 hE
  obtain ⟨A9, n9, c9, l9, hsl, hl9, hn9, ho9, hbl9⟩ : ∃ (A9 : Option Addr) (n9 c9 : Nat) (l : List Nat), Value.slice (some ⟨w.heap.size + 1, 0, none⟩) 1 1 = .slice A9 n9 c9 ∧ l = [kn] ∧ n9 = l.length ∧ wc.ownsRow (w.heap.size + 1) 5 1 (.slice A9 n9 c9) n9 (bs l) ∧ Below (w.heap.size + 1) w1 wc := ⟨_, _, _, [kn], rfl, rfl, rfl, HO1.out, HB1.out⟩
  rw [hsl]
  clear HO1 HB1 hsl hsz2
  have H9 := Lib_hid hl9
  have hq9 : n9 ≤ 1 := by rw [hn9, hl9]; exact Nat.le_refl _
  obtain ⟨b0, b1, b2, b3, bz⟩ := HBC.out wc hbl9
  clear hl9 hn9
  generalize hd : decide (2 ≤ kn ∧ kn ≤ 4) = d1 at *
  go_upto_if 16 with (fail)
  go_cut [3] from 16 to 21 (fun out W => ∃ (A9 : Option Addr) (n9 c9 : Nat) (l : List Nat), out = .slice A9 n9 c9 ∧ Hid (l = [kn] ++ (if 2 ≤ kn ∧ kn ≤ 4 then enc a else [])) ∧ n9 ≤ 11 ∧ W.ownsRow (w.heap.size + 1) 5 1 (.slice A9 n9 c9) n9 (bs l) ∧ Below (w.heap.size + 1) w1 W)
  case first =>
    by_cases hc : 2 ≤ kn ∧ kn ≤ 4
    · have hd1 : d1 = true := by rw [← hd]; exact decide_eq_true hc
      subst hd1
      have HC := Lib_hid hc
      clear hc
      go_wp2_with (first | (go_at_call 73; refine (rput_any 10 a _ htena (by omega) (by omega)).mono ?_; rintro e w7 ⟨A7, c7, rfl, ho7, hb7⟩) | (at_builtin; (refine wpList_app rfl _ _ 46 rfl (w.heap.size + 1) 5 i0 (.int .u8 0) 1 1 Tryz.underlying46 hi0 hz0 hz1 hz2 rfl (by decide) (.slice A9 n9 c9) n9 _ rfl (own_below ho9 hb7 (own_lt ho9)) w7.heap.size A7 (enc a).length c7 (bs (enc a)) rfl (Rd.own ho7) (bs_one _) (by omega) (by omega) (by have := hb7.size; omega) ?_); intro v8 w8 ho8 hs8; rw [← bs_append] at ho8; obtain ⟨A8, c8, rfl, _⟩ := own_form ho8))
      have hst := HST.out _ _ _ _ _ hbl9 hb7 (own_ge ho9) hs8
      go_meet
      exact ⟨A8, _, c8, l9 ++ enc a, rfl, Lib_hid (by rw [H9.out, if_pos HC.out]), by omega, ho8, hst⟩
    · have hd1 : d1 = false := by rw [← hd]; exact decide_eq_false hc
      subst hd1
      have HC := Lib_hid hc
      clear hc
      go_wp2_with fail
      go_meet
      exact ⟨A9, n9, c9, l9, rfl, Lib_hid (by rw [H9.out, if_neg HC.out, List.append_nil]), by omega, ho9, hbl9⟩
  case rest =>
  clear b0 b1 b2 b3 bz H9 hq9 ho9 hbl9
  obtain ⟨A9, n9, c9, l9, rfl, H9, hq9, ho9, hbl9⟩ := hcut
  obtain ⟨b0, b1, b2, b3, bz⟩ := HBC.out _ hbl9
  clear hd
  go_upto_if 24 with (fail)
  go_cut [3] from 24 to 29 (fun out W => ∃ (A9 : Option Addr) (n9 c9 : Nat) (l : List Nat), out = .slice A9 n9 c9 ∧ Hid (l = [kn] ++ (if 2 ≤ kn ∧ kn ≤ 4 then enc a else []) ++ (if kn = 4 then enc b else [])) ∧ n9 ≤ 21 ∧ W.ownsRow (w.heap.size + 1) 5 1 (.slice A9 n9 c9) n9 (bs l) ∧ Below (w.heap.size + 1) w1 W)
  case first =>
    by_cases hc : kn = 4
    · have hb4 : ((kn : Int) == 4) = true := by simp; omega
      have HC := Lib_hid hc
      clear hc
      go_wp2_with (first | (go_at_call 73; refine (rput_any 10 b _ htenb (by omega) (by omega)).mono ?_; rintro e w7 ⟨A7, c7, rfl, ho7, hb7⟩) | (at_builtin; (refine wpList_app rfl _ _ 46 rfl (w.heap.size + 1) 5 i0 (.int .u8 0) 1 1 Tryz.underlying46 hi0 hz0 hz1 hz2 rfl (by decide) (.slice A9 n9 c9) n9 _ rfl (own_below ho9 hb7 (own_lt ho9)) w7.heap.size A7 (enc b).length c7 (bs (enc b)) rfl (Rd.own ho7) (bs_one _) (by omega) (by omega) (by have := hb7.size; omega) ?_); intro v8 w8 ho8 hs8; rw [← bs_append] at ho8; obtain ⟨A8, c8, rfl, _⟩ := own_form ho8))
      have hst := HST.out _ _ _ _ _ hbl9 hb7 (own_ge ho9) hs8
      go_meet
      exact ⟨A8, _, c8, l9 ++ enc b, rfl, Lib_hid (by rw [H9.out, if_pos HC.out]), by omega, ho8, hst⟩
    · have hb4 : ((kn : Int) == 4) = false := by simp; omega
      have HC := Lib_hid hc
      clear hc
      go_wp2_with fail
      go_meet
      exact ⟨A9, n9, c9, l9, rfl, Lib_hid (by rw [H9.out, if_neg HC.out, List.append_nil]), by omega, ho9, hbl9⟩
  case rest =>
  clear b0 b1 b2 b3 bz H9 hq9 ho9 hbl9
  obtain ⟨A9, n9, c9, l9, rfl, H9, hq9, ho9, hbl9⟩ := hcut
  obtain ⟨b0, b1, b2, b3, bz⟩ := HBC.out _ hbl9
  go_upto_if 32 with (fail)
  go_cut [3] from 32 to 39 (fun out W => ∃ (A9 : Option Addr) (n9 c9 : Nat) (l : List Nat), out = .slice A9 n9 c9 ∧ Hid (l = [kn] ++ (if 2 ≤ kn ∧ kn ≤ 4 then enc a else []) ++ (if kn = 4 then enc b else []) ++ (if 6 ≤ kn then enc ps.length else [])) ∧ n9 ≤ 31 ∧ W.ownsRow (w.heap.size + 1) 5 1 (.slice A9 n9 c9) n9 (bs l) ∧ Below (w.heap.size + 1) w1 W)
  case first =>
    by_cases hc : 6 ≤ kn
    · have hb4 : (6 : Int) ≤ (kn : Int) := by omega
      have HC := Lib_hid hc
      clear hc
      go_wp2_with (first | (go_at_call 73; refine (rput_any 10 ps.length _ htenn (by omega) (by omega)).mono ?_; rintro e w7 ⟨A7, c7, rfl, ho7, hb7⟩) | (at_builtin; (refine wpList_app rfl _ _ 46 rfl (w.heap.size + 1) 5 i0 (.int .u8 0) 1 1 Tryz.underlying46 hi0 hz0 hz1 hz2 rfl (by decide) (.slice A9 n9 c9) n9 _ rfl (own_below ho9 hb7 (own_lt ho9)) w7.heap.size A7 (enc ps.length).length c7 (bs (enc ps.length)) rfl (Rd.own ho7) (bs_one _) (by omega) (by omega) (by have := hb7.size; omega) ?_); intro v8 w8 ho8 hs8; rw [← bs_append] at ho8; obtain ⟨A8, c8, rfl, _⟩ := own_form ho8))
      have hst := HST.out _ _ _ _ _ hbl9 hb7 (own_ge ho9) hs8
      go_meet
      exact ⟨A8, _, c8, l9 ++ enc ps.length, rfl, Lib_hid (by rw [H9.out, if_pos HC.out]), by omega, ho8, hst⟩
    · have hb4 : ¬ (6 : Int) ≤ (kn : Int) := by omega
      have hb5 : (kn : Int) < 6 := by omega
      have HC := Lib_hid hc
      clear hc
      go_wp2_with fail
      go_meet
      exact ⟨A9, n9, c9, l9, rfl, Lib_hid (by rw [H9.out, if_neg HC.out, List.append_nil]), by omega, ho9, hbl9⟩
  case rest =>
  clear b0 b1 b2 b3 bz H9 hq9 ho9 hbl9
  obtain ⟨A9, n9, c9, l9, rfl, H9, hq9, ho9, hbl9⟩ := hcut
  obtain ⟨b0, b1, b2, b3, bz⟩ := HBC.out _ hbl9
  have HPRE : Hid (res = l9 ++ T.standL (V.absL ps)) := by
    unfold Hid
    rw [HS.out, H9.out]
    have hk7 : kn = 1 ∨ kn = 2 ∨ kn = 3 ∨ kn = 4 ∨ kn = 5 ∨ kn = 6 ∨ kn = 7 := by omega
    rcases hk7 with rfl | rfl | rfl | rfl | rfl | rfl | rfl <;> simp [numsL, numN]
  have HPB : Hid (∀ i, i ≤ ps.length → (T.standL (V.absL (ps.take i))).length ≤ 31 * T.countL (V.absL (ps.take i))) := by
    intro i
    induction i with
    | zero => intro _; simp [V.absL, T.standL]
    | succ i ih =>
      intro hi
      obtain ⟨p, hp⟩ : ∃ p, ps[i]? = some p := ⟨_, List.getElem?_eq_getElem (by omega)⟩
      rw [standL_take hp, countL_take hp, List.length_append]
      have h1 := ih (by omega)
      have h2 := stand_len p (HL.out.part (List.mem_of_getElem? hp))
      omega
  have HO9 := Lib_hid ho9
  have HBB := Lib_hid hbl9
  have hnl : n9 = l9.length := by have := ho9.1; rw [bs_length] at this; omega
  clear H9 HS ho9 hbl9 b0 b1 b2 b3 bz
  go_wp2
  go_loopw [3, 4] (fun bv z W => ∃ (i n' : Nat) (A'' : Option Addr) (c'' : Nat), z = .int .i64 i ∧ bv = .slice A'' n' c'' ∧ i ≤ ps.length ∧ Hid (W.ownsRow (w.heap.size + 1) 5 1 (.slice A'' n' c'') n' (bs (l9 ++ T.standL (V.absL (ps.take i))))) ∧ Hid (Below (w.heap.size + 1) w1 W)) (fun _ z _ => ps.length - (intOf z).toNat)
  case atStart => exact ⟨0, n9, A9, c9, rfl, rfl, Nat.zero_le _, by simpa [V.absL, T.standL] using HO9, HBB⟩
  case round =>
    obtain ⟨i, n', A'', c'', rfl, rfl, hi1, ho, hbw⟩ := hrel
    rename World => W
    obtain ⟨-, -, -, b3, bz⟩ := HBC.out _ hbw.out
    by_cases hlt : i < ps.length
    · have hw1w : Below w.heap.size w W := hb0.trans (hbw.out.mono (by omega))
      obtain ⟨bb, off, p, rfl, hbb, hlb, hp, hLp, d0, d1, d2, d3⟩ := (HL.out.under (hw1w.mono hhi)).nth hlt
      have CH := IH.out i p hp W hLp (by omega)
      have hnl2 : n' = l9.length + (T.standL (V.absL (ps.take i))).length := by have := ho.out.1; rw [bs_length, List.length_append] at this; omega
      have hpb := HPB.out i (by omega)
      have hpl := stand_len p hLp
      have hcl2 := count_le hp
      have hp1 : n' + p.abs.stand.length ≤ maxLen := by omega
      have hp2 : (n' + p.abs.stand.length) * 1 ≤ 140737488355328 := by omega
      clear hnl2
      have HPP := Lib_hid hp
      have hps : p.sl = .slice p.addr p.parts.length p.cap := rfl
      rw [hps] at d3
      clear hLp hp hps hw1w
      generalize p.addr = pA at *
      generalize p.cap = pc at *
      generalize p.parts.length = pl at *
      go_wp2_with (first | (go_at_call 74; refine CH.mono ?_; rintro e w7 ⟨A7, c7, rfl, ho7, hb7⟩) | (at_builtin; (refine wpList_app rfl _ _ 46 rfl (w.heap.size + 1) 5 i0 (.int .u8 0) 1 1 Tryz.underlying46 hi0 hz0 hz1 hz2 rfl (by decide) (.slice A'' n' c'') n' _ rfl (own_below ho.out hb7 (own_lt ho.out)) w7.heap.size A7 p.abs.stand.length c7 (bs p.abs.stand) rfl (Rd.own ho7) (bs_one _) hp1 hp2 (by have := hb7.size; omega) ?_); intro v8 w8 ho8 hs8; rw [← bs_append] at ho8; obtain ⟨A8, c8, rfl, _⟩ := own_form ho8))
      have HB8 := Lib_hid (HST.out _ _ _ _ _ hbw.out hb7 (own_ge ho.out) hs8)
      rw [List.append_assoc, ← standL_take HPP.out] at ho8
      have HO8 := Lib_hid ho8
      clear ho8 hs8 hb7 ho7 CH d0 d1 d2 d3
      go_wp2
      go_roundw
      case rel => exact ⟨i + 1, _, A8, c8, by go_num, rfl, by omega, HO8, HB8⟩
      case measure => simp [intOf]; omega
    · obtain rfl : i = ps.length := by omega
      have HF : Hid (Made 5 res w (.returned (.slice A'' n' c'')) W) := by
        have h1 := ho.out
        rw [List.take_length, ← HPRE.out] at h1
        exact made_iff.2 ⟨A'', n', c'', rfl, own_base h1 fun k hk => by have := own_ge h1 k hk; omega, hb0.trans (hbw.out.mono (by omega))⟩
      go_wp2
      go_ret
      exact HF.out

end Go.Proofs.YtbcadnkdehknoaaGreatDoor
