/-
  Layer 4: the document's told, and Text.
  A number of one digit, as it is told.
  Layer 4: the document's value.
  Layer 4: what a text is read as, plainly. No program is named here, but the words.
  Layer 4: four cells at a block's head, written. No program is named here.
-/
import Derived.Test.YtiiiklenhmhccaaGreatDoorZpTdg
import Derived.BigQuiet
import Derived.Test.YtiiiklenhmhccaaGreatDoorZpTqb
import Derived.Test.YtiiiklenhmhccaaGreatDoorZpTkd
import Derived.Lib.SmallJoins

namespace Go.Proofs.YtiiiklenhmhccaaGreatDoor
open Go Go.RowKit
set_option linter.unusedVariables false
theorem tell_small {k : Int} {a b : Nat} {ps : List T} (h : fitsB k a b ps.length = true) (hk : 1 ≤ k ∧ k ≤ 4) : (T.node k a b ps).tell = wordL k.toNat ++ Lib.join ((numsL k a b).map Lib.decDigits) [61] := by
  have hp : ps = [] := by
    refine List.eq_nil_of_length_eq_zero ?_
    unfold fitsB at h
    split at h
    · exact (of_decide_eq_true h).2.2
    split at h
    · exact (of_decide_eq_true h).2
    split at h
    · exact (of_decide_eq_true h).2
    omega
  subst hp
  rw [T.tell, if_neg (by omega)]
  simp [T.tellL, Lib.join_nil]
theorem tell_1 {a b : Nat} {ps : List T} (h : fitsB 1 a b ps.length = true) : (T.node 1 a b ps).tell = [97, 108, 108] := by
  rw [tell_small h (by omega)]; rfl
theorem tell_2 {a b : Nat} {ps : List T} (h : fitsB 2 a b ps.length = true) : (T.node 2 a b ps).tell = [120, 60, 61] ++ Lib.decDigits a := by
  rw [tell_small h (by omega)]
  show [120, 60, 61] ++ Lib.join [Lib.decDigits a] [61] = _
  rw [Lib.join_one]
theorem tell_3 {a b : Nat} {ps : List T} (h : fitsB 3 a b ps.length = true) : (T.node 3 a b ps).tell = [118, 60, 61] ++ Lib.decDigits a := by
  rw [tell_small h (by omega)]
  show [118, 60, 61] ++ Lib.join [Lib.decDigits a] [61] = _
  rw [Lib.join_one]
theorem tell_4 {a b : Nat} {ps : List T} (h : fitsB 4 a b ps.length = true) : (T.node 4 a b ps).tell = [118, 37] ++ Lib.decDigits a ++ [61] ++ Lib.decDigits b := by
  rw [tell_small h (by omega)]
  show [118, 37] ++ Lib.join [Lib.decDigits a, Lib.decDigits b] [61] = _
  rw [Lib.join_cons]
  simp [Lib.joinTail]
theorem tell_5 {a b : Nat} {p : T} : (T.node 5 a b [p]).tell = [33] ++ p.tell := by
  rw [T.tell, if_neg (by omega), T.tellL, T.tellL, Lib.join_one]
  show [33] ++ Lib.join [] [61] ++ p.tell = _
  simp [Lib.join_nil]
theorem tell_67 {k : Int} {a b : Nat} {ps : List T} (hk : k = 6 ∨ k = 7) : (T.node k a b ps).tell = [if k = 7 then 124 else 38, 40] ++ Lib.join (T.tellL ps) [44] ++ [41] := by
  rw [T.tell, if_pos (by omega)]
  rcases hk with rfl | rfl
  · show [38] ++ Lib.join [] [61] ++ _ = [38, 40] ++ _ ++ _
    simp [Lib.join_nil]
  · show [124] ++ Lib.join [] [61] ++ _ = [124, 40] ++ _ ++ _
    simp [Lib.join_nil]
set_option maxRecDepth 100000 in
set_option maxHeartbeats 3200000 in
theorem rtold_any : ∀ (v : V) (w : World) (lo hi : Nat), Lies w lo hi v → hi ≤ w.heap.size → v.abs.allB = true → v.abs.count ≤ 1000 →
    Calls Tryz.prog 77 #[v.val] w fun e w' => e = .returned (.string ⟨v.abs.tell.toArray⟩) ∧ Below w.heap.size w w' := by
  refine V.ind fun k a b A c ps ih w lo hi hL hhi hall hct => ?_
  obtain ⟨hcl, hcap', hkr, ha, hb⟩ := hL.caps
  rw [V.all_node, Bool.and_eq_true] at hall
  have hk : k = 1 ∨ k = 2 ∨ k = 3 ∨ k = 4 ∨ k = 5 ∨ k = 6 ∨ k = 7 := by
    have := hall.2
    unfold fitsB at this
    split at this; omega
    split at this; omega
    split at this; omega
    split at this; omega
    split at this; omega
    cases this
  have hlc : ps.length ≤ 1000 := by rw [V.count_node] at hct; have := length_le_countL (V.absL ps); rw [absL_length] at this; omega
  have HA : Hid (∀ (i : Nat) (p : V), ps[i]? = some p → p.abs.allB = true) := fun i p hp => by
    cases h : p.abs.allB with
    | true => rfl
    | false => rw [allL_bad hp h] at hall; cases hall.1
  have IH : Hid (∀ (i : Nat) (p : V), ps[i]? = some p → ∀ W, Below w.heap.size w W → Calls Tryz.prog 77 #[.agg #[.int .i64 p.kind, .int .u64 (p.a : Int), .int .u64 (p.b : Int), .slice p.addr p.parts.length p.cap]] W fun e w' => e = .returned (.string ⟨p.abs.tell.toArray⟩) ∧ Below W.heap.size W w') := fun i p hp W hW =>
    ih p (List.mem_of_getElem? hp) W lo hi ((hL.part (List.mem_of_getElem? hp)).under (hW.mono hhi)) (by have := hW.size; omega) (HA.out i p hp) (hL.small hct hp).1
  rw [V.count_node] at hct
  have hfit : fitsB k a b (V.absL ps).length = true := by rw [absL_length]; exact hall.2
  have HPL : Hid (∀ i (p : V), ps[i]? = some p → p.abs.tell.length ≤ 50000) := fun i p hp => by
    have h1 := tell_len p (hL.part (List.mem_of_getElem? hp))
    have h2 := count_le hp
    omega
  have HJL : Hid (∀ i, (Lib.join (T.tellL (V.absL (ps.take i))) [44]).length ≤ 50000) := fun i => by
    have h1 := tells_join (l := ps.take i) (sep := [44]) (by decide) (tells_sum (w := w) (lo := lo) (hi := hi) _ fun p hp => tell_len p (hL.part (List.mem_of_mem_take hp)))
    have h2 := countL_le_take ps i
    omega
  have HL : Hid (∀ W, Below w.heap.size w W → Lies W lo hi (.node k a b A c ps)) := fun W hW => hL.under (hW.mono hhi)
  have DA := rdigits_any a
  have DB := rdigits_any b
  have hda : (Lib.decDigits a).length ≤ 20 := by rw [Lib.decDigits_length]; exact Lib.nDigits_le20 a ha
  have hdb : (Lib.decDigits b).length ≤ 20 := by rw [Lib.decDigits_length]; exact Lib.nDigits_le20 b hb
  have hbx := heap_alloc_new w (.cells #[.int .i64 k, .int .u64 (a : Int), .int .u64 (b : Int), .slice A ps.length c] 36)
  have hb0 := below_new w (.cells #[.int .i64 k, .int .u64 (a : Int), .int .u64 (b : Int), .slice A ps.length c] 36)
  have hT : Hid ((V.node k a b A c ps).abs = .node k a b (V.absL ps)) := by unfold Hid; rw [V.abs]
  have hsx : (w.alloc (.cells #[.int .i64 k, .int .u64 (a : Int), .int .u64 (b : Int), .slice A ps.length c] 36)).heap.size = w.heap.size + 1 := by simp
  clear ih hL hct
  simp only [V.val, V.kind, V.a, V.b, V.sl, V.addr, V.parts, V.cap]
  rw [hT.out]
  clear hT
  rcases hk with rfl | rfl | rfl | rfl | rfl | h67
  · have HX : Hid (Ending.returned (.string ⟨#[97, 108, 108]⟩) = .returned (.string ⟨(T.node 1 a b (V.absL ps)).tell.toArray⟩)) := by unfold Hid; rw [tell_1 hfit]
    generalize (T.node 1 a b (V.absL ps)).tell = res at *
    clear hfit hall DA DB
    go_enter Tryz.func77, Tryz.ntmps77
    go_wp2_with fail
    go_ret
    exact ⟨HX.out, hb0⟩
  · have HX : Hid (Ending.returned (.string (⟨#[120, 60, 61]⟩ ++ ⟨(Lib.decDigits a).toArray⟩)) = .returned (.string ⟨(T.node 2 a b (V.absL ps)).tell.toArray⟩)) := by
      unfold Hid; rw [tell_2 hfit, show (⟨#[120, 60, 61]⟩ : ByteArray) = ⟨[(120 : UInt8), 60, 61].toArray⟩ from rfl, bcat]
    generalize (T.node 2 a b (V.absL ps)).tell = res at *
    generalize Lib.decDigits a = da at *
    have hz1 : ¬ 9223372036854775807 < 3 + da.length := by omega
    clear hfit hall DB
    go_enter Tryz.func77, Tryz.ntmps77
    go_wp2_with fail
    refine (DA _ ha).mono ?_
    rintro e w1 ⟨rfl, rfl⟩
    go_wp2_with fail
    go_ret
    exact ⟨HX.out, hb0⟩
  · have HX : Hid (Ending.returned (.string (⟨#[118, 60, 61]⟩ ++ ⟨(Lib.decDigits a).toArray⟩)) = .returned (.string ⟨(T.node 3 a b (V.absL ps)).tell.toArray⟩)) := by
      unfold Hid; rw [tell_3 hfit, show (⟨#[118, 60, 61]⟩ : ByteArray) = ⟨[(118 : UInt8), 60, 61].toArray⟩ from rfl, bcat]
    generalize (T.node 3 a b (V.absL ps)).tell = res at *
    generalize Lib.decDigits a = da at *
    have hz1 : ¬ 9223372036854775807 < 3 + da.length := by omega
    clear hfit hall DB
    go_enter Tryz.func77, Tryz.ntmps77
    go_wp2_with fail
    refine (DA _ ha).mono ?_
    rintro e w1 ⟨rfl, rfl⟩
    go_wp2_with fail
    go_ret
    exact ⟨HX.out, hb0⟩
  · have HX : Hid (Ending.returned (.string (⟨#[118, 37]⟩ ++ ⟨(Lib.decDigits a).toArray⟩ ++ ⟨#[61]⟩ ++ ⟨(Lib.decDigits b).toArray⟩)) = .returned (.string ⟨(T.node 4 a b (V.absL ps)).tell.toArray⟩)) := by
      unfold Hid; rw [tell_4 hfit, show (⟨#[118, 37]⟩ : ByteArray) = ⟨[(118 : UInt8), 37].toArray⟩ from rfl, show (⟨#[61]⟩ : ByteArray) = ⟨[(61 : UInt8)].toArray⟩ from rfl, bcat, bcat, bcat]
    generalize (T.node 4 a b (V.absL ps)).tell = res at *
    have hz1 : ¬ 9223372036854775807 < 2 + (Lib.decDigits a).length := by omega
    have hz2 : ¬ 9223372036854775807 < 2 + (Lib.decDigits a).length + 1 := by omega
    have hz3 : ¬ 9223372036854775807 < 2 + (Lib.decDigits a).length + 1 + (Lib.decDigits b).length := by omega
    obtain ⟨w1, hw1⟩ : ∃ w1, w1 = w.alloc (.cells #[.int .i64 4, .int .u64 (a : Int), .int .u64 (b : Int), .slice A ps.length c] 36) := ⟨_, rfl⟩
    rw [← hw1] at hbx hb0 hsx
    have e1 := cell_of_row w1 _ 1 _ _ _ hbx
    have e2 := cell_of_row w1 _ 2 _ _ _ hbx
    simp at e1 e2
    subst hw1
    clear hfit hall
    go_enter Tryz.func77, Tryz.ntmps77
    go_upto_region 9 with (fail)
    have HB0 := Lib_hid hb0
    clear hb0 hbx
    generalize w.alloc (.cells #[.int .i64 4, .int .u64 (a : Int), .int .u64 (b : Int), .slice A ps.length c] 36) = w1 at *
    have DD : Hid (∀ n : Nat, n < 18446744073709551616 → ∀ k, Calls Tryz.prog 46 #[.int .u64 (n : Int)] (w1.drewN k) fun e w' => e = .returned (.string ⟨(Lib.decDigits n).toArray⟩) ∧ ∃ q, w' = w1.drewN q) := fun n hn k => (rdigits_any n _ hn).mono fun e w' h => ⟨h.1, k, h.2⟩
    clear DA DB
    go_quiet ((go_at_call 46; exact DD.out _ (by assumption) _))
    go_wp2_with fail
    go_ret
    exact ⟨HX.out, below_drew_ HB0.out⟩
  · obtain ⟨p, rfl⟩ : ∃ p, ps = [p] := by
      have h1 := hall.2
      unfold fitsB at h1
      rw [if_neg (by omega), if_neg (by omega), if_neg (by omega), if_pos rfl] at h1
      have h2 := (of_decide_eq_true h1).2.2
      match ps, h2 with
      | [p], _ => exact ⟨p, rfl⟩
    have HX : Hid (Ending.returned (.string (⟨#[33]⟩ ++ ⟨p.abs.tell.toArray⟩)) = .returned (.string ⟨(T.node 5 a b (V.absL [p])).tell.toArray⟩)) := by
      unfold Hid; rw [V.absL, V.absL, tell_5, show (⟨#[33]⟩ : ByteArray) = ⟨[(33 : UInt8)].toArray⟩ from rfl, bcat]
    generalize (T.node 5 a b (V.absL [p])).tell = res at *
    have CH := IH.out 0 p rfl _ hb0
    have hpl := HPL.out 0 p rfl
    obtain ⟨bb, off, p', rfl, hbb, hlb, hp, hLp, d0, d1, d2, d3⟩ := (HL.out _ hb0).nth (i := 0) (by simp)
    obtain rfl : p = p' := by simpa using hp
    have hps : p.sl = .slice p.addr p.parts.length p.cap := rfl
    rw [hps] at d3
    simp at d0 d1 d2 d3
    generalize p.abs.tell = dd at *
    have hz1 : ¬ 9223372036854775807 < 1 + dd.length := by omega
    generalize p.addr = pA at *
    generalize p.cap = pc at *
    generalize p.parts.length = pl at *
    generalize p.kind = pk at *
    generalize (p.a : Int) = pa at *
    generalize (p.b : Int) = pb2 at *
    have HB0 := Lib_hid hb0
    clear hfit hall DA DB hp hps hLp IH HL HA HPL HJL hb0
    simp only [List.length_cons, List.length_nil, Nat.zero_add] at d0 d1 d2 d3 CH hbx ⊢
    go_enter Tryz.func77, Tryz.ntmps77
    go_wp2_with fail
    refine CH.mono ?_
    rintro e w1 ⟨rfl, hb1⟩
    have hbz := HB0.out.trans (hb1.mono HB0.out.size)
    go_wp2_with fail
    go_ret
    exact ⟨HX.out, hbz⟩
  · have hX : (T.node k a b (V.absL ps)).tell = [if k = 7 then 124 else 38, 40] ++ Lib.join (T.tellL (V.absL ps)) [44] ++ [41] := tell_67 h67
    generalize (T.node k a b (V.absL ps)).tell = res at *
    have HX := Lib_hid hX
    clear hfit hall DA DB hX HA hda hdb
    obtain ⟨w1, hw1⟩ : ∃ w1, w1 = w.alloc (.cells #[.int .i64 k, .int .u64 (a : Int), .int .u64 (b : Int), .slice A ps.length c] 36) := ⟨_, rfl⟩
    rw [← hw1] at hbx hb0 hsx
    have e0 := cell_of_row w1 _ 0 _ _ _ hbx
    have e3 := cell_of_row w1 _ 3 _ _ _ hbx
    simp at e0 e3
    have HB0 := Lib_hid (And.intro hb0 hbx)
    clear hb0 hbx
    subst hw1
    go_enter Tryz.func77, Tryz.ntmps77
    go_upto_region 1 with (fail)
    generalize w.alloc (.cells #[.int .i64 k, .int .u64 (a : Int), .int .u64 (b : Int), .slice A ps.length c] 36) = w1 at *
    rcases h67 with rfl | rfl
    · have HXb : Hid (res = [38, 40] ++ Lib.join (T.tellL (V.absL ps)) [44] ++ [41]) := HX
      clear HX
      go_wp2
      go_loopw [3, 4] (fun v z W => ∃ (i : Nat) (X : List UInt8), z = .int .i64 i ∧ i ≤ ps.length ∧ v = .string ⟨X.toArray⟩ ∧ Hid (X = [38, 40] ++ Lib.join (T.tellL (V.absL (ps.take i))) [44]) ∧ X.length ≤ 50002 ∧ Hid (Below w.heap.size w W) ∧ W.heap[w.heap.size]? = some (.cells #[.int .i64 6, .int .u64 (a : Int), .int .u64 (b : Int), .slice A ps.length c] 36 (0, 0))) (fun _ z _ => ps.length - (intOf z).toNat)
      case atStart => exact ⟨0, [38, 40], rfl, Nat.zero_le _, rfl, Lib_hid (by simp [V.absL, T.tellL, Lib.join_nil]), by decide, HB0.out.1, HB0.out.2⟩
      case round =>
        clear e0 e3
        obtain ⟨i, X, rfl, hi1, rfl, hX, hXl, hbW, hqW⟩ := hrel
        rename World => W
        have e3 := cell_of_row W _ 3 _ _ _ hqW
        simp at e3
        by_cases hlt : i < ps.length
        · obtain ⟨bb, off, p, rfl, hbb, hlb, hp, hLp, d0, d1, d2, d3⟩ := (HL.out W hbW.out).nth hlt
          have CH := IH.out i p hp W hbW.out
          have hpl := HPL.out i p hp
          have hjl := HJL.out (i + 1)
          have hps : p.sl = .slice p.addr p.parts.length p.cap := rfl
          rw [hps] at d3
          have hn := join_snoc (T.tellL (V.absL (ps.take i))) p.abs.tell [44]
          rw [← tellL_take hp] at hn
          have hne : (T.tellL (V.absL (ps.take i)) = []) ↔ i = 0 := by
            rw [← List.length_eq_zero_iff, tellL_length, absL_length, List.length_take]
            omega
          have HN := Lib_hid hn
          have HNE := Lib_hid hne
          have HQW := Lib_hid hqW
          clear hp hps hLp hn hne hqW
          generalize p.abs.tell = dd at *
          generalize p.addr = pA at *
          generalize p.cap = pc at *
          generalize p.parts.length = pl at *
          generalize p.kind = pk at *
          generalize (p.a : Int) = pa at *
          generalize (p.b : Int) = pb2 at *
          by_cases h0 : i = 0
          · have hgt : decide ((0 : Int) < (i : Int)) = false := by simp; omega
            have hgt2 : ¬ 0 < i := by omega
            have hgt3 : ¬ (0 : Int) < (i : Int) := by omega
            have hz1 : ¬ 9223372036854775807 < X.length + dd.length := by omega
            have HV : Hid (Value.string (⟨X.toArray⟩ ++ ⟨dd.toArray⟩) = .string ⟨(X ++ dd).toArray⟩) := by unfold Hid; rw [bcat]
            have HNX : Hid (X ++ dd = [38, 40] ++ Lib.join (T.tellL (V.absL (ps.take (i + 1)))) [44]) := by
              unfold Hid
              rw [HN.out, if_pos (HNE.out.2 h0), hX.out]
              simp
            have hl' : (X ++ dd).length ≤ 50002 := by rw [HNX.out]; simp; omega
            clear hX HN HNE hjl h0
            go_wp2_with fail
            refine CH.mono ?_
            rintro e w5 ⟨rfl, hb5⟩
            have hb6 : Hid (Below w.heap.size w w5) := hbW.out.trans (hb5.mono hbW.out.size)
            have hq5 : Hid (w5.heap[w.heap.size]? = _) := (hb5.block _ (Array.getElem?_eq_some_iff.1 HQW.out).1).trans HQW.out
            clear CH hb5 d0 d1 d2 d3 e3
            go_wp2_with fail
            go_roundw
            case rel => exact ⟨i + 1, X ++ dd, by go_num, by omega, HV.out, HNX, hl', hb6, hq5.out⟩
            case measure => simp [intOf]; omega
          · have hgt : decide ((0 : Int) < (i : Int)) = true := by simp; omega
            have hgt2 : 0 < i := by omega
            have hgt3 : (0 : Int) < (i : Int) := by omega
            have hz1 : ¬ 9223372036854775807 < X.length + 1 := by omega
            have hz2 : ¬ 9223372036854775807 < X.length + 1 + dd.length := by omega
            have HV : Hid (Value.string (⟨X.toArray⟩ ++ ⟨#[44]⟩ ++ ⟨dd.toArray⟩) = .string ⟨(X ++ [44] ++ dd).toArray⟩) := by unfold Hid; rw [show (⟨#[44]⟩ : ByteArray) = ⟨[(44 : UInt8)].toArray⟩ from rfl, bcat, bcat]
            have HNX : Hid (X ++ [44] ++ dd = [38, 40] ++ Lib.join (T.tellL (V.absL (ps.take (i + 1)))) [44]) := by
              unfold Hid
              rw [HN.out, if_neg (fun e => h0 (HNE.out.1 e)), hX.out]
              simp [List.append_assoc]
            have hl' : (X ++ [44] ++ dd).length ≤ 50002 := by rw [HNX.out]; simp; omega
            clear hX HN HNE hjl h0
            go_wp2_with fail
            refine CH.mono ?_
            rintro e w5 ⟨rfl, hb5⟩
            have hb6 : Hid (Below w.heap.size w w5) := hbW.out.trans (hb5.mono hbW.out.size)
            have hq5 : Hid (w5.heap[w.heap.size]? = _) := (hb5.block _ (Array.getElem?_eq_some_iff.1 HQW.out).1).trans HQW.out
            clear CH hb5 d0 d1 d2 d3 e3
            go_wp2_with fail
            go_roundw
            case rel => exact ⟨i + 1, X ++ [44] ++ dd, by go_num, by omega, HV.out, HNX, hl', hb6, hq5.out⟩
            case measure => simp [intOf]; omega
        · obtain rfl : i = ps.length := by omega
          rw [List.take_length] at hX
          have HF : Hid (Ending.returned (.string (⟨X.toArray⟩ ++ ⟨#[41]⟩)) = .returned (.string ⟨res.toArray⟩)) := by
            unfold Hid
            rw [HXb.out, ← hX.out, show (⟨#[41]⟩ : ByteArray) = ⟨[(41 : UInt8)].toArray⟩ from rfl, bcat]
          have hz1 : ¬ 9223372036854775807 < X.length + 1 := by omega
          clear hX HXb hqW
          go_wp2_with fail
          go_ret
          exact ⟨HF.out, hbW.out⟩
    · have HXb : Hid (res = [124, 40] ++ Lib.join (T.tellL (V.absL ps)) [44] ++ [41]) := HX
      clear HX
      go_wp2
      go_loopw [3, 4] (fun v z W => ∃ (i : Nat) (X : List UInt8), z = .int .i64 i ∧ i ≤ ps.length ∧ v = .string ⟨X.toArray⟩ ∧ Hid (X = [124, 40] ++ Lib.join (T.tellL (V.absL (ps.take i))) [44]) ∧ X.length ≤ 50002 ∧ Hid (Below w.heap.size w W) ∧ W.heap[w.heap.size]? = some (.cells #[.int .i64 7, .int .u64 (a : Int), .int .u64 (b : Int), .slice A ps.length c] 36 (0, 0))) (fun _ z _ => ps.length - (intOf z).toNat)
      case atStart => exact ⟨0, [124, 40], rfl, Nat.zero_le _, rfl, Lib_hid (by simp [V.absL, T.tellL, Lib.join_nil]), by decide, HB0.out.1, HB0.out.2⟩
      case round =>
        clear e0 e3
        obtain ⟨i, X, rfl, hi1, rfl, hX, hXl, hbW, hqW⟩ := hrel
        rename World => W
        have e3 := cell_of_row W _ 3 _ _ _ hqW
        simp at e3
        by_cases hlt : i < ps.length
        · obtain ⟨bb, off, p, rfl, hbb, hlb, hp, hLp, d0, d1, d2, d3⟩ := (HL.out W hbW.out).nth hlt
          have CH := IH.out i p hp W hbW.out
          have hpl := HPL.out i p hp
          have hjl := HJL.out (i + 1)
          have hps : p.sl = .slice p.addr p.parts.length p.cap := rfl
          rw [hps] at d3
          have hn := join_snoc (T.tellL (V.absL (ps.take i))) p.abs.tell [44]
          rw [← tellL_take hp] at hn
          have hne : (T.tellL (V.absL (ps.take i)) = []) ↔ i = 0 := by
            rw [← List.length_eq_zero_iff, tellL_length, absL_length, List.length_take]
            omega
          have HN := Lib_hid hn
          have HNE := Lib_hid hne
          have HQW := Lib_hid hqW
          clear hp hps hLp hn hne hqW
          generalize p.abs.tell = dd at *
          generalize p.addr = pA at *
          generalize p.cap = pc at *
          generalize p.parts.length = pl at *
          generalize p.kind = pk at *
          generalize (p.a : Int) = pa at *
          generalize (p.b : Int) = pb2 at *
          by_cases h0 : i = 0
          · have hgt : decide ((0 : Int) < (i : Int)) = false := by simp; omega
            have hgt2 : ¬ 0 < i := by omega
            have hgt3 : ¬ (0 : Int) < (i : Int) := by omega
            have hz1 : ¬ 9223372036854775807 < X.length + dd.length := by omega
            have HV : Hid (Value.string (⟨X.toArray⟩ ++ ⟨dd.toArray⟩) = .string ⟨(X ++ dd).toArray⟩) := by unfold Hid; rw [bcat]
            have HNX : Hid (X ++ dd = [124, 40] ++ Lib.join (T.tellL (V.absL (ps.take (i + 1)))) [44]) := by
              unfold Hid
              rw [HN.out, if_pos (HNE.out.2 h0), hX.out]
              simp
            have hl' : (X ++ dd).length ≤ 50002 := by rw [HNX.out]; simp; omega
            clear hX HN HNE hjl h0
            go_wp2_with fail
            refine CH.mono ?_
            rintro e w5 ⟨rfl, hb5⟩
            have hb6 : Hid (Below w.heap.size w w5) := hbW.out.trans (hb5.mono hbW.out.size)
            have hq5 : Hid (w5.heap[w.heap.size]? = _) := (hb5.block _ (Array.getElem?_eq_some_iff.1 HQW.out).1).trans HQW.out
            clear CH hb5 d0 d1 d2 d3 e3
            go_wp2_with fail
            go_roundw
            case rel => exact ⟨i + 1, X ++ dd, by go_num, by omega, HV.out, HNX, hl', hb6, hq5.out⟩
            case measure => simp [intOf]; omega
          · have hgt : decide ((0 : Int) < (i : Int)) = true := by simp; omega
            have hgt2 : 0 < i := by omega
            have hgt3 : (0 : Int) < (i : Int) := by omega
            have hz1 : ¬ 9223372036854775807 < X.length + 1 := by omega
            have hz2 : ¬ 9223372036854775807 < X.length + 1 + dd.length := by omega
            have HV : Hid (Value.string (⟨X.toArray⟩ ++ ⟨#[44]⟩ ++ ⟨dd.toArray⟩) = .string ⟨(X ++ [44] ++ dd).toArray⟩) := by unfold Hid; rw [show (⟨#[44]⟩ : ByteArray) = ⟨[(44 : UInt8)].toArray⟩ from rfl, bcat, bcat]
            have HNX : Hid (X ++ [44] ++ dd = [124, 40] ++ Lib.join (T.tellL (V.absL (ps.take (i + 1)))) [44]) := by
              unfold Hid
              rw [HN.out, if_neg (fun e => h0 (HNE.out.1 e)), hX.out]
              simp [List.append_assoc]
            have hl' : (X ++ [44] ++ dd).length ≤ 50002 := by rw [HNX.out]; simp; omega
            clear hX HN HNE hjl h0
            go_wp2_with fail
            refine CH.mono ?_
            rintro e w5 ⟨rfl, hb5⟩
            have hb6 : Hid (Below w.heap.size w w5) := hbW.out.trans (hb5.mono hbW.out.size)
            have hq5 : Hid (w5.heap[w.heap.size]? = _) := (hb5.block _ (Array.getElem?_eq_some_iff.1 HQW.out).1).trans HQW.out
            clear CH hb5 d0 d1 d2 d3 e3
            go_wp2_with fail
            go_roundw
            case rel => exact ⟨i + 1, X ++ [44] ++ dd, by go_num, by omega, HV.out, HNX, hl', hb6, hq5.out⟩
            case measure => simp [intOf]; omega
        · obtain rfl : i = ps.length := by omega
          rw [List.take_length] at hX
          have HF : Hid (Ending.returned (.string (⟨X.toArray⟩ ++ ⟨#[41]⟩)) = .returned (.string ⟨res.toArray⟩)) := by
            unfold Hid
            rw [HXb.out, ← hX.out, show (⟨#[41]⟩ : ByteArray) = ⟨[(41 : UInt8)].toArray⟩ from rfl, bcat]
          have hz1 : ¬ 9223372036854775807 < X.length + 1 := by omega
          clear hX HXb hqW
          go_wp2_with fail
          go_ret
          exact ⟨HF.out, hbW.out⟩
set_option maxRecDepth 100000 in
set_option maxHeartbeats 1600000 in
theorem rtext_any (v : V) (w : World) (lo hi : Nat) (hL : Lies w lo hi v) (hhi : hi ≤ w.heap.size) (hct : v.abs.count ≤ 1000) :
    Calls Tryz.prog 47 #[v.val] w fun e w' => e = .returned (.string ⟨v.abs.text.toArray⟩) ∧ Below w.heap.size w w' := by
  have hbx := heap_alloc_new w (.cells #[.int .i64 v.kind, .int .u64 (v.a : Int), .int .u64 (v.b : Int), v.sl] 36)
  have hb0 := below_new w (.cells #[.int .i64 v.kind, .int .u64 (v.a : Int), .int .u64 (v.b : Int), v.sl] 36)
  have hhi1 : hi ≤ (w.alloc (.cells #[.int .i64 v.kind, .int .u64 (v.a : Int), .int .u64 (v.b : Int), v.sl] 36)).heap.size := by have := hb0.size; omega
  have RR := rright_any v _ lo hi (hL.under (hb0.mono hhi)) hhi1 hct
  have hTx : Hid (v.abs.text = if v.abs.rightB then v.abs.tell else []) := rfl
  have SS : Hid (∀ W, Below w.heap.size w W → v.abs.rightB = true → Calls Tryz.prog 77 #[v.val] W fun e w' => e = .returned (.string ⟨v.abs.tell.toArray⟩) ∧ Below W.heap.size W w') := fun W hW hr =>
    rtold_any v W lo hi (hL.under (hW.mono hhi)) (by have := hW.size; omega) (right_all hr).1 hct
  have e0 := cell_of_row (w.alloc (.cells #[.int .i64 v.kind, .int .u64 (v.a : Int), .int .u64 (v.b : Int), v.sl] 36)) _ 0 _ _ _ hbx
  simp only [V.val, V.sl] at RR SS hbx hb0 ⊢
  generalize v.abs.text = res at *
  generalize v.abs.tell = st at *
  generalize v.abs.rightB = r at *
  generalize v.kind = x0 at *
  generalize (v.a : Int) = x1 at *
  generalize (v.b : Int) = x2 at *
  generalize v.addr = pA at *
  generalize v.parts.length = pn at *
  generalize v.cap = pc at *
  clear e0 hL hhi1 hct
  go_enter Tryz.func47, Tryz.ntmps47
  go_wp2_with fail
  refine RR.mono ?_
  rintro e w1 ⟨rfl, hb1⟩
  have hbw := hb0.trans (hb1.mono hb0.size)
  have hx1 := (hb1.block w.heap.size (by simp)).trans hbx
  have c0 := cell_of_row w1 _ 0 _ _ _ hx1
  have c1 := cell_of_row w1 _ 1 _ _ _ hx1
  have c2 := cell_of_row w1 _ 2 _ _ _ hx1
  have c3 := cell_of_row w1 _ 3 _ _ _ hx1
  simp at c0 c1 c2 c3
  clear hbx hb0 hb1 hx1 RR
  cases r with
  | true =>
    have CS := SS.out w1 hbw rfl
    have HP : Hid (res = st) := hTx.out.trans (if_pos rfl)
    clear hTx
    go_wp2_with fail
    refine CS.mono ?_
    rintro e w2 ⟨rfl, hb2⟩
    have HF : Hid (Below w.heap.size w w2) := hbw.trans (hb2.mono hbw.size)
    have HX : Hid (Ending.returned (.string ⟨st.toArray⟩) = .returned (.string ⟨res.toArray⟩)) := by rw [HP.out]; exact Lib_hid rfl
    clear CS hb2
    go_wp2
    go_ret
    exact ⟨HX.out, HF.out⟩
  | false =>
    have HF : Hid (res = []) := hTx.out.trans (if_neg (by simp))
    have HX : Hid (Ending.returned (.string ⟨#[]⟩) = .returned (.string ⟨res.toArray⟩)) := by rw [HF.out]; exact Lib_hid rfl
    clear hTx
    go_wp2
    go_ret
    exact ⟨HX.out, hbw⟩
end Go.Proofs.YtiiiklenhmhccaaGreatDoor

namespace Go.Proofs.YtiiiklenhmhccaaGreatDoor
open Go Go.RowKit
set_option linter.unusedVariables false
theorem dec1 {n : Nat} (h : n < 10) : Lib.decDigits n = [UInt8.ofNat (48 + n)] := by rw [Lib.decDigits, dif_pos h]
end Go.Proofs.YtiiiklenhmhccaaGreatDoor

namespace Go.Proofs.YtiiiklenhmhccaaGreatDoor
open Go Go.RowKit
set_option linter.unusedVariables false
end Go.Proofs.YtiiiklenhmhccaaGreatDoor

namespace Go.Proofs.YtiiiklenhmhccaaGreatDoor
open Go Go.RowKit
set_option linter.unusedVariables false
def numsS : Nat → List UInt8 → Option (List Nat × List UInt8)
  | 0, s => some ([], s)
  | j + 1, s => (numsS j s).bind fun (vs, r) =>
    if j = 0 then (numS r).map fun (v, r') => (vs ++ [v], r')
    else if Lib.hasPrefix r [61] then (numS (Lib.trimPrefix r [61])).map fun (v, r') => (vs ++ [v], r') else none
section
variable (f : List UInt8 → Option (T × List UInt8))
def moreS : Nat → List UInt8 → Option (List T × List UInt8)
  | 0, _ => none
  | n + 1, r => if Lib.hasPrefix r [44] then (f (Lib.trimPrefix r [44])).bind fun (t, r') => (moreS n r').map fun (ts, r2) => (t :: ts, r2)
    else if Lib.hasPrefix r [41] then some ([], Lib.trimPrefix r [41]) else none
def listS (s : List UInt8) : Option (List T × List UInt8) :=
  if Lib.hasPrefix s [40] then
    if Lib.hasPrefix (Lib.trimPrefix s [40]) [41] then some ([], Lib.trimPrefix (Lib.trimPrefix s [40]) [41])
    else (f (Lib.trimPrefix s [40])).bind fun (t, r') => (moreS f (r'.length + 1) r').map fun (ts, r2) => (t :: ts, r2)
  else none
def partsS (k : Nat) (r : List UInt8) : Option (List T × List UInt8) :=
  if k = 5 then (f r).map fun (t, r') => ([t], r') else if 6 ≤ k then listS f r else some ([], r)
end
def rdS : Nat → List UInt8 → Option (T × List UInt8)
  | 0, _ => none
  | d + 1, s => if (kindS s).1 = 0 then none else
    (numsS (numN (kindS s).1) (kindS s).2).bind fun (vs, r1) => (partsS (rdS d) (kindS s).1 r1).map fun (ts, r2) => (.node (kindS s).1 (vs.getD 0 0) (vs.getD 1 0) ts, r2)
theorem trim_le (s x : List UInt8) : (Lib.trimPrefix s x).length ≤ s.length := by
  unfold Lib.trimPrefix
  split
  · rw [List.length_drop]; omega
  · exact Nat.le_refl _
theorem trim_lt {s : List UInt8} {c : UInt8} (h : Lib.hasPrefix s [c] = true) : (Lib.trimPrefix s [c]).length < s.length := by
  have hl : 1 ≤ s.length := by
    unfold Lib.hasPrefix at h
    exact (List.isPrefixOf_iff_prefix.1 h).length_le
  unfold Lib.trimPrefix
  rw [if_pos h, List.length_drop]
  simp
  omega
theorem numsS_len : ∀ (j : Nat) (s : List UInt8) (vs : List Nat) (r : List UInt8), numsS j s = some (vs, r) → vs.length = j ∧ r.length ≤ s.length ∧ ∀ v ∈ vs, v < 18446744073709551616
  | 0, s, vs, r, h => by
    unfold numsS at h
    injection h with h
    injection h with h1 h2
    subst h1 h2
    simp
  | j + 1, s, vs, r, h => by
    unfold numsS at h
    obtain ⟨⟨vs0, r0⟩, h0, h⟩ := Option.bind_eq_some_iff.1 h
    obtain ⟨i1, i2, i3⟩ := numsS_len j s vs0 r0 h0
    have key : ∀ q, q.length ≤ r0.length → ((numS q).map fun (x : Nat × List UInt8) => (vs0 ++ [x.1], x.2)) = some (vs, r) → vs.length = j + 1 ∧ r.length ≤ s.length ∧ ∀ v ∈ vs, v < 18446744073709551616 := by
      intro q hq hm
      obtain ⟨⟨v, r'⟩, hv, he⟩ := Option.map_eq_some_iff.1 hm
      injection he with h1 h2
      subst h1 h2
      obtain ⟨l1, l2⟩ := numS_lt hv
      refine ⟨by simp [i1], by simp only; omega, fun x hx => ?_⟩
      rcases List.mem_append.1 hx with hx | hx
      · exact i3 x hx
      · obtain rfl : x = v := by simpa using hx
        exact l1
    simp only at h
    split at h
    · exact key r0 (Nat.le_refl _) h
    · split at h
      · exact key _ (trim_le _ _) h
      · cases h
theorem moreS_len {f : List UInt8 → Option (T × List UInt8)} (hf : ∀ s t r, f s = some (t, r) → r.length < s.length) : ∀ (n : Nat) (s : List UInt8) (ts : List T) (r : List UInt8), moreS f n s = some (ts, r) → r.length < s.length
  | 0, s, ts, r, h => by cases h
  | n + 1, s, ts, r, h => by
    unfold moreS at h
    split at h
    · rename_i h44
      obtain ⟨⟨t, r'⟩, h1, h⟩ := Option.bind_eq_some_iff.1 h
      obtain ⟨⟨ts', r2⟩, h2, he⟩ := Option.map_eq_some_iff.1 h
      injection he with e1 e2
      subst e1 e2
      have := hf _ _ _ h1
      have := moreS_len hf n r' ts' r2 h2
      have := trim_lt h44
      simp only at *
      omega
    · split at h
      · rename_i h41
        injection h with h
        injection h with e1 e2
        subst e1 e2
        exact trim_lt h41
      · cases h
theorem moreS_fuel {f : List UInt8 → Option (T × List UInt8)} (hf : ∀ s t r, f s = some (t, r) → r.length < s.length) : ∀ (n m : Nat) (s : List UInt8), s.length + 1 ≤ n → s.length + 1 ≤ m → moreS f n s = moreS f m s
  | 0, m, s, h, _ => by omega
  | n + 1, 0, s, _, h => by omega
  | n + 1, m + 1, s, hn, hm => by
    unfold moreS
    split
    · rename_i h44
      have := trim_lt h44
      cases hfs : f (Lib.trimPrefix s [44]) with
      | none => rfl
      | some tr =>
        obtain ⟨t, r⟩ := tr
        have := hf _ _ _ hfs
        simp only [Option.bind_some]
        rw [moreS_fuel hf n m r (by omega) (by omega)]
    · rfl
theorem listS_len {f : List UInt8 → Option (T × List UInt8)} (hf : ∀ s t r, f s = some (t, r) → r.length < s.length) {s : List UInt8} {ts : List T} {r : List UInt8} (h : listS f s = some (ts, r)) : r.length < s.length := by
  unfold listS at h
  split at h
  · rename_i h40
    have := trim_lt h40
    split at h
    · rename_i h41
      injection h with h
      injection h with e1 e2
      subst e1 e2
      have := trim_lt h41
      omega
    · obtain ⟨⟨t, r'⟩, h1, h⟩ := Option.bind_eq_some_iff.1 h
      obtain ⟨⟨ts', r2⟩, h2, he⟩ := Option.map_eq_some_iff.1 h
      injection he with e1 e2
      subst e1 e2
      have := hf _ _ _ h1
      have := moreS_len hf _ _ _ _ h2
      simp only at *
      omega
  · cases h
theorem rdS_len : ∀ (d : Nat) (s : List UInt8) (t : T) (r : List UInt8), rdS d s = some (t, r) → r.length < s.length
  | 0, s, t, r, h => by cases h
  | d + 1, s, t, r, h => by
    unfold rdS at h
    split at h
    · cases h
    · rename_i hk
      obtain ⟨⟨vs, r1⟩, h1, h⟩ := Option.bind_eq_some_iff.1 h
      obtain ⟨⟨ts, r2⟩, h2, he⟩ := Option.map_eq_some_iff.1 h
      injection he with e1 e2
      subst e1 e2
      have h3 := (numsS_len _ _ _ _ h1).2.1
      have h4 := (kindS_le s).2.2 hk
      unfold partsS at h2
      split at h2
      · obtain ⟨⟨t', r'⟩, h5, he⟩ := Option.map_eq_some_iff.1 h2
        injection he with e1 e2
        subst e2
        have := rdS_len d _ _ _ h5
        simp only at *
        omega
      · split at h2
        · have := listS_len (rdS_len d) h2
          simp only at *
          omega
        · injection h2 with h2
          injection h2 with e1 e2
          subst e2
          simp only at *
          omega
end Go.Proofs.YtiiiklenhmhccaaGreatDoor

namespace Go.Proofs.YtiiiklenhmhccaaGreatDoor
open Go Go.RowKit
set_option linter.unusedVariables false
def put4 (w : World) (g : Nat) (a b c d : Value) : World := (((w.setCell ⟨g, 0, none⟩ a).setCell ⟨g, 1, none⟩ b).setCell ⟨g, 2, none⟩ c).setCell ⟨g, 3, none⟩ d
theorem put4_row {w : World} {g : Nat} {t : TypeId} {x0 x1 x2 x3 : Value} (h : w.heap[g]? = some (.cells #[x0, x1, x2, x3] t (0, 0))) (a b c d : Value) : (put4 w g a b c d).heap[g]? = some (.cells #[a, b, c, d] t (0, 0)) := by
  have h1 := Joins.block_setCell (i := 0) h a
  have h2 := Joins.block_setCell (i := 1) h1 b
  have h3 := Joins.block_setCell (i := 2) h2 c
  have h4 := Joins.block_setCell (i := 3) h3 d
  exact h4
theorem put4_else (w : World) {g k : Nat} (h : k ≠ g) (a b c d : Value) : (put4 w g a b c d).heap[k]? = w.heap[k]? := by
  unfold put4
  rw [Below.heap_setCell _ _ _ _ h, Below.heap_setCell _ _ _ _ h, Below.heap_setCell _ _ _ _ h, Below.heap_setCell _ _ _ _ h]
theorem put4_size (w : World) (g : Nat) (a b c d : Value) : (put4 w g a b c d).heap.size = w.heap.size := by simp [put4, World.setCell]
theorem put4_below {w0 w : World} {B g : Nat} (h : Below B w0 w) (hg : B ≤ g) (a b c d : Value) : Below B w0 (put4 w g a b c d) :=
  (((h.setCell (p := ⟨g, 0, none⟩) hg a).setCell (p := ⟨g, 1, none⟩) hg b).setCell (p := ⟨g, 2, none⟩) hg c).setCell (p := ⟨g, 3, none⟩) hg d
end Go.Proofs.YtiiiklenhmhccaaGreatDoor
