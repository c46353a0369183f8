/-
  Layer 4: the program's tell, and Text.
  Layer 5: how a record is told, plainly.
  Layer 4: trees whose numbers are of 64 bits; what holds of all parts, plainly.
  Layer 4: the document's Digits, begins, value.
-/
import Derived.Test.YtiiiklenhmhccaaGreatDoorZpTqb
import Derived.Test.YtiiiklenhmhccaaGreatDoorZpTsm
import Derived.Test.YtiiiklenhmhccaaGreatDoorZpTrw
import Derived.Test.YtiiiklenhmhccaaGreatDoorZpVds
import Derived.Deep.RegionHeld3
import Derived.Test.YtiiiklenhmhccaaGreatDoorZpTkd

namespace Go.Proofs.YtiiiklenhmhccaaGreatDoor
open Go Go.RowKit
set_option linter.unusedVariables false
theorem Tryz.infoS : (Tryz.prog.info? 9).map (fun i => (i.zero, i.size, i.bytes)) = some (some (.string ⟨#[]⟩), 1, 16) := by kernel_rfl
theorem bcat (x y : List UInt8) : (⟨x.toArray⟩ : ByteArray) ++ ⟨y.toArray⟩ = ⟨(x ++ y).toArray⟩ := by
  apply ByteArray.ext
  simp
def T.text (t : T) : List UInt8 := if t.rightB then t.tell else []
set_option maxRecDepth 100000 in
set_option maxHeartbeats 3200000 in
theorem ptell_any : ∀ (v : V) (w : World) (lo hi B : Nat), Lies w lo hi v → hi ≤ w.heap.size → v.abs.allB = true → v.abs.count ≤ 1000 → Env B w → B ≤ w.heap.size →
    Calls Tryz.prog 175 #[v.val] w fun e w' => e = .returned (.string ⟨v.abs.tell.toArray⟩) ∧ Below w.heap.size w w' := by
  refine V.ind fun k a b A c ps ih w lo hi B hL hhi hall hct hE hB => ?_
  obtain ⟨hcl, hcap', hkr, ha, hb⟩ := hL.caps
  rw [V.all_node, Bool.and_eq_true] at hall
  have hk : 1 ≤ k ∧ k ≤ 7 := by
    have := hall.2
    unfold fitsB at this
    split at this; omega
    split at this; omega
    split at this; omega
    split at this; omega
    split at this; omega
    cases this
  obtain ⟨kn, rfl⟩ : ∃ kn : Nat, k = kn := ⟨k.toNat, by omega⟩
  have hlc : ps.length ≤ 1000 := by rw [V.count_node] at hct; have := length_le_countL (V.absL ps); rw [absL_length] at this; omega
  obtain ⟨i0, hi0, hz0, hz1, hz2⟩ := info_parts Tryz.infoS
  have HA : Hid (∀ (i : Nat) (p : V), ps[i]? = some p → p.abs.allB = true) := fun i p hp => by
    cases h : p.abs.allB with
    | true => rfl
    | false => rw [allL_bad hp h] at hall; cases hall.1
  have IH : Hid (∀ (i : Nat) (p : V), ps[i]? = some p → ∀ W, Below w.heap.size w W → Calls Tryz.prog 175 #[.agg #[.int .i64 p.kind, .int .u64 (p.a : Int), .int .u64 (p.b : Int), .slice p.addr p.parts.length p.cap]] W fun e w' => e = .returned (.string ⟨p.abs.tell.toArray⟩) ∧ Below W.heap.size W w') := fun i p hp W hW =>
    ih p (List.mem_of_getElem? hp) W lo hi B ((hL.part (List.mem_of_getElem? hp)).under (hW.mono hhi)) (by have := hW.size; omega) (HA.out i p hp) (hL.small hct hp).1 (hE.under hW hB) (by have := hW.size; omega)
  have HEn : Hid (∀ W, Below w.heap.size w W → Env B W) := fun W hW => hE.under hW hB
  rw [V.count_node] at hct
  have hbx := heap_alloc_new w (.cells #[.int .i64 (kn : Int), .int .u64 (a : Int), .int .u64 (b : Int), .slice A ps.length c] 27)
  have hb0 := below_new w (.cells #[.int .i64 (kn : Int), .int .u64 (a : Int), .int .u64 (b : Int), .slice A ps.length c] 27)
  have KD := kindof_any kn (w.alloc (.cells #[.int .i64 (kn : Int), .int .u64 (a : Int), .int .u64 (b : Int), .slice A ps.length c] 27))
  have hcn := call_num hk
  have NA := Lib_hid (fun g wx => nums_any kn hk g wx)
  have HK := Lib_hid hk
  have HL : Hid (∀ W, Below w.heap.size w W → Lies W lo hi (.node kn a b A c ps)) := fun W hW => hL.under (hW.mono hhi)
  have HTL : Hid (∀ sep : List UInt8, sep.length ≤ 1 → (Lib.join (T.tellL (V.absL ps)) sep).length ≤ 50000) := fun sep hs => by have := tells_len hL hs; omega
  have HNJ := Lib_hid (tellN_len kn ha hb)
  have hlN := nums_len kn a b
  have hinN := nums_in (k := kn) ha hb
  have hN2 := numN_le kn
  have HS : Hid ((V.node kn a b A c ps).abs.tell = wordL kn ++ Lib.join ((numsL kn a b).map Lib.decDigits) [61] ++ (if 6 ≤ kn then [40] ++ Lib.join (T.tellL (V.absL ps)) [44] ++ [41] else Lib.join (T.tellL (V.absL ps)) [])) := by
    unfold Hid
    rw [V.abs, T.tell, Int.toNat_natCast]
    congr 1
    split <;> split <;> first | rfl | omega
  have HPN : Hid (partN kn = 2 ↔ 6 ≤ kn) := by
    unfold partN Hid
    split
    · omega
    · split <;> omega
  have HW3 := Lib_hid (wordL_len kn)
  rw [kindAt_eq hk, show isKind kn = true by unfold isKind; simp; omega, show wordA kn = (wordL kn).toArray by unfold wordL; simp] at KD
  have HCN : Hid (∀ (j x : Nat), (numsL kn a b)[j]? = some x → ∀ W : World, W.heap[w.heap.size]? = some (.cells #[.int .i64 (kn : Int), .int .u64 (a : Int), .int .u64 (b : Int), .slice A ps.length c] 27 (0, 0)) → W.cell? ⟨w.heap.size, j + 1, none⟩ = some (.int .u64 (x : Int)) ∧ x < 18446744073709551616) := by
    intro j x hx W hW
    refine ⟨?_, hinN x (List.mem_of_getElem? hx)⟩
    unfold numsL at hx
    rw [List.getElem?_take] at hx
    split at hx
    · match j, hx with
      | 0, hx => simp at hx; subst hx; exact (cell_of_row W _ 1 _ _ _ hW).trans rfl
      | 1, hx => simp at hx; subst hx; exact (cell_of_row W _ 2 _ _ _ hW).trans rfl
    · cases hx
  clear ih hL hall hE hct hinN
  simp only [V.val, V.kind, V.a, V.b, V.sl, V.addr, V.parts, V.cap]
  generalize (V.node kn a b A c ps).abs.tell = res at *
  generalize hPN : partN kn = pn at *
  generalize wordL kn = wd at *
  generalize numF kn = f1 at *
  generalize fitF kn = f2 at *
  generalize askF kn = f3 at *
  generalize hnn : numsL kn a b = nums at *
  generalize hNN : numN kn = N at *
  have HNL := Lib_hid hlN
  clear hlN hPN hnn
  go_enter Tryz.func175, Tryz.ntmps175
  go_wp2_with fail
  refine KD.mono ?_
  rintro e w1 ⟨rfl, hb1⟩
  have hbw1 := hb0.trans (hb1.mono hb0.size)
  have hx1 := (hb1.block w.heap.size (by simp)).trans hbx
  have hsz1 : w.heap.size < w1.heap.size := by have := hb1.size; simp at this; omega
  have hb2 := hbw1.alloc hbw1.size (.cells #[.string ⟨wd.toArray⟩, .int .i64 (pn : Nat), .func (.func f1) #[] #[], .func (.func f2) #[] #[], .func (.func f3) #[] #[]] 195)
  have hx2 := (heap_alloc_old w1 (.cells #[.string ⟨wd.toArray⟩, .int .i64 (pn : Nat), .func (.func f1) #[] #[], .func (.func f2) #[] #[], .func (.func f3) #[] #[]] 195) hsz1).trans hx1
  have hk2 := heap_alloc_new w1 (.cells #[.string ⟨wd.toArray⟩, .int .i64 (pn : Nat), .func (.func f1) #[] #[], .func (.func f2) #[] #[], .func (.func f3) #[] #[]] 195)
  clear KD hb0 hb1 hbx hbw1 hx1
  go_upto_region 2 with (fail)
  generalize w1.alloc (.cells #[.string ⟨wd.toArray⟩, .int .i64 (pn : Nat), .func (.func f1) #[] #[], .func (.func f2) #[] #[], .func (.func f3) #[] #[]] 195) = w2 at *
  have d2 := cell_of_row w2 _ 2 _ _ _ hk2
  simp at d2
  have hk1l : w1.heap.size < w2.heap.size := (Array.getElem?_eq_some_iff.1 hk2).1
  go_wp2_with fail
  refine (NA.out w.heap.size w2).mono ?_
  rintro e w3 ⟨AN, rfl, hb3, hptr⟩
  have hbw3 := hb2.trans (hb3.mono hb2.size)
  have hx3 := (hb3.block _ (by omega)).trans hx2
  have hk3 := (hb3.block _ (by omega)).trans hk2
  have hs3 := hb3.size
  have HP := Lib_hid hptr
  have HQ3 := Lib_hid (And.intro hx3 (And.intro hk3 hbw3))
  clear hb3 hptr hx2 hk2 hx3 hk3 hb2 d2 hbw3 hNN
  go_wp2
  go_loopw [5, 22] (fun v z W => ∃ (j : Nat) (A' : Option Addr) (c' : Nat), z = .int .i64 j ∧ v = .slice A' j c' ∧ j ≤ N ∧ Hid (W.ownsRow w3.heap.size 9 1 (.slice A' j c') j (strs ((nums.take j).map Lib.decDigits))) ∧ Hid (Below w3.heap.size w3 W)) (fun _ z _ => N - (intOf z).toNat)
  case atStart => exact ⟨0, none, 0, rfl, rfl, Nat.zero_le _, Lib_hid (by simpa [strs] using own_none _ _ _), Lib_hid (Below.refl _ _)⟩
  case round =>
    obtain ⟨j, A', c', rfl, rfl, hj, hI, hbW⟩ := hrel
    rename World => W
    have hsW := hbW.out.size
    have hbwW : Hid (Below w.heap.size w W) := HQ3.out.2.2.trans (hbW.out.mono HQ3.out.2.2.size)
    have hxW := (hbW.out.block w.heap.size (by omega)).trans HQ3.out.1
    by_cases hlt : j < N
    · obtain ⟨x, hx⟩ : ∃ x, nums[j]? = some x := ⟨_, List.getElem?_eq_getElem (by rw [HNL.out]; exact hlt)⟩
      obtain ⟨pb, rfl, hp1, hp2, hp3⟩ := HP.out j hlt
      obtain ⟨d1, hx64⟩ := HCN.out j x hx W hxW
      have d0 := (World.cell?_of_block (a := ⟨pb, j, none⟩) (hbW.out.block pb hp2)).trans hp3
      have FM := fmt_any B x hx64 W (HEn.out W hbwW.out)
      have hm1 : j + 1 ≤ maxLen := by unfold maxLen; omega
      have hm2 : (j + 1) * 16 ≤ 140737488355328 := by omega
      have HXJ := Lib_hid hx
      have h64 := Lib_hid hx64
      clear hp3 hx hxW hx64
      generalize hdd : Lib.decDigits x = dd at *
      have HDD := Lib_hid hdd
      clear hdd
      go_wp2_with (first | (go_at_call 91; refine FM.mono ?_; rintro e w7 ⟨rfl, hb7⟩) | (at_builtin; (refine wpList_app rfl _ _ 81 rfl w3.heap.size 9 i0 (.string ⟨#[]⟩) 1 16 Tryz.underlying81 hi0 hz0 hz1 hz2 rfl (by decide) (.slice A' j c') j _ rfl (own_below (own_below hI.out hb7 (own_lt hI.out)) (below_new w7 _) (own_lt (own_below hI.out hb7 (own_lt hI.out)))) (w7.heap.size + 1) (some ⟨w7.heap.size, 0, none⟩) 1 1 (strs [dd]) rfl (new_str w7 _ _) (strs_one _) hm1 hm2 (by have := hb7.size; simp; omega) ?_); intro v8 w8 ho8 hs8; rw [← strs_append] at ho8; obtain ⟨A8, c8, rfl, _⟩ := own_form ho8))
      have hI8 : Hid (w8.ownsRow w3.heap.size 9 1 (.slice A8 (j + 1) c8) (j + 1) (strs ((nums.take (j + 1)).map Lib.decDigits))) := by
        rw [take_one HXJ.out, List.map_append, List.map_cons, List.map_nil, HDD.out]
        exact ho8
      have hb8 : Hid (Below w3.heap.size w3 w8) := by
        have h1 := (hbW.out.trans (hb7.mono hsW)).trans ((below_new w7 (.cells #[.string ⟨dd.toArray⟩] 9)).mono (by have := hb7.size; omega))
        exact h1.trans (hs8.below (by have := h1.size; omega) fun k hk => own_ge hI.out k hk)
      clear ho8 hs8 hb7 d0 d1 FM hI hbW
      go_wp2
      go_roundw
      case rel => exact ⟨j + 1, A8, c8, by go_num, rfl, by omega, hI8, hb8⟩
      case measure => simp [intOf]; omega
    · obtain rfl : j = N := by omega
      rw [show nums.take j = nums from List.take_of_length_le (by rw [HNL.out]; exact Nat.le_refl _)] at hI
      have x3 := cell_of_row W _ 3 _ _ _ hxW
      simp at x3
      have HXW := Lib_hid hxW
      clear hxW hlt
      have hkW : Hid (W.heap[w1.heap.size]? = some (.cells #[.string ⟨wd.toArray⟩, .int .i64 (pn : Nat), .func (.func f1) #[] #[], .func (.func f2) #[] #[], .func (.func f3) #[] #[]] 195 (0, 0))) := (hbW.out.block _ (by omega)).trans HQ3.out.2.1
      go_wp2
      go_loopw [6, 37] (fun v z W2 => ∃ (i : Nat) (A2 : Option Addr) (c2 : Nat), z = .int .i64 i ∧ v = .slice A2 i c2 ∧ i ≤ ps.length ∧ Hid (W2.ownsRow W.heap.size 9 1 (.slice A2 i c2) i (strs (T.tellL (V.absL (ps.take i))))) ∧ Hid (Below W.heap.size W W2)) (fun _ z _ => ps.length - (intOf z).toNat)
      case atStart => exact ⟨0, none, 0, rfl, rfl, Nat.zero_le _, Lib_hid (by simpa [strs, V.absL, T.tellL] using own_none _ _ _), Lib_hid (Below.refl _ _)⟩
      case round =>
        clear x3
        obtain ⟨i, A2, c2, rfl, rfl, hi1, hI2, hbW2⟩ := hrel
        rename World => W2
        have hsW2 := hbW2.out.size
        have hbw2 : Hid (Below w.heap.size w W2) := hbwW.out.trans (hbW2.out.mono hbwW.out.size)
        by_cases hlt : i < ps.length
        · obtain ⟨bb, off, p, rfl, hbb, hlb, hp, hLp, d0, d1, d2, d3⟩ := (HL.out W2 hbw2.out).nth hlt
          have hbal := below_new W2 (.cells #[.int .i64 p.kind, .int .u64 (p.a : Int), .int .u64 (p.b : Int), .slice p.addr p.parts.length p.cap] 27)
          have CH := IH.out i p hp _ (hbw2.out.trans (hbal.mono hbw2.out.size))
          have hm1 : i + 1 ≤ maxLen := by unfold maxLen; omega
          have hm2 : (i + 1) * 16 ≤ 140737488355328 := by omega
          have HPP := Lib_hid hp
          have hps : p.sl = .slice p.addr p.parts.length p.cap := rfl
          rw [hps] at d3
          have HBA := Lib_hid hbal
          clear hLp hp hps hbal
          generalize hdd : p.abs.tell = dd at *
          have HDD := Lib_hid hdd
          clear hdd
          generalize p.addr = pA at *
          generalize p.cap = pc at *
          generalize p.parts.length = pl at *
          generalize p.kind = pk at *
          generalize (p.a : Int) = pa at *
          generalize (p.b : Int) = pb2 at *
          go_wp2_with (first | (go_at_call 175; refine CH.mono ?_; rintro e w7 ⟨rfl, hb7⟩; have hb27 := HBA.out.trans (hb7.mono (by have := HBA.out.size; omega))) | (at_builtin; (refine wpList_app rfl _ _ 81 rfl W.heap.size 9 i0 (.string ⟨#[]⟩) 1 16 Tryz.underlying81 hi0 hz0 hz1 hz2 rfl (by decide) (.slice A2 i c2) i _ rfl (own_below (own_below hI2.out hb27 (own_lt hI2.out)) (below_new w7 _) (own_lt (own_below hI2.out hb27 (own_lt hI2.out)))) (w7.heap.size + 1) (some ⟨w7.heap.size, 0, none⟩) 1 1 (strs [dd]) rfl (new_str w7 _ _) (strs_one _) hm1 hm2 (by have := hb27.size; simp; omega) ?_); intro v8 w8 ho8 hs8; rw [← strs_append] at ho8; obtain ⟨A8, c8, rfl, _⟩ := own_form ho8))
          have hI8 : Hid (w8.ownsRow W.heap.size 9 1 (.slice A8 (i + 1) c8) (i + 1) (strs (T.tellL (V.absL (ps.take (i + 1)))))) := by
            rw [tellL_take HPP.out, HDD.out]
            exact ho8
          have hb8 : Hid (Below W.heap.size W w8) := by
            have h1 := (hbW2.out.trans (hb27.mono hsW2)).trans ((below_new w7 (.cells #[.string ⟨dd.toArray⟩] 9)).mono (by have := hb27.size; omega))
            exact h1.trans (hs8.below (by have := h1.size; omega) fun k hk => own_ge hI2.out k hk)
          clear ho8 hs8 hb7 hb27 d0 d1 d2 d3 CH hI2 hbW2
          go_wp2
          go_roundw
          case rel => exact ⟨i + 1, A8, c8, by go_num, rfl, by omega, hI8, hb8⟩
          case measure => simp [intOf]; omega
        · obtain rfl : i = ps.length := by omega
          rw [List.take_length] at hI2
          have JN : Hid (∀ W', Below W2.heap.size W2 W' → Calls Tryz.prog 76 #[.slice A' j c', .string ⟨#[61]⟩] W' fun e w' => e = .returned (.string ⟨(Lib.join (nums.map Lib.decDigits) [61]).toArray⟩) ∧ Below W'.heap.size W' w') := fun W' hW' =>
            join_any w3.heap.size j c' _ A' _ [61] W' (own_below (own_below hI.out hbW2.out (own_lt hI.out)) hW' (own_lt (own_below hI.out hbW2.out (own_lt hI.out)))) (by omega) (by have := HNJ.out; omega)
          have JP : Hid (∀ (sep : List UInt8) (W' : World), sep.length ≤ 1 → Below W2.heap.size W2 W' → Calls Tryz.prog 76 #[.slice A2 ps.length c2, .string ⟨sep.toArray⟩] W' fun e w' => e = .returned (.string ⟨(Lib.join (T.tellL (V.absL ps)) sep).toArray⟩) ∧ Below W'.heap.size W' w') := fun sep W' hs hW' =>
            join_any W.heap.size ps.length c2 _ A2 _ sep W' (own_below hI2.out hW' (own_lt hI2.out)) (by omega) (by have := HTL.out sep hs; omega)
          have S0 : Hid (∀ W' : World, Below W2.heap.size W2 W' → W'.cell? ⟨w1.heap.size, 0, none⟩ = some (.string ⟨wd.toArray⟩) ∧ W'.cell? ⟨w1.heap.size, 1, none⟩ = some (.int .i64 (pn : Nat))) := fun W' hW' => by
            have h1 := (hW'.block w1.heap.size (by omega)).trans ((hbW2.out.block w1.heap.size (by omega)).trans hkW.out)
            exact ⟨(cell_of_row W' _ 0 _ _ _ h1).trans rfl, (cell_of_row W' _ 1 _ _ _ h1).trans rfl⟩
          have h6c : Hid (pn = 2 ↔ 6 ≤ kn) := HPN
          have hnl := HNJ.out
          have hwl := HW3.out
          have hpl1 := HTL.out [44] (by decide)
          have hpl0 := HTL.out [] (by decide)
          have hz1 : ¬ 9223372036854775807 < wd.length + (Lib.join (nums.map Lib.decDigits) [61]).length := by omega
          have HRES := HS
          clear hI hI2 hlt HTL HL IH HCN HP
          generalize Lib.join (nums.map Lib.decDigits) [61] = nj at *
          go_wp2_with fail
          go_region_held3 (fun W => W.cell? ⟨w1.heap.size, 0, none⟩ = some (.string ⟨wd.toArray⟩)) (first | exact (S0.out _ (below_like4 (Below.refl _ _) rfl rfl rfl rfl)).1 | exact (S0.out _ (below_like4 hb9 rfl rfl rfl rfl)).1) ((go_at_call 76; refine (JN.out _ (by exact below_like4 (Below.refl _ _) rfl rfl rfl rfl)).mono ?_; rintro e w9 ⟨rfl, hb9'⟩; have hb9 : Below W2.heap.size W2 w9 := ⟨hb9'.os, hb9'.tape, hb9'.output, hb9'.size, hb9'.block⟩))
          have k1 := (S0.out w9 hb9).2
          have hbf := hbw2.out.trans (hb9.mono hbw2.out.size)
          by_cases h6 : 6 ≤ kn
          · have hpn : pn = 2 := HPN.out.2 h6
            have hb : (((pn : Nat) : Int) == 2) = true := by simp [hpn]
            have J1 : Calls Tryz.prog 76 #[.slice A2 ps.length c2, .string ⟨#[44]⟩] w9 fun e w' => e = .returned (.string ⟨(Lib.join (T.tellL (V.absL ps)) [44]).toArray⟩) ∧ Below w9.heap.size w9 w' := JP.out [44] w9 (by decide) hb9
            have hr := HRES.out
            rw [if_pos h6] at hr
            generalize Lib.join (T.tellL (V.absL ps)) [44] = pj at *
            have HF : Hid (Ending.returned (.string (⟨wd.toArray⟩ ++ ⟨nj.toArray⟩ ++ ⟨#[40]⟩ ++ ⟨pj.toArray⟩ ++ ⟨#[41]⟩)) = .returned (.string ⟨res.toArray⟩)) := by
              unfold Hid
              rw [hr, show (⟨#[40]⟩ : ByteArray) = ⟨[(40 : UInt8)].toArray⟩ from rfl, show (⟨#[41]⟩ : ByteArray) = ⟨[(41 : UInt8)].toArray⟩ from rfl, bcat, bcat, bcat, bcat]
              simp [List.append_assoc]
            have hz2 : ¬ 9223372036854775807 < wd.length + nj.length + 1 := by omega
            have hz3 : ¬ 9223372036854775807 < wd.length + nj.length + 1 + pj.length := by omega
            have hz4 : ¬ 9223372036854775807 < wd.length + nj.length + 1 + pj.length + 1 := by omega
            clear hpn hr HRES HPN h6c JP JN S0 HS
            go_wp2_with fail
            refine J1.mono ?_
            rintro e w10 ⟨rfl, hb10⟩
            have hbz := hbf.trans (hb10.mono hbf.size)
            go_wp2_with fail
            go_ret
            exact ⟨HF.out, hbz⟩
          · have hpn : ¬ pn = 2 := fun e => h6 (HPN.out.1 e)
            have hb : (((pn : Nat) : Int) == 2) = false := by simp; omega
            have J1 : Calls Tryz.prog 76 #[.slice A2 ps.length c2, .string ⟨#[]⟩] w9 fun e w' => e = .returned (.string ⟨(Lib.join (T.tellL (V.absL ps)) []).toArray⟩) ∧ Below w9.heap.size w9 w' := JP.out [] w9 (by decide) hb9
            have hr := HRES.out
            rw [if_neg h6] at hr
            generalize Lib.join (T.tellL (V.absL ps)) [] = pj at *
            have HF : Hid (Ending.returned (.string (⟨wd.toArray⟩ ++ ⟨nj.toArray⟩ ++ ⟨pj.toArray⟩)) = .returned (.string ⟨res.toArray⟩)) := by
              unfold Hid
              rw [hr, bcat, bcat]
            have hz2 : ¬ 9223372036854775807 < wd.length + nj.length + pj.length := by omega
            clear hpn hr HRES HPN h6c JP JN S0 HS
            go_wp2_with fail
            refine J1.mono ?_
            rintro e w10 ⟨rfl, hb10⟩
            have hbz := hbf.trans (hb10.mono hbf.size)
            go_wp2_with fail
            go_ret
            exact ⟨HF.out, hbz⟩
set_option maxRecDepth 100000 in
set_option maxHeartbeats 1600000 in
theorem ptext_any (v : V) (w : World) (lo hi B : Nat) (hL : Lies w lo hi v) (hhi : hi ≤ w.heap.size) (hE : Env B w) (hB : B ≤ w.heap.size) :
    Calls Tryz.prog 140 #[v.val] w fun e w' => e = .returned (.string ⟨v.abs.text.toArray⟩) ∧ Below w.heap.size w w' := by
  have hbx := heap_alloc_new w (.cells #[.int .i64 v.kind, .int .u64 (v.a : Int), .int .u64 (v.b : Int), v.sl] 27)
  have hb0 := below_new w (.cells #[.int .i64 v.kind, .int .u64 (v.a : Int), .int .u64 (v.b : Int), v.sl] 27)
  have hhi1 : hi ≤ (w.alloc (.cells #[.int .i64 v.kind, .int .u64 (v.a : Int), .int .u64 (v.b : Int), v.sl] 27)).heap.size := by have := hb0.size; omega
  have RR := pright_any v _ lo hi (hL.under (hb0.mono hhi)) hhi1
  have hTx : Hid (v.abs.text = if v.abs.rightB then v.abs.tell else []) := rfl
  have SS : Hid (∀ W, Below w.heap.size w W → v.abs.rightB = true → Calls Tryz.prog 175 #[v.val] W fun e w' => e = .returned (.string ⟨v.abs.tell.toArray⟩) ∧ Below W.heap.size W w') := fun W hW hr =>
    ptell_any v W lo hi B (hL.under (hW.mono hhi)) (by have := hW.size; omega) (right_all hr).1 (by have := (right_all hr).2; omega) (hE.under hW hB) (by have := hW.size; omega)
  have e0 := cell_of_row (w.alloc (.cells #[.int .i64 v.kind, .int .u64 (v.a : Int), .int .u64 (v.b : Int), v.sl] 27)) _ 0 _ _ _ hbx
  simp only [V.val, V.sl] at RR SS hbx hb0 ⊢
  generalize v.abs.text = res at *
  generalize v.abs.tell = st at *
  generalize v.abs.rightB = r at *
  generalize v.kind = x0 at *
  generalize (v.a : Int) = x1 at *
  generalize (v.b : Int) = x2 at *
  generalize v.addr = pA at *
  generalize v.parts.length = pn at *
  generalize v.cap = pc at *
  clear e0 hL hhi1 hE
  go_enter Tryz.func140, Tryz.ntmps140
  go_wp2_with fail
  refine RR.mono ?_
  rintro e w1 ⟨rfl, hb1⟩
  have hbw := hb0.trans (hb1.mono hb0.size)
  have hx1 := (hb1.block w.heap.size (by simp)).trans hbx
  have c0 := cell_of_row w1 _ 0 _ _ _ hx1
  have c1 := cell_of_row w1 _ 1 _ _ _ hx1
  have c2 := cell_of_row w1 _ 2 _ _ _ hx1
  have c3 := cell_of_row w1 _ 3 _ _ _ hx1
  simp at c0 c1 c2 c3
  clear hbx hb0 hb1 hx1 RR
  cases r with
  | true =>
    have CS := SS.out w1 hbw rfl
    have HP : Hid (res = st) := hTx.out.trans (if_pos rfl)
    clear hTx
    go_wp2_with fail
    refine CS.mono ?_
    rintro e w2 ⟨rfl, hb2⟩
    have HF : Hid (Below w.heap.size w w2) := hbw.trans (hb2.mono hbw.size)
    have HX : Hid (Ending.returned (.string ⟨st.toArray⟩) = .returned (.string ⟨res.toArray⟩)) := by rw [HP.out]; exact Lib_hid rfl
    clear CS hb2
    go_wp2
    go_ret
    exact ⟨HX.out, HF.out⟩
  | false =>
    have HF : Hid (res = []) := hTx.out.trans (if_neg (by simp))
    have HX : Hid (Ending.returned (.string ⟨#[]⟩) = .returned (.string ⟨res.toArray⟩)) := by rw [HF.out]; exact Lib_hid rfl
    clear hTx
    go_wp2
    go_ret
    exact ⟨HX.out, hbw⟩
end Go.Proofs.YtiiiklenhmhccaaGreatDoor

namespace Go.Proofs.YtiiiklenhmhccaaGreatDoor
open Go Go.RowKit
set_option linter.unusedVariables false
def nameL (k : Int) : List UInt8 :=
  if k = 1 then [98, 101, 103, 105, 110] else if k = 2 then [114, 101, 97, 100] else if k = 3 then [119, 114, 105, 116, 101] else if k = 4 then [100, 101, 108, 101, 116, 101] else
  if k = 5 then [112, 114, 101, 100] else if k = 6 then [99, 111, 109, 109, 105, 116] else if k = 7 then [97, 98, 111, 114, 116] else []
def verL (w n : Nat) : List UInt8 := Lib.decDigits w ++ [46] ++ Lib.decDigits n
def En.tell (e : En) : List UInt8 := Lib.join [Lib.decDigits e.x, verL e.w e.n, Lib.decDigits (if e.m then 1 else 0)] [58]
def Rc.wordsP (r : Rc) (i : Nat) : List (List UInt8) :=
  if i = 0 then [Lib.decDigits r.t] else if i = 1 then [Lib.decDigits r.x] else if i = 2 then [verL r.w r.n] else if i = 3 then [Lib.decDigits r.v] else if i = 4 then [r.p.text] else r.es.map En.tell
def Rc.wordsN (r : Rc) (l : List Nat) : List (List UInt8) := l.flatMap r.wordsP
def Rc.tell (r : Rc) : List UInt8 := Lib.join (nameL r.kind :: r.wordsN (partsN r.kind 6)) [32]
def Rc.text (r : Rc) : List UInt8 := if r.rightB then r.tell else []
theorem join_flat (a : List UInt8) (l : List (List UInt8)) (sep : List UInt8) : Lib.join (a :: l) sep = a ++ l.flatMap (sep ++ ·) := by
  rw [Lib.join_cons]; simp [Lib.joinTail, List.flatMap]
theorem wordsN_snoc {r : Rc} {l : List Nat} {i j : Nat} (h : l[i]? = some j) : r.wordsN (l.take (i + 1)) = r.wordsN (l.take i) ++ r.wordsP j := by
  unfold Rc.wordsN; rw [take_one h]; simp
theorem partsN_of (k : Int) : partsN k 6 = if k = 2 then [0, 1, 2] else if k = 3 then [0, 1, 3] else if k = 4 then [0, 1] else if k = 5 then [0, 4, 5] else [0] := by
  have e : partsN k 6 = [0, 1, 2, 3, 4, 5].filter fun j => ofB j k := rfl
  rw [e]
  by_cases h2 : k = 2
  · subst h2; rfl
  by_cases h3 : k = 3
  · subst h3; rfl
  by_cases h4 : k = 4
  · subst h4; rfl
  by_cases h5 : k = 5
  · subst h5; rfl
  simp [ofB, h2, h3, h4, h5]
section
variable {w : World} {lo hi : Nat}
theorem dec_len {x : Nat} (h : (x : Int) ≤ 18446744073709551615) : (Lib.decDigits x).length ≤ 20 := by rw [Lib.decDigits_length]; exact Lib.nDigits_le20 x (by omega)
theorem verL_len {a b : Nat} (ha : (a : Int) ≤ 18446744073709551615) (hb : (b : Int) ≤ 18446744073709551615) : (verL a b).length ≤ 41 := by
  have := dec_len ha
  have := dec_len hb
  simp only [verL, List.length_append, List.length_cons, List.length_nil]
  omega
theorem En.tell_len {e : En} (h : e.ok) : e.tell.length ≤ 83 := by
  obtain ⟨h1, h2, h3⟩ := h
  have := dec_len h1
  have := verL_len h2 h3
  have := dec_len (x := if e.m then 1 else 0) (by split <;> omega)
  simp only [En.tell, join_flat, List.flatMap_cons, List.flatMap_nil, List.length_append, List.length_cons, List.length_nil]
  omega
end
end Go.Proofs.YtiiiklenhmhccaaGreatDoor

namespace Go.Proofs.YtiiiklenhmhccaaGreatDoor
open Go Go.RowKit
set_option linter.unusedVariables false
mutual
def T.okN : T → Prop
  | .node _ a b ps => a < 18446744073709551616 ∧ b < 18446744073709551616 ∧ ps.length < 18446744073709551616 ∧ T.okL ps
def T.okL : List T → Prop
  | [] => True
  | p :: ps => p.okN ∧ T.okL ps
end
theorem okL_iff : ∀ ps : List T, T.okL ps ↔ ∀ p ∈ ps, p.okN
  | [] => by simp [T.okL]
  | p :: ps => by simp [T.okL, okL_iff ps]
theorem all_mem : ∀ {ps : List T}, T.allL ps = true → ∀ p ∈ ps, p.allB = true
  | [], _, p, hp => by simp at hp
  | x :: ps, h, p, hp => by
    rw [T.allL, Bool.and_eq_true] at h
    rcases List.mem_cons.1 hp with rfl | hp
    · exact h.1
    · exact all_mem h.2 p hp
theorem depth_mem : ∀ {ps : List T} {d : Nat}, T.depthL ps ≤ d → ∀ p ∈ ps, p.depth ≤ d
  | [], _, _, p, hp => by simp at hp
  | x :: ps, d, h, p, hp => by
    rw [T.depthL] at h
    rcases List.mem_cons.1 hp with rfl | hp
    · omega
    · exact depth_mem (ps := ps) (by omega) p hp
theorem fits_kind {k : Int} {a b n : Nat} (h : fitsB k a b n = true) : k = 1 ∨ k = 2 ∨ k = 3 ∨ k = 4 ∨ k = 5 ∨ k = 6 ∨ k = 7 := by
  unfold fitsB at h
  split at h; omega
  split at h; omega
  split at h; omega
  split at h; omega
  split at h; omega
  cases h
end Go.Proofs.YtiiiklenhmhccaaGreatDoor

namespace Go.Proofs.YtiiiklenhmhccaaGreatDoor
open Go Go.RowKit
set_option linter.unusedVariables false
theorem sl_drop (s : List UInt8) (k : Nat) (hk : k ≤ s.length) (W : World) : (Instr.slice 9 (.string ⟨s.toArray⟩) (some (.int .i64 (k : Int))) none none).run Tryz.prog W = .ok (.string ⟨(s.drop k).toArray⟩) W := by
  rw [run_slice_string_l W 9 ⟨s.toArray⟩ Tryz.underlying9 .i64 (k : Int) (by omega) (by simp [ByteArray.size]; omega)]
  congr 2
  apply ByteArray.ext
  rw [Int.toNat_natCast]
  simp [ByteArray.data_extract, ByteArray.size]
  rw [List.take_of_length_le (by simp)]
theorem digit_sl (r : Nat) (hr : r < 10) (W : World) : (Instr.slice 9 (.string ⟨#[48, 49, 50, 51, 52, 53, 54, 55, 56, 57]⟩) (some (.int .u64 (r : Int))) (some (.int .u64 ((r : Int) + 1))) none).run Tryz.prog W = .ok (.string ⟨#[UInt8.ofNat (48 + r)]⟩) W := by
  rw [run_slice_string W 9 ⟨#[48, 49, 50, 51, 52, 53, 54, 55, 56, 57]⟩ .u64 .u64 (r : Int) ((r : Int) + 1) Tryz.underlying9 (by omega) (by omega) (by simp [ByteArray.size]; omega)]
  have : r = 0 ∨ r = 1 ∨ r = 2 ∨ r = 3 ∨ r = 4 ∨ r = 5 ∨ r = 6 ∨ r = 7 ∨ r = 8 ∨ r = 9 := by omega
  rcases this with rfl | rfl | rfl | rfl | rfl | rfl | rfl | rfl | rfl | rfl <;> rfl
set_option maxRecDepth 100000 in
theorem rdigits_any (n : Nat) : ∀ (w : World), n < 18446744073709551616 → Calls Tryz.prog 46 #[.int .u64 n] w fun e w' => e = .returned (.string ⟨(Lib.decDigits n).toArray⟩) ∧ w' = w := by
  induction n using Nat.strongRecOn with
  | _ n ih =>
  intro w hn
  have hr : n % 10 < 10 := Nat.mod_lt _ (by omega)
  have hsl := digit_sl (n % 10) hr
  rw [show ((n % 10 : Nat) : Int) = (n : Int) % 10 by omega] at hsl
  by_cases hs : n < 10
  · have hd : Lib.decDigits n = [UInt8.ofNat (48 + n % 10)] := by rw [Lib.decDigits, dif_pos hs, Nat.mod_eq_of_lt hs]
    have HF : Hid (Ending.returned (.string ⟨#[UInt8.ofNat (48 + n % 10)]⟩) = .returned (.string ⟨(Lib.decDigits n).toArray⟩) ∧ w = w) := ⟨by rw [hd], rfl⟩
    clear ih hd
    generalize UInt8.ofNat (48 + n % 10) = c at *
    go_enter Tryz.func46, Tryz.ntmps46
    go_wp2_with fail
    go_ret
    exact ⟨HF.out.1, rfl⟩
  · have hd : Lib.decDigits n = Lib.decDigits (n / 10) ++ [UInt8.ofNat (48 + n % 10)] := by rw [Lib.decDigits, dif_neg hs]
    have IH := ih (n / 10) (by omega) w (by omega)
    rw [show ((n / 10 : Nat) : Int) = (n : Int) / 10 by omega] at IH
    have HD := Lib_hid hd
    have HX : Hid (⟨(Lib.decDigits (n / 10)).toArray⟩ ++ ⟨#[UInt8.ofNat (48 + n % 10)]⟩ = (⟨(Lib.decDigits n).toArray⟩ : ByteArray)) := by
      unfold Hid
      apply ByteArray.ext
      rw [hd]
      simp
    have hdl : ¬ 9223372036854775807 < (Lib.decDigits (n / 10)).length + 1 := by
      have h1 := Lib.decDigits_length (n / 10)
      have h2 := Lib.numDigits_eq (n / 10) (by omega) (by omega)
      have : Lib.nDigits (n / 10) ≤ 20 := by split at h2 <;> omega
      omega
    clear ih hd
    generalize UInt8.ofNat (48 + n % 10) = c at *
    generalize Lib.decDigits (n / 10) = dd at *
    generalize Lib.decDigits n = dn at *
    go_enter Tryz.func46, Tryz.ntmps46
    go_wp2_with fail
    refine IH.mono ?_
    rintro e w1 ⟨rfl, rfl⟩
    go_wp2_with fail
    go_ret
    exact ⟨congrArg (fun x => Ending.returned (Value.string x)) HX.out, rfl⟩
def isDig (c : UInt8) : Bool := digsL.contains c
theorem isDig_iff (c : UInt8) : isDig c = true ↔ 48 ≤ c.toNat ∧ c.toNat ≤ 57 := by
  unfold isDig digsL
  simp only [List.contains_eq_mem, decide_eq_true_eq, List.mem_cons, List.not_mem_nil, or_false]
  constructor
  · rintro (rfl | rfl | rfl | rfl | rfl | rfl | rfl | rfl | rfl | rfl) <;> decide
  · rintro ⟨h1, h2⟩
    have : c = UInt8.ofNat c.toNat := by simp
    have h3 : c.toNat = 48 ∨ c.toNat = 49 ∨ c.toNat = 50 ∨ c.toNat = 51 ∨ c.toNat = 52 ∨ c.toNat = 53 ∨ c.toNat = 54 ∨ c.toNat = 55 ∨ c.toNat = 56 ∨ c.toNat = 57 := by omega
    rw [this]
    rcases h3 with h | h | h | h | h | h | h | h | h | h <;> rw [h] <;> decide
theorem digS_take (s : List UInt8) : digS s = s.takeWhile isDig ∧ restS s = s.dropWhile isDig := by
  have h : restS s = s.dropWhile isDig := rfl
  refine ⟨?_, h⟩
  unfold digS
  rw [h]
  have hlen : s.length = (s.takeWhile isDig).length + (s.dropWhile isDig).length := by rw [← List.length_append, List.takeWhile_append_dropWhile]
  have h2 := List.take_left' (l₁ := s.takeWhile isDig) (l₂ := s.dropWhile isDig) rfl
  rw [List.takeWhile_append_dropWhile] at h2
  rw [show s.length - (s.dropWhile isDig).length = (s.takeWhile isDig).length by omega]
  exact h2
theorem dig_stop {s : List UInt8} {i : Nat} (hi : i ≤ s.length) (h1 : ∀ c ∈ s.take i, isDig c = true) (h2 : ∀ c, s[i]? = some c → isDig c = false) : digS s = s.take i ∧ restS s = s.drop i := by
  obtain ⟨e1, e2⟩ := digS_take s
  rw [e1, e2]
  have hs : s = s.take i ++ s.drop i := (List.take_append_drop i s).symm
  have h3 : (s.drop i).takeWhile isDig = [] ∧ (s.drop i).dropWhile isDig = s.drop i := by
    cases hd : s.drop i with
    | nil => simp
    | cons c t =>
      have : s[i]? = some c := by
        have := congrArg (·[0]?) hd
        simpa [List.getElem?_drop] using this
      have hc := h2 c this
      simp [hc]
  have h4 := List.takeWhile_append_of_pos (p := isDig) (l₂ := s.drop i) h1
  have h5 := List.dropWhile_append_of_pos (p := isDig) (l₂ := s.drop i) h1
  rw [List.take_append_drop] at h4 h5
  rw [h4, h5, h3.1, h3.2, List.append_nil]
  exact ⟨rfl, rfl⟩
theorem dig_more {s : List UInt8} {i : Nat} {c : UInt8} (h1 : ∀ c ∈ s.take i, isDig c = true) (hc : s[i]? = some c) (hd : isDig c = true) : ∃ t, digS s = s.take i ++ c :: t := by
  obtain ⟨e1, _⟩ := digS_take s
  have hi := (List.getElem?_eq_some_iff.1 hc).1
  have h2 : s.take (i + 1) = s.take i ++ [c] := take_one hc
  have h4 := List.takeWhile_append_of_pos (p := isDig) (l₁ := s.take (i + 1)) (l₂ := s.drop (i + 1)) (by
    intro x hx
    rw [h2] at hx
    rcases List.mem_append.1 hx with hx | hx
    · exact h1 x hx
    · obtain rfl : x = c := by simpa using hx
      exact hd)
  rw [List.take_append_drop] at h4
  exact ⟨(s.drop (i + 1)).takeWhile isDig, by rw [e1, h4, h2]; simp⟩
theorem parse_append (M : Nat) : ∀ (xs ys : List UInt8) (acc : Nat), Lib.parseUintM M acc (xs ++ ys) = match Lib.parseUintM M acc xs with | .ok n => Lib.parseUintM M n ys | Lib.NumEnd.syntax => Lib.NumEnd.syntax | .range => .range
  | [], ys, acc => by simp [Lib.parseUintM]
  | c :: r, ys, acc => by
    rw [List.cons_append, Lib.parseUintM, Lib.parseUintM]
    split
    · split
      · rfl
      · split
        · rfl
        · exact parse_append M r ys _
    · rfl
theorem parse_one {n : Nat} {c : UInt8} (hd : isDig c = true) : Lib.parseUintM 18446744073709551615 n [c] = if 18446744073709551615 < n * 10 + (c.toNat - 48) then .range else .ok (n * 10 + (c.toNat - 48)) := by
  obtain ⟨h1, h2⟩ := (isDig_iff c).1 hd
  rw [Lib.parseUintM, if_pos ⟨h1, h2⟩]
  by_cases h : 1844674407370955162 ≤ n
  · rw [if_pos h, if_pos (by omega)]
  · rw [if_neg h]
    rfl
def DgI (s : List UInt8) (i n : Nat) : Prop := (∀ c ∈ s.take i, isDig c = true) ∧ Lib.parseUintM 18446744073709551615 0 (s.take i) = .ok n
theorem DgI.zero (s : List UInt8) : DgI s 0 0 := ⟨by simp, by simp [Lib.parseUintM]⟩
theorem DgI.step {s : List UInt8} {i n : Nat} {c : UInt8} (h : DgI s i n) (hc : s[i]? = some c) (hd : isDig c = true) (hn : n * 10 + (c.toNat - 48) ≤ 18446744073709551615) : DgI s (i + 1) (n * 10 + (c.toNat - 48)) := by
  rw [DgI, take_one hc]
  refine ⟨fun x hx => ?_, ?_⟩
  · rcases List.mem_append.1 hx with hx | hx
    · exact h.1 x hx
    · obtain rfl : x = c := by simpa using hx
      exact hd
  · rw [parse_append, h.2]
    simp only
    rw [parse_one hd, if_neg (by omega)]
theorem DgI.over {s : List UInt8} {i n : Nat} {c : UInt8} (h : DgI s i n) (hc : s[i]? = some c) (hd : isDig c = true) (hn : 18446744073709551615 < n * 10 + (c.toNat - 48)) : numS s = none := by
  obtain ⟨t, ht⟩ := dig_more h.1 hc hd
  apply numS_bad
  intro u hu
  rw [ht] at hu
  unfold Lib.parseUintB at hu
  rw [if_neg (by simp), show s.take i ++ c :: t = s.take i ++ ([c] ++ t) by simp, show (2 ^ 64 - 1) = 18446744073709551615 by decide, parse_append, h.2] at hu
  simp only at hu
  rw [parse_append, parse_one hd, if_pos hn] at hu
  cases hu
theorem DgI.done {s : List UInt8} {i n : Nat} (h : DgI s i n) (hi : i ≤ s.length) (h2 : ∀ c, s[i]? = some c → isDig c = false) : numS s = if 0 < i ∧ Lib.decDigits n = s.take i then some (n, s.drop i) else none := by
  obtain ⟨e1, e2⟩ := dig_stop hi h.1 h2
  by_cases h0 : 0 < i
  · have hp : Lib.parseUintB 64 (digS s) = .ok n := by
      unfold Lib.parseUintB
      rw [e1, if_neg (by intro e; have h3 : (s.take i).length = 0 := (by rw [e]; rfl); rw [List.length_take] at h3; omega), show (2 ^ 64 - 1) = 18446744073709551615 by decide]
      exact h.2
    rw [numS_ok hp, e1, e2]
    by_cases hq : Lib.decDigits n = s.take i
    · rw [if_pos hq, if_pos ⟨h0, hq⟩]
    · rw [if_neg hq, if_neg (fun h => hq h.2)]
  · obtain rfl : i = 0 := by omega
    rw [if_neg (by omega)]
    apply numS_bad
    intro u hu
    rw [e1] at hu
    unfold Lib.parseUintB at hu
    simp at hu
theorem DgI.lt {s : List UInt8} {i n : Nat} (h : DgI s i n) : n ≤ 18446744073709551615 := Lib.parseUintM_le 18446744073709551615 _ 0 n (by omega) h.2
end Go.Proofs.YtiiiklenhmhccaaGreatDoor
