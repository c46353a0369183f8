/-
  Layer 4: the law's walk: the statement's function PredKnown returns true.
-/
import Derived.Test.YtiijdacnfhiagaaGreatDoorZkTme
import Derived.Test.YtiijdacnfhiagaaGreatDoorTex
import Derived.Test.YtiijdacnfhiagaaGreatDoorZkTqc
import Derived.Test.YtiijdacnfhiagaaGreatDoorZkTqd
import Derived.Test.YtiijdacnfhiagaaGreatDoorTp4
import Derived.Test.YtiijdacnfhiagaaGreatDoorSl
import Derived.Test.YtiijdacnfhiagaaGreatDoorKit
import Derived.Deep.RegionHeld3

namespace Go.Proofs.YtiijdacnfhiagaaGreatDoor
open Go Go.RowKit
set_option linter.unusedVariables false

theorem bs_set3 (m : List Nat) (k x : Nat) : bs (m.set k x) = (bs m).set k (.int .u8 (x : Int)) := by simp [bs, List.map_set]
theorem byte_wrap (k : Nat) : ∃ yb : Nat, IntKind.u8.wrap (k : Int) = (yb : Int) ∧ yb < 256 := ⟨k % 256, by rw [IntKind.wrap_u8]; omega, by omega⟩

set_option maxRecDepth 100000 in
set_option maxHeartbeats 3200000 in
theorem predknown_any (w : World) (hE : Env w.heap.size w) : Calls Tryz.prog 7 #[] w (TrueEnd w) := by
  have HEn := Lib_hid hE
  clear hE
  show Calls Tryz.prog 7 #[] w fun e w' => e = .returned (.bool true) ∧ Below w.heap.size w w'
  go_enter Tryz.func7, Tryz.ntmps7
  go_wp2
  go_loopw [1, 2] (fun x i wr => ∃ kk k : Nat, x = .int .i64 kk ∧ i = .int .i64 k ∧ kk < 100003 ∧ k ≤ 300 ∧ Below w.heap.size w wr) (fun _ i _ => 300 - (intOf i).toNat)
  case atStart => exact ⟨1, 0, rfl, rfl, by omega, by omega, Below.refl _ _⟩
  case round =>
    obtain ⟨kk, k, rfl, rfl, hkk, hk, hbw⟩ := hrel
    rename World => W
    by_cases hlt : k < 300
    · have hlt' : (k : Int) < 300 := by omega
      obtain ⟨d, hd, hd3⟩ : ∃ d : Nat, (k : Int) % 4 = (d : Int) ∧ d ≤ 3 := ⟨k % 4, by omega, by omega⟩
      obtain ⟨k3, hk3, hk33⟩ : ∃ k3 : Nat, (kk : Int) / 3 = (k3 : Int) ∧ k3 < 1000000 := ⟨kk / 3, by omega, by omega⟩
      have M1 := made_tree d kk hd3 (by omega) W
      have M2 : Hid (∀ W', Calls Tryz.prog 39 #[.int .i64 (k3 : Int), .int .i64 3] W' fun e w' => ∃ u : V, e = .returned (.agg #[.int .i64 u.kind, .int .u64 (u.a : Int), .int .u64 (u.b : Int), .slice u.addr u.parts.length u.cap]) ∧ u.abs.count ≤ 40 ∧ Lies w' W'.heap.size w'.heap.size u ∧ Below W'.heap.size W' w') := fun W' => made_tree 3 k3 (by omega) hk33 W'
      go_wp2_with fail
      refine M1.mono ?_
      rintro e w1 ⟨p, rfl, hpc, hpL, hb1⟩
      clear M1 hd
      go_wp2_with fail
      refine (M2.out w1).mono ?_
      rintro e w2 ⟨q, rfl, hqc, hqL, hb2⟩
      clear M2 hk3
      go_upto_region 6 with (fail)
      obtain ⟨q3, p3, b3, s3⟩ := two_boxes w2 25 (.int .i64 p.kind) (.int .u64 (p.a : Int)) (.int .u64 (p.b : Int)) (.slice p.addr p.parts.length p.cap) (.int .i64 q.kind) (.int .u64 (q.a : Int)) (.int .u64 (q.b : Int)) (.slice q.addr q.parts.length q.cap)
      generalize (w2.alloc _).alloc _ = w3 at *
      have z1 := hb1.size
      have z2 := hb2.size
      have hpL3 : Lies w3 W.heap.size w1.heap.size p := (hpL.under hb2).under (b3.mono (by omega))
      have hqL3 : Lies w3 w1.heap.size w2.heap.size q := hqL.under b3
      have hbw3 : Below w.heap.size w w3 := ((hbw.trans (hb1.mono hbw.size)).trans (hb2.mono (by have := hbw.size; omega))).trans (b3.mono (by have := hbw.size; omega))
      have HPL : Hid (∀ W', Below w3.heap.size w3 W' → Lies W' W.heap.size w1.heap.size p ∧ w1.heap.size ≤ W'.heap.size) := fun W' h => ⟨hpL3.under (h.mono (by omega)), by have := h.size; omega⟩
      have HQL : Hid (∀ W', Below w3.heap.size w3 W' → Lies W' w1.heap.size w2.heap.size q ∧ w2.heap.size ≤ W'.heap.size) := fun W' h => ⟨hqL3.under (h.mono (by omega)), by have := h.size; omega⟩
      have HBW : Hid (∀ W', Below w3.heap.size w3 W' → Below w.heap.size w W') := fun W' h => hbw3.trans (h.mono hbw3.size)
      have HBX : Hid (∀ W', Below w3.heap.size w3 W' → (W'.cell? ⟨w2.heap.size, 0, none⟩ = some (.int .i64 p.kind) ∧ W'.cell? ⟨w2.heap.size, 1, none⟩ = some (.int .u64 (p.a : Int)) ∧ W'.cell? ⟨w2.heap.size, 2, none⟩ = some (.int .u64 (p.b : Int)) ∧ W'.cell? ⟨w2.heap.size, 3, none⟩ = some (.slice p.addr p.parts.length p.cap)) ∧
          W'.cell? ⟨w2.heap.size + 1, 0, none⟩ = some (.int .i64 q.kind) ∧ W'.cell? ⟨w2.heap.size + 1, 1, none⟩ = some (.int .u64 (q.a : Int)) ∧ W'.cell? ⟨w2.heap.size + 1, 2, none⟩ = some (.int .u64 (q.b : Int)) ∧ W'.cell? ⟨w2.heap.size + 1, 3, none⟩ = some (.slice q.addr q.parts.length q.cap)) := fun W' hW => by
        have hx := (hW.block w2.heap.size (by omega)).trans q3
        have hy := (hW.block (w2.heap.size + 1) (by omega)).trans p3
        exact ⟨⟨(cell_of_row W' _ 0 _ _ _ hx).trans rfl, (cell_of_row W' _ 1 _ _ _ hx).trans rfl, (cell_of_row W' _ 2 _ _ _ hx).trans rfl, (cell_of_row W' _ 3 _ _ _ hx).trans rfl⟩, (cell_of_row W' _ 0 _ _ _ hy).trans rfl, (cell_of_row W' _ 1 _ _ _ hy).trans rfl, (cell_of_row W' _ 2 _ _ _ hy).trans rfl, (cell_of_row W' _ 3 _ _ _ hy).trans rfl⟩
      have DE : Hid (∀ W', Below w3.heap.size w3 W' → Calls Tryz.prog 10 #[.agg #[.int .i64 p.kind, .int .u64 (p.a : Int), .int .u64 (p.b : Int), .slice p.addr p.parts.length p.cap]] W' fun e w' => ∃ u : V, e = .returned (.agg #[.int .i64 u.kind, .int .u64 (u.a : Int), .int .u64 (u.b : Int), .slice u.addr u.parts.length u.cap]) ∧ u.abs = p.abs ∧ Lies w' W'.heap.size w'.heap.size u ∧ Below W'.heap.size W' w') := fun W' h =>
        (dexpr_any p W' W.heap.size w1.heap.size (HPL.out W' h).1 (HPL.out W' h).2 (by omega)).mono fun e w' ⟨u, he, h1, h2, _, h4⟩ => ⟨u, he, h1, h2, h4⟩
      have PU : Hid (∀ (W' : World) (u : V) (lo : Nat), u.abs = p.abs → Lies W' lo W'.heap.size u → Calls Tryz.prog 15 #[.agg #[.int .i64 u.kind, .int .u64 (u.a : Int), .int .u64 (u.b : Int), .slice u.addr u.parts.length u.cap]] W' (Made 5 p.abs.put W')) := fun W' u lo h1 h2 => by
        have := rput4_any u W' lo W'.heap.size h2 (Nat.le_refl _) (by rw [h1]; omega)
        rw [h1] at this
        exact this
      have TX : Hid (∀ (W' : World) (u : V) (lo : Nat), u.abs = p.abs → Lies W' lo W'.heap.size u → Calls Tryz.prog 29 #[.agg #[.int .i64 u.kind, .int .u64 (u.a : Int), .int .u64 (u.b : Int), .slice u.addr u.parts.length u.cap]] W' fun e w' => e = .returned (.string ⟨p.abs.text.toArray⟩) ∧ Below W'.heap.size W' w') := fun W' u lo h1 h2 => by
        have := rtext_any u W' lo W'.heap.size h2 (Nat.le_refl _) (by rw [h1]; omega)
        rw [h1] at this
        exact this
      have hpn := Lib_hid (And.intro (put_len hpL3) (put_byte p.abs))
      obtain ⟨X, hXe, hXs, hXp⟩ : ∃ X : ByteArray, X = ⟨p.abs.text.toArray⟩ ∧ X.size ≤ 3000 ∧ (0 < p.abs.put.length → 0 < X.size) := by
        refine ⟨_, rfl, ?_, fun h => text_pos p.abs h⟩
        have := text_len hpL3
        show p.abs.text.length ≤ 3000
        omega
      rw [← hXe] at TX
      clear hXe
      clear hpL hqL hb1 hb2 b3 q3 p3 hpL3 hqL3 hbw3
      generalize p.abs.put = lb at *
      obtain ⟨⟨c0, c1, c2, c3⟩, d0, d1, d2, d3⟩ := HBX.out w3 (Below.refl _ _)
      go_wp2_with fail
      refine (DE.out w3 (Below.refl _ _)).mono ?_
      rintro e w4 ⟨u, rfl, hu, huL, hb4⟩
      clear c0 c1 c2 c3 d0 d1 d2 d3
      go_wp2_with fail
      refine (PU.out w4 u _ hu huL).mono ?_
      rintro e w5 ⟨Ab, cb, rfl, hown, hb5⟩
      have hbw5 : Below w3.heap.size w3 w5 := hb4.trans (hb5.mono hb4.size)
      have hz4 := hb4.size
      have hz5 := hb5.size
      clear huL hu PU
      obtain ⟨⟨c0, c1, c2, c3⟩, d0, d1, d2, d3⟩ := HBX.out w5 hbw5
      go_wp2_with fail
      refine (DE.out w5 hbw5).mono ?_
      rintro e w6 ⟨u2, rfl, hu, huL, hb6⟩
      clear c0 c1 c2 c3 d0 d1 d2 d3 DE
      go_wp2_with fail
      refine (TX.out w6 u2 _ hu huL).mono ?_
      rintro e w7 ⟨rfl, hb7⟩
      have hbw7 : Below w5.heap.size w5 w7 := hb6.trans (hb7.mono hb6.size)
      have hown7 := own_below hown hbw7 (own_lt hown)
      have hz7 := hbw7.size
      have hb37 := hbw5.trans (hbw7.mono hbw5.size)
      clear huL hu TX hb6 hb7 hown hbw7 hbw5 hb5 hb4
      obtain ⟨⟨c0, c1, c2, c3⟩, d0, d1, d2, d3⟩ := HBX.out w7 hb37
      obtain ⟨x9, hx9, hx9l⟩ : ∃ x9 : Nat, (k : Int) % 9 = (x9 : Int) ∧ x9 < 9 := ⟨k % 9, by omega, by omega⟩
      obtain ⟨y11, hy11, hy11l⟩ : ∃ y11 : Nat, (kk : Int) % 11 = (y11 : Int) ∧ y11 < 11 := ⟨kk % 11, by omega, by omega⟩
      have TL := tells_all HEn.out (HBW.out w7 hb37) p q x9 y11 (by omega) (by omega) (HPL.out w7 hb37).1 (HPL.out w7 hb37).2 (HQL.out w7 hb37).1 (HQL.out w7 hb37).2
      go_wp2_with fail
      refine TL.mono ?_
      rintro e w8 ⟨rfl, hb8⟩
      have hown8 := own_below hown7 hb8 (own_lt hown7)
      have hz8 := hb8.size
      have hb38 := hb37.trans (hb8.mono hb37.size)
      clear TL hown7 hb8 hb37 c0 c1 c2 c3 d0 d1 d2 d3
      obtain ⟨⟨c0, c1, c2, c3⟩, d0, d1, d2, d3⟩ := HBX.out w8 hb38
      have hcap := own_cap hown8
      have BK := back_all HEn.out (HBW.out w8 hb38) p q lb hpn.out.2 Ab lb.length cb hcap (Rd.own hown8) x9 y11 (by omega) (by omega) (HPL.out w8 hb38).1 (HPL.out w8 hb38).2 (HQL.out w8 hb38).1 (HQL.out w8 hb38).2
      go_wp2_with fail
      refine BK.mono ?_
      rintro e w9 ⟨rfl, hb9⟩
      have hown9 := own_below hown8 hb9 (own_lt hown8)
      have hz9 := hb9.size
      have hz49 : w4.heap.size ≤ w9.heap.size := by omega
      clear hz5 hz7 hz8 hz9
      have hb39 := hb38.trans (hb9.mono hb38.size)
      clear BK hown8 hb9 hb38 c0 c1 c2 c3 d0 d1 d2 d3 hx9 hy11
      obtain ⟨i0, hi0, hz0, hz1, hz2⟩ := info_parts Tryz.info5
      have hpl := hpn.out.1
      have hm1 : lb.length + 1 ≤ maxLen := by unfold maxLen; omega
      have hm2 : (lb.length + 1) * 1 ≤ 140737488355328 := by omega
      obtain ⟨yb, hyb, hybl⟩ : ∃ yb : Nat, IntKind.u8.wrap (k : Int) = (yb : Int) ∧ yb < 256 := byte_wrap k
      have hsB : ∀ o, w4.heap.size ≤ (w9.alloc o).heap.size := by intro o; simp; omega
      go_wp2_with (at_builtin; (refine wpList_appk (by rfl) _ _ 32 rfl w4.heap.size 5 i0 (.int .u8 0) 1 1 Tryz.underlying32 hi0 hz0 hz1 hz2 rfl (by decide) (.slice Ab lb.length cb) lb.length (bs lb) rfl (hown9.alloc _) (w9.heap.size + 1) ⟨w9.heap.size, 0, none⟩ 1 1 (bs [yb]) rfl (Rd.newi w9 _ yb rfl 5) (by decide) (bs_one _) hm1 hm2 (hsB _) ?_); intro v' w10 hown' hst hownk; obtain ⟨A7, c7, rfl, _⟩ := own_form hown')
      rw [← bs_append] at hown'
      have hge9 : ∀ j, (Value.slice Ab lb.length cb).ownBlock = some j → w3.heap.size ≤ j := fun j hj => Nat.le_trans hz4 (own_ge hown9 j hj)
      have hb310 : Below w3.heap.size w3 w10 := (hb39.alloc hb39.size _).trans (hst.below (by have := hb39.size; simp; omega) hge9)
      have hz10 : w4.heap.size ≤ w10.heap.size := Nat.le_trans (hsB _) hst.grow.size
      have TK := takes_all HEn.out (HBW.out w10 hb310) (lb ++ [yb]) (by
        intro y hy
        rcases List.mem_append.1 hy with hy | hy
        · exact hpn.out.2 y hy
        · simp at hy; omega) A7 (lb.length + 1) c7 (own_cap hown') ((k : Int) % 3 - 1) (Rd.own hown')
      clear hyb hsB hown' hst hown9 hi0 hz0 hz1 hz2 hm1 hm2 hz49 hge9
      go_wp2_with fail
      refine TK.mono ?_
      rintro e w11 ⟨rfl, hb11⟩
      have hown11 := own_below hownk hb11 (own_lt hownk)
      have hb311 := hb310.trans (hb11.mono hb310.size)
      have hz11 : w4.heap.size ≤ w11.heap.size := Nat.le_trans hz10 hb11.size
      clear TK hownk hb310 hb39 hz10 hb11
      obtain ⟨r3, hr3, hr32⟩ : ∃ r3 : Nat, (k : Int) % 3 = (r3 : Int) ∧ r3 ≤ 2 := ⟨k % 3, by omega, by omega⟩
      obtain ⟨m, hm, hmn⟩ : ∃ m : Nat, (lb.length : Int) - (lb.length : Int) * (r3 : Int) / 9 = (m : Int) ∧ m ≤ lb.length := by
        have h1 := Nat.mul_le_mul_left lb.length hr32
        have h2 : (lb.length : Int) * (r3 : Int) = ((lb.length * r3 : Nat) : Int) := by simp
        rw [h2]
        generalize lb.length * r3 = t at *
        exact ⟨lb.length - t / 9, by omega, by omega⟩
      have hbt := (Rd.own hown11).take hmn
      rw [Nat.mul_one, ← bs_take] at hbt
      have TK := takes_all HEn.out (HBW.out w11 hb311) (lb.take m) (fun y hy => hpn.out.2 y (List.mem_of_mem_take hy)) Ab m cb (by omega) 0 hbt
      clear hbt
      go_wp2_with fail
      refine TK.mono ?_
      rintro e w12 ⟨rfl, hb12⟩
      have hown12 := own_below hown11 hb12 (own_lt hown11)
      have hb312 := hb311.trans (hb12.mono hb311.size)
      have hz12 : w4.heap.size ≤ w12.heap.size := Nat.le_trans hz11 hb12.size
      clear TK hown11 hb311 hz11 hb12 hr3 hm
      have R1 := reads_all HEn.out (HBW.out w12 hb312) X
      go_wp2_with fail
      refine R1.mono ?_
      rintro e w13 ⟨rfl, hb13⟩
      have hown13 := own_below hown12 hb13 (own_lt hown12)
      have hb313 := hb312.trans (hb13.mono hb312.size)
      have hz13 : w4.heap.size ≤ w13.heap.size := Nat.le_trans hz12 hb13.size
      clear R1 hown12 hb312 hz12 hb13
      have R2 : Hid (∀ X, Calls Tryz.prog 5 #[.string X] w13 (TrueEnd w13)) := fun X => reads_all HEn.out (HBW.out w13 hb313) X
      go_wp2_with fail
      refine (R2.out _).mono ?_
      rintro e w14 ⟨rfl, hb14⟩
      have hown14 := own_below hown13 hb14 (own_lt hown13)
      have hb314 := hb313.trans (hb14.mono hb313.size)
      have hz14 : w4.heap.size ≤ w14.heap.size := Nat.le_trans hz13 hb14.size
      clear R2 hown13 hb313 hz13 hb14
      obtain ⟨kk2, hkk2, hkk2l⟩ : ∃ kk2 : Nat, ((kk : Int) * 31 + 7 * (k : Int) + 11) % 100003 = (kk2 : Int) ∧ kk2 < 100003 := ⟨(kk * 31 + 7 * k + 11) % 100003, by omega, by omega⟩
      by_cases hl0 : 0 < lb.length
      · obtain ⟨g, cap, hv, hgw, hgl⟩ := hown14.form hl0
        have hA : Ab = some ⟨g, 0, none⟩ := by injection hv
        subst hA
        have hne : (lb.length : Int) ≠ 0 := by omega
        have hl0' : (0 : Int) < (lb.length : Int) := by omega
        obtain ⟨j, hj, hjl⟩ : ∃ j : Nat, (kk : Int) % (lb.length : Int) = (j : Int) ∧ j < lb.length := by
          have h1 := Int.emod_nonneg (kk : Int) hne
          have h2 := Int.emod_lt_of_pos (kk : Int) hl0'
          exact ⟨((kk : Int) % (lb.length : Int)).toNat, by omega, by omega⟩
        obtain ⟨z9, hz9, hz9l⟩ : ∃ z9 : Nat, (k : Int) % 9 = (z9 : Int) ∧ z9 < 9 := ⟨k % 9, by omega, by omega⟩
        have hcell : w14.cell? ⟨g, j, none⟩ = some (.int .u8 (lb[j] : Nat)) := by
          rw [hown14.cellAt j (by omega), bs_get hjl]
        have hfr := hown14.frozenAt j
        obtain ⟨hs1, hs2⟩ := hown14.stored j (.int .u8 (z9 : Int))
        rw [← bs_set3] at hs1
        have hb315 := hb314.grown hs2 hb314.size (fun i hi => by injection hi with hi; subst hi; omega)
        have hby : ∀ y ∈ lb.set j z9, y < 256 := by
          intro y hy
          rcases List.mem_or_eq_of_mem_set hy with hy | rfl
          · exact hpn.out.2 y hy
          · omega
        have hxp := hXp hl0
        have hxne : (X.size : Int) ≠ 0 := by omega
        obtain ⟨jj, hjj, hjjl⟩ : ∃ jj : Nat, (kk : Int) % (X.size : Int) = (jj : Int) ∧ jj < X.size := by
          have h1 := Int.emod_nonneg (kk : Int) hxne
          have h2 := Int.emod_lt_of_pos (kk : Int) (show (0 : Int) < (X.size : Int) by omega)
          exact ⟨((kk : Int) % (X.size : Int)).toNat, by omega, by omega⟩
        have hxn0 : X.size ≠ 0 := by omega
        have hxb : ((X.size : Int) == 0) = false := by rw [beq_eq_false_iff_ne]; exact hxne
        have hjt : Int.tmod (kk : Int) (X.size : Int) = (jj : Int) := by rw [Int.tmod_eq_emod_of_nonneg (by omega)]; exact hjj
        have hjw : IntKind.i64.wrap (jj : Int) = (jj : Int) := IntWalk.i64_in _ (by omega)
        have hj0 : (0 : Int) ≤ (jj : Int) := by omega
        have hjX : (jj : Int) ≤ (X.size : Int) := by omega
        have hmin : min jj X.size = jj := Nat.min_eq_left (by omega)
        have hq1 : ¬ (9223372036854775807 < jj + 1) := by omega
        have hq2 : ¬ (9223372036854775807 < jj + 1 + (X.size - jj)) := by omega
        have hq3 : ¬ (9223372036854775807 < (X.extract 0 jj).size + 1) := by rw [ByteArray.size_extract]; omega
        have hq4 : ¬ (9223372036854775807 < (X.extract 0 jj).size + 1 + (X.extract jj X.size).size) := by rw [ByteArray.size_extract, ByteArray.size_extract]; omega
        clear hown14 hb314 hs2 hgw hgl hv
        go_upto_region 12 with (fail)
        generalize w14.setCell ⟨g, j, none⟩ _ = w15 at *
        have TK : Hid (∀ W', Below w15.heap.size w15 W' → Calls Tryz.prog 4 #[.slice (some ⟨g, 0, none⟩) lb.length cb, .int .i64 0] W' (TrueEnd W')) := fun W' h =>
          takes_all HEn.out (HBW.out W' (hb315.trans (h.mono hb315.size))) (lb.set j z9) hby (some ⟨g, 0, none⟩) lb.length cb hcap 0 (Rd.own (own_below hs1 h (own_lt hs1)))
        have RD : Hid (∀ W' Y, Below w15.heap.size w15 W' → Calls Tryz.prog 5 #[.string Y] W' (TrueEnd W')) := fun W' Y h =>
          reads_all HEn.out (HBW.out W' (hb315.trans (h.mono hb315.size))) Y
        have HB15 := Lib_hid hb315
        clear hcell hfr hs1 hb315 hby
        go_region_held3 (fun _ => True) (trivial) ((first
          | (go_simp; refine (TK.out _ (by exact below_like4 (Below.refl _ _) rfl rfl rfl rfl)).mono ?_; rintro e w16 ⟨rfl, hb16'⟩; have hb16 : Below w15.heap.size w15 w16 := ⟨hb16'.os, hb16'.tape, hb16'.output, hb16'.size, hb16'.block⟩)
          | (go_simp; refine (RD.out _ _ (by exact hb16)).mono ?_; rintro e w17 ⟨rfl, hb17⟩)))
        all_goals
          have hbW := HBW.out w17 ((HB15.out.trans (hb16.mono HB15.out.size)).trans (hb17.mono (by have := hb16.size; have := HB15.out.size; omega)))
          clear hb16' hb16 hb17 TK RD HB15 HBW HBX HPL HQL hpn
          go_wp2
          go_roundw
          case rel => exact ⟨kk2, k + 1, by go_num, by go_num, hkk2l, by omega, hbW⟩
          case measure => simp [intOf]; omega
      · have hl0' : ¬ (0 : Int) < (lb.length : Int) := by omega
        have hbW := HBW.out w14 hb314
        clear hown14 hb314 HBW HBX HPL HQL hpn
        go_wp2
        go_roundw
        case rel => exact ⟨kk2, k + 1, by go_num, by go_num, hkk2l, by omega, hbW⟩
        case measure => simp [intOf]; omega
    · have hlt' : ¬ (k : Int) < 300 := by omega
      clear hk hkk
      go_upto_region 16 with (fail)
      clear hlt hlt'
      have SR := fun W' hb k hk => strs_row W #[.string ⟨#[]⟩, .string ⟨#[97, 108, 108]⟩, .string ⟨#[97, 108, 108, 32]⟩, .string ⟨#[120, 60, 61]⟩, .string ⟨#[120, 60, 61, 49, 56, 52, 52, 54, 55, 52, 52, 48, 55, 51, 55, 48, 57, 53, 53, 49, 54, 49, 53]⟩, .string ⟨#[120, 60, 61, 49, 56, 52, 52, 54, 55, 52, 52, 48, 55, 51, 55, 48, 57, 53, 53, 49, 54, 49, 54]⟩, .string ⟨#[120, 60, 61, 48, 48]⟩, .string ⟨#[118, 37, 48, 61, 48]⟩, .string ⟨#[118, 37, 49, 61, 48]⟩, .string ⟨#[118, 37, 51, 61, 51]⟩, .string ⟨#[118, 37, 51]⟩, .string ⟨#[33]⟩, .string ⟨#[33, 33, 97, 108, 108]⟩, .string ⟨#[38, 40, 41]⟩, .string ⟨#[38]⟩, .string ⟨#[38, 40]⟩, .string ⟨#[38, 40, 97, 108, 108]⟩, .string ⟨#[38, 40, 97, 108, 108, 44, 41]⟩, .string ⟨#[38, 40, 97, 108, 108, 44, 97, 108, 108, 41]⟩, .string ⟨#[124, 40, 124, 40, 41, 44, 38, 40, 41, 41]⟩, .string ⟨#[124, 40, 97, 108, 108, 41, 97, 108, 108]⟩, .string ⟨#[33, 33, 33, 33, 33, 33, 33, 97, 108, 108]⟩, .string ⟨#[33, 33, 33, 33, 33, 33, 33, 33, 97, 108, 108]⟩, .string ⟨#[88, 60, 61, 49]⟩, .string ⟨#[118, 60, 61, 49, 32]⟩] 9 (by simp) W' hb k hk
      have hbw2 := hbw.trans (below_new W (.cells #[.string ⟨#[]⟩, .string ⟨#[97, 108, 108]⟩, .string ⟨#[97, 108, 108, 32]⟩, .string ⟨#[120, 60, 61]⟩, .string ⟨#[120, 60, 61, 49, 56, 52, 52, 54, 55, 52, 52, 48, 55, 51, 55, 48, 57, 53, 53, 49, 54, 49, 53]⟩, .string ⟨#[120, 60, 61, 49, 56, 52, 52, 54, 55, 52, 52, 48, 55, 51, 55, 48, 57, 53, 53, 49, 54, 49, 54]⟩, .string ⟨#[120, 60, 61, 48, 48]⟩, .string ⟨#[118, 37, 48, 61, 48]⟩, .string ⟨#[118, 37, 49, 61, 48]⟩, .string ⟨#[118, 37, 51, 61, 51]⟩, .string ⟨#[118, 37, 51]⟩, .string ⟨#[33]⟩, .string ⟨#[33, 33, 97, 108, 108]⟩, .string ⟨#[38, 40, 41]⟩, .string ⟨#[38]⟩, .string ⟨#[38, 40]⟩, .string ⟨#[38, 40, 97, 108, 108]⟩, .string ⟨#[38, 40, 97, 108, 108, 44, 41]⟩, .string ⟨#[38, 40, 97, 108, 108, 44, 97, 108, 108, 41]⟩, .string ⟨#[124, 40, 124, 40, 41, 44, 38, 40, 41, 41]⟩, .string ⟨#[124, 40, 97, 108, 108, 41, 97, 108, 108]⟩, .string ⟨#[33, 33, 33, 33, 33, 33, 33, 97, 108, 108]⟩, .string ⟨#[33, 33, 33, 33, 33, 33, 33, 33, 97, 108, 108]⟩, .string ⟨#[88, 60, 61, 49]⟩, .string ⟨#[118, 60, 61, 49, 32]⟩] 9) |>.mono hbw.size)
      generalize W.alloc _ = W2 at *
      have SR : Hid (∀ W', Below W2.heap.size W2 W' → ∀ k, k < 25 → ∃ X, W'.cell? ⟨W.heap.size, k, none⟩ = some (.string X)) := SR
      have HW2 := Lib_hid hbw2
      go_wp2
      clear hbw hbw2
      go_loopw [8] (fun i wr => ∃ k : Nat, i = .int .i64 k ∧ k ≤ 25 ∧ Below W2.heap.size W2 wr) (fun i _ => 25 - (intOf i).toNat)
      case atStart => exact ⟨0, rfl, by omega, Below.refl _ _⟩
      case round =>
        obtain ⟨k, rfl, hk, hb2⟩ := hrel
        rename World => W3
        by_cases hlt : k < 25
        · have hlt' : (k : Int) < 25 := by omega
          obtain ⟨X, hX⟩ := SR.out W3 hb2 k hlt
          have RD := reads_all HEn.out (HW2.out.trans (hb2.mono HW2.out.size)) X
          go_wp2_with fail
          refine RD.mono ?_
          rintro e w4 ⟨rfl, hb4⟩
          have hb24 := hb2.trans (hb4.mono hb2.size)
          clear RD hX hb4 hb2
          go_wp2
          go_roundw
          case rel => exact ⟨k + 1, by go_num, by omega, hb24⟩
          case measure => simp [intOf]; omega
        · have hbw := HW2.out.trans (hb2.mono HW2.out.size)
          clear SR HW2 hb2
          have hlt' : ¬ (k : Int) < 25 := by omega
          clear hk
          go_upto_region 22 with (fail)
          clear hlt hlt'
          have q3 := heap_alloc_new W3 (.cells #[.int .i64 7, .int .u64 0, .int .u64 0, .slice none 0 0] 25)
          have hbw3 := hbw.trans (below_new W3 (.cells #[.int .i64 7, .int .u64 0, .int .u64 0, .slice none 0 0] 25) |>.mono hbw.size)
          have s3 : W3.heap.size + 1 = (W3.alloc (.cells #[.int .i64 7, .int .u64 0, .int .u64 0, .slice none 0 0] 25)).heap.size := by simp
          have hsz3 := hbw.size
          obtain ⟨g9, hg9⟩ : ∃ g9, g9 = W3.heap.size := ⟨_, rfl⟩
          rw [← hg9] at q3 s3 hsz3 ⊢
          generalize W3.alloc _ = W4 at *
          clear hbw hg9
          go_wp2
          go_loopw [10] (fun z W => ∃ (i : Nat) (us : List V) (A : Option Addr) (c : Nat), z = .int .i64 i ∧ i ≤ 34 ∧ Hid (us.length = i ∧ T.countL (V.absL us) ≤ i) ∧ Hid (TRow 25 (g9 + 1) (.slice A i c) us W) ∧
              W.heap[g9]? = some (.cells #[.int .i64 7, .int .u64 0, .int .u64 0, .slice A i c] 25 (0, 0)) ∧ g9 + 1 ≤ W.heap.size ∧ Below w.heap.size w W) (fun z _ => 34 - (intOf z).toNat)
          case atStart => exact ⟨0, [], none, 0, rfl, by omega, Lib_hid ⟨rfl, by simp [V.absL, T.countL]⟩, Lib_hid (TRow.nil _ _ _), q3, by omega, hbw3⟩
          case round =>
            clear q3 hbw3 s3
            obtain ⟨i, us, A, c, rfl, hi, hus, hT, pW, hsW, bW⟩ := hrel
            rename World => W5
            by_cases hlt : i < 34
            · have hlt' : (i : Int) < 34 := by omega
              have hoi := hT.out.own
              rw [hus.out.1] at hoi
              have c3 := cell_of_row W5 _ 3 _ _ _ pW
              simp at c3
              obtain ⟨i0, hi0, hz0, hz1, hz2⟩ := info_parts Tryz.infoE
              have hm1 : i + 1 ≤ maxLen := by unfold maxLen; omega
              have hm2 : (i + 1) * 48 ≤ 140737488355328 := by omega
              have hsB : ∀ o, g9 + 1 ≤ (W5.alloc o).heap.size := by intro o; simp; omega
              go_wp2_with (at_builtin; (refine wpList_appk (by rfl) _ _ 23 rfl (g9 + 1) 25 i0 (.agg #[.int .i64 0, .int .u64 0, .int .u64 0, .slice none 0 0]) 4 48 Tryz.underlying23 hi0 hz0 hz1 hz2 rfl (by decide) (.slice A i c) i (vCells us) rfl (hoi.alloc _) (W5.heap.size + 1) ⟨W5.heap.size, 0, none⟩ 1 1 (vCells [V.node 1 0 0 none 0 []]) rfl (new_val W5 25 (V.node 1 0 0 none 0 [])) (by decide) (v_one _) hm1 hm2 (hsB _) ?_); intro v6 w6 ho6 hs6 _; obtain ⟨A6, c6, rfl, _⟩ := own_form ho6; have pW6 : w6.heap[g9]? = _ := (hs6.grow.block g9 (by simp; omega) (fun e => by have := own_ge hoi g9 e.symm; omega)).trans ((heap_alloc_old W5 _ (by omega)).trans pW); have d3 := cell_of_row w6 _ 3 _ _ _ pW6; have z3 := frozen_of_row w6 g9 3 _ _ pW6; simp at d3)
              have hlen : (us ++ [V.node 1 0 0 none 0 []]).length = i + 1 := by simp [hus.out.1]
              have hTP : TRow 25 (g9 + 1) (.slice A6 (i + 1) c6) (us ++ [V.node 1 0 0 none 0 []]) w6 :=
                hT.out.push (w2 := W5) (w3 := W5.alloc (.cells #[.int .i64 1, .int .u64 0, .int .u64 0, .slice none 0 0] 25)) hsW (Below.refl _ _) (leafZ_lies _ _ _ _ _ _ (by omega) (by omega) (by omega)) (leafZ_shp _ _ _ _ _ _) (below_new _ _) hs6 (by rw [hus.out.1]; exact ho6)
              have hs66 := hs6.grow.size
              have hsa := hsB (.cells #[.int .i64 1, .int .u64 0, .int .u64 0, .slice none 0 0] 25)
              have hT7 := hTP.keep (w' := w6.setCell ⟨g9, 3, none⟩ (.slice A6 (i + 1) c6)) (by simp [World.setCell]) (fun g hg _ => Below.heap_setCell _ ⟨g9, 3, none⟩ _ g (by show g ≠ g9; omega))
              have pW7 : (w6.setCell ⟨g9, 3, none⟩ (.slice A6 (i + 1) c6)).heap[g9]? = _ := Joins.block_setCell (i := 3) pW6 _
              have bW7 : Below w.heap.size w (w6.setCell ⟨g9, 3, none⟩ (.slice A6 (i + 1) c6)) := (((bW.alloc bW.size _).trans (hs6.below (by have := bW.size; simp; omega) (fun k hk => by have := own_ge hoi k hk; omega)))).setCell (p := ⟨g9, 3, none⟩) hsz3 _
              have sW7 : g9 + 1 ≤ (w6.setCell ⟨g9, 3, none⟩ (.slice A6 (i + 1) c6)).heap.size := by simp [World.setCell]; omega
              have hcl : T.countL (V.absL (us ++ [V.node 1 0 0 none 0 []])) ≤ i + 1 := by
                rw [absL_map, List.map_append, ← absL_map, countL_append, List.map_cons, List.map_nil, T.countL, T.countL, V.count_node, V.absL, T.countL]
                have := hus.out.2
                omega
              clear hTP ho6 hs6 pW6 d3 z3 hs66 hsa hoi c3 hi0 hz0 hz1 hz2 hm1 hm2 hsB hT hus pW bW
              generalize w6.setCell ⟨g9, 3, none⟩ _ = w7 at *
              obtain ⟨us7, hus7⟩ : ∃ us7, us7 = us ++ [V.node 1 0 0 none 0 []] := ⟨_, rfl⟩
              rw [← hus7] at hlen hT7 hcl
              clear hus7
              have HC7 := Lib_hid (And.intro hlen hcl)
              have hLp : Lies w7 (g9 + 1) w7.heap.size (.node 7 0 0 A6 c6 us7) := (hT7.tree (by omega) (by omega) (by omega)).2.1
              have HBX : Hid (∀ W', Below w7.heap.size w7 W' → W'.cell? ⟨g9, 0, none⟩ = some (.int .i64 7) ∧ W'.cell? ⟨g9, 1, none⟩ = some (.int .u64 0) ∧ W'.cell? ⟨g9, 2, none⟩ = some (.int .u64 0) ∧ W'.cell? ⟨g9, 3, none⟩ = some (.slice A6 (i + 1) c6)) := fun W' hW => by
                have hx := (hW.block g9 (by omega)).trans pW7
                exact ⟨(cell_of_row W' _ 0 _ _ _ hx).trans rfl, (cell_of_row W' _ 1 _ _ _ hx).trans rfl, (cell_of_row W' _ 2 _ _ _ hx).trans rfl, (cell_of_row W' _ 3 _ _ _ hx).trans rfl⟩
              have MD : Hid (∀ W', Calls Tryz.prog 39 #[.int .i64 (i : Int), .int .i64 2] W' fun e w' => ∃ u : V, e = .returned (.agg #[.int .i64 u.kind, .int .u64 (u.a : Int), .int .u64 (u.b : Int), .slice u.addr u.parts.length u.cap]) ∧ u.abs.count ≤ 40 ∧ Lies w' W'.heap.size w'.heap.size u ∧ Below W'.heap.size W' w') := fun W' => made_tree 2 i (by omega) (by omega) W'
              have TL : Hid (∀ W' (q : V) (lo : Nat), Below w7.heap.size w7 W' → Lies W' lo W'.heap.size q → Calls Tryz.prog 3 #[.agg #[.int .i64 7, .int .u64 0, .int .u64 0, .slice A6 (i + 1) c6], .agg #[.int .i64 q.kind, .int .u64 (q.a : Int), .int .u64 (q.b : Int), .slice q.addr q.parts.length q.cap], .int .u64 1, .int .u64 2] W' (TrueEnd W')) := fun W' q lo hW hq => by
                have h := tells_all HEn.out (bW7.trans (hW.mono bW7.size)) (.node 7 0 0 A6 c6 us7) q 1 2 (by omega) (by omega) (hLp.under hW) hW.size hq (Nat.le_refl _)
                simp only [V.kind, V.a, V.b, V.addr, V.cap, V.parts, HC7.out.1] at h ⊢
                exact h
              have BK : Hid (∀ W', Below w7.heap.size w7 W' → Calls Tryz.prog 6 #[.agg #[.int .i64 7, .int .u64 0, .int .u64 0, .slice A6 (i + 1) c6], .agg #[.int .i64 7, .int .u64 0, .int .u64 0, .slice A6 (i + 1) c6], .slice none 0 0, .int .u64 1, .int .u64 2] W' (TrueEnd W')) := fun W' hW => by
                have h := back_all HEn.out (bW7.trans (hW.mono bW7.size)) (.node 7 0 0 A6 c6 us7) (.node 7 0 0 A6 c6 us7) [] (by simp) none 0 0 (by omega) Rd.zero 1 2 (by omega) (by omega) (hLp.under hW) hW.size (hLp.under hW) hW.size
                simp only [V.kind, V.a, V.b, V.addr, V.cap, V.parts, HC7.out.1] at h
                exact h
              have HR7 := Lib_hid (And.intro hT7 (And.intro pW7 (And.intro bW7 sW7)))
              obtain ⟨c0, c1, c2, c3⟩ := HBX.out w7 (Below.refl _ _)
              clear hlen hcl hT7 hLp pW7 bW7 sW7
              go_region_held3 (fun w' => w'.cell? ⟨g9, 0, none⟩ = some (.int .i64 7) ∧ w'.cell? ⟨g9, 1, none⟩ = some (.int .u64 0) ∧ w'.cell? ⟨g9, 2, none⟩ = some (.int .u64 0) ∧ w'.cell? ⟨g9, 3, none⟩ = some (.slice A6 (i + 1) c6)) (go_keep) ((first
                | (go_simp; refine (MD.out _).mono ?_; rintro e w8 ⟨q, rfl, -, hqL, hb8'⟩; have hb8 : Below w7.heap.size w7 w8 := ⟨hb8'.os, hb8'.tape, hb8'.output, hb8'.size, hb8'.block⟩; obtain ⟨x0, x1, x2, x3⟩ := HBX.out w8 hb8)
                | (go_simp; refine (TL.out _ q _ (by exact hb8) (by exact hqL)).mono ?_; rintro e w9 ⟨rfl, hb9'⟩; have hb9 : Below w7.heap.size w7 w9 := hb8.trans (hb9'.mono hb8.size); obtain ⟨y0, y1, y2, y3⟩ := HBX.out w9 hb9)
                | (go_simp; refine (BK.out _ (by exact hb9)).mono ?_; rintro e w10 ⟨rfl, hb10'⟩; have hb10 : Below w7.heap.size w7 w10 := hb9.trans (hb10'.mono hb9.size); obtain ⟨z0, z1, z2, z3⟩ := HBX.out w10 hb10)))
              all_goals
                have hsz10 := hb10.size
                have hg97 := HR7.out.2.2.2
                have pW10 := (hb10.block g9 (by omega)).trans HR7.out.2.1
                have hT10 := Lib_hid (HR7.out.1.under hb10)
                have bW10 := HR7.out.2.2.1.trans (hb10.mono HR7.out.2.2.1.size)
                clear x0 x1 x2 x3 y0 y1 y2 y3 z0 z1 z2 z3 c0 c1 c2 c3 HBX MD TL BK HR7 hqL hb8 hb8' hb9 hb9' hb10 hb10'
                go_wp2
                go_roundw
                case rel => exact ⟨i + 1, us7, A6, c6, by go_num, by omega, HC7, hT10, pW10, by omega, bW10⟩
                case measure => simp [intOf]; omega
            · have hlt' : ¬ (i : Int) < 34 := by omega
              clear hus hT pW hi hsW
              go_upto_region 29 with (fail)
              clear hlt hlt' hsz3
              have q11 := heap_alloc_new W5 (.cells #[.int .i64 1, .int .u64 0, .int .u64 0, .slice none 0 0] 25)
              have hbw11 := bW.trans (below_new W5 (.cells #[.int .i64 1, .int .u64 0, .int .u64 0, .slice none 0 0] 25) |>.mono bW.size)
              have s11 : W5.heap.size + 1 = (W5.alloc (.cells #[.int .i64 1, .int .u64 0, .int .u64 0, .slice none 0 0] 25)).heap.size := by simp
              have hsz11 := bW.size
              obtain ⟨g11, hg11⟩ : ∃ g11, g11 = W5.heap.size := ⟨_, rfl⟩
              rw [← hg11] at q11 s11 hsz11 ⊢
              generalize W5.alloc _ = W6 at *
              clear bW hg11
              go_wp2
              go_loopw [12] (fun z W => ∃ (i : Nat) (v : V), z = .int .i64 i ∧ i ≤ 10 ∧ Hid (Lies W (g11 + 1) W.heap.size v) ∧ W.heap[g11]? = some (.cells #[.int .i64 v.kind, .int .u64 (v.a : Int), .int .u64 (v.b : Int), .slice v.addr v.parts.length v.cap] 25 (0, 0)) ∧ g11 + 1 ≤ W.heap.size ∧ Below w.heap.size w W) (fun z _ => 10 - (intOf z).toNat)
              case atStart => exact ⟨0, .node 1 0 0 none 0 [], rfl, by omega, Lib_hid (leafZ_lies _ _ _ _ _ _ (by omega) (by omega) (by omega)), q11, by omega, hbw11⟩
              case round =>
                clear q11 hbw11 s11
                obtain ⟨i, v, rfl, hi, hL, pW, hsW, bW⟩ := hrel
                rename World => W7
                by_cases hlt : i < 10
                · have hlt' : (i : Int) < 10 := by omega
                  have c0 := cell_of_row W7 _ 0 _ _ _ pW
                  have c1 := cell_of_row W7 _ 1 _ _ _ pW
                  have c2 := cell_of_row W7 _ 2 _ _ _ pW
                  have c3 := cell_of_row W7 _ 3 _ _ _ pW
                  have z0 := frozen_of_row W7 g11 0 _ _ pW
                  have z1 := frozen_of_row W7 g11 1 _ _ pW
                  have z2 := frozen_of_row W7 g11 2 _ _ pW
                  have z3 := frozen_of_row W7 g11 3 _ _ pW
                  simp at c0 c1 c2 c3
                  have gl : g11 < W7.heap.size := by omega
                  go_upto_region 33 with (fail)
                  have pP := put4_row pW (.int .i64 5) (.int .u64 0) (.int .u64 0) (.slice (some ⟨W7.heap.size, 0, none⟩) 1 1)
                  have bP := put4_below bW hsz11 (.int .i64 5) (.int .u64 0) (.int .u64 0) (.slice (some ⟨W7.heap.size, 0, none⟩) 1 1)
                  have sP := put4_size W7 g11 (.int .i64 5) (.int .u64 0) (.int .u64 0) (.slice (some ⟨W7.heap.size, 0, none⟩) 1 1)
                  have hLP : Lies (put4 W7 g11 (.int .i64 5) (.int .u64 0) (.int .u64 0) (.slice (some ⟨W7.heap.size, 0, none⟩) 1 1)) (g11 + 1) W7.heap.size v := hL.out.keep fun p h1 _ => World.cell?_of_block (put4_else W7 (by omega) _ _ _ _)
                  have hL8 := up_lies hLP (by rw [sP]; exact Nat.le_refl _) (by rw [sP]; omega) 25 5 (by omega)
                  have b8 := bP.trans (below_new (put4 W7 g11 (.int .i64 5) (.int .u64 0) (.int .u64 0) (.slice (some ⟨W7.heap.size, 0, none⟩) 1 1)) (.cells #[.int .i64 v.kind, .int .u64 (v.a : Int), .int .u64 (v.b : Int), .slice v.addr v.parts.length v.cap] 25) |>.mono bP.size)
                  have p8 := (heap_alloc_old (put4 W7 g11 (.int .i64 5) (.int .u64 0) (.int .u64 0) (.slice (some ⟨W7.heap.size, 0, none⟩) 1 1)) (.cells #[.int .i64 v.kind, .int .u64 (v.a : Int), .int .u64 (v.b : Int), .slice v.addr v.parts.length v.cap] 25) (show g11 < _ by rw [sP]; omega)).trans pP
                  have s8 : ((put4 W7 g11 (.int .i64 5) (.int .u64 0) (.int .u64 0) (.slice (some ⟨W7.heap.size, 0, none⟩) 1 1)).alloc (.cells #[.int .i64 v.kind, .int .u64 (v.a : Int), .int .u64 (v.b : Int), .slice v.addr v.parts.length v.cap] 25)).heap.size = W7.heap.size + 1 := by simp [sP]
                  rw [sP, ← s8] at hL8
                  show Code.wp _ _ _ _ ((put4 W7 g11 (.int .i64 5) (.int .u64 0) (.int .u64 0) (.slice (some ⟨W7.heap.size, 0, none⟩) 1 1)).alloc (.cells #[.int .i64 v.kind, .int .u64 (v.a : Int), .int .u64 (v.b : Int), .slice v.addr v.parts.length v.cap] 25))
                  clear pP bP sP hLP c0 c1 c2 c3 z0 z1 z2 z3 hL pW bW
                  generalize (put4 W7 g11 (.int .i64 5) (.int .u64 0) (.int .u64 0) (.slice (some ⟨W7.heap.size, 0, none⟩) 1 1)).alloc _ = W8 at *
                  generalize (some (⟨W7.heap.size, 0, none⟩ : Addr)) = A8 at *
                  have HBX : Hid (∀ W', Below W8.heap.size W8 W' → W'.cell? ⟨g11, 0, none⟩ = some (.int .i64 5) ∧ W'.cell? ⟨g11, 1, none⟩ = some (.int .u64 0) ∧ W'.cell? ⟨g11, 2, none⟩ = some (.int .u64 0) ∧ W'.cell? ⟨g11, 3, none⟩ = some (.slice A8 1 1)) := fun W' hW => by
                    have hx := (hW.block g11 (by omega)).trans p8
                    exact ⟨(cell_of_row W' _ 0 _ _ _ hx).trans rfl, (cell_of_row W' _ 1 _ _ _ hx).trans rfl, (cell_of_row W' _ 2 _ _ _ hx).trans rfl, (cell_of_row W' _ 3 _ _ _ hx).trans rfl⟩
                  have TL := tells_all HEn.out b8 (.node 5 0 0 A8 1 [v]) (.node 5 0 0 A8 1 [v]) 1 2 (by omega) (by omega) hL8 (Nat.le_refl _) hL8 (Nat.le_refl _)
                  have BK : Hid (∀ W', Below W8.heap.size W8 W' → Calls Tryz.prog 6 #[.agg #[.int .i64 5, .int .u64 0, .int .u64 0, .slice A8 1 1], .agg #[.int .i64 5, .int .u64 0, .int .u64 0, .slice A8 1 1], .slice none 0 0, .int .u64 1, .int .u64 2] W' (TrueEnd W')) := fun W' hW =>
                    back_all HEn.out (b8.trans (hW.mono b8.size)) (.node 5 0 0 A8 1 [v]) (.node 5 0 0 A8 1 [v]) [] (by simp) none 0 0 (by omega) Rd.zero 1 2 (by omega) (by omega) (hL8.under hW) hW.size (hL8.under hW) hW.size
                  have TL : Calls Tryz.prog 3 #[.agg #[.int .i64 5, .int .u64 0, .int .u64 0, .slice A8 1 1], .agg #[.int .i64 5, .int .u64 0, .int .u64 0, .slice A8 1 1], .int .u64 1, .int .u64 2] W8 (TrueEnd W8) := TL
                  have HR8 := Lib_hid (And.intro hL8 (And.intro p8 b8))
                  clear hL8 p8 b8
                  obtain ⟨c0, c1, c2, c3⟩ := HBX.out W8 (Below.refl _ _)
                  go_wp2_with fail
                  refine TL.mono ?_
                  rintro e w9 ⟨rfl, hb9⟩
                  clear TL c0 c1 c2 c3
                  obtain ⟨c0, c1, c2, c3⟩ := HBX.out w9 hb9
                  go_wp2_with fail
                  refine (BK.out w9 hb9).mono ?_
                  rintro e w10 ⟨rfl, hb10'⟩
                  have hb10 := hb9.trans (hb10'.mono hb9.size)
                  have hsz10 := hb10.size
                  have pW10 := (hb10.block g11 (by omega)).trans HR8.out.2.1
                  have hL10 := Lib_hid ((HR8.out.1.under hb10).more (Nat.le_refl _) hb10.size)
                  have bW10 := HR8.out.2.2.trans (hb10.mono HR8.out.2.2.size)
                  clear BK c0 c1 c2 c3 HBX HR8 hb9 hb10' hb10
                  go_wp2
                  go_roundw
                  case rel => exact ⟨i + 1, .node 5 0 0 A8 1 [v], by go_num, by omega, hL10, pW10, by omega, bW10⟩
                  case measure => simp [intOf]; omega
                · have hlt' : ¬ (i : Int) < 10 := by omega
                  clear hL pW hi hsW
                  go_upto_region 36 with (fail)
                  clear hlt hlt' hsz11
                  obtain ⟨ps, hps, hLr, hbO⟩ := odd_rows W7 25
                  have hbw8 := bW.trans (hbO.mono bW.size)
                  show Code.wp _ _ _ _ (oddW W7 25)
                  generalize oddW W7 25 = W8 at *
                  have HLR := Lib_hid (And.intro hps hLr)
                  have HW8 := Lib_hid hbw8
                  clear bW hbO hbw8 hLr hps
                  obtain ⟨g13, hg13⟩ : ∃ g13, g13 = W7.heap.size + 1 + 1 + 1 := ⟨_, rfl⟩
                  rw [← hg13] at HLR ⊢
                  clear hg13
                  go_wp2
                  go_loopw [14] (fun z W => ∃ i : Nat, z = .int .i64 i ∧ i ≤ 11 ∧ Below W8.heap.size W8 W) (fun z _ => 11 - (intOf z).toNat)
                  case atStart => exact ⟨0, rfl, by omega, Below.refl _ _⟩
                  case round =>
                    obtain ⟨i, rfl, hi, hb9⟩ := hrel
                    rename World => W9
                    by_cases hlt : i < 11
                    · have hlt' : (i : Int) < 11 := by omega
                      obtain ⟨j, hj, hjl⟩ : ∃ j : Nat, ((i : Int) + 1) % 11 = (j : Int) ∧ j < 11 := ⟨(i + 1) % 11, by omega, by omega⟩
                      have hjt : Int.tmod ((i : Int) + 1) 11 = (j : Int) := by rw [Int.tmod_eq_emod_of_nonneg (by omega)]; exact hj
                      have hw1 : IntKind.i64.wrap ((i : Int) + 1) = (i : Int) + 1 := IntWalk.i64_in _ (by omega)
                      have hw2 : IntKind.i64.wrap (j : Int) = (j : Int) := IntWalk.i64_in _ (by omega)
                      have hj0 : (0 : Int) ≤ (j : Int) := by omega
                      have hj11 : (j : Int) < 11 := by omega
                      have hi0 : (0 : Int) ≤ (i : Int) := by omega
                      have NTH : ∀ n, n < 11 → ∃ p : V, Hid (∀ W', Below W8.heap.size W8 W' → Lies W' W7.heap.size W8.heap.size p) ∧ Hid (∀ W', Below W8.heap.size W8 W' → W'.cell? ⟨g13, n * 4, none⟩ = some (.int .i64 p.kind) ∧ W'.cell? ⟨g13, n * 4 + 1, none⟩ = some (.int .u64 (p.a : Int)) ∧ W'.cell? ⟨g13, n * 4 + 2, none⟩ = some (.int .u64 (p.b : Int)) ∧ W'.cell? ⟨g13, n * 4 + 3, none⟩ = some (.slice p.addr p.parts.length p.cap)) := fun n hn => by
                        obtain ⟨bb, off, p, e, _, _, hp, hpL, _⟩ := HLR.out.2.nth (i := n) (by have := HLR.out.1; omega)
                        refine ⟨p, fun W' hW => hpL.under hW, fun W' hW => ?_⟩
                        obtain ⟨bb2, off2, p2, e2, _, _, hp2, _, d0, d1, d2, d3⟩ := (HLR.out.2.under hW).nth (i := n) (by have := HLR.out.1; omega)
                        rw [hp] at hp2
                        injection hp2 with hp2
                        subst hp2
                        injection e2 with e2
                        injection e2 with e2 e3
                        subst e2
                        subst e3
                        rw [Nat.zero_add] at d0 d1 d2 d3
                        exact ⟨d0, d1, d2, d3⟩
                      obtain ⟨p, HP, CP⟩ := NTH i hlt
                      obtain ⟨q, HQ, CQ⟩ := NTH j hjl
                      clear NTH hj
                      have TL : Hid (∀ W', Below W8.heap.size W8 W' → Calls Tryz.prog 3 #[.agg #[.int .i64 p.kind, .int .u64 (p.a : Int), .int .u64 (p.b : Int), .slice p.addr p.parts.length p.cap], .agg #[.int .i64 q.kind, .int .u64 (q.a : Int), .int .u64 (q.b : Int), .slice q.addr q.parts.length q.cap], .int .u64 0, .int .u64 0] W' (TrueEnd W')) := fun W' hW =>
                        tells_all HEn.out (HW8.out.trans (hW.mono HW8.out.size)) p q 0 0 (by omega) (by omega) (HP.out W' hW) hW.size (HQ.out W' hW) hW.size
                      have BK : Hid (∀ W', Below W8.heap.size W8 W' → Calls Tryz.prog 6 #[.agg #[.int .i64 p.kind, .int .u64 (p.a : Int), .int .u64 (p.b : Int), .slice p.addr p.parts.length p.cap], .agg #[.int .i64 p.kind, .int .u64 (p.a : Int), .int .u64 (p.b : Int), .slice p.addr p.parts.length p.cap], .slice none 0 0, .int .u64 0, .int .u64 0] W' (TrueEnd W')) := fun W' hW =>
                        back_all HEn.out (HW8.out.trans (hW.mono HW8.out.size)) p p [] (by simp) none 0 0 (by omega) Rd.zero 0 0 (by omega) (by omega) (HP.out W' hW) hW.size (HP.out W' hW) hW.size
                      have HB9 := Lib_hid hb9
                      obtain ⟨c0, c1, c2, c3⟩ := CP.out W9 hb9
                      obtain ⟨d0, d1, d2, d3⟩ := CQ.out W9 hb9
                      clear hb9
                      go_upto_region 39 with (fail)
                      go_region_held3 (fun w' => (w'.cell? ⟨g13, i * 4, none⟩ = some (.int .i64 p.kind) ∧ w'.cell? ⟨g13, i * 4 + 1, none⟩ = some (.int .u64 (p.a : Int)) ∧ w'.cell? ⟨g13, i * 4 + 2, none⟩ = some (.int .u64 (p.b : Int)) ∧ w'.cell? ⟨g13, i * 4 + 3, none⟩ = some (.slice p.addr p.parts.length p.cap)) ∧
                          w'.cell? ⟨g13, j * 4, none⟩ = some (.int .i64 q.kind) ∧ w'.cell? ⟨g13, j * 4 + 1, none⟩ = some (.int .u64 (q.a : Int)) ∧ w'.cell? ⟨g13, j * 4 + 2, none⟩ = some (.int .u64 (q.b : Int)) ∧ w'.cell? ⟨g13, j * 4 + 3, none⟩ = some (.slice q.addr q.parts.length q.cap)) (go_keep) ((first
                        | (go_simp; refine (TL.out _ (by exact ⟨HB9.out.os, HB9.out.tape, HB9.out.output, HB9.out.size, HB9.out.block⟩)).mono ?_; rintro e w10 ⟨rfl, hb10'⟩; have hb10 : Below W8.heap.size W8 w10 := HB9.out.trans (Below.mono ⟨hb10'.os, hb10'.tape, hb10'.output, hb10'.size, hb10'.block⟩ HB9.out.size); obtain ⟨x0, x1, x2, x3⟩ := CP.out w10 hb10; obtain ⟨y0, y1, y2, y3⟩ := CQ.out w10 hb10)
                        | (go_simp; refine (BK.out _ (by exact hb10)).mono ?_; rintro e w11 ⟨rfl, hb11'⟩; have hb11 : Below W8.heap.size W8 w11 := hb10.trans (hb11'.mono hb10.size); obtain ⟨z0, z1, z2, z3⟩ := CP.out w11 hb11; obtain ⟨v0, v1, v2, v3⟩ := CQ.out w11 hb11)))
                      all_goals
                        clear x0 x1 x2 x3 y0 y1 y2 y3 z0 z1 z2 z3 v0 v1 v2 v3 c0 c1 c2 c3 d0 d1 d2 d3 TL BK CP CQ HP HQ HB9 hb10 hb10' hb11' hjt hw1 hw2
                        go_wp2
                        go_roundw
                        case rel => exact ⟨i + 1, by go_num, by omega, hb11⟩
                        case measure => simp [intOf]; omega
                    · have hlt' : ¬ (i : Int) < 11 := by omega
                      have hb := HW8.out.trans (hb9.mono HW8.out.size)
                      clear hb9 HLR HW8 hi
                      have o1 : (W9.alloc (.cells #[.int .u8 6, .int .u8 255, .int .u8 255, .int .u8 255, .int .u8 255, .int .u8 255, .int .u8 255, .int .u8 255, .int .u8 255, .int .u8 255, .int .u8 1, .int .u8 1] 5)).ownsRow W9.heap.size 5 1 (.slice (some ⟨W9.heap.size, 0, none⟩) 12 12) 12 (bs [6, 255, 255, 255, 255, 255, 255, 255, 255, 255, 1, 1]) :=
                        World.ownsRow_lit W9 #[.int .u8 6, .int .u8 255, .int .u8 255, .int .u8 255, .int .u8 255, .int .u8 255, .int .u8 255, .int .u8 255, .int .u8 255, .int .u8 255, .int .u8 1, .int .u8 1] 12 (Nat.le_refl _) (by decide) rfl
                      have hb1 := hb.trans (below_new W9 (.cells #[.int .u8 6, .int .u8 255, .int .u8 255, .int .u8 255, .int .u8 255, .int .u8 255, .int .u8 255, .int .u8 255, .int .u8 255, .int .u8 255, .int .u8 1, .int .u8 1] 5) |>.mono hb.size)
                      have TK1 := takes_all HEn.out hb1 [6, 255, 255, 255, 255, 255, 255, 255, 255, 255, 1, 1] (by decide) _ 12 12 (by omega) 0 (Rd.own o1)
                      clear hb o1
                      go_wp2_with fail
                      refine TK1.mono ?_
                      rintro e w10 ⟨rfl, hb10⟩
                      have hb := hb1.trans (hb10.mono hb1.size)
                      clear TK1 hb1 hb10 hlt hlt'
                      have o2 : (w10.alloc (.cells #[.int .u8 6, .int .u8 32] 5)).ownsRow w10.heap.size 5 1 (.slice (some ⟨w10.heap.size, 0, none⟩) 2 2) 2 (bs [6, 32]) := World.ownsRow_lit w10 #[.int .u8 6, .int .u8 32] 2 (Nat.le_refl _) (by decide) rfl
                      have hb1 := hb.trans (below_new w10 (.cells #[.int .u8 6, .int .u8 32] 5) |>.mono hb.size)
                      have TK2 := takes_all HEn.out hb1 [6, 32] (by decide) _ 2 2 (by omega) 0 (Rd.own o2)
                      clear hb o2
                      go_wp2_with fail
                      refine TK2.mono ?_
                      rintro e w11 ⟨rfl, hb11⟩
                      have hb := hb1.trans (hb11.mono hb1.size)
                      clear TK2 hb1 hb11
                      have TK3 := takes_all HEn.out hb [] (by simp) none 0 0 (by omega) (-1) Rd.zero
                      go_wp2_with fail
                      refine TK3.mono ?_
                      rintro e w12 ⟨rfl, hb12⟩
                      have hb2 := hb.trans (hb12.mono hb.size)
                      clear TK3 hb hb12
                      have o3 : (w12.alloc (.cells #[.int .u8 1] 5)).ownsRow w12.heap.size 5 1 (.slice (some ⟨w12.heap.size, 0, none⟩) 1 1) 1 (bs [1]) := World.ownsRow_lit w12 #[.int .u8 1] 1 (Nat.le_refl _) (by decide) rfl
                      have hb1 := hb2.trans (below_new w12 (.cells #[.int .u8 1] 5) |>.mono hb2.size)
                      have TK4 := takes_all HEn.out hb1 [1] (by decide) _ 1 1 (by omega) 1 (Rd.own o3)
                      clear hb2 o3
                      go_wp2_with fail
                      refine TK4.mono ?_
                      rintro e w13 ⟨rfl, hb13⟩
                      have hb := hb1.trans (hb13.mono hb1.size)
                      clear TK4 hb1 hb13
                      have WK := works4_any w.heap.size w13 (HEn.out.under hb (Nat.le_refl _)) hb.size
                      go_wp2_with fail
                      refine WK.mono ?_
                      rintro e w14 ⟨rfl, hb14⟩
                      have hbe := hb.trans (hb14.mono hb.size)
                      clear WK hb hb14
                      go_wp2_with fail
                      go_ret
                      exact ⟨rfl, hbe⟩

end Go.Proofs.YtiijdacnfhiagaaGreatDoor
