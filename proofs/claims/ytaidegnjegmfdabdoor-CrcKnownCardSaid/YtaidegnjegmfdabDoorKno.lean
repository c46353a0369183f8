/-
  The statement's function CrcKnown returns true.
-/
import Derived.Test.YtaidegnjegmfdabDoorTel
import Derived.Test.YtaidegnjegmfdabDoorOps
import Derived.Test.YtaidegnjegmfdabDoorFnd
import Derived.Test.YtaidegnjegmfdabDoorJoi
namespace Go.Proofs.YtaidegnjegmfdabDoor
open Go Go.RowKit
set_option linter.unusedVariables false

/-- CrcTells of rows that a literal lists. -/
theorem tells_lit {w W : World} {B m g : Nat} {vs : List Value} {ls : List (List Nat)} (cs : Array Value) (hcs : cs.toList = vs) (hm : vs.length = m) (hg : g = w.heap.size) (hW : W.heap = (w.alloc (.cells cs 23)).heap) (hT : Tab w) (hR : Rws w B vs ls) (hB : B ≤ w.heap.size) (hn : m ≤ 1000) :
    Calls Tryd.prog 3 #[.slice (some ⟨g, 0, none⟩) m m] W fun e w' => e = .returned (.bool true) ∧ Below W.heap.size W w' := by
  subst hm hg
  have hsz : W.heap.size = w.heap.size + 1 := by rw [hW]; simp
  have old : ∀ k, k < w.heap.size → W.heap[k]? = w.heap[k]? := fun k hk => by rw [hW]; exact heap_alloc_old w _ hk
  have hT' : Tab W := ⟨by omega, fun k hk => (World.cell?_of_block (old 0 hT.1) : W.cell? ⟨0, k, none⟩ = w.cell? ⟨0, k, none⟩).trans (hT.2 k hk)⟩
  have hR' : Rws W B vs ls := hR.keep fun p hp => World.cell?_of_block (old _ (by omega))
  refine tells_any (w.heap.size + 1) _ vs.length _ vs ls W hT' ⟨by simp, fun h0 => ⟨_, rfl, by show w.heap.size < _; omega, fun j u hu => ?_⟩⟩ (hR'.more (by omega)) (by omega) (by omega)
  have hb : W.heap[w.heap.size]? = some (.cells cs 23 (0, 0)) := by rw [hW]; exact heap_alloc_new w _
  have := Joins.cell_of_block hb j
  have e : (⟨w.heap.size, 0, none⟩ : Addr).add j = ⟨w.heap.size, j, none⟩ := by unfold Addr.add; split <;> simp_all
  rw [e, this, ← hu, ← hcs]
  simp

theorem u32_lo (x : Int) : 0 ≤ IntKind.u32.wrap x := by rw [IntKind.wrap_u32']; omega
theorem u32_hi (x : Int) : IntKind.u32.wrap x ≤ 4294967295 := by rw [IntKind.wrap_u32']; omega

set_option maxRecDepth 100000 in
set_option maxHeartbeats 3200000 in
theorem known_any (w : World) (hT : Tab w) : Calls Tryd.prog 7 #[] w fun e w' => e = .returned (.bool true) ∧ Below w.heap.size w w' := by
  obtain ⟨i0, hi, hz0, hz1, hz2⟩ := info_parts Tryd.info5
  have hmk : ∀ (n : Nat) wx, n ≤ 1000 → (Instr.makeSlice 23 (.int .i64 n) (.int .i64 n)).run Tryd.prog wx = .ok (.slice (some ⟨wx.heap.size, 0, none⟩) n n) (wx.alloc (.cells (madeCells #[.int .u8 0] n) 5)) := by
    intro n wx hn
    have := run_make (P := Tryd.prog) wx 23 5 i0 (.int .u8 0) Tryd.underlying23 hi hz0 .i64 .i64 (n : Int) (n : Int) (by omega) (by omega) (by rw [hz2]; omega) (by omega)
    rw [hz1, show (Value.int .u8 0).cells = #[.int .u8 0] from rfl] at this
    simpa using this
  have hown : ∀ (n : Nat) (wx : World), n ≤ 1000 → (wx.alloc (.cells (madeCells #[.int .u8 0] n) 5)).ownsRow wx.heap.size 5 1 (.slice (some ⟨wx.heap.size, 0, none⟩) n n) n (bs (List.replicate n 0)) := by
    intro n wx hn
    have := World.ownsRow_lit (base := wx.heap.size) (e := 5) (size := 1) wx (madeCells #[.int .u8 0] n) n (Nat.le_refl _) (by unfold maxLen; omega) (by rw [size_madeCells]; omega)
    rwa [made_bytes] at this
  have mk70 : ∀ wx, (Instr.makeSlice 23 (.int .i64 70) (.int .i64 70)).run Tryd.prog wx = .ok (.slice (some ⟨wx.heap.size, 0, none⟩) 70 70) (wx.alloc (.cells (madeCells #[.int .u8 0] 70) 5)) := fun wx => hmk 70 wx (by decide)
  have mk300 : ∀ wx, (Instr.makeSlice 23 (.int .i64 300) (.int .i64 300)).run Tryd.prog wx = .ok (.slice (some ⟨wx.heap.size, 0, none⟩) 300 300) (wx.alloc (.cells (madeCells #[.int .u8 0] 300) 5)) := fun wx => hmk 300 wx (by decide)
  have HO := Lib_hid hown
  have ho70 := hown 70 w (by decide)
  clear hmk hown
  generalize madeCells #[.int .u8 0] 70 = c70 at *
  generalize EC3 : madeCells #[.int .u8 0] 300 = c300 at *
  have HC3 := Lib_hid EC3
  clear EC3
  have HO7 := Lib_hid ho70
  clear ho70
  go_enter Tryd.func7, Tryd.ntmps7
  go_wp2
  go_loopw [2] (fun i wr => ∃ (k : Nat) (m : List Nat), i = .int .i64 k ∧ k ≤ 70 ∧ m.length = 70 ∧ (∀ x ∈ m, x < 256) ∧ wr.ownsRow w.heap.size 5 1 (.slice (some ⟨w.heap.size, 0, none⟩) 70 70) 70 (bs m) ∧ Below w.heap.size w wr) (fun i _ => 70 - (intOf i).toNat)
  case atStart => exact ⟨0, List.replicate 70 0, rfl, by omega, by simp, fun x hx => by rw [(List.mem_replicate.1 hx).2]; decide, HO7.out, below_new _ _⟩
  case round =>
    obtain ⟨k, m, rfl, hk, hml, hmb, ho, hbw⟩ := hrel
    by_cases hlt : k < 70
    · have hkk : k * k ≤ 4900 := Nat.le_trans (Nat.mul_le_mul (show k ≤ 70 by omega) (show k ≤ 70 by omega)) (by decide)
      obtain ⟨q, hq⟩ : ∃ q, q = k * k := ⟨_, rfl⟩
      have hqi : (k : Int) * (k : Int) = (q : Int) := by rw [hq]; simp
      have hq4 : q ≤ 4900 := by rw [hq]; exact hkk
      clear hq hkk
      have hcell : wr.cell? ⟨w.heap.size, k, none⟩ = some (.int .u8 (m.getD k 0 : Nat)) := by
        rw [ho.cellAt _ (by omega), bs_get (by omega), List.getD_eq_getElem?_getD, List.getElem?_eq_getElem (by omega)]; rfl
      have hfr := ho.frozenAt k
      have ⟨hs1, hs2⟩ := ho.stored k (.int .u8 ((q * 3 % 256 : Nat) : Int))
      rw [← bs_set'] at hs1
      have hbw2 := hbw.grown hs2 hbw.size (own_ge ho)
      have hmb2 : ∀ x ∈ m.set k (q * 3 % 256), x < 256 := by
        intro x hx
        rcases List.mem_or_eq_of_mem_set hx with hx | rfl
        · exact hmb x hx
        · exact Nat.mod_lt _ (by decide)
      have hml2 : (m.set k (q * 3 % 256)).length = 70 := by rw [List.length_set]; exact hml
      have HV : Hid (((q : Int) * 3 % 256) = ((q * 3 % 256 : Nat) : Int)) := by unfold Hid; simp
      have H1 := Lib_hid hs1
      have H2 := Lib_hid hbw2
      have H3 := Lib_hid hmb2
      have H4 := Lib_hid hml2
      clear hs1 hs2 hbw2 hmb2 hml2 hml hmb ho
      go_wp2
      go_roundw
      case rel => exact ⟨k + 1, _, by go_num, by omega, H4.out, H3.out, by rw [HV.out]; exact H1.out, by rw [HV.out]; exact H2.out⟩
      case measure => simp [intOf]; omega
    · obtain rfl : k = 70 := by omega
      have rb := Rd.own ho
      have HMB := Lib_hid hmb
      have HML := Lib_hid hml
      obtain ⟨wb, rfl⟩ : ∃ x, x = wr := ⟨wr, rfl⟩
      have hTb := hT.below hbw hT.1
      clear ho hmb hml HO7
      go_wp2
      go_loopw [3] (fun i wr => ∃ k : Nat, i = .int .i64 k ∧ k ≤ 70 ∧ Below wb.heap.size wb wr) (fun i _ => 70 - (intOf i).toNat)
      case atStart => exact ⟨0, rfl, by omega, Below.refl _ _⟩
      case round =>
        obtain ⟨k, rfl, hk, hbr⟩ := hrel
        by_cases hlt : k < 70
        · have hrow := rb.below hbr
          obtain ⟨h, hh⟩ : ∃ h, h = k / 2 := ⟨_, rfl⟩
          have hhk : h ≤ k := by omega
          have eh : (k : Int) / 2 = (h : Int) := by omega
          have eh' : (k : Int).tdiv 2 = (h : Int) := by rw [Int.tdiv_eq_ediv_of_nonneg (by omega)]; omega
          have ew1 : IntKind.i64.wrap (h : Int) = (h : Int) := by rw [IntKind.wrap_i64]; omega
          obtain ⟨k1, hk1⟩ : ∃ k1, k1 = 1 + k := ⟨_, rfl⟩
          have ew2 : IntKind.i64.wrap (1 + (k : Int)) = (k1 : Int) := by rw [IntKind.wrap_i64]; omega
          obtain ⟨r, hr⟩ : ∃ r, r = k % 32 := ⟨_, rfl⟩
          have em : (k : Int).tmod 32 = (r : Int) := by rw [Int.tmod_eq_emod_of_nonneg (by omega)]; omega
          have em2 : (k : Int) % 32 = (r : Int) := by omega
          have er0 : (0 : Int) ≤ (r : Int) := by omega
          have er1 : (r : Int) ≤ 31 := by omega
          have ek1 : k1 ≤ 70 := by omega
          have er2 : IntKind.i64.wrap (r : Int) = (r : Int) := by rw [IntKind.wrap_i64]; omega
          obtain ⟨D1, f1, r1⟩ := slice_hi (k := h) hrow (by omega) (Nat.le_refl 70)
          obtain ⟨D2, f2, r2⟩ := slice_lh (j := h) (k := k) hrow hhk (by omega) (Nat.le_refl 70)
          obtain ⟨D3, f3, r3⟩ := slice_hi (k := k) hrow (by omega) (Nat.le_refl 70)
          obtain ⟨D4, f4, r4⟩ := slice_lo (j := k) hrow (by omega) (Nat.le_refl 70)
          obtain ⟨D5, f5, r5⟩ := slice_lo (j := h) hrow (by omega) (Nat.le_refl 70)
          obtain ⟨D6, f6, r6⟩ := slice_hi (k := k1) hrow (by omega) (Nat.le_refl 70)
          rw [← bs_take] at r1 r3 r6
          rw [← bs_drop] at r4 r5
          rw [← bs_take, ← bs_drop] at r2
          clear hh hk1 hr
          go_wp2_with fail
          have hTr := hTb.below hbr hTb.1
          have hbyt : ∀ j, (∀ x ∈ m.take j, x < 256) ∧ (∀ x ∈ m.drop j, x < 256) := fun j => ⟨fun x hx => HMB.out x (List.mem_of_mem_take hx), fun x hx => HMB.out x (List.mem_of_mem_drop hx)⟩
          have hB0 := hbr.size
          have HT : Hid (∀ W, Below wr.heap.size wr W → Tab W) := fun W h => hTr.below h hTr.1
          have KT : Hid (∀ W : World, W.heap = (wr.alloc (.cells #[.slice D1 h 70, .slice none 0 0, .slice D2 (k - h) (70 - h)] 23)).heap → Below wr.heap.size wr W → Calls Tryd.prog 3 #[.slice (some ⟨wr.heap.size, 0, none⟩) 3 3] W fun e w' => e = .returned (.bool true) ∧ Below wr.heap.size wr w') := fun W hW hbW => by
            refine (tells_lit (w := wr) (W := W) (m := 3) #[.slice D1 h 70, .slice none 0 0, .slice D2 (k - h) (70 - h)] rfl rfl rfl hW hTr (Rws.cons r1 (hbyt _).1 (by omega) (by decide) (Rws.cons (c := 0) (l := []) Rd.zero (by simp) (Nat.le_refl _) (by decide) (Rws.one r2 (fun x hx => (hbyt k).1 x (List.mem_of_mem_drop hx)) (by omega) (by omega)))) hB0 (by decide)).mono ?_
            rintro e w' ⟨rfl, hb⟩
            exact ⟨rfl, hbW.trans (hb.mono hbW.size)⟩
          have KO : Hid (∀ W : World, Below wr.heap.size wr W → Calls Tryd.prog 4 #[.slice D3 k 70] W fun e w' => e = .returned (.bool true) ∧ Below wr.heap.size wr w') := fun W hbW => by
            refine (opens_any wb.heap.size D3 k 70 (m.take k) W (HT.out W hbW) (r3.below (hbW.mono hB0)) (hbyt k).1 (by omega) (by decide) (Nat.le_trans hB0 hbW.size)).mono ?_
            rintro e w' ⟨rfl, hb⟩
            exact ⟨rfl, hbW.trans (hb.mono hbW.size)⟩
          have KP : Hid (∀ W : World, Below wr.heap.size wr W → Calls Tryd.prog 15 #[.slice (some ⟨W.heap.size, 0, none⟩) 1 1] (W.alloc (.cells #[.slice D3 k 70] 23)) fun e w' => ∃ A c n ys, e = .returned (.slice A n c) ∧ Rd w' w'.heap.size 1 A n (bs ys) ∧ (∀ x ∈ ys, x < 256) ∧ n ≤ c ∧ c ≤ 9223372036854775807 ∧ Below wr.heap.size wr w') := fun W hbW => by
            refine (put_row (c := 70) (HT.out W hbW) (r3.below (hbW.mono hB0)) (hbyt k).1 (by omega) (by decide) (Nat.le_trans hB0 hbW.size) rfl (by omega)).mono ?_
            rintro e w' ⟨⟨A, c, rfl, ho, hb⟩, _⟩
            have hcap := own_cap ho
            exact ⟨A, c, _, _, rfl, Rd.own ho, crcPut_byte (hbyt k).1, hcap.1, hcap.2, hbW.trans (hb.mono hbW.size)⟩
          have KQ : Hid (∀ (W : World) (A : Option Addr) (c n : Nat) (ys : List Nat), Below wr.heap.size wr W → Rd W W.heap.size 1 A n (bs ys) → (∀ x ∈ ys, x < 256) → n ≤ c → c ≤ 9223372036854775807 → Calls Tryd.prog 4 #[.slice A n c] W fun e w' => e = .returned (.bool true) ∧ Below wr.heap.size wr w') := fun W A c n ys hbW h1 h2 h3 h4 => by
            refine (opens_any W.heap.size A n c ys W (HT.out W hbW) h1 h2 h3 h4 (Nat.le_refl _)).mono ?_
            rintro e w' ⟨rfl, hb⟩
            exact ⟨rfl, hbW.trans (hb.mono hbW.size)⟩
          have KJ : Hid (∀ W : World, Below wr.heap.size wr W → Calls Tryd.prog 6 #[.slice (some ⟨w.heap.size, 0, none⟩) 70 70, .slice D4 (70 - k) (70 - k), .slice D5 (70 - h) (70 - h)] W fun e w' => e = .returned (.bool true) ∧ Below wr.heap.size wr w') := fun W hbW => by
            refine (joins_any wb.heap.size _ D4 D5 70 (70 - k) (70 - h) 70 (70 - k) (70 - h) m (m.drop k) (m.drop h) W (HT.out W hbW) (hrow.below (hbW.mono hB0)) (r4.below (hbW.mono hB0)) (r5.below (hbW.mono hB0)) HMB.out (hbyt k).2 (hbyt h).2 (Nat.le_refl _) (by decide) (Nat.le_refl _) (by omega) (Nat.le_refl _) (by omega) (Nat.le_trans hB0 hbW.size)).mono ?_
            rintro e w' ⟨rfl, hb⟩
            exact ⟨rfl, hbW.trans (hb.mono hbW.size)⟩
          have KF : Hid (∀ (W : World) (a d : Int), 0 ≤ d → d ≤ 4294967295 → Below wr.heap.size wr W → Calls Tryd.prog 5 #[.slice (some ⟨w.heap.size, 0, none⟩) 70 70, .int .i64 a, .int .u32 d] W fun e w' => e = .returned (.bool true) ∧ Below wr.heap.size wr w') := fun W a d h0 h1 hbW => by
            obtain ⟨d', rfl⟩ := Int.eq_ofNat_of_zero_le h0
            refine (finds_any wb.heap.size _ 70 70 m a d' W (HT.out W hbW) (hrow.below (hbW.mono hB0)) HMB.out (Nat.le_refl _) (by decide) (Nat.le_trans hB0 hbW.size) h1).mono ?_
            rintro e w' ⟨rfl, hb⟩
            exact ⟨rfl, hbW.trans (hb.mono hbW.size)⟩
          have KG : Hid (∀ (W : World) (a d : Int), 0 ≤ d → d ≤ 4294967295 → Below wr.heap.size wr W → Calls Tryd.prog 5 #[.slice D6 k1 70, .int .i64 a, .int .u32 d] W fun e w' => e = .returned (.bool true) ∧ Below wr.heap.size wr w') := fun W a d h0 h1 hbW => by
            obtain ⟨d', rfl⟩ := Int.eq_ofNat_of_zero_le h0
            refine (finds_any wb.heap.size D6 k1 70 (m.take k1) a d' W (HT.out W hbW) (r6.below (hbW.mono hB0)) (hbyt _).1 (by omega) (by decide) (Nat.le_trans hB0 hbW.size) h1).mono ?_
            rintro e w' ⟨rfl, hb⟩
            exact ⟨rfl, hbW.trans (hb.mono hbW.size)⟩
          clear r1 r2 r3 r4 r5 r6 hbyt hTr HT hrow
          go_region_held3 (fun _ => True) (trivial) ((first | (go_at_call 3; refine (KT.out _ (by rfl) (by go_grown)).mono ?_; rintro e w1 ⟨rfl, hb1⟩) | (go_at_call 5; have := hb6; refine (KG.out _ _ _ ?_ ?_ hb6).mono ?_; (first | exact u32_lo _ | omega); (first | exact u32_hi _ | omega); rintro e w7 ⟨rfl, hb7⟩) | (go_at_call 5; have := hb5; refine (KF.out _ _ _ ?_ ?_ hb5).mono ?_; (first | exact u32_lo _ | omega); (first | exact u32_hi _ | omega); rintro e w6 ⟨rfl, hb6⟩) | (go_at_call 6; refine (KJ.out _ hb4).mono ?_; rintro e w5 ⟨rfl, hb5⟩) | (go_at_call 4; have := hb3; refine (KQ.out _ _ _ _ ys hb3 hp1 hp2 hp3 hp4).mono ?_; rintro e w4 ⟨rfl, hb4⟩) | (go_at_call 15; refine (KP.out w2 hb2).mono ?_; rintro e w3 ⟨AP, cP, nP, ys, rfl, hp1, hp2, hp3, hp4, hb3⟩) | (go_at_call 4; refine (KO.out _ hb1).mono ?_; rintro e w2 ⟨rfl, hb2⟩)))
          have hb9 := hbr.trans (hb7.mono hbr.size)
          clear hb1 hb2 hb3 hb4 hb5 hb6 hb7 hp1 hp2 hp3 hp4
          go_wp2
          go_roundw
          case rel => (repeat apply Exists.intro); exact ⟨⟨k + 1, by go_num, by omega, hb9⟩, rfl⟩
          case measure => simp [intOf]; omega
        · obtain rfl : k = 70 := by omega
          have hbw2 := hbw.trans (hbr.mono hbw.size)
          have K1 := tells_any wr.heap.size none 0 0 [] [] wr (hT.below hbw2 hT.1) Rd.zero (Rws.nil _ _) (Nat.le_refl _) (by omega)
          go_wp2_with fail
          refine K1.mono ?_
          rintro e w3 ⟨rfl, hb3⟩
          have hbw3 := hbw2.trans (hb3.mono hbw2.size)
          have h3 := HO.out 300 w3 (by decide)
          rw [HC3.out] at h3
          have hbn := below_new w3 (.cells c300 5)
          have hT3 := (hT.below hbw3 hT.1).below hbn (Nat.lt_of_lt_of_le hT.1 hbw3.size)
          have K2 := tells_lit (w := w3.alloc (.cells c300 5)) (W := (w3.alloc (.cells c300 5)).alloc (.cells #[.slice (some ⟨w3.heap.size, 0, none⟩) 300 300] 23)) (g := w3.heap.size + 1) (m := 1) #[.slice (some ⟨w3.heap.size, 0, none⟩) 300 300] rfl rfl (by simp) rfl hT3
            (Rws.one (Rd.own h3) (fun x hx => by rw [(List.mem_replicate.1 hx).2]; decide) (Nat.le_refl _) (by decide)) (Nat.le_refl _) (by omega)
          have hbw4 : Below w.heap.size w ((w3.alloc (.cells c300 5)).alloc (.cells #[.slice (some ⟨w3.heap.size, 0, none⟩) 300 300] 23)) := (hbw3.alloc hbw3.size _).alloc (by have := hbw3.size; simp; omega) _
          clear K1 hb3 h3 hT3 hbn
          go_wp2_with fail
          refine K2.mono ?_
          rintro e w4 ⟨rfl, hb4⟩
          have hbw5 := hbw4.trans (hb4.mono hbw4.size)
          have WK := works_any w4 (hT.below hbw5 hT.1)
          clear K2 hb4
          go_wp2_with fail
          refine WK.mono ?_
          rintro e w5 ⟨rfl, hb5⟩
          go_wp2
          go_ret
          exact ⟨rfl, hbw5.trans (hb5.mono hbw5.size)⟩

end Go.Proofs.YtaidegnjegmfdabDoor
