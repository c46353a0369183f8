/-
  Layer 5: the entries' words: the program's.
  Layer 5: the document's reading of a text, plainly: loosely, and held against the text.
  Layer 5: the document's Cuts, Value, version, Told, words.
  Layer 5: the document's Value, version, Told, words.
-/
import Derived.Test.YtiiiklenhmhccaaGreatDoorZpInr
import Derived.Test.YtiiiklenhmhccaaGreatDoorZpTp4
import Derived.Test.YtiiiklenhmhccaaGreatDoorZpVds
import Derived.Test.YtiiiklenhmhccaaGreatDoorZpVpm
import Derived.Test.YtiiiklenhmhccaaGreatDoorZpTqb
import Derived.StillTailTactics
import Derived.Test.YtiiiklenhmhccaaGreatDoorZpVfd

namespace Go.Proofs.YtiiiklenhmhccaaGreatDoor
open Go Go.RowKit
set_option linter.unusedVariables false
set_option maxRecDepth 100000 in
set_option maxHeartbeats 3200000 in
theorem tellentries_any (B : Nat) (es : List En) (Ae : Option Addr) (ce hi : Nat) (w : World) (hr : Rd w hi 4 Ae es.length (enCells es)) (hhi : hi ≤ w.heap.size) (hok : ∀ e ∈ es, e.ok) (hl : es.length ≤ 100000) (hE : Env B w) (hB : B ≤ w.heap.size) :
    Calls Tryz.prog 150 #[.slice Ae es.length ce] w (TellEnd (es.map En.tell) w) := by
  obtain ⟨i0, hi0, hz0, hz1, hz2⟩ := info_parts Tryz.infoS
  have HR : Hid (∀ W, Below w.heap.size w W → Rd W hi 4 Ae es.length (enCells es)) := fun W hW => hr.below (hW.mono hhi)
  have HOK := Lib_hid hok
  have HE : Hid (∀ W, Below w.heap.size w W → Env B W ∧ B ≤ W.heap.size) := fun W hW => ⟨hE.under (hW.mono (Nat.le_refl _)) hB, Nat.le_trans hB hW.size⟩
  have HLM : Hid ((es.map En.tell).length = es.length) := by unfold Hid; simp
  clear hr hok hE
  go_enter Tryz.func150, Tryz.ntmps150
  go_wp2
  go_loopw [3, 8] (fun s z wr => ∃ (i n cap : Nat) (A : Option Addr), s = .slice A n cap ∧ z = .int .i64 i ∧ i ≤ es.length ∧ Hid (n = i) ∧ wr.ownsRow w.heap.size 9 1 (.slice A n cap) n (strs ((es.take i).map En.tell)) ∧ Hid (Below w.heap.size w wr)) (fun _ z _ => es.length - (intOf z).toNat)
  case atStart => exact ⟨0, 0, 0, none, rfl, rfl, Nat.zero_le _, rfl, World.ownsRow_nil _ _ _ _, Below.refl _ _⟩
  case round =>
    obtain ⟨i, n, cap, A, rfl, rfl, hi1, hn, hown, hbw⟩ := hrel
    by_cases hlt : i < es.length
    · obtain ⟨b, off, en, rfl, hbh, he, d0, d1, d2, d3⟩ := en_nth (HR.out wr hbw.out) hlt
      have hoe := HOK.out en (List.mem_of_getElem? he)
      have HTK0 : Hid (es.take (i + 1) = es.take i ++ [en]) := take_one he
      obtain ⟨ex, ea, eb, em⟩ := en
      obtain ⟨ox, ow, on⟩ := hoe
      simp only at d0 d1 d2 d3 ox ow on
      have b5 := below_new wr (.cells #[.int .u64 (ex : Int), .int .u64 (ea : Int), .int .u64 (eb : Int), .bool em] 84)
      have h5 := heap_alloc_new wr (.cells #[.int .u64 (ex : Int), .int .u64 (ea : Int), .int .u64 (eb : Int), .bool em] 84)
      have ho5 := own_below hown b5 (own_lt hown)
      have hbw5 := hbw.out.trans (b5.mono hbw.out.size)
      obtain ⟨dm, HDM⟩ : ∃ dm : Nat, Hid (dm = if em then 1 else 0) := ⟨_, rfl⟩
      have hdm1 : dm ≤ 1 := by rw [HDM.out]; split <;> omega
      have hwd : IntKind.u64.wrap (dm : Int) = (dm : Int) := by rw [IntKind.wrap_u64]; omega
      have hlx := dec_len ox
      have hlv := verL_len ow on
      have hld := dec_len (x := dm) (by omega)
      have HET : Hid (En.tell ⟨ex, ea, eb, em⟩ = Lib.join [Lib.decDigits ex, verL ea eb, Lib.decDigits dm] [58]) := by unfold Hid; rw [HDM.out]; rfl
      have hle := En.tell_len (e := ⟨ex, ea, eb, em⟩) ⟨ox, ow, on⟩
      have CDx0 : Hid (∀ W, Below w.heap.size w W → Calls Tryz.prog 60 #[.int .u64 (ex : Int)] W fun e w' => e = .returned (.string ⟨(Lib.decDigits ex).toArray⟩) ∧ Below W.heap.size W w') := fun W hW => decimal_any B ex (by omega) W (HE.out W hW).1
      have CDd0 : Hid (∀ W, Below w.heap.size w W → Calls Tryz.prog 60 #[.int .u64 (dm : Int)] W fun e w' => e = .returned (.string ⟨(Lib.decDigits dm).toArray⟩) ∧ Below W.heap.size W w') := fun W hW => decimal_any B dm (by omega) W (HE.out W hW).1
      have CVl0 : Hid (∀ W, Below w.heap.size w W → Calls Tryz.prog 26 #[.agg #[.int .u64 (ea : Int), .int .u64 (eb : Int)]] W fun e w' => e = .returned (.string ⟨(verL ea eb).toArray⟩) ∧ Below W.heap.size W w') := fun W hW => vtext5_any B ea eb (by omega) (by omega) W (HE.out W hW).1 (HE.out W hW).2
      have CDg : Hid (∀ W, Calls Tryz.prog 178 #[.bool em] W fun e w' => e = .returned (.int .u8 (dm : Int)) ∧ Below W.heap.size W w') := fun W => (digit_any em W).mono fun e w' h => ⟨by rw [h.1, HDM.out], by rw [h.2]; exact Below.refl _ _⟩
      have CJ0 : Hid (∀ (g : Nat) (W : World), W.heap[g]? = some (.cells #[.string ⟨(Lib.decDigits ex).toArray⟩, .string ⟨(verL ea eb).toArray⟩, .string ⟨(Lib.decDigits dm).toArray⟩] 9 (0, 0)) → Calls Tryz.prog 44 #[.string ⟨#[58]⟩, .slice (some ⟨g, 0, none⟩) 3 3] W fun e w' => e = .returned (.string ⟨(En.tell ⟨ex, ea, eb, em⟩).toArray⟩) ∧ Below W.heap.size W w') := fun g W hg => by
        have h := joined_any g 3 3 9 (some ⟨g, 0, none⟩) [Lib.decDigits ex, verL ea eb, Lib.decDigits dm] [58] W ⟨rfl, .inr ⟨g, 3, _, rfl, Nat.le_refl _, hg, by decide, by decide, rfl, rfl⟩⟩ (by omega) (by rw [← HET.out]; omega)
        rwa [← HET.out] at h
      have BX0 : Hid (∀ W, Below (wr.alloc (.cells #[.int .u64 (ex : Int), .int .u64 (ea : Int), .int .u64 (eb : Int), .bool em] 84)).heap.size (wr.alloc (.cells #[.int .u64 (ex : Int), .int .u64 (ea : Int), .int .u64 (eb : Int), .bool em] 84)) W → (W.cell? ⟨wr.heap.size, 0, none⟩ = some (.int .u64 (ex : Int)) ∧ W.cell? ⟨wr.heap.size, 1, none⟩ = some (.int .u64 (ea : Int)) ∧ W.cell? ⟨wr.heap.size, 2, none⟩ = some (.int .u64 (eb : Int)) ∧ W.cell? ⟨wr.heap.size, 3, none⟩ = some (.bool em)) ∧ Below w.heap.size w W) := fun W hW => by
        have h := (hW.block _ (lt_of_block h5)).trans h5
        exact ⟨⟨cell_of_row W _ 0 _ _ _ h, cell_of_row W _ 1 _ _ _ h, cell_of_row W _ 2 _ _ _ h, cell_of_row W _ 3 _ _ _ h⟩, hbw5.trans (hW.mono hbw5.size)⟩
      have HTK : Hid (strs ((es.take (i + 1)).map En.tell) = strs ((es.take i).map En.tell) ++ [.string ⟨(En.tell ⟨ex, ea, eb, em⟩).toArray⟩]) := by
        unfold Hid
        rw [HTK0.out, List.map_append, strs_append]
        rfl
      have hm1 : n + 1 ≤ maxLen := by have := hn.out; unfold maxLen; omega
      have hm2 : (n + 1) * 16 ≤ 140737488355328 := by have := hn.out; omega
      clear hown hbw hbw5 b5 h5 he hbh HTK0 HET HDM hlx hlv hld hle HOK
      generalize En.tell ⟨ex, ea, eb, em⟩ = et at *
      generalize Lib.decDigits ex = dx at *
      generalize verL ea eb = vl at *
      generalize Lib.decDigits dm = dd at *
      have CDx := CDx0
      have CDd := CDd0
      have CVl := CVl0
      have CJ := CJ0
      have BX := BX0
      clear CDx0 CDd0 CVl0 CJ0 BX0
      go_upto_region 5 with (fail)
      generalize wr.alloc (.cells #[.int .u64 (ex : Int), .int .u64 (ea : Int), .int .u64 (eb : Int), .bool em] 84) = w5 at *
      clear d0 d1 d2 d3
      refine wp_region_midU (N := 30) 15 (fun i v ww => ([fun v ww => v = .slice A n cap, fun v ww => v = .pointer (some ⟨wr.heap.size, 0, none⟩), fun v ww => v = .int .u64 (ex : Int), fun v ww => v = .string ⟨dx.toArray⟩, fun v ww => v = .pointer (some ⟨wr.heap.size, 1, none⟩), fun v ww => v = .agg #[.int .u64 (ea : Int), .int .u64 (eb : Int)], fun v ww => v = .string ⟨vl.toArray⟩, fun v ww => v = .pointer (some ⟨wr.heap.size, 3, none⟩), fun v ww => v = .bool em, fun v ww => v = .int .u8 (dm : Int), fun v ww => v = .int .u64 (dm : Int), fun v ww => v = .string ⟨dd.toArray⟩, fun v ww => ∃ h, v = .slice (some ⟨h, 0, none⟩) 3 3 ∧ ww.heap[h]? = some (.cells #[.string ⟨dx.toArray⟩, .string ⟨vl.toArray⟩, .string ⟨dd.toArray⟩] 9 (0, 0)), fun v ww => v = .string ⟨et.toArray⟩, fun v ww => ∃ h, v = .slice (some ⟨h, 0, none⟩) 1 1 ∧ ww.heap[h]? = some (.cells #[.string ⟨et.toArray⟩] 9 (0, 0))] : List (Value → World → Prop)).getD i (fun _ _ => True) v ww) (by kernel_rfl) (by kernel_rfl) (by kernel_rfl) rfl ?_ ?_ ?_
      · intro i v wa wb h0 hb hp
        by_cases hi : i < 15
        · have hcase : i = 0 ∨ i = 1 ∨ i = 2 ∨ i = 3 ∨ i = 4 ∨ i = 5 ∨ i = 6 ∨ i = 7 ∨ i = 8 ∨ i = 9 ∨ i = 10 ∨ i = 11 ∨ i = 12 ∨ i = 13 ∨ i = 14 := by omega
          rcases hcase with rfl | rfl | rfl | rfl | rfl | rfl | rfl | rfl | rfl | rfl | rfl | rfl | rfl | rfl | rfl
          · exact hp
          · exact hp
          · exact hp
          · exact hp
          · exact hp
          · exact hp
          · exact hp
          · exact hp
          · exact hp
          · exact hp
          · exact hp
          · exact hp
          · obtain ⟨h, e, hh⟩ := hp
            exact ⟨h, e, (hb.block h (lt_of_block hh)).trans hh⟩
          · exact hp
          · obtain ⟨h, e, hh⟩ := hp
            exact ⟨h, e, (hb.block h (lt_of_block hh)).trans hh⟩
        · have hnn : ([fun v ww => v = .slice A n cap, fun v ww => v = .pointer (some ⟨wr.heap.size, 0, none⟩), fun v ww => v = .int .u64 (ex : Int), fun v ww => v = .string ⟨dx.toArray⟩, fun v ww => v = .pointer (some ⟨wr.heap.size, 1, none⟩), fun v ww => v = .agg #[.int .u64 (ea : Int), .int .u64 (eb : Int)], fun v ww => v = .string ⟨vl.toArray⟩, fun v ww => v = .pointer (some ⟨wr.heap.size, 3, none⟩), fun v ww => v = .bool em, fun v ww => v = .int .u8 (dm : Int), fun v ww => v = .int .u64 (dm : Int), fun v ww => v = .string ⟨dd.toArray⟩, fun v ww => ∃ h, v = .slice (some ⟨h, 0, none⟩) 3 3 ∧ ww.heap[h]? = some (.cells #[.string ⟨dx.toArray⟩, .string ⟨vl.toArray⟩, .string ⟨dd.toArray⟩] 9 (0, 0)), fun v ww => v = .string ⟨et.toArray⟩, fun v ww => ∃ h, v = .slice (some ⟨h, 0, none⟩) 1 1 ∧ ww.heap[h]? = some (.cells #[.string ⟨et.toArray⟩] 9 (0, 0))] : List (Value → World → Prop))[i]? = none := List.getElem?_eq_none (by simpa using hi)
          rw [List.getD_eq_getElem?_getD, hnn]
          trivial
      · intro i o a wx hi8 hi hM hU hD
        have hcase : i = 0 ∨ i = 1 ∨ i = 2 ∨ i = 3 ∨ i = 4 ∨ i = 5 ∨ i = 6 ∨ i = 7 ∨ i = 8 ∨ i = 9 ∨ i = 10 ∨ i = 11 ∨ i = 12 ∨ i = 13 ∨ i = 14 := by omega
        clear hi8
        rcases hcase with rfl | rfl | rfl | rfl | rfl | rfl | rfl | rfl | rfl | rfl | rfl | rfl | rfl | rfl | rfl
        · obtain rfl := Option.some.inj hi
          have e3 : a.tmps.getD 3 undef = .slice A n cap := (hU 3 ⟨16, _, by decide, rfl, rfl⟩).trans rfl
          refine ⟨rfl, mid_step (.slice A n cap) wx (fun K hK => ?_) ⟨_, rfl, rfl, Below.refl _ _⟩⟩
          go_simp
          exact hK
        · obtain rfl := Option.some.inj hi
          have e5 : a.tmps.getD 5 undef = .pointer (some ⟨wr.heap.size, 0, none⟩) := (hM.other 5 (by decide +kernel)).trans rfl
          refine ⟨rfl, mid_step (.pointer (some ⟨wr.heap.size, 0, none⟩)) wx (fun K hK => ?_) ⟨_, rfl, rfl, Below.refl _ _⟩⟩
          go_simp
          exact hK
        · obtain rfl := Option.some.inj hi
          have e13 : a.tmps.getD 13 undef = .pointer (some ⟨wr.heap.size, 0, none⟩) := hD 1 (by kernel_rfl) _ 13 rfl rfl
          obtain ⟨⟨c0, c1, c2, c3⟩, hwx⟩ := BX.out wx hM.below
          refine ⟨rfl, mid_step (.int .u64 (ex : Int)) wx (fun K hK => ?_) ⟨_, rfl, rfl, Below.refl _ _⟩⟩
          go_simp
          exact hK
        · obtain rfl := Option.some.inj hi
          have e14 : a.tmps.getD 14 undef = .int .u64 (ex : Int) := hD 2 (by kernel_rfl) _ 14 rfl rfl
          obtain ⟨⟨c0, c1, c2, c3⟩, hwx⟩ := BX.out wx hM.below
          refine ⟨rfl, mid_call (fun v w' => v = (.string ⟨dx.toArray⟩) ∧ Below wx.heap.size wx w') (fun K hK => ?_) (fun v w' h => ⟨v, rfl, h.1, h.2⟩)⟩
          go_simp
          refine (CDx.out wx hwx).mono ?_
          rintro e w' ⟨rfl, hb'⟩
          exact hK _ _ ⟨rfl, hb'⟩
        · obtain rfl := Option.some.inj hi
          have e5 : a.tmps.getD 5 undef = .pointer (some ⟨wr.heap.size, 0, none⟩) := (hM.other 5 (by decide +kernel)).trans rfl
          refine ⟨rfl, mid_step (.pointer (some ⟨wr.heap.size, 1, none⟩)) wx (fun K hK => ?_) ⟨_, rfl, rfl, Below.refl _ _⟩⟩
          go_simp
          exact hK
        · obtain rfl := Option.some.inj hi
          have e16 : a.tmps.getD 16 undef = .pointer (some ⟨wr.heap.size, 1, none⟩) := hD 4 (by kernel_rfl) _ 16 rfl rfl
          obtain ⟨⟨c0, c1, c2, c3⟩, hwx⟩ := BX.out wx hM.below
          refine ⟨rfl, mid_step (.agg #[.int .u64 (ea : Int), .int .u64 (eb : Int)]) wx (fun K hK => ?_) ⟨_, rfl, rfl, Below.refl _ _⟩⟩
          go_simp
          exact hK
        · obtain rfl := Option.some.inj hi
          have e17 : a.tmps.getD 17 undef = .agg #[.int .u64 (ea : Int), .int .u64 (eb : Int)] := hD 5 (by kernel_rfl) _ 17 rfl rfl
          obtain ⟨⟨c0, c1, c2, c3⟩, hwx⟩ := BX.out wx hM.below
          refine ⟨rfl, mid_call (fun v w' => v = (.string ⟨vl.toArray⟩) ∧ Below wx.heap.size wx w') (fun K hK => ?_) (fun v w' h => ⟨v, rfl, h.1, h.2⟩)⟩
          go_simp
          refine (CVl.out wx hwx).mono ?_
          rintro e w' ⟨rfl, hb'⟩
          exact hK _ _ ⟨rfl, hb'⟩
        · obtain rfl := Option.some.inj hi
          have e5 : a.tmps.getD 5 undef = .pointer (some ⟨wr.heap.size, 0, none⟩) := (hM.other 5 (by decide +kernel)).trans rfl
          refine ⟨rfl, mid_step (.pointer (some ⟨wr.heap.size, 3, none⟩)) wx (fun K hK => ?_) ⟨_, rfl, rfl, Below.refl _ _⟩⟩
          go_simp
          exact hK
        · obtain rfl := Option.some.inj hi
          have e19 : a.tmps.getD 19 undef = .pointer (some ⟨wr.heap.size, 3, none⟩) := hD 7 (by kernel_rfl) _ 19 rfl rfl
          obtain ⟨⟨c0, c1, c2, c3⟩, hwx⟩ := BX.out wx hM.below
          refine ⟨rfl, mid_step (.bool em) wx (fun K hK => ?_) ⟨_, rfl, rfl, Below.refl _ _⟩⟩
          go_simp
          exact hK
        · obtain rfl := Option.some.inj hi
          have e20 : a.tmps.getD 20 undef = .bool em := hD 8 (by kernel_rfl) _ 20 rfl rfl
          refine ⟨rfl, mid_call (fun v w' => v = (.int .u8 (dm : Int)) ∧ Below wx.heap.size wx w') (fun K hK => ?_) (fun v w' h => ⟨v, rfl, h.1, h.2⟩)⟩
          go_simp
          refine (CDg.out wx).mono ?_
          rintro e w' ⟨rfl, hb'⟩
          exact hK _ _ ⟨rfl, hb'⟩
        · obtain rfl := Option.some.inj hi
          have e21 : a.tmps.getD 21 undef = .int .u8 (dm : Int) := hD 9 (by kernel_rfl) _ 21 rfl rfl
          refine ⟨rfl, mid_step (.int .u64 (dm : Int)) wx (fun K hK => ?_) ⟨_, rfl, rfl, Below.refl _ _⟩⟩
          go_simp
          exact hK
        · obtain rfl := Option.some.inj hi
          have e22 : a.tmps.getD 22 undef = .int .u64 (dm : Int) := hD 10 (by kernel_rfl) _ 22 rfl rfl
          obtain ⟨⟨c0, c1, c2, c3⟩, hwx⟩ := BX.out wx hM.below
          refine ⟨rfl, mid_call (fun v w' => v = (.string ⟨dd.toArray⟩) ∧ Below wx.heap.size wx w') (fun K hK => ?_) (fun v w' h => ⟨v, rfl, h.1, h.2⟩)⟩
          go_simp
          refine (CDd.out wx hwx).mono ?_
          rintro e w' ⟨rfl, hb'⟩
          exact hK _ _ ⟨rfl, hb'⟩
        · obtain rfl := Option.some.inj hi
          have e15 : a.tmps.getD 15 undef = .string ⟨dx.toArray⟩ := hD 3 (by kernel_rfl) _ 15 rfl rfl
          have e18 : a.tmps.getD 18 undef = .string ⟨vl.toArray⟩ := hD 6 (by kernel_rfl) _ 18 rfl rfl
          have e23 : a.tmps.getD 23 undef = .string ⟨dd.toArray⟩ := hD 11 (by kernel_rfl) _ 23 rfl rfl
          have f15 := e15
          have f18 := e18
          have f23 := e23
          rw [Array.getD_eq_getD_getElem?] at f15 f18 f23
          refine ⟨rfl, mid_step (.slice (some ⟨wx.heap.size, 0, none⟩) 3 3) (wx.alloc (.cells #[.string ⟨dx.toArray⟩, .string ⟨vl.toArray⟩, .string ⟨dd.toArray⟩] 9)) (fun K hK => ?_) ⟨_, rfl, ⟨_, rfl, heap_alloc_new _ _⟩, below_new _ _⟩⟩
          go_simp
          exact hK
        · obtain rfl := Option.some.inj hi
          obtain ⟨g, e24, hg⟩ := hD 12 (by kernel_rfl) _ 24 rfl rfl
          refine ⟨rfl, mid_call (fun v w' => v = (.string ⟨et.toArray⟩) ∧ Below wx.heap.size wx w') (fun K hK => ?_) (fun v w' h => ⟨v, rfl, h.1, h.2⟩)⟩
          go_simp
          refine (CJ.out g wx hg).mono ?_
          rintro e w' ⟨rfl, hb'⟩
          exact hK _ _ ⟨rfl, hb'⟩
        · obtain rfl := Option.some.inj hi
          have e25 : a.tmps.getD 25 undef = .string ⟨et.toArray⟩ := hD 13 (by kernel_rfl) _ 25 rfl rfl
          have f25 := e25
          rw [Array.getD_eq_getD_getElem?] at f25
          refine ⟨rfl, mid_step (.slice (some ⟨wx.heap.size, 0, none⟩) 1 1) (wx.alloc (.cells #[.string ⟨et.toArray⟩] 9)) (fun K hK => ?_) ⟨_, rfl, ⟨_, rfl, heap_alloc_new _ _⟩, below_new _ _⟩⟩
          go_simp
          exact hK
      · intro a wx hM hU hD
        have q0 := hD 0 (by decide) _ 12 rfl rfl
        have q1 := hD 1 (by decide) _ 13 rfl rfl
        have q2 := hD 2 (by decide) _ 14 rfl rfl
        have q3 := hD 3 (by decide) _ 15 rfl rfl
        have q4 := hD 4 (by decide) _ 16 rfl rfl
        have q5 := hD 5 (by decide) _ 17 rfl rfl
        have q6 := hD 6 (by decide) _ 18 rfl rfl
        have q7 := hD 7 (by decide) _ 19 rfl rfl
        have q8 := hD 8 (by decide) _ 20 rfl rfl
        have q9 := hD 9 (by decide) _ 21 rfl rfl
        have q10 := hD 10 (by decide) _ 22 rfl rfl
        have q11 := hD 11 (by decide) _ 23 rfl rfl
        obtain ⟨h24, e24, hh24⟩ := hD 12 (by decide) _ 24 rfl rfl
        have q12 : a.tmps.getD 24 undef = .slice (some ⟨h24, 0, none⟩) 3 3 := by assumption
        have q13 := hD 13 (by decide) _ 25 rfl rfl
        obtain ⟨h26, e26, hh26⟩ := hD 14 (by decide) _ 26 rfl rfl
        have q14 : a.tmps.getD 26 undef = .slice (some ⟨h26, 0, none⟩) 1 1 := by assumption
        have hact := act_puts (a := a) [(12, .slice A n cap), (13, .pointer (some ⟨wr.heap.size, 0, none⟩)), (14, .int .u64 (ex : Int)), (15, .string ⟨dx.toArray⟩), (16, .pointer (some ⟨wr.heap.size, 1, none⟩)), (17, .agg #[.int .u64 (ea : Int), .int .u64 (eb : Int)]), (18, .string ⟨vl.toArray⟩), (19, .pointer (some ⟨wr.heap.size, 3, none⟩)), (20, .bool em), (21, .int .u8 (dm : Int)), (22, .int .u64 (dm : Int)), (23, .string ⟨dd.toArray⟩), (24, .slice (some ⟨h24, 0, none⟩) 3 3), (25, .string ⟨et.toArray⟩), (26, .slice (some ⟨h26, 0, none⟩) 1 1)] _ hM.tmps hM.defers (by
          intro s v hm
          simp only [List.mem_cons, Prod.mk.injEq, List.not_mem_nil, or_false] at hm
          rcases hm with ⟨rfl, rfl⟩ | ⟨rfl, rfl⟩ | ⟨rfl, rfl⟩ | ⟨rfl, rfl⟩ | ⟨rfl, rfl⟩ | ⟨rfl, rfl⟩ | ⟨rfl, rfl⟩ | ⟨rfl, rfl⟩ | ⟨rfl, rfl⟩ | ⟨rfl, rfl⟩ | ⟨rfl, rfl⟩ | ⟨rfl, rfl⟩ | ⟨rfl, rfl⟩ | ⟨rfl, rfl⟩ | ⟨rfl, rfl⟩
          · exact ⟨(by show 12 < 30; decide), q0⟩
          · exact ⟨(by show 13 < 30; decide), q1⟩
          · exact ⟨(by show 14 < 30; decide), q2⟩
          · exact ⟨(by show 15 < 30; decide), q3⟩
          · exact ⟨(by show 16 < 30; decide), q4⟩
          · exact ⟨(by show 17 < 30; decide), q5⟩
          · exact ⟨(by show 18 < 30; decide), q6⟩
          · exact ⟨(by show 19 < 30; decide), q7⟩
          · exact ⟨(by show 20 < 30; decide), q8⟩
          · exact ⟨(by show 21 < 30; decide), q9⟩
          · exact ⟨(by show 22 < 30; decide), q10⟩
          · exact ⟨(by show 23 < 30; decide), q11⟩
          · exact ⟨(by show 24 < 30; decide), q12⟩
          · exact ⟨(by show 25 < 30; decide), q13⟩
          · exact ⟨(by show 26 < 30; decide), q14⟩) (fun s hs => by
      by_cases ht : s ∈ ([27, 3] : List Nat)
      · simp only [List.mem_cons, List.not_mem_nil, or_false] at ht
        rcases ht with rfl | rfl
        · exact hU 27 ⟨15, _, by decide, rfl, rfl⟩
        · exact hU 3 ⟨16, _, by decide, rfl, rfl⟩
      · exact hM.other s fun h => (List.mem_append.1 (show s ∈ ([12, 13, 14, 15, 16, 17, 18, 19, 20, 21, 22, 23, 24, 25, 26] : List Nat) ++ [27, 3] from h)).elim (fun h => hs h) (fun h => ht h))
        rw [hact]
        have hBX := hM.below
        clear hact hD hM hU q0 q1 q2 q3 q4 q5 q6 q7 q8 q9 q10 q11 q12 q13 q14
        simp only [List.foldl, Act.put, List.setIfInBounds_toArray, List.set_cons_succ, List.set_cons_zero, List.drop_succ_cons, List.drop_zero]
        have hbw := (BX.out wx hBX).2
        have ho2 := own_below ho5 hBX (own_lt ho5)
        have hr2 := rd_row (size := 1) (n := 1) (l := [.string ⟨et.toArray⟩]) hh26 rfl
        have h1c : ∀ u ∈ ([.string ⟨et.toArray⟩] : List Value), u.oneCell' = true := by
          intro u hu
          obtain rfl : u = .string ⟨et.toArray⟩ := by simpa using hu
          rfl
        have hs2 := hbw.size
        clear BX hBX e24 e26 hh24 hh26 ho5 CDx CVl CDg CDd CJ
        go_wp2_with (at_builtin; (refine wpList_app rfl _ _ 81 rfl w.heap.size 9 i0 (.string ⟨#[]⟩) 1 16 Tryz.underlying81 hi0 hz0 hz1 hz2 rfl (by decide) (.slice A n cap) n _ rfl ho2 _ _ 1 1 _ rfl hr2 h1c hm1 hm2 hs2 ?_); intro v' w7 hown' hst; obtain ⟨A', c', rfl, _⟩ := own_form hown')
        have hge := own_ge ho2
        have hb7 : Hid (Below w.heap.size w w7) := hbw.trans (hst.below (B := w.heap.size) (by omega) (fun j hj => hge j hj))
        have R3 : w7.ownsRow w.heap.size 9 1 (.slice A' (n + 1) c') (n + 1) (strs ((es.take (i + 1)).map En.tell)) := by
          rw [HTK.out]
          exact hown'
        clear hown' hst ho2 hr2 hbw hge h1c
        go_roundw
        case rel => exact ⟨i + 1, n + 1, c', A', rfl, by go_num, by omega, Lib_hid (by rw [hn.out]), R3, hb7⟩
        case measure => simp [intOf]; omega
    · obtain rfl : i = es.length := by omega
      have hni := hn.out
      subst hni
      rw [List.take_length] at hown
      have FF : Hid (TellEnd (es.map En.tell) w (.returned (.slice A es.length cap)) wr) := by
        refine ⟨A, cap, ?_, ?_, hbw.out⟩
        · rw [HLM.out]
        · rw [HLM.out]; exact hown
      clear hown hbw HR HOK HE HLM
      go_wp2
      go_ret
      exact FF.out
end Go.Proofs.YtiiiklenhmhccaaGreatDoor

namespace Go.Proofs.YtiiiklenhmhccaaGreatDoor
open Go Go.RowKit
set_option linter.unusedVariables false
end Go.Proofs.YtiiiklenhmhccaaGreatDoor

namespace Go.Proofs.YtiiiklenhmhccaaGreatDoor
open Go Go.RowKit
set_option linter.unusedVariables false
end Go.Proofs.YtiiiklenhmhccaaGreatDoor

namespace Go.Proofs.YtiiiklenhmhccaaGreatDoor
open Go Go.RowKit
set_option linter.unusedVariables false
theorem rtold5_any (a b : Nat) (w : World) (ha : a < 18446744073709551616) (hb : b < 18446744073709551616) : Calls Tryz.prog 27 #[.agg #[.int .u64 (a : Int), .int .u64 (b : Int)]] w fun e w' => e = .returned (.string ⟨(verL a b).toArray⟩) ∧ Below w.heap.size w w' := by
  have b1 := below_new w (.cells #[.int .u64 (a : Int), .int .u64 (b : Int)] 33)
  have h1 := heap_alloc_new w (.cells #[.int .u64 (a : Int), .int .u64 (b : Int)] 33)
  have HC : Hid ((⟨(Lib.decDigits a).toArray⟩ : ByteArray) ++ ⟨#[46]⟩ ++ ⟨(Lib.decDigits b).toArray⟩ = ⟨(verL a b).toArray⟩) := by unfold Hid; rw [show (⟨#[46]⟩ : ByteArray) = ⟨[(46 : UInt8)].toArray⟩ from rfl, bcat, bcat]; rfl
  have hda := dec_len (x := a) (by omega)
  have hdb := dec_len (x := b) (by omega)
  have hz1 : ¬ 9223372036854775807 < (Lib.decDigits a).length + 1 := by omega
  have hz2 : ¬ 9223372036854775807 < (Lib.decDigits a).length + 1 + (Lib.decDigits b).length := by omega
  go_enter Tryz.func27, Tryz.ntmps27
  go_upto_region 1 with (fail)
  generalize w.alloc (.cells #[.int .u64 (a : Int), .int .u64 (b : Int)] 33) = w1 at *
  have c0 := cell_of_row w1 _ 0 _ _ _ h1
  have c1 := cell_of_row w1 _ 1 _ _ _ h1
  simp at c0 c1
  have DD : Hid (∀ n : Nat, n < 18446744073709551616 → ∀ k, Calls Tryz.prog 46 #[.int .u64 (n : Int)] (w1.drewN k) fun e w' => e = .returned (.string ⟨(Lib.decDigits n).toArray⟩) ∧ ∃ q, w' = w1.drewN q) := fun n hn k => (rdigits_any n _ hn).mono fun e w' h => ⟨h.1, k, h.2⟩
  go_quiet ((go_at_call 46; exact DD.out _ (by assumption) _))
  go_wp2_with fail
  go_ret
  exact ⟨by rw [← HC.out]; rfl, below_drew_ b1⟩
def wordsV : Array Value := #[.string ⟨#[]⟩, .string ⟨(nameL 1).toArray⟩, .string ⟨(nameL 2).toArray⟩, .string ⟨(nameL 3).toArray⟩, .string ⟨(nameL 4).toArray⟩, .string ⟨(nameL 5).toArray⟩, .string ⟨(nameL 6).toArray⟩, .string ⟨(nameL 7).toArray⟩]
theorem rwords5_any (w : World) : Calls Tryz.prog 45 #[] w fun e w' => e = .returned (.slice (some ⟨w.heap.size, 0, none⟩) 8 8) ∧ w'.heap[w.heap.size]? = some (.cells wordsV 9 (0, 0)) ∧ Below w.heap.size w w' ∧ w'.heap.size = w.heap.size + 1 := by
  go_enter Tryz.func45, Tryz.ntmps45
  go_wp2
  go_ret
  exact ⟨rfl, heap_alloc_new w _, below_new w _, by simp⟩
theorem wordsV_at {i : Nat} (hi : i < 8) : wordsV[i]? = some (.string ⟨(nameL (i : Int)).toArray⟩) := by
  have : i = 0 ∨ i = 1 ∨ i = 2 ∨ i = 3 ∨ i = 4 ∨ i = 5 ∨ i = 6 ∨ i = 7 := by omega
  rcases this with rfl | rfl | rfl | rfl | rfl | rfl | rfl | rfl <;> rfl
end Go.Proofs.YtiiiklenhmhccaaGreatDoor
