/-
  Layer 4: the document's row, where read is known.
  Layer 4: the document's read.
  Layer 4: the document's Read.
-/
import Derived.Test.YtbcadnkdehknoaaGreatDoorZlTdq
import Derived.Test.YtbcadnkdehknoaaGreatDoorZlTli
import Derived.Test.YtbcadnkdehknoaaGreatDoorZlTql

namespace Go.Proofs.YtbcadnkdehknoaaGreatDoor
open Go Go.RowKit
set_option linter.unusedVariables false

/-- How the document's read ends. -/
structure RrR (d : Nat) (s : List UInt8) (w w' : World) (k : Int) (a b n c : Nat) (A : Option Addr) (s' : List UInt8) (ok : Bool) : Prop where
  yes : ok = true → ∃ t us, rdS d s = some (t, s') ∧ (V.node k a b A c us).abs = t ∧ us.length = n ∧ Lies w' w.heap.size w'.heap.size (.node k a b A c us) ∧ Shp 36 w' w.heap.size (.node k a b A c us)
  no : ok = false → rdS d s = none
def RdE4 (d : Nat) (s : List UInt8) (w : World) (e : Ending) (w' : World) : Prop :=
  ∃ (k : Int) (a b n c : Nat) (A : Option Addr) (s' : List UInt8) (ok : Bool), e = .returned (.tuple #[.agg #[.int .i64 k, .int .u64 (a : Int), .int .u64 (b : Int), .slice A n c], .string ⟨s'.toArray⟩, .bool ok]) ∧ Below w.heap.size w w' ∧ RrR d s w w' k a b n c A s' ok
def ROK (d : Nat) : Prop := ∀ (s : List UInt8) (w : World), s.length ≤ 1000000 → Calls Tryz.prog 98 #[.string ⟨s.toArray⟩, .int .i64 (d : Int)] w (RdE4 d s w)
def RowEnd4 (d kd : Nat) (s : List UInt8) (w : World) (e : Ending) (w' : World) : Prop :=
  ∃ (n c : Nat) (A : Option Addr) (s' : List UInt8) (ok : Bool), e = .returned (.tuple #[.agg #[.int .i64 (kd : Int), .int .u64 0, .int .u64 0, .slice A n c], .string ⟨s'.toArray⟩, .bool ok]) ∧ Below w.heap.size w w' ∧
    (ok = true → ∃ us, listB (rdS d) s = some (V.absL us, s') ∧ us.length = n ∧ TRow 36 w.heap.size (.slice A n c) us w') ∧ (ok = false → listB (rdS d) s = none)

theorem ext_drop (s : List UInt8) (k : Nat) : (⟨s.toArray⟩ : ByteArray).extract k s.length = ⟨(s.drop k).toArray⟩ := by
  apply ByteArray.ext
  simp [ByteArray.data_extract]
  rw [List.take_of_length_le (by simp)]
def strLen (v : Value) : Nat := match v with
  | Value.string b => b.size
  | _ => 0
theorem strLen_eq (s : List UInt8) : strLen (.string ⟨s.toArray⟩) = s.length := by simp [strLen, ByteArray.size]

set_option maxRecDepth 100000 in
theorem row_ret {Q : Ending → World → Prop} {W : World} {h0 : Nat} {x0 x1 x2 x3 y : Value} {b : Bool} (HR2 : W.heap[h0]? = some (.cells #[x0, x1, x2, x3] 36 (0, 0))) (HF2 : Q (.returned (.tuple #[.agg #[x0, x1, x2, x3], y, .bool b])) W)
    (tmps : Array Value) (h6 : tmps.getD 6 undef = .pointer (some ⟨h0, 0, none⟩)) (h7 : tmps.getD 7 undef = y) (h8 : tmps.getD 8 undef = .bool b) : bodyPost Tryz.prog Tryz.f164 Q .ret { tmps := tmps, defers := [] } W := by
  rw [Array.getD_eq_getD_getElem?] at h6 h7 h8
  have d0 := cell_of_row W _ 0 _ _ _ HR2
  have d1 := cell_of_row W _ 1 _ _ _ HR2
  have d2 := cell_of_row W _ 2 _ _ _ HR2
  have d3 := cell_of_row W _ 3 _ _ _ HR2
  simp at d0 d1 d2 d3
  exact bodyPost_ret (v := .tuple #[.agg #[x0, x1, x2, x3], y, .bool b]) (by simp [results, Tryz.results164, go_sem, h6, h7, h8, d0, d1, d2, d3]) rfl HF2

set_option maxRecDepth 100000 in
set_option maxHeartbeats 3200000 in
theorem rrow_any (d kd : Nat) (hd : d ≤ 8) (hkd : kd ≤ 7) (IH : ROK d) (s : List UInt8) (hl : s.length ≤ 1000000) (w : World) :
    Calls Tryz.prog 164 #[.agg #[.int .i64 (kd : Int), .int .u64 0, .int .u64 0, .slice none 0 0], .string ⟨s.toArray⟩, .int .i64 ((d : Int) + 1)] w (RowEnd4 d kd s w) := by
  obtain ⟨i0, hi0, hz0, hz1, hz2⟩ := info_parts Tryz.infoR
  obtain ⟨w1, hw1⟩ : ∃ w1, w1 = w.alloc (.cells #[.int .i64 (kd : Int), .int .u64 0, .int .u64 0, .slice none 0 0] 36) := ⟨_, rfl⟩
  have p1 := heap_alloc_new w (.cells #[.int .i64 (kd : Int), .int .u64 0, .int .u64 0, .slice none 0 0] 36)
  have b1 := below_new w (.cells #[.int .i64 (kd : Int), .int .u64 0, .int .u64 0, .slice none 0 0] 36)
  have s1 : w1.heap.size = w.heap.size + 1 := by rw [hw1]; simp
  rw [← hw1] at p1 b1
  obtain ⟨w2, hw2⟩ : ∃ w2, w2 = w1.alloc (.cells #[.int .i64 0, .int .u64 0, .int .u64 0, .slice none 0 0] 36) := ⟨_, rfl⟩
  have q2 := heap_alloc_new w1 (.cells #[.int .i64 0, .int .u64 0, .int .u64 0, .slice none 0 0] 36)
  have b2 := below_new w1 (.cells #[.int .i64 0, .int .u64 0, .int .u64 0, .slice none 0 0] 36)
  have s2 : w2.heap.size = w.heap.size + 2 := by rw [hw2]; simp [s1]
  rw [← hw2, s1] at q2 b2
  have p2 := (b2.block w.heap.size (by omega)).trans p1
  have hbw := b1.trans (b2.mono (by omega))
  have BG := Lib_hid (fun (x : List UInt8) W => rbegins_any s x W)
  have HIH := Lib_hid IH
  have HRET : Hid (∀ (W : World) (n c : Nat) (A : Option Addr) (s' : List UInt8) (ok : Bool) (us : List V), W.heap[w.heap.size + 1]? = some (.cells #[.int .i64 0, .int .u64 0, .int .u64 0, .slice none 0 0] 36 (0, 0)) → Below w.heap.size w W →
      (ok = true → ∃ us, listB (rdS d) s = some (V.absL us, s') ∧ us.length = n ∧ TRow 36 (w.heap.size + 2) (.slice A n c) us W) → (ok = false → listB (rdS d) s = none) → w.heap.size + 2 ≤ W.heap.size →
      RowEnd4 d kd s w (.returned (.tuple #[.agg #[.int .i64 (kd : Int), .int .u64 0, .int .u64 0, .slice A n c], .string ⟨s'.toArray⟩, .bool ok])) (put4 W (w.heap.size + 1) (.int .i64 (kd : Int)) (.int .u64 0) (.int .u64 0) (.slice A n c)) ∧
      (put4 W (w.heap.size + 1) (.int .i64 (kd : Int)) (.int .u64 0) (.int .u64 0) (.slice A n c)).heap[w.heap.size + 1]? = some (.cells #[.int .i64 (kd : Int), .int .u64 0, .int .u64 0, .slice A n c] 36 (0, 0))) := by
    intro W n c A s' ok us0 h1 h2 h3 h4 h5
    refine ⟨⟨n, c, A, s', ok, rfl, put4_below h2 (by omega) _ _ _ _, fun ho => ?_, h4⟩, put4_row h1 _ _ _ _⟩
    obtain ⟨us, e1, e2, hT⟩ := h3 ho
    have hT2 := hT.keep (w' := put4 W (w.heap.size + 1) (.int .i64 (kd : Int)) (.int .u64 0) (.int .u64 0) (.slice A n c)) (by rw [put4_size]; exact Nat.le_refl _) (fun g hg _ => put4_else W (by omega) _ _ _ _)
    exact ⟨us, e1, e2, own_base hT2.own fun k hk => by have := own_ge hT2.own k hk; omega, fun u hu => by
      obtain ⟨lo, hi, q1, q2, q3, q4, q5⟩ := hT2.el u hu
      exact ⟨lo, hi, by omega, q2, q3, q4, q5⟩⟩
  have HB2 := Lib_hid (And.intro q2 (And.intro hbw s2))
  subst hw2 hw1
  clear b1 b2 p1 IH q2 hbw s1
  go_enter Tryz.func164, Tryz.ntmps164
  go_upto_region 1 with (fail)
  generalize (w.alloc _).alloc (.cells #[.int .i64 0, .int .u64 0, .int .u64 0, .slice none 0 0] 36) = w2 at *
  have BG1 := BG.out [41] w2
  clear BG
  cases h41 : Lib.hasPrefix s [41] with
  | true =>
    rw [h41] at BG1
    have hls := pre_len h41
    have hext := ext_drop s 1
    have hLB : listB (rdS d) s = some (V.absL [], s.drop 1) := by unfold listB; rw [if_pos h41, trim_yes h41]; simp [V.absL]
    have hi1 : (1 : Int) ≤ (s.length : Int) := by have := hls; simp at this; omega
    generalize s.drop 1 = s' at *
    have pE := p2
    have qE := HB2.out.1
    have bE := HB2.out.2.1
    have sE : w.heap.size + 2 ≤ w2.heap.size := by have := HB2.out.2.2; omega
    clear p2 HB2 s2 h41 hls
    have e0 := cell_of_row w2 _ 0 _ _ _ pE
    have e1 := cell_of_row w2 _ 1 _ _ _ pE
    have e2 := cell_of_row w2 _ 2 _ _ _ pE
    have e3 := cell_of_row w2 _ 3 _ _ _ pE
    have f0 := cell_of_row w2 _ 0 _ _ _ qE
    have f1 := cell_of_row w2 _ 1 _ _ _ qE
    have f2 := cell_of_row w2 _ 2 _ _ _ qE
    have f3 := cell_of_row w2 _ 3 _ _ _ qE
    have y0 := frozen_of_row w2 (w.heap.size + 1) 0 _ _ qE
    have y1 := frozen_of_row w2 (w.heap.size + 1) 1 _ _ qE
    have y2 := frozen_of_row w2 (w.heap.size + 1) 2 _ _ qE
    have y3 := frozen_of_row w2 (w.heap.size + 1) 3 _ _ qE
    simp at e0 e1 e2 e3 f0 f1 f2 f3
    have HX := Lib_hid (HRET.out w2.drew 0 0 none s' true [] qE bE.drew (fun _ => ⟨[], hLB, rfl, TRow.nil _ _ _⟩) (fun h => by cases h) sE)
    clear pE qE bE sE
    clear hLB HRET
    go_upto_region 2 with (go_at_call 162; refine BG1.mono ?_; rintro e w' ⟨rfl, rfl⟩)
    go_region
    all_goals
      go_wp2_with fail
      show bodyPost _ _ _ _ _ (put4 w2.drew (w.heap.size + 1) (.int .i64 (kd : Int)) (.int .u64 0) (.int .u64 0) (.slice none 0 0))
      have HX2 := HX.out
      clear HX e0 e1 e2 e3 f0 f1 f2 f3 y0 y1 y2 y3
      generalize put4 w2.drew (w.heap.size + 1) (.int .i64 (kd : Int)) (.int .u64 0) (.int .u64 0) (.slice none 0 0) = W2 at *
      exact row_ret (b := true) HX2.2 HX2.1 _ rfl rfl rfl
  | false =>
    have H41 := Lib_hid h41
    have hT0 := TRow.nil 36 (w.heap.size + 2) w2
    have hlb : listB (rdS d) s = (contS (rdS d) s).map fun x => (V.absL [] ++ x.1, x.2) := by
      show (if _ then _ else contS (rdS d) s) = _
      rw [if_neg (by rw [h41]; simp)]
      cases contS (rdS d) s with
      | none => rfl
      | some x => simp [V.absL]
    have HLB := Lib_hid hlb
    have HT0 := Lib_hid hT0
    have hq2 := HB2.out.1
    have hbw := HB2.out.2.1
    have hs2 := HB2.out.2.2
    have hd1 : IntKind.i64.wrap ((d : Int) + 1 - 1) = (d : Int) := by rw [IntKind.wrap_i64]; omega
    rw [h41] at BG1
    clear h41 hT0 hlb HB2
    go_wp2_with (go_at_call 162; refine BG1.mono ?_; rintro e w' ⟨rfl, rfl⟩)
    clear BG1
    go_loopw [1] (fun x W => ∃ (us : List V) (A : Option Addr) (n c : Nat) (ss : List UInt8), x = .string ⟨ss.toArray⟩ ∧ W.heap[w.heap.size]? = some (.cells #[.int .i64 (kd : Int), .int .u64 0, .int .u64 0, .slice A n c] 36 (0, 0)) ∧ W.heap[w.heap.size + 1]? = some (.cells #[.int .i64 0, .int .u64 0, .int .u64 0, .slice none 0 0] 36 (0, 0)) ∧
        Hid (TRow 36 (w.heap.size + 2) (.slice A n c) us W) ∧ Hid (listB (rdS d) s = (contS (rdS d) ss).map fun x => (V.absL us ++ x.1, x.2)) ∧ n + ss.length ≤ s.length ∧ Below w.heap.size w W ∧ w.heap.size + 2 ≤ W.heap.size) (fun x _ => strLen x)
    case atStart => exact ⟨[], none, 0, 0, s, rfl, p2, hq2, HT0, HLB, by omega, hbw, by omega⟩
    case round =>
      clear p2 hq2 HT0 HLB hbw hs2
      obtain ⟨us, A, n, c, ss, rfl, pW, qW, hT, hlb, hns, hbW, sW⟩ := hrel
      rename World => W
      have CH := HIH.out ss W (by omega)
      have hun : us.length = n := by
        obtain ⟨A2, c2, e, _⟩ := own_form hT.out.own
        injection e with _ e
        exact e.symm
      have HUN := Lib_hid hun
      have hSL : Hid (strLen (.string ⟨ss.toArray⟩) = ss.length) := strLen_eq ss
      clear hun
      go_wp2_with fail
      refine CH.mono ?_
      rintro e w3 ⟨k, a, b, n', c', A', s', ok, rfl, hb3, hR⟩
      have s3 := hb3.size
      have b4 := below_new w3 (.cells #[.int .i64 k, .int .u64 (a : Int), .int .u64 (b : Int), .slice A' n' c'] 36)
      have r4 := heap_alloc_new w3 (.cells #[.int .i64 k, .int .u64 (a : Int), .int .u64 (b : Int), .slice A' n' c'] 36)
      have s4 := b4.size
      have hb4 := hb3.trans (b4.mono s3)
      have bW4 := hbW.trans (hb4.mono (by omega))
      have p4 := (hb4.block w.heap.size (by omega)).trans pW
      have q4 := (hb4.block (w.heap.size + 1) (by omega)).trans qW
      have HB4 := Lib_hid b4
      have sw4 : w3.heap.size < (w3.alloc (.cells #[.int .i64 k, .int .u64 (a : Int), .int .u64 (b : Int), .slice A' n' c'] 36)).heap.size := by simp
      clear CH pW qW hbW b4
      go_upto_region 4 with (fail)
      generalize w3.alloc (.cells #[.int .i64 k, .int .u64 (a : Int), .int .u64 (b : Int), .slice A' n' c'] 36) = w4 at *
      cases ok with
      | false =>
        have hno : listB (rdS d) s = none := by rw [hlb.out, cont_none (hR.no rfl)]; rfl
        have pE := p4
        have qE := q4
        have bE := bW4
        have sE : w.heap.size + 2 ≤ w4.heap.size := by omega
        clear p4 q4 bW4
        have e0 := cell_of_row w4 _ 0 _ _ _ pE
        have e1 := cell_of_row w4 _ 1 _ _ _ pE
        have e2 := cell_of_row w4 _ 2 _ _ _ pE
        have e3 := cell_of_row w4 _ 3 _ _ _ pE
        have f0 := cell_of_row w4 _ 0 _ _ _ qE
        have f1 := cell_of_row w4 _ 1 _ _ _ qE
        have f2 := cell_of_row w4 _ 2 _ _ _ qE
        have f3 := cell_of_row w4 _ 3 _ _ _ qE
        have y0 := frozen_of_row w4 (w.heap.size + 1) 0 _ _ qE
        have y1 := frozen_of_row w4 (w.heap.size + 1) 1 _ _ qE
        have y2 := frozen_of_row w4 (w.heap.size + 1) 2 _ _ qE
        have y3 := frozen_of_row w4 (w.heap.size + 1) 3 _ _ qE
        simp at e0 e1 e2 e3 f0 f1 f2 f3
        have HX := Lib_hid (HRET.out w4 n c A ss false [] qE bE (fun h => by cases h) (fun _ => hno) sE)
        clear pE qE bE sE HRET
        go_wp2_with fail
        show bodyPost _ _ _ _ _ (put4 w4 (w.heap.size + 1) (.int .i64 (kd : Int)) (.int .u64 0) (.int .u64 0) (.slice A n c))
        have HX2 := HX.out
        clear HX e0 e1 e2 e3 f0 f1 f2 f3 y0 y1 y2 y3
        generalize put4 w4 (w.heap.size + 1) (.int .i64 (kd : Int)) (.int .u64 0) (.int .u64 0) (.slice A n c) = W2 at *
        exact row_ret (b := false) HX2.2 HX2.1 _ rfl rfl rfl
      | true =>
        obtain ⟨t, us2, e1, e2, e3, hL, hS⟩ := hR.yes rfl
        have hlr := rdS_len d _ _ _ e1
        by_cases hnil : s' = []
        · subst hnil
          have hno : listB (rdS d) s = none := by rw [hlb.out, cont_end e1]; rfl
          have pE := p4
          have qE := q4
          have bE := bW4
          have sE : w.heap.size + 2 ≤ w4.heap.size := by omega
          clear p4 q4 bW4
          have e0 := cell_of_row w4 _ 0 _ _ _ pE
          have e1 := cell_of_row w4 _ 1 _ _ _ pE
          have e2 := cell_of_row w4 _ 2 _ _ _ pE
          have e3 := cell_of_row w4 _ 3 _ _ _ pE
          have f0 := cell_of_row w4 _ 0 _ _ _ qE
          have f1 := cell_of_row w4 _ 1 _ _ _ qE
          have f2 := cell_of_row w4 _ 2 _ _ _ qE
          have f3 := cell_of_row w4 _ 3 _ _ _ qE
          have y0 := frozen_of_row w4 (w.heap.size + 1) 0 _ _ qE
          have y1 := frozen_of_row w4 (w.heap.size + 1) 1 _ _ qE
          have y2 := frozen_of_row w4 (w.heap.size + 1) 2 _ _ qE
          have y3 := frozen_of_row w4 (w.heap.size + 1) 3 _ _ qE
          simp at e0 e1 e2 e3 f0 f1 f2 f3
          have HX := Lib_hid (HRET.out w4 n c A ss false [] qE bE (fun h => by cases h) (fun _ => hno) sE)
          clear pE qE bE sE HRET
          go_wp2_with fail
          show bodyPost _ _ _ _ _ (put4 w4 (w.heap.size + 1) (.int .i64 (kd : Int)) (.int .u64 0) (.int .u64 0) (.slice A n c))
          have HX2 := HX.out
          clear HX e0 e1 e2 e3 f0 f1 f2 f3 y0 y1 y2 y3
          generalize put4 w4 (w.heap.size + 1) (.int .i64 (kd : Int)) (.int .u64 0) (.int .u64 0) (.slice A n c) = W2 at *
          exact row_ret (b := false) HX2.2 HX2.1 _ rfl rfl rfl
        · obtain ⟨ch, l, hs'⟩ : ∃ ch l, s' = ch :: l := by
            cases s' with
            | nil => exact absurd rfl hnil
            | cons ch l => exact ⟨ch, l, rfl⟩
          have hsb : (s' == []) = false := by rw [hs']; rfl
          have hix : ∀ W, (Instr.index 9 (.string ⟨s'.toArray⟩) (.int .i64 0)).run Tryz.prog W = .ok (.int .u8 ((ch.toNat : Nat) : Int)) W := fun W => by have := ix_str s' 0 (by rw [hs']; simp) W; simp only [hs', List.getElem_cons_zero] at this ⊢; exact this
          have hext := ext_drop s' 1
          rw [show s'.drop 1 = l by rw [hs']; rfl] at hext
          have hi1 : (1 : Int) ≤ (s'.length : Int) := by rw [hs']; simp; omega
          have hll : l.length + 1 = s'.length := by rw [hs']; simp
          have HS' := Lib_hid hs'
          have e1' := e1
          rw [hs'] at e1'
          clear hs' hnil
          subst e3
          have hm1 : n + 1 ≤ maxLen := by unfold maxLen; omega
          have hm2 : (n + 1) * 48 ≤ 140737488355328 := by omega
          have hown4 : w4.ownsRow (w.heap.size + 2) 36 4 (.slice A n c) n (vCells us) := by
            have h1 := hT.out.own
            rw [HUN.out] at h1
            exact own_below h1 hb4 (own_lt h1)
          have hnew := below_new w4 (.cells #[.int .i64 k, .int .u64 (a : Int), .int .u64 (b : Int), .slice A' us2.length c'] 36)
          have hRd := new_val w4 36 (.node k a b A' c' us2)
          simp only [V.kind, V.a, V.b, V.sl, V.addr, V.parts, V.cap] at hRd
          have p3 := cell_of_row w4 _ 3 _ _ _ p4
          have d0 := cell_of_row w4 _ 0 _ _ _ r4
          have d1 := cell_of_row w4 _ 1 _ _ _ r4
          have d2 := cell_of_row w4 _ 2 _ _ _ r4
          have d3 := cell_of_row w4 _ 3 _ _ _ r4
          simp at p3 d0 d1 d2 d3
          have HE : Hid (∀ (w5 : World) (v' : Value), Stp (w4.alloc (.cells #[.int .i64 k, .int .u64 (a : Int), .int .u64 (b : Int), .slice A' us2.length c'] 36)) w5 (.slice A n c) v' → w5.ownsRow (w.heap.size + 2) 36 4 v' (n + 1) (vCells us ++ vCells [.node k a b A' c' us2]) →
              TRow 36 (w.heap.size + 2) v' (us ++ [V.node k a b A' c' us2]) w5 ∧ (∀ i, i < w.heap.size + 2 → w5.heap[i]? = w4.heap[i]?) ∧ w4.heap.size ≤ w5.heap.size ∧ Below w.heap.size w w5) := by
            intro w5 v' hst ho
            have hge := own_ge hT.out.own
            have hns := hnew.size
            refine ⟨hT.out.push (w2 := w3) (w3 := w4.alloc _) (by omega) hb3 hL hS (HB4.out.trans (hnew.mono (by omega))) hst (by rw [HUN.out]; exact ho), fun i hi => ?_, by have := hst.grow.size; omega, ?_⟩
            · exact (hst.grow.block i (by omega) (fun e => by have := hge i e.symm; omega)).trans (hnew.block i (by omega))
            · exact (bW4.trans (hnew.mono (by omega))).trans (hst.below (by omega) fun q hq => by have := hge q hq; omega)
          have HPQ := Lib_hid (And.intro p4 q4)
          have HSP := Lib_hid (And.intro hlb.out (And.intro e1' e2))
          clear hT hL hS hb3 hR hlb e1 e1' e2 bW4 p4 q4 r4 hb4
          go_upto_region 7 with (at_builtin; (refine wpList_app rfl _ _ 34 rfl (w.heap.size + 2) 36 i0 (.agg #[.int .i64 0, .int .u64 0, .int .u64 0, .slice none 0 0]) 4 48 Tryz.underlying34 hi0 hz0 hz1 hz2 rfl (by decide) (.slice A n c) n (vCells us) rfl (own_below hown4 hnew (own_lt hown4)) (w4.heap.size + 1) (some ⟨w4.heap.size, 0, none⟩) 1 1 (vCells [.node k a b A' c' us2]) rfl hRd (v_one _) hm1 hm2 (by simp; omega) ?_); intro v5 w5 ho5 hs5; have hx := HE.out w5 v5 hs5 ho5; obtain ⟨A5, c5, rfl, _⟩ := own_form ho5; have p5 := (hx.2.1 w.heap.size (by omega)).trans HPQ.out.1; have g5 := cell_of_row w5 _ 3 _ _ _ p5; have z5 := frozen_of_row w5 w.heap.size 3 _ _ p5; simp at g5)
          have p6 := Joins.block_setCell (i := 3) p5 (.slice A5 (n + 1) c5)
          have q6 := (Below.heap_setCell w5 ⟨w.heap.size, 3, none⟩ (.slice A5 (n + 1) c5) (w.heap.size + 1) (by show w.heap.size + 1 ≠ w.heap.size; omega)).trans ((hx.2.1 (w.heap.size + 1) (by omega)).trans HPQ.out.2)
          have hT6 := hx.1.keep (w' := w5.setCell ⟨w.heap.size, 3, none⟩ (.slice A5 (n + 1) c5)) (by simp [World.setCell]) (fun g hg _ => Below.heap_setCell w5 ⟨w.heap.size, 3, none⟩ _ g (by show g ≠ w.heap.size; omega))
          have b6 := hx.2.2.2.setCell (p := ⟨w.heap.size, 3, none⟩) (by show w.heap.size ≤ w.heap.size; omega) (.slice A5 (n + 1) c5)
          have s6 : w.heap.size + 2 ≤ (w5.setCell ⟨w.heap.size, 3, none⟩ (.slice A5 (n + 1) c5)).heap.size := by have := hx.2.2.1; simp [World.setCell]; omega
          have HT6 := Lib_hid hT6
          have habs : Hid (V.absL (us ++ [V.node k a b A' c' us2]) = V.absL us ++ [t]) := by unfold Hid; rw [absL_map, List.map_append, ← absL_map, List.map_cons, List.map_nil, HSP.out.2.2]
          have hulen : Hid ((us ++ [V.node k a b A' c' us2]).length = n + 1) := by unfold Hid; rw [List.length_append, HUN.out]; rfl
          clear hx p5 g5 z5 ho5 hs5 hT6 HE hown4 hnew hRd p3 d0 d1 d2 d3
          generalize w5.setCell ⟨w.heap.size, 3, none⟩ (.slice A5 (n + 1) c5) = w6 at *
          have p6 : w6.heap[w.heap.size]? = some (.cells #[.int .i64 (kd : Int), .int .u64 0, .int .u64 0, .slice A5 (n + 1) c5] 36 (0, 0)) := p6
          by_cases h41 : ch = 41
          · have hq : ((ch.toNat : Int) == 41) = true := by rw [h41]; decide
            have hspec : listB (rdS d) s = some (V.absL (us ++ [V.node k a b A' c' us2]), l) := by
              rw [HSP.out.1, cont_shut (by rw [← h41]; exact HSP.out.2.1), habs.out]; rfl
            have pE := p6
            have qE := q6
            have bE := b6
            have sE := s6
            clear p6 q6 b6 s6 h41
            have e0 := cell_of_row w6 _ 0 _ _ _ pE
            have e1 := cell_of_row w6 _ 1 _ _ _ pE
            have e2 := cell_of_row w6 _ 2 _ _ _ pE
            have e3 := cell_of_row w6 _ 3 _ _ _ pE
            have f0 := cell_of_row w6 _ 0 _ _ _ qE
            have f1 := cell_of_row w6 _ 1 _ _ _ qE
            have f2 := cell_of_row w6 _ 2 _ _ _ qE
            have f3 := cell_of_row w6 _ 3 _ _ _ qE
            have y0 := frozen_of_row w6 (w.heap.size + 1) 0 _ _ qE
            have y1 := frozen_of_row w6 (w.heap.size + 1) 1 _ _ qE
            have y2 := frozen_of_row w6 (w.heap.size + 1) 2 _ _ qE
            have y3 := frozen_of_row w6 (w.heap.size + 1) 3 _ _ qE
            simp at e0 e1 e2 e3 f0 f1 f2 f3
            have HX := Lib_hid (HRET.out w6 (n + 1) c5 A5 l true [] qE bE (fun _ => ⟨_, hspec, hulen.out, HT6.out⟩) (fun h => by cases h) sE)
            clear pE qE bE sE HRET
            go_wp2_with fail
            show bodyPost _ _ _ _ _ (put4 w6 (w.heap.size + 1) (.int .i64 (kd : Int)) (.int .u64 0) (.int .u64 0) (.slice A5 (n + 1) c5))
            have HX2 := HX.out
            clear HX e0 e1 e2 e3 f0 f1 f2 f3 y0 y1 y2 y3
            generalize put4 w6 (w.heap.size + 1) (.int .i64 (kd : Int)) (.int .u64 0) (.int .u64 0) (.slice A5 (n + 1) c5) = W2 at *
            exact row_ret (b := true) HX2.2 HX2.1 _ rfl rfl rfl
          · have hq : ((ch.toNat : Int) == 41) = false := by
              simp only [beq_eq_false_iff_ne, ne_eq]
              intro e
              apply h41
              have e2 : ch.toNat = 41 := by omega
              rw [← UInt8.toNat_inj]
              exact e2
            by_cases h44 : ch = 44
            · have hq2 : ((ch.toNat : Int) != 44) = false := by rw [h44]; decide
              have hspec : listB (rdS d) s = (contS (rdS d) l).map fun x => (V.absL (us ++ [V.node k a b A' c' us2]) ++ x.1, x.2) := by
                rw [HSP.out.1, cont_more (rdS_len d) (by rw [← h44]; exact HSP.out.2.1), habs.out]
                cases contS (rdS d) l with
                | none => rfl
                | some x => simp
              have HSPEC := Lib_hid hspec
              have HML : Hid (strLen (.string ⟨l.toArray⟩) < strLen (.string ⟨ss.toArray⟩)) := by unfold Hid; rw [hSL.out, strLen_eq]; omega
              clear hspec h41 h44
              go_wp2_with fail
              go_roundw
              case rel => exact ⟨us ++ [.node k a b A' c' us2], A5, n + 1, c5, l, by go_num, p6, q6, HT6, HSPEC, by omega, b6, s6⟩
              case measure => exact HML.out
            · have hq2 : ((ch.toNat : Int) != 44) = true := by
                simp only [bne_iff_ne, ne_eq]
                intro e
                apply h44
                have e2 : ch.toNat = 44 := by omega
                rw [← UInt8.toNat_inj]
                exact e2
              have hno : listB (rdS d) s = none := by rw [HSP.out.1, cont_bad HSP.out.2.1 h41 h44]; rfl
              have pE := p6
              have qE := q6
              have bE := b6
              have sE := s6
              clear p6 q6 b6 s6 h41 h44
              have e0 := cell_of_row w6 _ 0 _ _ _ pE
              have e1 := cell_of_row w6 _ 1 _ _ _ pE
              have e2 := cell_of_row w6 _ 2 _ _ _ pE
              have e3 := cell_of_row w6 _ 3 _ _ _ pE
              have f0 := cell_of_row w6 _ 0 _ _ _ qE
              have f1 := cell_of_row w6 _ 1 _ _ _ qE
              have f2 := cell_of_row w6 _ 2 _ _ _ qE
              have f3 := cell_of_row w6 _ 3 _ _ _ qE
              have y0 := frozen_of_row w6 (w.heap.size + 1) 0 _ _ qE
              have y1 := frozen_of_row w6 (w.heap.size + 1) 1 _ _ qE
              have y2 := frozen_of_row w6 (w.heap.size + 1) 2 _ _ qE
              have y3 := frozen_of_row w6 (w.heap.size + 1) 3 _ _ qE
              simp at e0 e1 e2 e3 f0 f1 f2 f3
              have HX := Lib_hid (HRET.out w6 (n + 1) c5 A5 l false [] qE bE (fun h => by cases h) (fun _ => hno) sE)
              clear pE qE bE sE HRET
              go_wp2_with fail
              show bodyPost _ _ _ _ _ (put4 w6 (w.heap.size + 1) (.int .i64 (kd : Int)) (.int .u64 0) (.int .u64 0) (.slice A5 (n + 1) c5))
              have HX2 := HX.out
              clear HX e0 e1 e2 e3 f0 f1 f2 f3 y0 y1 y2 y3
              generalize put4 w6 (w.heap.size + 1) (.int .i64 (kd : Int)) (.int .u64 0) (.int .u64 0) (.slice A5 (n + 1) c5) = W2 at *
              exact row_ret (b := false) HX2.2 HX2.1 _ rfl rfl rfl

end Go.Proofs.YtbcadnkdehknoaaGreatDoor

namespace Go.Proofs.YtbcadnkdehknoaaGreatDoor
open Go Go.RowKit
set_option linter.unusedVariables false

set_option maxRecDepth 100000 in
theorem rread_ret {Q : Ending → World → Prop} {W : World} {h0 : Nat} {x0 x1 x2 x3 y : Value} {b : Bool} (HR2 : W.heap[h0]? = some (.cells #[x0, x1, x2, x3] 36 (0, 0))) (HF2 : Q (.returned (.tuple #[.agg #[x0, x1, x2, x3], y, .bool b])) W)
    (tmps : Array Value) (h6 : tmps.getD 4 undef = .pointer (some ⟨h0, 0, none⟩)) (h7 : tmps.getD 5 undef = y) (h8 : tmps.getD 6 undef = .bool b) : bodyPost Tryz.prog Tryz.f98 Q .ret { tmps := tmps, defers := [] } W := by
  rw [Array.getD_eq_getD_getElem?] at h6 h7 h8
  have d0 := cell_of_row W _ 0 _ _ _ HR2
  have d1 := cell_of_row W _ 1 _ _ _ HR2
  have d2 := cell_of_row W _ 2 _ _ _ HR2
  have d3 := cell_of_row W _ 3 _ _ _ HR2
  simp at d0 d1 d2 d3
  exact bodyPost_ret (v := .tuple #[.agg #[x0, x1, x2, x3], y, .bool b]) (by simp [results, Tryz.results98, go_sem, h6, h7, h8, d0, d1, d2, d3]) rfl HF2

theorem leaf_lies (w : World) (lo hi k a b : Nat) (hk : k ≤ 7) (ha : a < 18446744073709551616) (hb : b < 18446744073709551616) : Lies w lo hi (.node k a b none 0 []) := .mk _ _ _ _ _ _ (by omega) ha hb Rd.zero (by simp) (fun ad e => by cases e) (by simp)
theorem leaf_shp (E : TypeId) (w : World) (lo k a b : Nat) : Shp E w lo (.node k a b none 0 []) := .mk _ _ _ _ _ _ (by simp) (by simp)
theorem pre_head {s : List UInt8} {c : UInt8} {l : List UInt8} (h : Lib.hasPrefix s (c :: l) = true) : ∃ r, s = c :: r := by
  cases s with
  | nil => cases h
  | cons x r =>
    simp [Lib.hasPrefix, List.isPrefixOf] at h
    exact ⟨r, by rw [h.1]⟩

set_option maxRecDepth 100000 in
set_option maxHeartbeats 6400000 in
theorem rread4_any (d : Nat) : d ≤ 8 → ROK d := by
  induction d with
  | zero =>
    intro _ s w hl
    obtain ⟨w1, hw1⟩ : ∃ w1, w1 = w.alloc (.cells #[.int .i64 0, .int .u64 0, .int .u64 0, .slice none 0 0] 36) := ⟨_, rfl⟩
    have q1 := heap_alloc_new w (.cells #[.int .i64 0, .int .u64 0, .int .u64 0, .slice none 0 0] 36)
    have b1 := below_new w (.cells #[.int .i64 0, .int .u64 0, .int .u64 0, .slice none 0 0] 36)
    rw [← hw1] at q1 b1
    have HX : Hid (RdE4 0 s w (.returned (.tuple #[.agg #[.int .i64 0, .int .u64 0, .int .u64 0, .slice none 0 0], .string ⟨s.toArray⟩, .bool false])) (put4 w1 w.heap.size (.int .i64 0) (.int .u64 0) (.int .u64 0) (.slice none 0 0)) ∧
        (put4 w1 w.heap.size (.int .i64 0) (.int .u64 0) (.int .u64 0) (.slice none 0 0)).heap[w.heap.size]? = some (.cells #[.int .i64 0, .int .u64 0, .int .u64 0, .slice none 0 0] 36 (0, 0))) :=
      ⟨⟨0, 0, 0, 0, 0, none, s, false, rfl, put4_below b1 (Nat.le_refl _) _ _ _ _, (fun h => by cases h), fun _ => rfl⟩, put4_row q1 _ _ _ _⟩
    have f0 := cell_of_row w1 _ 0 _ _ _ q1
    have f1 := cell_of_row w1 _ 1 _ _ _ q1
    have f2 := cell_of_row w1 _ 2 _ _ _ q1
    have f3 := cell_of_row w1 _ 3 _ _ _ q1
    have y0 := frozen_of_row w1 w.heap.size 0 _ _ q1
    have y1 := frozen_of_row w1 w.heap.size 1 _ _ q1
    have y2 := frozen_of_row w1 w.heap.size 2 _ _ q1
    have y3 := frozen_of_row w1 w.heap.size 3 _ _ q1
    simp at f0 f1 f2 f3
    subst hw1
    clear q1 b1
    go_enter Tryz.func98, Tryz.ntmps98
    go_upto_region 1 with (fail)
    generalize w.alloc (.cells #[.int .i64 0, .int .u64 0, .int .u64 0, .slice none 0 0] 36) = w1 at *
    go_wp2_with fail
    show bodyPost _ _ _ _ _ (put4 w1 w.heap.size (.int .i64 0) (.int .u64 0) (.int .u64 0) (.slice none 0 0))
    have HX2 := HX.out
    clear HX f0 f1 f2 f3 y0 y1 y2 y3
    generalize put4 w1 w.heap.size (.int .i64 0) (.int .u64 0) (.int .u64 0) (.slice none 0 0) = W2 at *
    exact rread_ret (b := false) HX2.2 HX2.1 _ rfl rfl rfl
  | succ d ih =>
  intro hd s w hl
  have IH := ih (by omega)
  clear ih
  obtain ⟨w1, hw1⟩ : ∃ w1, w1 = w.alloc (.cells #[.int .i64 0, .int .u64 0, .int .u64 0, .slice none 0 0] 36) := ⟨_, rfl⟩
  have q1 := heap_alloc_new w (.cells #[.int .i64 0, .int .u64 0, .int .u64 0, .slice none 0 0] 36)
  have b1 := below_new w (.cells #[.int .i64 0, .int .u64 0, .int .u64 0, .slice none 0 0] 36)
  have s1 : w1.heap.size = w.heap.size + 1 := by rw [hw1]; simp
  rw [← hw1] at q1 b1
  have BG := Lib_hid (fun (q x : List UInt8) W => rbegins_any q x W)
  have VA := Lib_hid (fun (q : List UInt8) (hq : q.length ≤ 1000000) W => rvalue_any q hq W)
  have HIH := Lib_hid IH
  have HRET : Hid (∀ (W : World) (k : Int) (a b n c : Nat) (A : Option Addr) (s' : List UInt8) (ok : Bool), W.heap[w.heap.size]? = some (.cells #[.int .i64 0, .int .u64 0, .int .u64 0, .slice none 0 0] 36 (0, 0)) → Below w.heap.size w W →
      (ok = true → ∃ t us, rdS (d + 1) s = some (t, s') ∧ (V.node k a b A c us).abs = t ∧ us.length = n ∧ Lies W (w.heap.size + 1) W.heap.size (.node k a b A c us) ∧ Shp 36 W (w.heap.size + 1) (.node k a b A c us)) → (ok = false → rdS (d + 1) s = none) →
      RdE4 (d + 1) s w (.returned (.tuple #[.agg #[.int .i64 k, .int .u64 (a : Int), .int .u64 (b : Int), .slice A n c], .string ⟨s'.toArray⟩, .bool ok])) (put4 W w.heap.size (.int .i64 k) (.int .u64 (a : Int)) (.int .u64 (b : Int)) (.slice A n c)) ∧
      (put4 W w.heap.size (.int .i64 k) (.int .u64 (a : Int)) (.int .u64 (b : Int)) (.slice A n c)).heap[w.heap.size]? = some (.cells #[.int .i64 k, .int .u64 (a : Int), .int .u64 (b : Int), .slice A n c] 36 (0, 0))) := by
    intro W k a b n c A s' ok h1 h2 h3 h4
    refine ⟨⟨k, a, b, n, c, A, s', ok, rfl, put4_below h2 (Nat.le_refl _) _ _ _ _, fun ho => ?_, h4⟩, put4_row h1 _ _ _ _⟩
    obtain ⟨t, us, e1, e2, e3, hL, hS⟩ := h3 ho
    refine ⟨t, us, e1, e2, e3, ?_, ?_⟩
    · rw [put4_size]
      exact (hL.keep fun p h1 _ => World.cell?_of_block (put4_else W (by omega) _ _ _ _)).more (by omega) (Nat.le_refl _)
    · exact (Shp.keepL _ hL hS fun g' h1 _ => put4_else W (by omega) _ _ _ _).more (by omega)
  have hd0 : (((d + 1 : Nat) : Int) == 0) = false := by simp; omega
  have hdc : ((d + 1 : Nat) : Int) = (d : Int) + 1 := by omega
  rw [hdc] at hd0 ⊢
  have hd1 : IntKind.i64.wrap ((d : Int) + 1 - 1) = (d : Int) := by rw [IntKind.wrap_i64]; omega
  subst hw1
  clear IH hdc
  go_enter Tryz.func98, Tryz.ntmps98
  go_upto_region 1 with (fail)
  generalize w.alloc (.cells #[.int .i64 0, .int .u64 0, .int .u64 0, .slice none 0 0] 36) = w1 at *
  cases h1 : Lib.hasPrefix s [97, 108, 108] with
  | true =>
    have hl3 := pre_len h1
    have hi3 : (3 : Int) ≤ (s.length : Int) := by simp at hl3; omega
    have hext := ext_drop s 3
    have hsp := rd_all (d := d) h1
    have BG1 := BG.out s [97, 108, 108] w1
    rw [h1] at BG1
    generalize s.drop 3 = s' at *
    have qE := q1
    have bE := b1
    clear q1 b1 h1 hl3 BG VA HIH
    have f0 := cell_of_row w1 _ 0 _ _ _ qE
    have f1 := cell_of_row w1 _ 1 _ _ _ qE
    have f2 := cell_of_row w1 _ 2 _ _ _ qE
    have f3 := cell_of_row w1 _ 3 _ _ _ qE
    have y0 := frozen_of_row w1 w.heap.size 0 _ _ qE
    have y1 := frozen_of_row w1 w.heap.size 1 _ _ qE
    have y2 := frozen_of_row w1 w.heap.size 2 _ _ qE
    have y3 := frozen_of_row w1 w.heap.size 3 _ _ qE
    simp at f0 f1 f2 f3
    have HX := Lib_hid (HRET.out w1.drew 1 0 0 0 0 none s' true qE bE.drew (fun _ => ⟨_, [], hsp, by simp [V.abs, V.absL], rfl, leaf_lies _ _ _ 1 0 0 (by omega) (by omega) (by omega), leaf_shp _ _ _ 1 0 0⟩) (fun h => by cases h))
    clear qE bE HRET
    go_upto_region 4 with (go_at_call 162; refine BG1.mono ?_; rintro e w' ⟨rfl, rfl⟩)
    clear hsp
    go_region
    all_goals (go_wp2_with fail)
    show bodyPost _ _ _ _ _ (put4 w1.drew w.heap.size (.int .i64 1) (.int .u64 0) (.int .u64 0) (.slice none 0 0))
    have HX2 := HX.out
    clear HX f0 f1 f2 f3 y0 y1 y2 y3
    generalize put4 w1.drew w.heap.size (.int .i64 1) (.int .u64 0) (.int .u64 0) (.slice none 0 0) = W2 at *
    exact rread_ret (b := true) HX2.2 HX2.1 _ rfl rfl rfl
  | false =>
  cases h2 : Lib.hasPrefix s [120, 60, 61] with
  | true =>
    have hl3 := pre_len h2
    have hi3 : (3 : Int) ≤ (s.length : Int) := by simp at hl3; omega
    have hext := ext_drop s 3
    have hsp := rd_x (d := d) h1 h2
    obtain ⟨rr, hrr⟩ := pre_head h2
    have hix : ∀ W, (Instr.index 9 (.string ⟨s.toArray⟩) (.int .i64 0)).run Tryz.prog W = .ok (.int .u8 120) W := fun W => by have := ix_str s 0 (by rw [hrr]; simp) W; simp only [hrr, List.getElem_cons_zero] at this ⊢; exact this
    have VV := VA.out (s.drop 3) (by rw [List.length_drop]; omega) w1
    have HSP := Lib_hid hsp
    clear hsp hrr hl3 VA HIH
    generalize s.drop 3 = s' at *
    go_wp2_with (first | (go_at_call 162; refine (BG.out _ _ _).mono ?_; rintro e w' ⟨rfl, rfl⟩) | (go_at_call 163; refine VV.mono ?_; rintro e w2 ⟨hb2, v, r, ok, rfl, hv, hok, hno⟩; have q2 := (hb2.block w.heap.size (by omega)).trans q1; have f0 := cell_of_row w2 _ 0 _ _ _ q2; have f1 := cell_of_row w2 _ 1 _ _ _ q2; have f2 := cell_of_row w2 _ 2 _ _ _ q2; have f3 := cell_of_row w2 _ 3 _ _ _ q2; have y0 := frozen_of_row w2 w.heap.size 0 _ _ q2; have y1 := frozen_of_row w2 w.heap.size 1 _ _ q2; have y2 := frozen_of_row w2 w.heap.size 2 _ _ q2; have y3 := frozen_of_row w2 w.heap.size 3 _ _ q2; simp at f0 f1 f2 f3))
    have HX := Lib_hid (HRET.out w2 2 v 0 0 0 none r ok q2 (b1.trans (hb2.mono (by omega))) (fun h => ⟨_, [], by rw [HSP.out, hok h]; rfl, by simp [V.abs, V.absL], rfl, leaf_lies _ _ _ 2 v 0 (by omega) hv (by omega), leaf_shp _ _ _ 2 v 0⟩) (fun h => by rw [HSP.out, hno h]; rfl))
    show bodyPost _ _ _ _ _ (put4 w2 w.heap.size (.int .i64 2) (.int .u64 (v : Int)) (.int .u64 0) (.slice none 0 0))
    have HX2 := HX.out
    clear HX f0 f1 f2 f3 y0 y1 y2 y3
    generalize put4 w2 w.heap.size (.int .i64 2) (.int .u64 (v : Int)) (.int .u64 0) (.slice none 0 0) = W2 at *
    exact rread_ret (b := ok) HX2.2 HX2.1 _ rfl rfl rfl
  | false =>
  cases h3 : Lib.hasPrefix s [118, 60, 61] with
  | true =>
    have hl3 := pre_len h3
    have hi3 : (3 : Int) ≤ (s.length : Int) := by simp at hl3; omega
    have hext := ext_drop s 3
    have hsp := rd_v (d := d) h1 h2 h3
    obtain ⟨rr, hrr⟩ := pre_head h3
    have hix : ∀ W, (Instr.index 9 (.string ⟨s.toArray⟩) (.int .i64 0)).run Tryz.prog W = .ok (.int .u8 118) W := fun W => by have := ix_str s 0 (by rw [hrr]; simp) W; simp only [hrr, List.getElem_cons_zero] at this ⊢; exact this
    have VV := VA.out (s.drop 3) (by rw [List.length_drop]; omega) w1
    have HSP := Lib_hid hsp
    clear hsp hrr hl3 VA HIH
    generalize s.drop 3 = s' at *
    go_wp2_with (first | (go_at_call 162; refine (BG.out _ _ _).mono ?_; rintro e w' ⟨rfl, rfl⟩) | (go_at_call 163; refine VV.mono ?_; rintro e w2 ⟨hb2, v, r, ok, rfl, hv, hok, hno⟩; have q2 := (hb2.block w.heap.size (by omega)).trans q1; have f0 := cell_of_row w2 _ 0 _ _ _ q2; have f1 := cell_of_row w2 _ 1 _ _ _ q2; have f2 := cell_of_row w2 _ 2 _ _ _ q2; have f3 := cell_of_row w2 _ 3 _ _ _ q2; have y0 := frozen_of_row w2 w.heap.size 0 _ _ q2; have y1 := frozen_of_row w2 w.heap.size 1 _ _ q2; have y2 := frozen_of_row w2 w.heap.size 2 _ _ q2; have y3 := frozen_of_row w2 w.heap.size 3 _ _ q2; simp at f0 f1 f2 f3))
    have HX := Lib_hid (HRET.out w2 3 v 0 0 0 none r ok q2 (b1.trans (hb2.mono (by omega))) (fun h => ⟨_, [], by rw [HSP.out, hok h]; rfl, by simp [V.abs, V.absL], rfl, leaf_lies _ _ _ 3 v 0 (by omega) hv (by omega), leaf_shp _ _ _ 3 v 0⟩) (fun h => by rw [HSP.out, hno h]; rfl))
    show bodyPost _ _ _ _ _ (put4 w2 w.heap.size (.int .i64 3) (.int .u64 (v : Int)) (.int .u64 0) (.slice none 0 0))
    have HX2 := HX.out
    clear HX f0 f1 f2 f3 y0 y1 y2 y3
    generalize put4 w2 w.heap.size (.int .i64 3) (.int .u64 (v : Int)) (.int .u64 0) (.slice none 0 0) = W2 at *
    exact rread_ret (b := ok) HX2.2 HX2.1 _ rfl rfl rfl
  | false =>
  cases h4 : Lib.hasPrefix s [118, 37] with
  | true =>
    have hl2 := pre_len h4
    have hi2 : (2 : Int) ≤ (s.length : Int) := by simp at hl2; omega
    have hext := ext_drop s 2
    have hsp := rd_m (d := d) h1 h2 h3 h4
    have VV := VA.out (s.drop 2) (by rw [List.length_drop]; omega) w1
    have hdl : (s.drop 2).length ≤ s.length := by rw [List.length_drop]; omega
    have HSP := Lib_hid hsp
    clear hsp hl2
    generalize s.drop 2 = s' at *
    go_wp2_with (first | (go_at_call 162; refine (BG.out _ _ _).mono ?_; rintro e w' ⟨rfl, rfl⟩))
    refine VV.mono ?_
    rintro e w2 ⟨hb2, v, r, ok, rfl, hv, hok, hno⟩
    have q2 := (hb2.block w.heap.size (by omega)).trans q1
    have bw2 := b1.trans (hb2.mono (by omega))
    have s2 := hb2.size
    clear VV
    cases ok with
    | false =>
      have hno2 : rdS (d + 1) s = none := by rw [HSP.out, hno rfl]; rfl
      have f0 := cell_of_row w2 _ 0 _ _ _ q2
      have f1 := cell_of_row w2 _ 1 _ _ _ q2
      have f2 := cell_of_row w2 _ 2 _ _ _ q2
      have f3 := cell_of_row w2 _ 3 _ _ _ q2
      have y0 := frozen_of_row w2 w.heap.size 0 _ _ q2
      have y1 := frozen_of_row w2 w.heap.size 1 _ _ q2
      have y2 := frozen_of_row w2 w.heap.size 2 _ _ q2
      have y3 := frozen_of_row w2 w.heap.size 3 _ _ q2
      simp at f0 f1 f2 f3
      have HX := Lib_hid (HRET.out w2 0 0 0 0 0 none s false q2 bw2 (fun h => by cases h) (fun _ => hno2))
      clear hno2
      go_wp2_with fail
      show bodyPost _ _ _ _ _ (put4 w2 w.heap.size (.int .i64 0) (.int .u64 0) (.int .u64 0) (.slice none 0 0))
      have HX2 := HX.out
      clear HX f0 f1 f2 f3 y0 y1 y2 y3
      generalize put4 w2 w.heap.size (.int .i64 0) (.int .u64 0) (.int .u64 0) (.slice none 0 0) = W2 at *
      exact rread_ret (b := false) HX2.2 HX2.1 _ rfl rfl rfl
    | true =>
      have hns := hok rfl
      have hrl : r.length ≤ s'.length := (numS_lt hns).2
      have BG2 := BG.out r [61] w2
      cases h61 : Lib.hasPrefix r [61] with
      | false =>
        rw [h61] at BG2
        have hno2 : rdS (d + 1) s = none := by
          rw [HSP.out, hns, Option.bind_some]
          simp only [h61]
          rfl
        have f0 := cell_of_row w2 _ 0 _ _ _ q2
        have f1 := cell_of_row w2 _ 1 _ _ _ q2
        have f2 := cell_of_row w2 _ 2 _ _ _ q2
        have f3 := cell_of_row w2 _ 3 _ _ _ q2
        have y0 := frozen_of_row w2 w.heap.size 0 _ _ q2
        have y1 := frozen_of_row w2 w.heap.size 1 _ _ q2
        have y2 := frozen_of_row w2 w.heap.size 2 _ _ q2
        have y3 := frozen_of_row w2 w.heap.size 3 _ _ q2
        simp at f0 f1 f2 f3
        have HX := Lib_hid (HRET.out w2 0 0 0 0 0 none s false q2 bw2 (fun h => by cases h) (fun _ => hno2))
        clear hno2 h61
        go_wp2_with (go_at_call 162; refine BG2.mono ?_; rintro e w' ⟨rfl, rfl⟩)
        show bodyPost _ _ _ _ _ (put4 w2 w.heap.size (.int .i64 0) (.int .u64 0) (.int .u64 0) (.slice none 0 0))
        have HX2 := HX.out
        clear HX f0 f1 f2 f3 y0 y1 y2 y3
        generalize put4 w2 w.heap.size (.int .i64 0) (.int .u64 0) (.int .u64 0) (.slice none 0 0) = W2 at *
        exact rread_ret (b := false) HX2.2 HX2.1 _ rfl rfl rfl
      | true =>
        rw [h61] at BG2
        have hl1 := pre_len h61
        have hi1 : (1 : Int) ≤ (r.length : Int) := by simp at hl1; omega
        have hext2 := ext_drop r 1
        have VV2 := VA.out (r.drop 1) (by rw [List.length_drop]; omega) w2
        have hsp2 : rdS (d + 1) s = (numS (r.drop 1)).map fun y => (.node 4 v y.1 [], y.2) := by
          rw [HSP.out, hns, Option.bind_some]
          simp only [h61, if_true]
        have HSP2 := Lib_hid hsp2
        clear hsp2 hl1 h61
        generalize r.drop 1 = r2 at *
        go_wp2_with (go_at_call 162; refine BG2.mono ?_; rintro e w' ⟨rfl, rfl⟩)
        refine VV2.mono ?_
        rintro e w3 ⟨hb3, v2, r3, ok3, rfl, hv2, hok3, hno3⟩
        have q3 := (hb3.block w.heap.size (by omega)).trans q2
        have bw3 := bw2.trans (hb3.mono (by omega))
        have f0 := cell_of_row w3 _ 0 _ _ _ q3
        have f1 := cell_of_row w3 _ 1 _ _ _ q3
        have f2 := cell_of_row w3 _ 2 _ _ _ q3
        have f3 := cell_of_row w3 _ 3 _ _ _ q3
        have y0 := frozen_of_row w3 w.heap.size 0 _ _ q3
        have y1 := frozen_of_row w3 w.heap.size 1 _ _ q3
        have y2 := frozen_of_row w3 w.heap.size 2 _ _ q3
        have y3 := frozen_of_row w3 w.heap.size 3 _ _ q3
        simp at f0 f1 f2 f3
        have HX := Lib_hid (HRET.out w3 4 v v2 0 0 none r3 ok3 q3 bw3 (fun h => ⟨_, [], by rw [HSP2.out, hok3 h]; rfl, by simp [V.abs, V.absL], rfl, leaf_lies _ _ _ 4 v v2 (by omega) hv hv2, leaf_shp _ _ _ 4 v v2⟩) (fun h => by rw [HSP2.out, hno3 h]; rfl))
        clear VV2 BG2
        go_wp2_with fail
        show bodyPost _ _ _ _ _ (put4 w3 w.heap.size (.int .i64 4) (.int .u64 v) (.int .u64 v2) (.slice none 0 0))
        have HX2 := HX.out
        clear HX f0 f1 f2 f3 y0 y1 y2 y3
        generalize put4 w3 w.heap.size (.int .i64 4) (.int .u64 v) (.int .u64 v2) (.slice none 0 0) = W2 at *
        exact rread_ret (b := ok3) HX2.2 HX2.1 _ rfl rfl rfl
  | false =>
  have HN5 : Hid (∀ i, 1 ≤ i → i < 5 → Lib.hasPrefix s (wordL i) = false) := fun i q1 q2 => by
    have : i = 1 ∨ i = 2 ∨ i = 3 ∨ i = 4 := by omega
    rcases this with rfl | rfl | rfl | rfl
    · exact h1
    · exact h2
    · exact h3
    · exact h4
  cases h5 : Lib.hasPrefix s [33] with
  | true =>
    have hl1 := pre_len h5
    have hi1 : (1 : Int) ≤ (s.length : Int) := by simp at hl1; omega
    have hext := ext_drop s 1
    have hsp := rd_n (d := d) HN5.out h5
    have CH := HIH.out (s.drop 1) w1 (by rw [List.length_drop]; omega)
    have HSP := Lib_hid hsp
    clear hsp hl1
    generalize s.drop 1 = s' at *
    go_wp2_with (first | (go_at_call 162; refine (BG.out _ _ _).mono ?_; rintro e w' ⟨rfl, rfl⟩))
    refine CH.mono ?_
    rintro e w2 ⟨k, a, b, n, c, A, r, ok, rfl, hb2, hR⟩
    have s2 := hb2.size
    have b3 := below_new w2 (.cells #[.int .i64 k, .int .u64 (a : Int), .int .u64 (b : Int), .slice A n c] 36)
    have r3 := heap_alloc_new w2 (.cells #[.int .i64 k, .int .u64 (a : Int), .int .u64 (b : Int), .slice A n c] 36)
    have q3 := (b3.block w.heap.size (by omega)).trans ((hb2.block w.heap.size (by omega)).trans q1)
    have bw3 := (b1.trans (hb2.mono (by omega))).trans (b3.mono (by omega))
    have s3 : (w2.alloc (.cells #[.int .i64 k, .int .u64 (a : Int), .int .u64 (b : Int), .slice A n c] 36)).heap.size = w2.heap.size + 1 := by simp
    have HB3 := Lib_hid b3
    clear CH b3
    go_upto_region 19 with (fail)
    generalize w2.alloc (.cells #[.int .i64 k, .int .u64 (a : Int), .int .u64 (b : Int), .slice A n c] 36) = w3 at *
    have d0 := cell_of_row w3 _ 0 _ _ _ r3
    have d1 := cell_of_row w3 _ 1 _ _ _ r3
    have d2 := cell_of_row w3 _ 2 _ _ _ r3
    have d3 := cell_of_row w3 _ 3 _ _ _ r3
    simp at d0 d1 d2 d3
    obtain ⟨w4, hw4⟩ : ∃ w4, w4 = w3.alloc (.cells #[.int .i64 k, .int .u64 (a : Int), .int .u64 (b : Int), .slice A n c] 36) := ⟨_, rfl⟩
    have b4 := below_new w3 (.cells #[.int .i64 k, .int .u64 (a : Int), .int .u64 (b : Int), .slice A n c] 36)
    have hoL := World.ownsRow_lit (base := w3.heap.size) (e := 36) (size := 4) w3 #[.int .i64 k, .int .u64 (a : Int), .int .u64 (b : Int), .slice A n c] 1 (Nat.le_refl _) (by decide) rfl
    rw [← hw4] at b4 hoL
    have q4 := (b4.block w.heap.size (by omega)).trans q3
    have bw4 := bw3.trans (b4.mono (by omega))
    have s4 := b4.size
    have hyes : ok = true → ∃ t us, rdS (d + 1) s = some (t, r) ∧ (V.node 5 0 0 (some ⟨w3.heap.size, 0, none⟩) 1 us).abs = t ∧ us.length = 1 ∧ Lies w4 (w.heap.size + 1) w4.heap.size (.node 5 0 0 (some ⟨w3.heap.size, 0, none⟩) 1 us) ∧ Shp 36 w4 (w.heap.size + 1) (.node 5 0 0 (some ⟨w3.heap.size, 0, none⟩) 1 us) := by
      intro ho
      obtain ⟨t, us, e1, e2, e3, hL, hS⟩ := hR.yes ho
      subst e3
      have hT : TRow 36 (w.heap.size + 1) (.slice (some ⟨w3.heap.size, 0, none⟩) 1 1) [.node k a b A c us] w4 := by
        refine ⟨own_base hoL fun j hj => by have e : w3.heap.size = j := Option.some.inj hj; omega, fun u hu => ?_⟩
        obtain rfl : u = .node k a b A c us := by simpa using hu
        have hb24 : Below w2.heap.size w2 w4 := HB3.out.trans (b4.mono (by omega))
        exact ⟨w1.heap.size, w2.heap.size, by omega, hb24.size, hL.under hb24, hS.under hb24, fun g hg => .inr (by have e : w3.heap.size = g := Option.some.inj hg; omega)⟩
      obtain ⟨_, hL4, hS4⟩ := hT.tree (k := 5) (a := 0) (b := 0) (by omega) (by omega) (by omega)
      refine ⟨.node 5 0 0 [t], [.node k a b A c us], by rw [HSP.out, e1]; rfl, by rw [V.abs, V.absL, V.absL, e2], rfl, hL4, hS4⟩
    have hno2 : ok = false → rdS (d + 1) s = none := fun h => by rw [HSP.out, hR.no h]; rfl
    clear q3 bw3 hoL hR
    have f0 := cell_of_row w4 _ 0 _ _ _ q4
    have f1 := cell_of_row w4 _ 1 _ _ _ q4
    have f2 := cell_of_row w4 _ 2 _ _ _ q4
    have f3 := cell_of_row w4 _ 3 _ _ _ q4
    have y0 := frozen_of_row w4 w.heap.size 0 _ _ q4
    have y1 := frozen_of_row w4 w.heap.size 1 _ _ q4
    have y2 := frozen_of_row w4 w.heap.size 2 _ _ q4
    have y3 := frozen_of_row w4 w.heap.size 3 _ _ q4
    simp at f0 f1 f2 f3
    have HX := Lib_hid (HRET.out w4 5 0 0 1 1 (some ⟨w3.heap.size, 0, none⟩) r ok q4 bw4 hyes hno2)
    subst hw4
    clear q4 bw4 hyes hno2 HB3 b4 s3
    go_wp2_with fail
    show bodyPost _ _ _ _ _ (put4 (w3.alloc (.cells #[.int .i64 k, .int .u64 (a : Int), .int .u64 (b : Int), .slice A n c] 36)) w.heap.size (.int .i64 5) (.int .u64 0) (.int .u64 0) (.slice (some ⟨w3.heap.size, 0, none⟩) 1 1))
    have HX2 := HX.out
    clear HX f0 f1 f2 f3 y0 y1 y2 y3
    generalize put4 (w3.alloc (.cells #[.int .i64 k, .int .u64 (a : Int), .int .u64 (b : Int), .slice A n c] 36)) w.heap.size (.int .i64 5) (.int .u64 0) (.int .u64 0) (.slice (some ⟨w3.heap.size, 0, none⟩) 1 1) = W2 at *
    exact rread_ret (b := ok) HX2.2 HX2.1 _ rfl rfl rfl
  | false =>
  have HN6 : Hid (∀ i, 1 ≤ i → i < 6 → Lib.hasPrefix s (wordL i) = false) := fun i q1 q2 => by
    rcases Nat.lt_or_ge i 5 with h | h
    · exact HN5.out i q1 h
    · obtain rfl : i = 5 := by omega
      exact h5
  cases h6 : Lib.hasPrefix s [38, 40] with
  | true =>
    have hl2 := pre_len h6
    have hi2 : (2 : Int) ≤ (s.length : Int) := by simp at hl2; omega
    have hext := ext_drop s 2
    have hw1p : Lib.hasPrefix s [38] = true := by
      have h := h6
      rw [pre_two, Bool.and_eq_true] at h
      exact h.1
    have hsp := rd_r (d := d) 6 38 (by decide) HN6.out hw1p
    rw [h6, if_pos rfl] at hsp
    have RW := rrow_any d 6 (by omega) (by omega) HIH.out (s.drop 2) (by rw [List.length_drop]; omega) w1
    have RW : Calls Tryz.prog 164 #[.agg #[.int .i64 6, .int .u64 0, .int .u64 0, .slice none 0 0], .string ⟨(s.drop 2).toArray⟩, .int .i64 ((d : Int) + 1)] w1 (RowEnd4 d 6 (s.drop 2) w1) := RW
    have HSP := Lib_hid hsp
    clear hsp hl2 hw1p
    generalize s.drop 2 = s' at *
    go_wp2_with (first | (go_at_call 162; refine (BG.out _ _ _).mono ?_; rintro e w' ⟨rfl, rfl⟩))
    refine RW.mono ?_
    rintro e w2 ⟨n, c, A, r, ok, rfl, hb2, hyes, hno⟩
    have q2 := (hb2.block w.heap.size (by omega)).trans q1
    have bw2 := b1.trans (hb2.mono (by omega))
    have s2 := hb2.size
    have hyes2 : ok = true → ∃ t us, rdS (d + 1) s = some (t, r) ∧ (V.node 6 0 0 A c us).abs = t ∧ us.length = n ∧ Lies w2 (w.heap.size + 1) w2.heap.size (.node 6 0 0 A c us) ∧ Shp 36 w2 (w.heap.size + 1) (.node 6 0 0 A c us) := by
      intro ho
      obtain ⟨us, e1, e2, hT⟩ := hyes ho
      obtain ⟨_, hL4, hS4⟩ := hT.tree (k := 6) (a := 0) (b := 0) (by omega) (by omega) (by omega)
      exact ⟨_, us, by rw [HSP.out, e1]; rfl, by rw [V.abs]; rfl, e2, hL4.more (by omega) (Nat.le_refl _), hS4.more (by omega)⟩
    have hno2 : ok = false → rdS (d + 1) s = none := fun h => by rw [HSP.out, hno h]; rfl
    clear RW hyes hno
    have f0 := cell_of_row w2 _ 0 _ _ _ q2
    have f1 := cell_of_row w2 _ 1 _ _ _ q2
    have f2 := cell_of_row w2 _ 2 _ _ _ q2
    have f3 := cell_of_row w2 _ 3 _ _ _ q2
    have y0 := frozen_of_row w2 w.heap.size 0 _ _ q2
    have y1 := frozen_of_row w2 w.heap.size 1 _ _ q2
    have y2 := frozen_of_row w2 w.heap.size 2 _ _ q2
    have y3 := frozen_of_row w2 w.heap.size 3 _ _ q2
    simp at f0 f1 f2 f3
    have HX := Lib_hid (HRET.out w2 6 0 0 n c A r ok q2 bw2 hyes2 hno2)
    clear hyes2 hno2
    go_wp2_with fail
    show bodyPost _ _ _ _ _ (put4 w2 w.heap.size (.int .i64 6) (.int .u64 0) (.int .u64 0) (.slice A n c))
    have HX2 := HX.out
    clear HX f0 f1 f2 f3 y0 y1 y2 y3
    generalize put4 w2 w.heap.size (.int .i64 6) (.int .u64 0) (.int .u64 0) (.slice A n c) = W2 at *
    exact rread_ret (b := ok) HX2.2 HX2.1 _ rfl rfl rfl
  | false =>
  cases h7 : Lib.hasPrefix s [124, 40] with
  | true =>
    have HN7 : Hid (Lib.hasPrefix s [124] = true → ∀ i, 1 ≤ i → i < 7 → Lib.hasPrefix s (wordL i) = false) := fun h124 i q1 q2 => by
      rcases Nat.lt_or_ge i 6 with h | h
      · exact HN6.out i q1 h
      · obtain rfl : i = 6 := by omega
        obtain ⟨rr, hrr⟩ := pre_head h124
        rw [hrr]
        rfl
    have hl2 := pre_len h7
    have hi2 : (2 : Int) ≤ (s.length : Int) := by simp at hl2; omega
    have hext := ext_drop s 2
    have hw1p : Lib.hasPrefix s [124] = true := by
      have h := h7
      rw [pre_two, Bool.and_eq_true] at h
      exact h.1
    have hsp := rd_r (d := d) 7 124 (by decide) (HN7.out hw1p) hw1p
    rw [h7, if_pos rfl] at hsp
    have RW := rrow_any d 7 (by omega) (by omega) HIH.out (s.drop 2) (by rw [List.length_drop]; omega) w1
    have RW : Calls Tryz.prog 164 #[.agg #[.int .i64 7, .int .u64 0, .int .u64 0, .slice none 0 0], .string ⟨(s.drop 2).toArray⟩, .int .i64 ((d : Int) + 1)] w1 (RowEnd4 d 7 (s.drop 2) w1) := RW
    have HSP := Lib_hid hsp
    clear hsp hl2 hw1p
    generalize s.drop 2 = s' at *
    go_wp2_with (first | (go_at_call 162; refine (BG.out _ _ _).mono ?_; rintro e w' ⟨rfl, rfl⟩))
    refine RW.mono ?_
    rintro e w2 ⟨n, c, A, r, ok, rfl, hb2, hyes, hno⟩
    have q2 := (hb2.block w.heap.size (by omega)).trans q1
    have bw2 := b1.trans (hb2.mono (by omega))
    have s2 := hb2.size
    have hyes2 : ok = true → ∃ t us, rdS (d + 1) s = some (t, r) ∧ (V.node 7 0 0 A c us).abs = t ∧ us.length = n ∧ Lies w2 (w.heap.size + 1) w2.heap.size (.node 7 0 0 A c us) ∧ Shp 36 w2 (w.heap.size + 1) (.node 7 0 0 A c us) := by
      intro ho
      obtain ⟨us, e1, e2, hT⟩ := hyes ho
      obtain ⟨_, hL4, hS4⟩ := hT.tree (k := 7) (a := 0) (b := 0) (by omega) (by omega) (by omega)
      exact ⟨_, us, by rw [HSP.out, e1]; rfl, by rw [V.abs]; rfl, e2, hL4.more (by omega) (Nat.le_refl _), hS4.more (by omega)⟩
    have hno2 : ok = false → rdS (d + 1) s = none := fun h => by rw [HSP.out, hno h]; rfl
    clear RW hyes hno
    have f0 := cell_of_row w2 _ 0 _ _ _ q2
    have f1 := cell_of_row w2 _ 1 _ _ _ q2
    have f2 := cell_of_row w2 _ 2 _ _ _ q2
    have f3 := cell_of_row w2 _ 3 _ _ _ q2
    have y0 := frozen_of_row w2 w.heap.size 0 _ _ q2
    have y1 := frozen_of_row w2 w.heap.size 1 _ _ q2
    have y2 := frozen_of_row w2 w.heap.size 2 _ _ q2
    have y3 := frozen_of_row w2 w.heap.size 3 _ _ q2
    simp at f0 f1 f2 f3
    have HX := Lib_hid (HRET.out w2 7 0 0 n c A r ok q2 bw2 hyes2 hno2)
    clear hyes2 hno2
    go_wp2_with fail
    show bodyPost _ _ _ _ _ (put4 w2 w.heap.size (.int .i64 7) (.int .u64 0) (.int .u64 0) (.slice A n c))
    have HX2 := HX.out
    clear HX f0 f1 f2 f3 y0 y1 y2 y3
    generalize put4 w2 w.heap.size (.int .i64 7) (.int .u64 0) (.int .u64 0) (.slice A n c) = W2 at *
    exact rread_ret (b := ok) HX2.2 HX2.1 _ rfl rfl rfl
  | false =>
    have hno2 := rd_0 (d := d) HN6.out h6 h7
    have qE := q1
    have bE := b1
    clear q1 b1
    have f0 := cell_of_row w1 _ 0 _ _ _ qE
    have f1 := cell_of_row w1 _ 1 _ _ _ qE
    have f2 := cell_of_row w1 _ 2 _ _ _ qE
    have f3 := cell_of_row w1 _ 3 _ _ _ qE
    have y0 := frozen_of_row w1 w.heap.size 0 _ _ qE
    have y1 := frozen_of_row w1 w.heap.size 1 _ _ qE
    have y2 := frozen_of_row w1 w.heap.size 2 _ _ qE
    have y3 := frozen_of_row w1 w.heap.size 3 _ _ qE
    simp at f0 f1 f2 f3
    have HX := Lib_hid (HRET.out w1 0 0 0 0 0 none s false qE bE (fun h => by cases h) (fun _ => hno2))
    clear hno2
    go_wp2_with (first | (go_at_call 162; refine (BG.out _ _ _).mono ?_; rintro e w' ⟨rfl, rfl⟩))
    show bodyPost _ _ _ _ _ (put4 w1 w.heap.size (.int .i64 0) (.int .u64 0) (.int .u64 0) (.slice none 0 0))
    have HX2 := HX.out
    clear HX f0 f1 f2 f3 y0 y1 y2 y3
    generalize put4 w1 w.heap.size (.int .i64 0) (.int .u64 0) (.int .u64 0) (.slice none 0 0) = W2 at *
    exact rread_ret (b := false) HX2.2 HX2.1 _ rfl rfl rfl

end Go.Proofs.YtbcadnkdehknoaaGreatDoor

namespace Go.Proofs.YtbcadnkdehknoaaGreatDoor
open Go Go.RowKit
set_option linter.unusedVariables false

set_option maxRecDepth 100000 in
theorem rRead_ret {Q : Ending → World → Prop} {W : World} {h0 z : Nat} {x0 x1 x2 x3 : Value} (HR2 : W.heap[h0]? = some (.cells #[x0, x1, x2, x3] 36 (0, 0))) (HF2 : Q (.returned (.tuple #[.agg #[x0, x1, x2, x3], .int .i64 z])) W)
    (tmps : Array Value) (h2 : tmps.getD 2 undef = .pointer (some ⟨h0, 0, none⟩)) (h3 : tmps.getD 3 undef = .int .i64 z) : bodyPost Tryz.prog Tryz.f70 Q .ret { tmps := tmps, defers := [] } W := by
  rw [Array.getD_eq_getD_getElem?] at h2 h3
  have d0 := cell_of_row W _ 0 _ _ _ HR2
  have d1 := cell_of_row W _ 1 _ _ _ HR2
  have d2 := cell_of_row W _ 2 _ _ _ HR2
  have d3 := cell_of_row W _ 3 _ _ _ HR2
  simp at d0 d1 d2 d3
  exact bodyPost_ret (v := .tuple #[.agg #[x0, x1, x2, x3], .int .i64 z]) (by simp [results, Tryz.results70, go_sem, h2, h3, d0, d1, d2, d3]) rfl HF2

/-- A text has no more nodes than bytes. -/
theorem moreS_count {f : List UInt8 → Option (T × List UInt8)} (hf : ∀ s t r, f s = some (t, r) → t.count + r.length ≤ s.length) : ∀ (n : Nat) (s : List UInt8) (ts : List T) (r : List UInt8), moreS f n s = some (ts, r) → T.countL ts + r.length ≤ s.length
  | 0, s, ts, r, h => by cases h
  | n + 1, s, ts, r, h => by
    unfold moreS at h
    split at h
    · obtain ⟨⟨t, r'⟩, h1, h⟩ := Option.bind_eq_some_iff.1 h
      obtain ⟨⟨ts', r2⟩, h2, he⟩ := Option.map_eq_some_iff.1 h
      injection he with e1 e2
      subst e1 e2
      have := hf _ _ _ h1
      have := moreS_count hf n r' ts' r2 h2
      have := trim_le s [44]
      simp only [T.countL] at *
      omega
    · split at h
      · injection h with h
        injection h with e1 e2
        subst e1 e2
        have := trim_le s [41]
        simp only [T.countL]
        omega
      · cases h
theorem rdS_count : ∀ (d : Nat) (s : List UInt8) (t : T) (r : List UInt8), rdS d s = some (t, r) → t.count + r.length ≤ s.length
  | 0, s, t, r, h => by cases h
  | d + 1, s, t, r, h => by
    unfold rdS at h
    split at h
    · cases h
    · rename_i hk
      obtain ⟨⟨vs, r1⟩, h1, h⟩ := Option.bind_eq_some_iff.1 h
      obtain ⟨⟨ts, r2⟩, h2, he⟩ := Option.map_eq_some_iff.1 h
      injection he with e1 e2
      subst e1 e2
      have h3 := (numsS_len _ _ _ _ h1).2.1
      have h4 := (kindS_le s).2.2 hk
      have h5 : T.countL ts + r2.length ≤ r1.length := by
        unfold partsS at h2
        split at h2
        · obtain ⟨⟨t', r'⟩, h5, he⟩ := Option.map_eq_some_iff.1 h2
          injection he with e1 e2
          subst e1 e2
          have := rdS_count d _ _ _ h5
          simp only [T.countL] at *
          omega
        · split at h2
          · unfold listS at h2
            split at h2
            · have := trim_le r1 [40]
              split at h2
              · injection h2 with h2
                injection h2 with e1 e2
                subst e1 e2
                have := trim_le (Lib.trimPrefix r1 [40]) [41]
                simp only [T.countL]
                omega
              · obtain ⟨⟨t', r'⟩, h6, h2⟩ := Option.bind_eq_some_iff.1 h2
                obtain ⟨⟨ts', r3⟩, h7, he⟩ := Option.map_eq_some_iff.1 h2
                injection he with e1 e2
                subst e1 e2
                have := rdS_count d _ _ _ h6
                have := moreS_count (rdS_count d) _ _ _ _ h7
                simp only [T.countL] at *
                omega
            · cases h2
          · injection h2 with h2
            injection h2 with e1 e2
            subst e1 e2
            simp only [T.countL]
            omega
      rw [T.count]
      simp only at *
      omega

set_option maxRecDepth 100000 in
set_option maxHeartbeats 3200000 in
theorem rRead_any (s : List UInt8) (w : World) (hl : s.length ≤ 900) : Calls Tryz.prog 70 #[.string ⟨s.toArray⟩] w (AnsEnd 36 (ansT (readT s)) w) := by
  obtain ⟨w1, hw1⟩ : ∃ w1, w1 = w.alloc (.cells #[.int .i64 0, .int .u64 0, .int .u64 0, .slice none 0 0] 36) := ⟨_, rfl⟩
  have q1 := heap_alloc_new w (.cells #[.int .i64 0, .int .u64 0, .int .u64 0, .slice none 0 0] 36)
  have b1 := below_new w (.cells #[.int .i64 0, .int .u64 0, .int .u64 0, .slice none 0 0] 36)
  have s1 : w1.heap.size = w.heap.size + 1 := by rw [hw1]; simp
  rw [← hw1] at q1 b1
  have ND := rread4_any 8 (Nat.le_refl _) s w1 (by omega)
  have ND : Calls Tryz.prog 98 #[.string ⟨s.toArray⟩, .int .i64 8] w1 (RdE4 8 s w1) := ND
  have HOK : Hid (∀ t, rdS 8 s = some (t, []) → t.rightB = true → ansT (readT s) = (t, 0)) := fun t h1 h2 => by unfold readT; rw [h1]; simp [h2, ansT]
  have HNO : Hid ((∀ t, rdS 8 s = some (t, []) → t.rightB = false) → ansT (readT s) = (.node 0 0 0 [], 40)) := fun h => by
    unfold readT
    cases h8 : rdS 8 s with
    | none => rfl
    | some x =>
      obtain ⟨t, r⟩ := x
      cases r with
      | nil => simp [h t h8, ansT]
      | cons c r => rfl
  generalize ansT (readT s) = o at *
  have HBADEND : Hid (∀ W : World, W.heap[w.heap.size]? = some (.cells #[.int .i64 0, .int .u64 0, .int .u64 0, .slice none 0 0] 36 (0, 0)) → Below w.heap.size w W → (∀ t, rdS 8 s = some (t, []) → t.rightB = false) →
      AnsEnd 36 o w (.returned (.tuple #[.agg #[.int .i64 0, .int .u64 0, .int .u64 0, .slice none 0 0], .int .i64 40])) (put4 W w.heap.size (.int .i64 0) (.int .u64 0) (.int .u64 0) (.slice none 0 0)) ∧
      (put4 W w.heap.size (.int .i64 0) (.int .u64 0) (.int .u64 0) (.slice none 0 0)).heap[w.heap.size]? = some (.cells #[.int .i64 0, .int .u64 0, .int .u64 0, .slice none 0 0] 36 (0, 0))) := by
    intro W h1 h2 h3
    rw [HNO.out h3]
    exact ⟨⟨.node 0 0 0 none 0 [], rfl, by simp [V.abs, V.absL], zero_lies _ _ _, zero_shp _ _ _, put4_below h2 (Nat.le_refl _) _ _ _ _⟩, put4_row h1 _ _ _ _⟩
  subst hw1
  go_enter Tryz.func70, Tryz.ntmps70
  go_upto_region 1 with (fail)
  generalize w.alloc (.cells #[.int .i64 0, .int .u64 0, .int .u64 0, .slice none 0 0] 36) = w2 at *
  go_wp2_with fail
  refine ND.mono ?_
  rintro e w3 ⟨k, a, b, n, c, A, s', ok, rfl, hb3, hR⟩
  have s3 := hb3.size
  have b4 := below_new w3 (.cells #[.int .i64 k, .int .u64 (a : Int), .int .u64 (b : Int), .slice A n c] 36)
  have r4 := heap_alloc_new w3 (.cells #[.int .i64 k, .int .u64 (a : Int), .int .u64 (b : Int), .slice A n c] 36)
  have q4 := (b4.block w.heap.size (by omega)).trans ((hb3.block w.heap.size (by omega)).trans q1)
  have hb4 := (b1.trans (hb3.mono (by omega))).trans (b4.mono (by omega))
  have s4 : (w3.alloc (.cells #[.int .i64 k, .int .u64 (a : Int), .int .u64 (b : Int), .slice A n c] 36)).heap.size = w3.heap.size + 1 := by simp
  have HB4B := Lib_hid b4
  clear ND q1 b1 hb3 b4
  go_upto_region 2 with (fail)
  generalize w3.alloc (.cells #[.int .i64 k, .int .u64 (a : Int), .int .u64 (b : Int), .slice A n c] 36) = w4 at *
  cases ok with
  | false =>
    have hno : ∀ t', rdS 8 s = some (t', []) → t'.rightB = false := fun t' h => by rw [hR.no rfl] at h; cases h
    have e0 := cell_of_row w4 _ 0 _ _ _ q4
    have e1 := cell_of_row w4 _ 1 _ _ _ q4
    have e2 := cell_of_row w4 _ 2 _ _ _ q4
    have e3 := cell_of_row w4 _ 3 _ _ _ q4
    have y0 := frozen_of_row w4 w.heap.size 0 _ _ q4
    have y1 := frozen_of_row w4 w.heap.size 1 _ _ q4
    have y2 := frozen_of_row w4 w.heap.size 2 _ _ q4
    have y3 := frozen_of_row w4 w.heap.size 3 _ _ q4
    simp at e0 e1 e2 e3
    have HX := Lib_hid (HBADEND.out w4 q4 hb4 hno)
    clear q4 hb4
    go_wp2_with fail
    show bodyPost _ _ _ _ _ (put4 w4 w.heap.size (.int .i64 0) (.int .u64 0) (.int .u64 0) (.slice none 0 0))
    have HX2 := HX.out
    clear HX HBADEND e0 e1 e2 e3 y0 y1 y2 y3
    generalize put4 w4 w.heap.size (.int .i64 0) (.int .u64 0) (.int .u64 0) (.slice none 0 0) = W2 at *
    exact rRead_ret (z := 40) HX2.2 HX2.1 _ rfl rfl
  | true =>
    obtain ⟨t, us, e1, e2, e3, hL, hS⟩ := hR.yes rfl
    by_cases hs' : s' = []
    · subst hs'
      have hct : t.count ≤ 1000 := by
        have := rdS_count 8 _ _ _ e1
        omega
      have hL4 := hL.under (HB4B.out.mono (Nat.le_refl _))
      have RR := rright_any (.node k a b A c us) w4 _ _ hL4 (by omega) (by rw [e2]; exact hct)
      rw [e2] at RR
      simp only [V.val, V.kind, V.a, V.b, V.sl, V.addr, V.parts, V.cap] at RR
      have d0 := cell_of_row w4 _ 0 _ _ _ r4
      have d1 := cell_of_row w4 _ 1 _ _ _ r4
      have d2 := cell_of_row w4 _ 2 _ _ _ r4
      have d3 := cell_of_row w4 _ 3 _ _ _ r4
      simp at d0 d1 d2 d3
      have HLS := Lib_hid (And.intro e1 (And.intro e2 (And.intro hL4 (hS.under HB4B.out))))
      have HUS := Lib_hid e3
      clear e1 e2 hL hS hL4 hct hR
      rw [e3] at RR
      clear e3
      go_wp2_with fail
      refine RR.mono ?_
      rintro e w5 ⟨rfl, hb5⟩
      have q5 := (hb5.block w.heap.size (by omega)).trans q4
      have r5 := (hb5.block w3.heap.size (by omega)).trans r4
      have hbw5 := hb4.trans (hb5.mono hb4.size)
      have HB5 := Lib_hid hb5
      clear RR d0 d1 d2 d3 q4 r4 hb4 hb5
      cases hr : t.rightB with
      | true =>
        obtain ⟨e1, e2, hL4, hS4⟩ := HLS.out
        have HX : Hid (AnsEnd 36 o w (.returned (.tuple #[.agg #[.int .i64 k, .int .u64 (a : Int), .int .u64 (b : Int), .slice A n c], .int .i64 0])) (put4 w5 w.heap.size (.int .i64 k) (.int .u64 (a : Int)) (.int .u64 (b : Int)) (.slice A n c)) ∧
            (put4 w5 w.heap.size (.int .i64 k) (.int .u64 (a : Int)) (.int .u64 (b : Int)) (.slice A n c)).heap[w.heap.size]? = some (.cells #[.int .i64 k, .int .u64 (a : Int), .int .u64 (b : Int), .slice A n c] 36 (0, 0))) := by
          have h5s := HB5.out.size
          rw [HOK.out t e1 hr]
          refine ⟨⟨.node k a b A c us, by rw [← HUS.out]; rfl, e2, ?_, ?_, put4_below hbw5 (Nat.le_refl _) _ _ _ _⟩, put4_row q5 _ _ _ _⟩
          · rw [put4_size]
            exact ((hL4.under (HB5.out.mono (by omega))).keep fun p h1 _ => World.cell?_of_block (put4_else w5 (by omega) _ _ _ _)).more (by omega) (by omega)
          · exact (Shp.keepL _ (hL4.under (HB5.out.mono (by omega))) (hS4.under HB5.out) fun g' h1 _ => put4_else w5 (by omega) _ _ _ _).more (by omega)
        have e0 := cell_of_row w5 _ 0 _ _ _ q5
        have e1 := cell_of_row w5 _ 1 _ _ _ q5
        have e2 := cell_of_row w5 _ 2 _ _ _ q5
        have e3 := cell_of_row w5 _ 3 _ _ _ q5
        have y0 := frozen_of_row w5 w.heap.size 0 _ _ q5
        have y1 := frozen_of_row w5 w.heap.size 1 _ _ q5
        have y2 := frozen_of_row w5 w.heap.size 2 _ _ q5
        have y3 := frozen_of_row w5 w.heap.size 3 _ _ q5
        have f0 := cell_of_row w5 _ 0 _ _ _ r5
        have f1 := cell_of_row w5 _ 1 _ _ _ r5
        have f2 := cell_of_row w5 _ 2 _ _ _ r5
        have f3 := cell_of_row w5 _ 3 _ _ _ r5
        simp at e0 e1 e2 e3 f0 f1 f2 f3
        clear q5 r5 hbw5 hL4 hS4 HLS
        go_wp2_with fail
        show bodyPost _ _ _ _ _ (put4 w5 w.heap.size (.int .i64 k) (.int .u64 (a : Int)) (.int .u64 (b : Int)) (.slice A n c))
        have HX2 := HX.out
        clear HX HBADEND e0 e1 e2 e3 y0 y1 y2 y3 f0 f1 f2 f3
        generalize put4 w5 w.heap.size (.int .i64 k) (.int .u64 (a : Int)) (.int .u64 (b : Int)) (.slice A n c) = W2 at *
        exact rRead_ret (z := 0) HX2.2 HX2.1 _ rfl rfl
      | false =>
        have hno : ∀ t', rdS 8 s = some (t', []) → t'.rightB = false := fun t' h => by
          have := HLS.out.1
          rw [h] at this
          injection this with this
          injection this with this _
          rw [this]; exact hr
        have e0 := cell_of_row w5 _ 0 _ _ _ q5
        have e1 := cell_of_row w5 _ 1 _ _ _ q5
        have e2 := cell_of_row w5 _ 2 _ _ _ q5
        have e3 := cell_of_row w5 _ 3 _ _ _ q5
        have y0 := frozen_of_row w5 w.heap.size 0 _ _ q5
        have y1 := frozen_of_row w5 w.heap.size 1 _ _ q5
        have y2 := frozen_of_row w5 w.heap.size 2 _ _ q5
        have y3 := frozen_of_row w5 w.heap.size 3 _ _ q5
        simp at e0 e1 e2 e3
        have HX := Lib_hid (HBADEND.out w5 q5 hbw5 hno)
        clear q5 hbw5
        go_wp2_with fail
        show bodyPost _ _ _ _ _ (put4 w5 w.heap.size (.int .i64 0) (.int .u64 0) (.int .u64 0) (.slice none 0 0))
        have HX2 := HX.out
        clear HX HBADEND e0 e1 e2 e3 y0 y1 y2 y3
        generalize put4 w5 w.heap.size (.int .i64 0) (.int .u64 0) (.int .u64 0) (.slice none 0 0) = W2 at *
        exact rRead_ret (z := 40) HX2.2 HX2.1 _ rfl rfl
    · have hsb : (s' == []) = false := by cases s' with | nil => exact absurd rfl hs' | cons x y => rfl
      have hno : ∀ t', rdS 8 s = some (t', []) → t'.rightB = false := fun t' h => by
        rw [e1] at h
        injection h with h
        injection h with _ h
        exact absurd h hs'
      have HS' := Lib_hid hs'
      clear hs' e1
      have e0 := cell_of_row w4 _ 0 _ _ _ q4
      have e1 := cell_of_row w4 _ 1 _ _ _ q4
      have e2 := cell_of_row w4 _ 2 _ _ _ q4
      have e3 := cell_of_row w4 _ 3 _ _ _ q4
      have y0 := frozen_of_row w4 w.heap.size 0 _ _ q4
      have y1 := frozen_of_row w4 w.heap.size 1 _ _ q4
      have y2 := frozen_of_row w4 w.heap.size 2 _ _ q4
      have y3 := frozen_of_row w4 w.heap.size 3 _ _ q4
      simp at e0 e1 e2 e3
      have HX := Lib_hid (HBADEND.out w4 q4 hb4 hno)
      clear q4 hb4
      go_wp2_with fail
      show bodyPost _ _ _ _ _ (put4 w4 w.heap.size (.int .i64 0) (.int .u64 0) (.int .u64 0) (.slice none 0 0))
      have HX2 := HX.out
      clear HX HBADEND e0 e1 e2 e3 y0 y1 y2 y3
      generalize put4 w4 w.heap.size (.int .i64 0) (.int .u64 0) (.int .u64 0) (.slice none 0 0) = W2 at *
      exact rRead_ret (z := 40) HX2.2 HX2.1 _ rfl rfl

end Go.Proofs.YtbcadnkdehknoaaGreatDoor
