/-
  Layer 4: the program's Read.
  Layer 4: the document's Take.
-/
import Derived.Test.YtdmoknnnlfkfoaaGreatDoorZpTno
import Derived.Test.YtdmoknnnlfkfoaaGreatDoorZpTpb
import Derived.Test.YtdmoknnnlfkfoaaGreatDoorZpTdt
import Derived.Test.YtdmoknnnlfkfoaaGreatDoorZpTcf

namespace Go.Proofs.YtdmoknnnlfkfoaaGreatDoor
open Go Go.RowKit
set_option linter.unusedVariables false
def ansT : Option T → T × Nat
  | some t => (t, 0)
  | none => (.node 0 0 0 [], 40)
def readT (s : List UInt8) : Option T := match rdS 8 s with
  | some (t, []) => if t.rightB then some t else none
  | _ => none
def AnsEnd (E : TypeId) (o : T × Nat) (w : World) (e : Ending) (w' : World) : Prop :=
  ∃ u : V, e = .returned (.tuple #[u.val, .int .i64 (o.2 : Int)]) ∧ u.abs = o.1 ∧ Lies w' w.heap.size w'.heap.size u ∧ Shp E w' w.heap.size u ∧ Below w.heap.size w w'
theorem zero_lies (w : World) (lo hi : Nat) : Lies w lo hi (.node 0 0 0 none 0 []) := .mk _ _ _ _ _ _ (by omega) (by omega) (by omega) Rd.zero (by simp) (fun ad e => by cases e) (by simp)
theorem zero_shp (E : TypeId) (w : World) (lo : Nat) : Shp E w lo (.node 0 0 0 none 0 []) := .mk _ _ _ _ _ _ (by simp) (by simp)
set_option maxRecDepth 100000 in
theorem read_ret {Q : Ending → World → Prop} {W : World} {h0 z : Nat} {x0 x1 x2 x3 : Value} (HR2 : W.heap[h0]? = some (.cells #[x0, x1, x2, x3] 44 (0, 0))) (HF2 : Q (.returned (.tuple #[.agg #[x0, x1, x2, x3], .int .i64 z])) W)
    (tmps : Array Value) (h2 : tmps.getD 2 undef = .pointer (some ⟨h0, 0, none⟩)) (h3 : tmps.getD 3 undef = .int .i64 z) : bodyPost Tryz.prog Tryz.f181 Q .ret { tmps := tmps, defers := [] } W := by
  rw [Array.getD_eq_getD_getElem?] at h2 h3
  have d0 := cell_of_row W _ 0 _ _ _ HR2
  have d1 := cell_of_row W _ 1 _ _ _ HR2
  have d2 := cell_of_row W _ 2 _ _ _ HR2
  have d3 := cell_of_row W _ 3 _ _ _ HR2
  simp at d0 d1 d2 d3
  exact bodyPost_ret (v := .tuple #[.agg #[x0, x1, x2, x3], .int .i64 z]) (by simp [results, Tryz.results181, go_sem, h2, h3, d0, d1, d2, d3]) rfl HF2
set_option maxRecDepth 100000 in
set_option maxHeartbeats 3200000 in
theorem pread_any (s : List UInt8) (B : Nat) (w : World) (hE : Env B w) (hB : B ≤ w.heap.size) (hl : s.length ≤ 1000000) :
    Calls Tryz.prog 181 #[.string ⟨s.toArray⟩] w (AnsEnd 44 (ansT (readT s)) w) := by
  obtain ⟨w1, hw1⟩ : ∃ w1, w1 = w.alloc (.cells #[.int .i64 0, .int .u64 0, .int .u64 0, .slice none 0 0] 44) := ⟨_, rfl⟩
  have q1 := heap_alloc_new w (.cells #[.int .i64 0, .int .u64 0, .int .u64 0, .slice none 0 0] 44)
  have b1 := below_new w (.cells #[.int .i64 0, .int .u64 0, .int .u64 0, .slice none 0 0] 44)
  have s1 : w1.heap.size = w.heap.size + 1 := by rw [hw1]; simp
  rw [← hw1] at q1 b1
  obtain ⟨w2, hw2⟩ : ∃ w2, w2 = w1.alloc (.cells #[.int .i64 0, .string ⟨s.toArray⟩, .bool false] 251) := ⟨_, rfl⟩
  have g2 := heap_alloc_new w1 (.cells #[.int .i64 0, .string ⟨s.toArray⟩, .bool false] 251)
  have b2 := below_new w1 (.cells #[.int .i64 0, .string ⟨s.toArray⟩, .bool false] 251)
  have s2 : w2.heap.size = w.heap.size + 2 := by rw [hw2]; simp [s1]
  rw [← hw2] at g2 b2
  rw [s1] at g2 b2
  have g2 : w2.heap[w.heap.size + 1]? = some (RdrC 0 s false) := g2
  have q2 := (b2.block w.heap.size (by omega)).trans q1
  have hbw := b1.trans (b2.mono (by omega))
  have ND := pnode_any 8 (Nat.le_refl _) 0 s false B (w.heap.size + 1) w2 g2 (hE.under hbw hB) (by omega) hl (fun _ => by omega) (by omega)
  have ND : Calls Tryz.prog 203 #[.pointer (some ⟨w.heap.size + 1, 0, none⟩), .int .i64 1] w2 (NdEnd 8 0 s false (w.heap.size + 1) w2) := ND
  have HOK : Hid (∀ t, rdS 8 s = some (t, []) → t.rightB = true → ansT (readT s) = (t, 0)) := fun t h1 h2 => by unfold readT; rw [h1]; simp [h2, ansT]
  have HNO : Hid ((∀ t, rdS 8 s = some (t, []) → t.rightB = false) → ansT (readT s) = (.node 0 0 0 [], 40)) := fun h => by
    unfold readT
    cases h8 : rdS 8 s with
    | none => rfl
    | some x =>
      obtain ⟨t, r⟩ := x
      cases r with
      | nil => simp [h t h8, ansT]
      | cons c r => rfl
  generalize ansT (readT s) = o at *
  have HB2 := Lib_hid (And.intro hbw s2)
  have HBADEND : Hid (∀ W : World, W.heap[w.heap.size]? = some (.cells #[.int .i64 0, .int .u64 0, .int .u64 0, .slice none 0 0] 44 (0, 0)) → Below w.heap.size w W → (∀ t, rdS 8 s = some (t, []) → t.rightB = false) →
      AnsEnd 44 o w (.returned (.tuple #[.agg #[.int .i64 0, .int .u64 0, .int .u64 0, .slice none 0 0], .int .i64 40])) (put4 W w.heap.size (.int .i64 0) (.int .u64 0) (.int .u64 0) (.slice none 0 0)) ∧
      (put4 W w.heap.size (.int .i64 0) (.int .u64 0) (.int .u64 0) (.slice none 0 0)).heap[w.heap.size]? = some (.cells #[.int .i64 0, .int .u64 0, .int .u64 0, .slice none 0 0] 44 (0, 0))) := by
    intro W h1 h2 h3
    rw [HNO.out h3]
    exact ⟨⟨.node 0 0 0 none 0 [], rfl, by simp [V.abs, V.absL], zero_lies _ _ _, zero_shp _ _ _, put4_below h2 (Nat.le_refl _) _ _ _ _⟩, put4_row h1 _ _ _ _⟩
  subst hw2 hw1
  clear b1 b2 q1 g2 hE hbw
  go_enter Tryz.func181, Tryz.ntmps181
  go_upto_region 2 with (fail)
  generalize (w.alloc _).alloc (.cells #[.int .i64 0, .string ⟨s.toArray⟩, .bool false] 251) = w2 at *
  go_wp2_with fail
  refine ND.mono ?_
  rintro e w3 ⟨k, a, b, n, c, m', A, s', bad', rfl, hgr3, hg3, hR⟩
  have hb3 : Below w.heap.size w w3 := HB2.out.1.trans (⟨hgr3.os, hgr3.tape, hgr3.output, hgr3.size, fun i hi => hgr3.block i (by have := HB2.out.2; omega) (fun e => by injection e with e; omega)⟩ : Below w.heap.size w2 w3)
  have q3 := (hgr3.block w.heap.size (by have := HB2.out.2; omega) (fun e => by injection e with e; omega)).trans q2
  have s3 := hgr3.size
  have b4 := below_new w3 (.cells #[.int .i64 k, .int .u64 (a : Int), .int .u64 (b : Int), .slice A n c] 44)
  have r4 := heap_alloc_new w3 (.cells #[.int .i64 k, .int .u64 (a : Int), .int .u64 (b : Int), .slice A n c] 44)
  have q4 := (b4.block w.heap.size (by have := HB2.out.2; omega)).trans q3
  have g4 := (b4.block (w.heap.size + 1) (by have := HB2.out.2; omega)).trans hg3
  have hb4 := hb3.trans (b4.mono (by have := HB2.out.2; omega))
  have s4 : (w3.alloc (.cells #[.int .i64 k, .int .u64 (a : Int), .int .u64 (b : Int), .slice A n c] 44)).heap.size = w3.heap.size + 1 := by simp
  obtain ⟨hm, hok⟩ := hR.ok rfl
  have HB4B := Lib_hid b4
  have HL4 : Hid (bad' = false → ∃ t us, rdS 8 s = some (t, s') ∧ (V.node k a b A c us).abs = t ∧ us.length = n ∧ Lies w3 w2.heap.size w3.heap.size (.node k a b A c us) ∧ Shp 44 w3 w2.heap.size (.node k a b A c us) ∧ t.count ≤ 32) := by
    intro hb
    rcases hok with ⟨t, us, e1, e2, e3, e4, e5, e6, e7, e8⟩ | ⟨_, h⟩
    · exact ⟨t, us, e1, e5, e6, e7, e8, by omega⟩
    · rw [h] at hb; cases hb
  have HBB : Hid (bad' = true → ∀ t, rdS 8 s = some (t, []) → t.rightB = false) := by
    intro hb t ht
    rcases hok with ⟨t', us, e1, e2, e3, e4, e5, e6, e7, e8⟩ | ⟨h, _⟩
    · rw [hb] at e3; cases e3
    · have := h t [] ht
      cases hr : t.rightB with
      | false => rfl
      | true => have := (right_all hr).2; omega
  clear ND hR hok hm hb3 q3 hg3 b4 q2 hgr3
  go_upto_region 3 with (fail)
  generalize w3.alloc (.cells #[.int .i64 k, .int .u64 (a : Int), .int .u64 (b : Int), .slice A n c] 44) = w4 at *
  have c1 := cell_of_row w4 _ 1 _ _ _ g4
  have c2 := cell_of_row w4 _ 2 _ _ _ g4
  simp at c1 c2
  cases bad' with
  | true =>
    have e0 := cell_of_row w4 _ 0 _ _ _ q4
    have e1 := cell_of_row w4 _ 1 _ _ _ q4
    have e2 := cell_of_row w4 _ 2 _ _ _ q4
    have e3 := cell_of_row w4 _ 3 _ _ _ q4
    have y0 := frozen_of_row w4 w.heap.size 0 _ _ q4
    have y1 := frozen_of_row w4 w.heap.size 1 _ _ q4
    have y2 := frozen_of_row w4 w.heap.size 2 _ _ q4
    have y3 := frozen_of_row w4 w.heap.size 3 _ _ q4
    simp at e0 e1 e2 e3
    have HX := Lib_hid (HBADEND.out w4 q4 hb4 (HBB.out rfl))
    clear q4 hb4
    go_wp2_with fail
    show bodyPost _ _ _ _ _ (put4 w4 w.heap.size (.int .i64 0) (.int .u64 0) (.int .u64 0) (.slice none 0 0))
    have HX2 := HX.out
    clear HX HBADEND e0 e1 e2 e3 y0 y1 y2 y3
    generalize put4 w4 w.heap.size (.int .i64 0) (.int .u64 0) (.int .u64 0) (.slice none 0 0) = W2 at *
    exact read_ret (z := 40) HX2.2 HX2.1 _ rfl rfl
  | false =>
    by_cases hs' : s' = []
    · subst hs'
      obtain ⟨t, us, e1, e2, rfl, hL, hS, hct⟩ := HL4.out rfl
      have hL4 := hL.under (HB4B.out.mono (Nat.le_refl _))
      have RR := pright_any (.node k a b A c us) w4 _ _ hL4 (by omega)
      rw [e2] at RR
      simp only [V.val, V.kind, V.a, V.b, V.sl, V.addr, V.parts, V.cap] at RR
      have d0 := cell_of_row w4 _ 0 _ _ _ r4
      have d1 := cell_of_row w4 _ 1 _ _ _ r4
      have d2 := cell_of_row w4 _ 2 _ _ _ r4
      have d3 := cell_of_row w4 _ 3 _ _ _ r4
      simp at d0 d1 d2 d3
      have HLS := Lib_hid (And.intro e1 (And.intro e2 (And.intro hL4 (hS.under HB4B.out))))
      clear e1 e2 hL hS hL4 HL4 hct HBB
      generalize hn : us.length = n at *
      have HUS := Lib_hid hn
      clear hn
      go_wp2_with fail
      refine RR.mono ?_
      rintro e w5 ⟨rfl, hb5⟩
      have q5 := (hb5.block w.heap.size (by omega)).trans q4
      have r5 := (hb5.block w3.heap.size (by omega)).trans r4
      have hbw5 := hb4.trans (hb5.mono hb4.size)
      have HB5 := Lib_hid hb5
      clear RR d0 d1 d2 d3 c1 c2 q4 r4 hb4 hb5 g4
      cases hr : t.rightB with
      | true =>
        obtain ⟨e1, e2, hL4, hS4⟩ := HLS.out
        have HX : Hid (AnsEnd 44 o w (.returned (.tuple #[.agg #[.int .i64 k, .int .u64 (a : Int), .int .u64 (b : Int), .slice A n c], .int .i64 0])) (put4 w5 w.heap.size (.int .i64 k) (.int .u64 (a : Int)) (.int .u64 (b : Int)) (.slice A n c)) ∧
            (put4 w5 w.heap.size (.int .i64 k) (.int .u64 (a : Int)) (.int .u64 (b : Int)) (.slice A n c)).heap[w.heap.size]? = some (.cells #[.int .i64 k, .int .u64 (a : Int), .int .u64 (b : Int), .slice A n c] 44 (0, 0))) := by
          have h2s := HB2.out.2
          have h5s := HB5.out.size
          rw [HOK.out t e1 hr]
          refine ⟨⟨.node k a b A c us, by rw [← HUS.out]; rfl, e2, ?_, ?_, put4_below hbw5 (Nat.le_refl _) _ _ _ _⟩, put4_row q5 _ _ _ _⟩
          · rw [put4_size]
            exact ((hL4.under (HB5.out.mono (by omega))).keep fun p h1 _ => World.cell?_of_block (put4_else w5 (by omega) _ _ _ _)).more (by omega) (by omega)
          · exact (Shp.keepL _ (hL4.under (HB5.out.mono (by omega))) (hS4.under HB5.out) fun g' h1 _ => put4_else w5 (by omega) _ _ _ _).more (by omega)
        have e0 := cell_of_row w5 _ 0 _ _ _ q5
        have e1 := cell_of_row w5 _ 1 _ _ _ q5
        have e2 := cell_of_row w5 _ 2 _ _ _ q5
        have e3 := cell_of_row w5 _ 3 _ _ _ q5
        have y0 := frozen_of_row w5 w.heap.size 0 _ _ q5
        have y1 := frozen_of_row w5 w.heap.size 1 _ _ q5
        have y2 := frozen_of_row w5 w.heap.size 2 _ _ q5
        have y3 := frozen_of_row w5 w.heap.size 3 _ _ q5
        have f0 := cell_of_row w5 _ 0 _ _ _ r5
        have f1 := cell_of_row w5 _ 1 _ _ _ r5
        have f2 := cell_of_row w5 _ 2 _ _ _ r5
        have f3 := cell_of_row w5 _ 3 _ _ _ r5
        simp at e0 e1 e2 e3 f0 f1 f2 f3
        clear q5 r5 hbw5 hL4 hS4 HLS
        go_wp2_with fail
        show bodyPost _ _ _ _ _ (put4 w5 w.heap.size (.int .i64 k) (.int .u64 (a : Int)) (.int .u64 (b : Int)) (.slice A n c))
        have HX2 := HX.out
        clear HX HBADEND e0 e1 e2 e3 y0 y1 y2 y3 f0 f1 f2 f3
        generalize put4 w5 w.heap.size (.int .i64 k) (.int .u64 (a : Int)) (.int .u64 (b : Int)) (.slice A n c) = W2 at *
        exact read_ret (z := 0) HX2.2 HX2.1 _ rfl rfl
      | false =>
        have hno : ∀ t', rdS 8 s = some (t', []) → t'.rightB = false := fun t' h => by
          have := HLS.out.1
          rw [h] at this
          injection this with this
          injection this with this _
          rw [this]; exact hr
        have e0 := cell_of_row w5 _ 0 _ _ _ q5
        have e1 := cell_of_row w5 _ 1 _ _ _ q5
        have e2 := cell_of_row w5 _ 2 _ _ _ q5
        have e3 := cell_of_row w5 _ 3 _ _ _ q5
        have y0 := frozen_of_row w5 w.heap.size 0 _ _ q5
        have y1 := frozen_of_row w5 w.heap.size 1 _ _ q5
        have y2 := frozen_of_row w5 w.heap.size 2 _ _ q5
        have y3 := frozen_of_row w5 w.heap.size 3 _ _ q5
        simp at e0 e1 e2 e3
        have HX := Lib_hid (HBADEND.out w5 q5 hbw5 hno)
        clear q5 hbw5
        go_wp2_with fail
        show bodyPost _ _ _ _ _ (put4 w5 w.heap.size (.int .i64 0) (.int .u64 0) (.int .u64 0) (.slice none 0 0))
        have HX2 := HX.out
        clear HX HBADEND e0 e1 e2 e3 y0 y1 y2 y3
        generalize put4 w5 w.heap.size (.int .i64 0) (.int .u64 0) (.int .u64 0) (.slice none 0 0) = W2 at *
        exact read_ret (z := 40) HX2.2 HX2.1 _ rfl rfl
    · have hsb : (s' == []) = false := by cases s' with | nil => exact absurd rfl hs' | cons x y => rfl
      have hno : ∀ t', rdS 8 s = some (t', []) → t'.rightB = false := fun t' h => by
        obtain ⟨t, us, e1, _⟩ := HL4.out rfl
        rw [e1] at h
        injection h with h
        injection h with _ h
        exact absurd h hs'
      have HS' := Lib_hid hs'
      clear hs'
      have e0 := cell_of_row w4 _ 0 _ _ _ q4
      have e1 := cell_of_row w4 _ 1 _ _ _ q4
      have e2 := cell_of_row w4 _ 2 _ _ _ q4
      have e3 := cell_of_row w4 _ 3 _ _ _ q4
      have y0 := frozen_of_row w4 w.heap.size 0 _ _ q4
      have y1 := frozen_of_row w4 w.heap.size 1 _ _ q4
      have y2 := frozen_of_row w4 w.heap.size 2 _ _ q4
      have y3 := frozen_of_row w4 w.heap.size 3 _ _ q4
      simp at e0 e1 e2 e3
      have HX := Lib_hid (HBADEND.out w4 q4 hb4 hno)
      clear q4 hb4
      go_wp2_with fail
      show bodyPost _ _ _ _ _ (put4 w4 w.heap.size (.int .i64 0) (.int .u64 0) (.int .u64 0) (.slice none 0 0))
      have HX2 := HX.out
      clear HX HBADEND e0 e1 e2 e3 y0 y1 y2 y3
      generalize put4 w4 w.heap.size (.int .i64 0) (.int .u64 0) (.int .u64 0) (.slice none 0 0) = W2 at *
      exact read_ret (z := 40) HX2.2 HX2.1 _ rfl rfl
end Go.Proofs.YtdmoknnnlfkfoaaGreatDoor

namespace Go.Proofs.YtdmoknnnlfkfoaaGreatDoor
open Go Go.RowKit
set_option linter.unusedVariables false
def tkI (l : List Nat) (s : Int) : Option (T × Nat) := if s < 0 then none else tkS l 8 s.toNat
def takeT (l : List Nat) (s : Int) : Option (T × Nat) := (tkI l s).bind fun x => if x.1.rightB then some x else none
def ansK : Option (T × Nat) → T × Nat × Nat
  | some (t, r) => (t, r, 0)
  | none => (.node 0 0 0 [], 0, 40)
def TkEnd (E : TypeId) (o : T × Nat × Nat) (w : World) (e : Ending) (w' : World) : Prop :=
  ∃ u : V, e = .returned (.tuple #[.agg #[.int .i64 u.kind, .int .u64 (u.a : Int), .int .u64 (u.b : Int), .slice u.addr u.parts.length u.cap], .int .i64 (o.2.1 : Int), .int .i64 (o.2.2 : Int)]) ∧ u.abs = o.1 ∧ Lies w' w.heap.size w'.heap.size u ∧ Shp E w' w.heap.size u ∧ Below w.heap.size w w'
def RtI (l : List Nat) (s : Int) (w : World) (e : Ending) (w' : World) : Prop :=
  ∃ (k : Int) (a b n c : Nat) (A : Option Addr) (o : Option Nat), e = .returned (.tuple #[.agg #[.int .i64 k, .int .u64 (a : Int), .int .u64 (b : Int), .slice A n c], .int .i64 (posI o)]) ∧ Below w.heap.size w w' ∧
    ((∃ us r, tkI l s = some ((V.node k a b A c us).abs, r) ∧ o = some r ∧ us.length = n ∧ Lies w' w.heap.size w'.heap.size (.node k a b A c us) ∧ Shp 34 w' w.heap.size (.node k a b A c us)) ∨ (tkI l s = none ∧ o = none))
set_option maxRecDepth 100000 in
set_option maxHeartbeats 3200000 in
theorem rtakeI_any {l : List Nat} (hb8 : ∀ x ∈ l, x < 256) (Ab : Option Addr) (nb cb : Nat) (hn : nb ≤ 100000) (s : Int) (B : Nat) (w : World) (hr : Rd w B 1 Ab nb (bs l)) (hB : B ≤ w.heap.size) :
    Calls Tryz.prog 104 #[.slice Ab nb cb, .int .i64 s, .int .i64 8] w (RtI l s w) := by
  by_cases hs : s < 0
  · have hki : tkI l s = none := by unfold tkI; rw [if_pos hs]
    obtain ⟨w1, hw1⟩ : ∃ w1, w1 = w.alloc (.cells #[.int .i64 0, .int .u64 0, .int .u64 0, .slice none 0 0] 34) := ⟨_, rfl⟩
    have q1 := heap_alloc_new w (.cells #[.int .i64 0, .int .u64 0, .int .u64 0, .slice none 0 0] 34)
    have b1 := below_new w (.cells #[.int .i64 0, .int .u64 0, .int .u64 0, .slice none 0 0] 34)
    rw [← hw1] at q1 b1
    have y0 := frozen_of_row w1 w.heap.size 0 _ _ q1
    have y1 := frozen_of_row w1 w.heap.size 1 _ _ q1
    have y2 := frozen_of_row w1 w.heap.size 2 _ _ q1
    have y3 := frozen_of_row w1 w.heap.size 3 _ _ q1
    have e0 := cell_of_row w1 _ 0 _ _ _ q1
    have e1 := cell_of_row w1 _ 1 _ _ _ q1
    have e2 := cell_of_row w1 _ 2 _ _ _ q1
    have e3 := cell_of_row w1 _ 3 _ _ _ q1
    simp at e0 e1 e2 e3
    have hs0 : decide (s < 0) = true := by simpa using hs
    have HX : Hid (RtI l s w (.returned (.tuple #[.agg #[.int .i64 0, .int .u64 0, .int .u64 0, .slice none 0 0], .int .i64 (-1)])) (put4 w1 w.heap.size (.int .i64 0) (.int .u64 0) (.int .u64 0) (.slice none 0 0)) ∧
        (put4 w1 w.heap.size (.int .i64 0) (.int .u64 0) (.int .u64 0) (.slice none 0 0)).heap[w.heap.size]? = some (.cells #[.int .i64 0, .int .u64 0, .int .u64 0, .slice none 0 0] 34 (0, 0))) :=
      ⟨⟨0, 0, 0, 0, 0, none, none, rfl, put4_below b1 (Nat.le_refl _) _ _ _ _, .inr ⟨hki, rfl⟩⟩, put4_row q1 _ _ _ _⟩
    clear q1 b1 hr hki
    go_enter Tryz.func104, Tryz.ntmps104
    go_upto_region 1 with (fail)
    rw [← hw1]
    clear hw1
    go_wp2_with fail
    show bodyPost _ _ _ _ _ (put4 w1 w.heap.size (.int .i64 0) (.int .u64 0) (.int .u64 0) (.slice none 0 0))
    have HX2 := HX.out
    clear HX e0 e1 e2 e3 y0 y1 y2 y3
    generalize put4 w1 w.heap.size (.int .i64 0) (.int .u64 0) (.int .u64 0) (.slice none 0 0) = W2 at *
    exact rtake_ret HX2.2 HX2.1 _ rfl rfl
  · obtain ⟨a, rfl⟩ : ∃ a : Nat, s = (a : Int) := ⟨s.toNat, by omega⟩
    have hki : tkI l (a : Int) = tkS l 8 a := by unfold tkI; rw [if_neg hs, Int.toNat_natCast]
    refine (rtake_any hb8 Ab nb cb hn 8 (Nat.le_refl _) a B w hr hB).mono fun e w' h => ?_
    unfold RtI
    rw [hki]
    exact h
set_option maxRecDepth 100000 in
theorem rTake_ret {Q : Ending → World → Prop} {W : World} {h0 : Nat} {z z2 : Int} {x0 x1 x2 x3 : Value} (HR2 : W.heap[h0]? = some (.cells #[x0, x1, x2, x3] 34 (0, 0))) (HF2 : Q (.returned (.tuple #[.agg #[x0, x1, x2, x3], .int .i64 z, .int .i64 z2])) W)
    (tmps : Array Value) (h2 : tmps.getD 4 undef = .pointer (some ⟨h0, 0, none⟩)) (h3 : tmps.getD 5 undef = .int .i64 z) (h4 : tmps.getD 6 undef = .int .i64 z2) : bodyPost Tryz.prog Tryz.f84 Q .ret { tmps := tmps, defers := [] } W := by
  rw [Array.getD_eq_getD_getElem?] at h2 h3 h4
  have d0 := cell_of_row W _ 0 _ _ _ HR2
  have d1 := cell_of_row W _ 1 _ _ _ HR2
  have d2 := cell_of_row W _ 2 _ _ _ HR2
  have d3 := cell_of_row W _ 3 _ _ _ HR2
  simp at d0 d1 d2 d3
  exact bodyPost_ret (v := .tuple #[.agg #[x0, x1, x2, x3], .int .i64 z, .int .i64 z2]) (by simp [results, Tryz.results84, go_sem, h2, h3, h4, d0, d1, d2, d3]) rfl HF2
set_option maxRecDepth 100000 in
set_option maxHeartbeats 6400000 in
theorem rTake_any {l : List Nat} (hb8 : ∀ x ∈ l, x < 256) (Ab : Option Addr) (nb cb : Nat) (hn : nb ≤ 1000) (s : Int) (B : Nat) (w : World) (hrd : Rd w B 1 Ab nb (bs l)) (hB : B ≤ w.heap.size) : Calls Tryz.prog 84 #[.slice Ab nb cb, .int .i64 s] w (TkEnd 34 (ansK (takeT l s)) w) := by
  have hln : l.length = nb := hrd.count
  obtain ⟨w1, hw1⟩ : ∃ w1, w1 = w.alloc (.cells #[.int .i64 0, .int .u64 0, .int .u64 0, .slice none 0 0] 34) := ⟨_, rfl⟩
  have q1 := heap_alloc_new w (.cells #[.int .i64 0, .int .u64 0, .int .u64 0, .slice none 0 0] 34)
  have b1 := below_new w (.cells #[.int .i64 0, .int .u64 0, .int .u64 0, .slice none 0 0] 34)
  have s1 : w1.heap.size = w.heap.size + 1 := by rw [hw1]; simp
  rw [← hw1] at q1 b1
  have ND := rtakeI_any hb8 Ab nb cb (by omega) s B w1 (hrd.below (b1.mono hB)) (by omega)
  have HOK : Hid (∀ t r, tkI l s = some (t, r) → t.rightB = true → ansK (takeT l s) = (t, r, 0)) := fun t r h1 h2 => by unfold takeT; rw [h1]; simp [h2, ansK]
  have HNO : Hid ((∀ t r, tkI l s = some (t, r) → t.rightB = false) → ansK (takeT l s) = (.node 0 0 0 [], 0, 40)) := fun h => by
    unfold takeT
    cases h8 : tkI l s with
    | none => rfl
    | some x =>
      obtain ⟨t, r⟩ := x
      simp [h t r h8, ansK]
  have HCT : Hid (∀ t r, tkI l s = some (t, r) → t.count ≤ 1000) := fun t r h => by
    unfold tkI at h
    split at h
    · cases h
    · have := tkS_len hb8 _ _ _ _ h
      omega
  generalize ansK (takeT l s) = o at *
  have HBADEND : Hid (∀ W : World, W.heap[w.heap.size]? = some (.cells #[.int .i64 0, .int .u64 0, .int .u64 0, .slice none 0 0] 34 (0, 0)) → Below w.heap.size w W → (∀ t r, tkI l s = some (t, r) → t.rightB = false) →
      TkEnd 34 o w (.returned (.tuple #[.agg #[.int .i64 0, .int .u64 0, .int .u64 0, .slice none 0 0], .int .i64 0, .int .i64 40])) (put4 W w.heap.size (.int .i64 0) (.int .u64 0) (.int .u64 0) (.slice none 0 0)) ∧
      (put4 W w.heap.size (.int .i64 0) (.int .u64 0) (.int .u64 0) (.slice none 0 0)).heap[w.heap.size]? = some (.cells #[.int .i64 0, .int .u64 0, .int .u64 0, .slice none 0 0] 34 (0, 0))) := by
    intro W h1 h2 h3
    rw [HNO.out h3]
    exact ⟨⟨.node 0 0 0 none 0 [], rfl, by simp [V.abs, V.absL], zero_lies _ _ _, zero_shp _ _ _, put4_below h2 (Nat.le_refl _) _ _ _ _⟩, put4_row h1 _ _ _ _⟩
  subst hw1
  go_enter Tryz.func84, Tryz.ntmps84
  go_upto_region 1 with (fail)
  generalize w.alloc (.cells #[.int .i64 0, .int .u64 0, .int .u64 0, .slice none 0 0] 34) = w2 at *
  go_wp2_with fail
  refine ND.mono ?_
  rintro e w3 ⟨k, a, b, n, c, A, ok, rfl, hb3, hR⟩
  have s3 := hb3.size
  have b4 := below_new w3 (.cells #[.int .i64 k, .int .u64 (a : Int), .int .u64 (b : Int), .slice A n c] 34)
  have r4 := heap_alloc_new w3 (.cells #[.int .i64 k, .int .u64 (a : Int), .int .u64 (b : Int), .slice A n c] 34)
  have q4 := (b4.block w.heap.size (by omega)).trans ((hb3.block w.heap.size (by omega)).trans q1)
  have hb4 := (b1.trans (hb3.mono (by omega))).trans (b4.mono (by omega))
  have s4 : (w3.alloc (.cells #[.int .i64 k, .int .u64 (a : Int), .int .u64 (b : Int), .slice A n c] 34)).heap.size = w3.heap.size + 1 := by simp
  have HB4B := Lib_hid b4
  clear ND q1 b1 hb3 b4 hrd hb8
  go_upto_region 2 with (fail)
  generalize w3.alloc (.cells #[.int .i64 k, .int .u64 (a : Int), .int .u64 (b : Int), .slice A n c] 34) = w4 at *
  cases ok with
  | none =>
    have hno : ∀ t' r', tkI l s = some (t', r') → t'.rightB = false := fun t' r' h => by
      rcases hR with ⟨us, r, h1, h2, h3⟩ | ⟨h1, h2⟩
      · cases h2
      · rw [h1] at h; cases h
    have hneg : decide (posI none < 0) = true := by decide
    have e0 := cell_of_row w4 _ 0 _ _ _ q4
    have e1 := cell_of_row w4 _ 1 _ _ _ q4
    have e2 := cell_of_row w4 _ 2 _ _ _ q4
    have e3 := cell_of_row w4 _ 3 _ _ _ q4
    have y0 := frozen_of_row w4 w.heap.size 0 _ _ q4
    have y1 := frozen_of_row w4 w.heap.size 1 _ _ q4
    have y2 := frozen_of_row w4 w.heap.size 2 _ _ q4
    have y3 := frozen_of_row w4 w.heap.size 3 _ _ q4
    simp at e0 e1 e2 e3
    have HX := Lib_hid (HBADEND.out w4 q4 hb4 hno)
    clear q4 hb4
    go_wp2_with fail
    show bodyPost _ _ _ _ _ (put4 w4 w.heap.size (.int .i64 0) (.int .u64 0) (.int .u64 0) (.slice none 0 0))
    have HX2 := HX.out
    clear HX HBADEND e0 e1 e2 e3 y0 y1 y2 y3
    generalize put4 w4 w.heap.size (.int .i64 0) (.int .u64 0) (.int .u64 0) (.slice none 0 0) = W2 at *
    exact rTake_ret (z := 0) (z2 := 40) HX2.2 HX2.1 _ rfl rfl rfl
  | some r =>
    obtain ⟨t, us, e1, e2, e3, hL, hS⟩ : ∃ t us, tkI l s = some (t, r) ∧ (V.node k a b A c us).abs = t ∧ us.length = n ∧ Lies w3 w2.heap.size w3.heap.size (.node k a b A c us) ∧ Shp 34 w3 w2.heap.size (.node k a b A c us) := by
      rcases hR with ⟨us, r', h1, h2, h3, h4, h5⟩ | ⟨h1, h2⟩
      · injection h2 with h2
        subst h2
        exact ⟨_, us, h1, rfl, h3, h4, h5⟩
      · cases h2
    have hpos : decide (posI (some r) < 0) = false := by unfold posI; simp
    · have hct : t.count ≤ 1000 := HCT.out t r e1
      have hL4 := hL.under (HB4B.out.mono (Nat.le_refl _))
      have RR := rright_any (.node k a b A c us) w4 _ _ hL4 (by omega) (by rw [e2]; exact hct)
      rw [e2] at RR
      simp only [V.val, V.kind, V.a, V.b, V.sl, V.addr, V.parts, V.cap] at RR
      have d0 := cell_of_row w4 _ 0 _ _ _ r4
      have d1 := cell_of_row w4 _ 1 _ _ _ r4
      have d2 := cell_of_row w4 _ 2 _ _ _ r4
      have d3 := cell_of_row w4 _ 3 _ _ _ r4
      simp at d0 d1 d2 d3
      have HLS := Lib_hid (And.intro e1 (And.intro e2 (And.intro hL4 (hS.under HB4B.out))))
      have HUS := Lib_hid e3
      clear e1 e2 hL hS hL4 hct hR
      rw [e3] at RR
      clear e3
      go_wp2_with fail
      refine RR.mono ?_
      rintro e w5 ⟨rfl, hb5⟩
      have q5 := (hb5.block w.heap.size (by omega)).trans q4
      have r5 := (hb5.block w3.heap.size (by omega)).trans r4
      have hbw5 := hb4.trans (hb5.mono hb4.size)
      have HB5 := Lib_hid hb5
      clear RR d0 d1 d2 d3 q4 r4 hb4 hb5
      cases hr : t.rightB with
      | true =>
        obtain ⟨e1, e2, hL4, hS4⟩ := HLS.out
        have HX : Hid (TkEnd 34 o w (.returned (.tuple #[.agg #[.int .i64 k, .int .u64 (a : Int), .int .u64 (b : Int), .slice A n c], .int .i64 (r : Int), .int .i64 0])) (put4 w5 w.heap.size (.int .i64 k) (.int .u64 (a : Int)) (.int .u64 (b : Int)) (.slice A n c)) ∧
            (put4 w5 w.heap.size (.int .i64 k) (.int .u64 (a : Int)) (.int .u64 (b : Int)) (.slice A n c)).heap[w.heap.size]? = some (.cells #[.int .i64 k, .int .u64 (a : Int), .int .u64 (b : Int), .slice A n c] 34 (0, 0))) := by
          have h5s := HB5.out.size
          rw [HOK.out t r e1 hr]
          refine ⟨⟨.node k a b A c us, by rw [← HUS.out]; rfl, e2, ?_, ?_, put4_below hbw5 (Nat.le_refl _) _ _ _ _⟩, put4_row q5 _ _ _ _⟩
          · rw [put4_size]
            exact ((hL4.under (HB5.out.mono (by omega))).keep fun p h1 _ => World.cell?_of_block (put4_else w5 (by omega) _ _ _ _)).more (by omega) (by omega)
          · exact (Shp.keepL _ (hL4.under (HB5.out.mono (by omega))) (hS4.under HB5.out) fun g' h1 _ => put4_else w5 (by omega) _ _ _ _).more (by omega)
        have e0 := cell_of_row w5 _ 0 _ _ _ q5
        have e1 := cell_of_row w5 _ 1 _ _ _ q5
        have e2 := cell_of_row w5 _ 2 _ _ _ q5
        have e3 := cell_of_row w5 _ 3 _ _ _ q5
        have y0 := frozen_of_row w5 w.heap.size 0 _ _ q5
        have y1 := frozen_of_row w5 w.heap.size 1 _ _ q5
        have y2 := frozen_of_row w5 w.heap.size 2 _ _ q5
        have y3 := frozen_of_row w5 w.heap.size 3 _ _ q5
        have f0 := cell_of_row w5 _ 0 _ _ _ r5
        have f1 := cell_of_row w5 _ 1 _ _ _ r5
        have f2 := cell_of_row w5 _ 2 _ _ _ r5
        have f3 := cell_of_row w5 _ 3 _ _ _ r5
        simp at e0 e1 e2 e3 f0 f1 f2 f3
        clear q5 r5 hbw5 hL4 hS4 HLS
        go_wp2_with fail
        show bodyPost _ _ _ _ _ (put4 w5 w.heap.size (.int .i64 k) (.int .u64 (a : Int)) (.int .u64 (b : Int)) (.slice A n c))
        have HX2 := HX.out
        clear HX HBADEND e0 e1 e2 e3 y0 y1 y2 y3 f0 f1 f2 f3
        generalize put4 w5 w.heap.size (.int .i64 k) (.int .u64 (a : Int)) (.int .u64 (b : Int)) (.slice A n c) = W2 at *
        exact rTake_ret (z := (r : Int)) (z2 := 0) HX2.2 HX2.1 _ rfl rfl rfl
      | false =>
        have hno : ∀ t' r', tkI l s = some (t', r') → t'.rightB = false := fun t' r' h => by
          have := HLS.out.1
          rw [h] at this
          injection this with this
          injection this with this _
          rw [this]; exact hr
        have e0 := cell_of_row w5 _ 0 _ _ _ q5
        have e1 := cell_of_row w5 _ 1 _ _ _ q5
        have e2 := cell_of_row w5 _ 2 _ _ _ q5
        have e3 := cell_of_row w5 _ 3 _ _ _ q5
        have y0 := frozen_of_row w5 w.heap.size 0 _ _ q5
        have y1 := frozen_of_row w5 w.heap.size 1 _ _ q5
        have y2 := frozen_of_row w5 w.heap.size 2 _ _ q5
        have y3 := frozen_of_row w5 w.heap.size 3 _ _ q5
        simp at e0 e1 e2 e3
        have HX := Lib_hid (HBADEND.out w5 q5 hbw5 hno)
        clear q5 hbw5
        go_wp2_with fail
        show bodyPost _ _ _ _ _ (put4 w5 w.heap.size (.int .i64 0) (.int .u64 0) (.int .u64 0) (.slice none 0 0))
        have HX2 := HX.out
        clear HX HBADEND e0 e1 e2 e3 y0 y1 y2 y3
        generalize put4 w5 w.heap.size (.int .i64 0) (.int .u64 0) (.int .u64 0) (.slice none 0 0) = W2 at *
        exact rTake_ret (z := 0) (z2 := 40) HX2.2 HX2.1 _ rfl rfl rfl
end Go.Proofs.YtdmoknnnlfkfoaaGreatDoor
