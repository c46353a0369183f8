/-
  Layer 4: the law's walk: predicates come back as they were.
-/
import Derived.Test.YtiijdacnfhiagaaGreatDoorZkTql
import Derived.Test.YtiijdacnfhiagaaGreatDoorZkTqo
import Derived.Test.YtiijdacnfhiagaaGreatDoorZkTqp
import Derived.Test.YtiijdacnfhiagaaGreatDoorZkTcl
import Derived.Test.YtiijdacnfhiagaaGreatDoorZkTqc
import Derived.Test.YtiijdacnfhiagaaGreatDoorZkTwo
import Derived.Test.YtiijdacnfhiagaaGreatDoorHlp

namespace Go.Proofs.YtiijdacnfhiagaaGreatDoor
open Go Go.RowKit
set_option linter.unusedVariables false

set_option maxRecDepth 100000 in
set_option maxHeartbeats 6400000 in
theorem predback_any (p q : V) (lb : List Nat) (hlb8 : ∀ x ∈ lb, x < 256) (Ab : Option Addr) (nb cb : Nat) (hnc : nb ≤ cb ∧ cb ≤ 9223372036854775807) (x y : Nat) (hx : x < 18446744073709551616) (hy : y < 18446744073709551616) (w : World) (hp : Lies w 0 w.heap.size p) (hq : Lies w 0 w.heap.size q) (hrd : Rd w w.heap.size 1 Ab nb (bs lb)) (hE : Env w.heap.size w)
    (TN : ∀ (l : List Nat) (A : Option Addr) (n c : Nat), (∀ x ∈ l, x < 256) → n ≤ c ∧ c ≤ 9223372036854775807 → TakeOK A n c l 8)
    (TA : ∀ (l : List Nat) (A : Option Addr) (n c : Nat) (s : Int) (B : Nat) (W : World), TakeOK A n c l 8 → Rd W B 1 A n (bs l) → B ≤ W.heap.size → Calls Tryz.prog 32 #[.slice A n c, .int .i64 s] W (TkEnd 25 (ansK (takeT l s)) W)) :
    Calls Tryz.prog 6 #[p.val, q.val, .slice Ab nb cb, .int .u64 (x : Int), .int .u64 (y : Int)] w fun e w' => e = .returned (.bool true) ∧ Below w.heap.size w w' := by
  have WK : Hid (∀ W, Below w.heap.size w W → Calls Tryz.prog 9 #[] W fun e w' => e = .returned (.bool true) ∧ Below W.heap.size W w') := fun W h =>
    works4_any w.heap.size W (hE.under h (Nat.le_refl _)) h.size
  have HPL : Hid (∀ W, Below w.heap.size w W → Lies W 0 w.heap.size p) := fun W h => hp.under h
  have HQL : Hid (∀ W, Below w.heap.size w W → Lies W 0 w.heap.size q) := fun W h => hq.under h
  have HEn : Hid (∀ W, Below w.heap.size w W → Env w.heap.size W) := fun W h => hE.under h (Nat.le_refl _)
  obtain ⟨w1, hw1⟩ : ∃ w1, w1 = (w.alloc (.cells #[.int .i64 p.kind, .int .u64 (p.a : Int), .int .u64 (p.b : Int), .slice p.addr p.parts.length p.cap] 25)).alloc (.cells #[.int .i64 q.kind, .int .u64 (q.a : Int), .int .u64 (q.b : Int), .slice q.addr q.parts.length q.cap] 25) := ⟨_, rfl⟩
  have b0 := below_new w (.cells #[.int .i64 p.kind, .int .u64 (p.a : Int), .int .u64 (p.b : Int), .slice p.addr p.parts.length p.cap] 25)
  have r0 := heap_alloc_new w (.cells #[.int .i64 p.kind, .int .u64 (p.a : Int), .int .u64 (p.b : Int), .slice p.addr p.parts.length p.cap] 25)
  have s0 : (w.alloc (.cells #[.int .i64 p.kind, .int .u64 (p.a : Int), .int .u64 (p.b : Int), .slice p.addr p.parts.length p.cap] 25)).heap.size = w.heap.size + 1 := by simp
  have b1 := below_new (w.alloc (.cells #[.int .i64 p.kind, .int .u64 (p.a : Int), .int .u64 (p.b : Int), .slice p.addr p.parts.length p.cap] 25)) (.cells #[.int .i64 q.kind, .int .u64 (q.a : Int), .int .u64 (q.b : Int), .slice q.addr q.parts.length q.cap] 25)
  have r1 := heap_alloc_new (w.alloc (.cells #[.int .i64 p.kind, .int .u64 (p.a : Int), .int .u64 (p.b : Int), .slice p.addr p.parts.length p.cap] 25)) (.cells #[.int .i64 q.kind, .int .u64 (q.a : Int), .int .u64 (q.b : Int), .slice q.addr q.parts.length q.cap] 25)
  rw [s0] at r1
  rw [← hw1] at b1 r1
  have r01 := (b1.block w.heap.size (by omega)).trans r0
  have hbw1 := b0.trans (b1.mono (by omega))
  have s1 : w1.heap.size = w.heap.size + 2 := by rw [hw1]; simp
  have FP := few_any p w1 0 w.heap.size (HPL.out w1 hbw1) (by omega)
  have FQ : Hid (∀ W, Below w1.heap.size w1 W → Calls Tryz.prog 8 #[.agg #[.int .i64 q.kind, .int .u64 (q.a : Int), .int .u64 (q.b : Int), .slice q.addr q.parts.length q.cap]] W fun e w' => e = .returned (.bool (decide (q.abs.count ≤ 60))) ∧ Below W.heap.size W w') := fun W h =>
    few_any q W 0 w.heap.size (HQL.out W (hbw1.trans (h.mono hbw1.size))) (by have := h.size; omega)
  have FP : Calls Tryz.prog 8 #[.agg #[.int .i64 p.kind, .int .u64 (p.a : Int), .int .u64 (p.b : Int), .slice p.addr p.parts.length p.cap]] w1 fun e w' => e = .returned (.bool (decide (p.abs.count ≤ 60))) ∧ Below w1.heap.size w1 w' := FP
  have BX : Hid (∀ W, Below w1.heap.size w1 W → (W.cell? ⟨w.heap.size, 0, none⟩ = some (.int .i64 p.kind) ∧ W.cell? ⟨w.heap.size, 1, none⟩ = some (.int .u64 (p.a : Int)) ∧ W.cell? ⟨w.heap.size, 2, none⟩ = some (.int .u64 (p.b : Int)) ∧ W.cell? ⟨w.heap.size, 3, none⟩ = some (.slice p.addr p.parts.length p.cap)) ∧
      W.cell? ⟨w.heap.size + 1, 0, none⟩ = some (.int .i64 q.kind) ∧ W.cell? ⟨w.heap.size + 1, 1, none⟩ = some (.int .u64 (q.a : Int)) ∧ W.cell? ⟨w.heap.size + 1, 2, none⟩ = some (.int .u64 (q.b : Int)) ∧ W.cell? ⟨w.heap.size + 1, 3, none⟩ = some (.slice q.addr q.parts.length q.cap)) := fun W hW => by
    have hx := (hW.block w.heap.size (by omega)).trans r01
    have hy := (hW.block (w.heap.size + 1) (by omega)).trans r1
    exact ⟨⟨(cell_of_row W _ 0 _ _ _ hx).trans rfl, (cell_of_row W _ 1 _ _ _ hx).trans rfl, (cell_of_row W _ 2 _ _ _ hx).trans rfl, (cell_of_row W _ 3 _ _ _ hx).trans rfl⟩, (cell_of_row W _ 0 _ _ _ hy).trans rfl, (cell_of_row W _ 1 _ _ _ hy).trans rfl, (cell_of_row W _ 2 _ _ _ hy).trans rfl, (cell_of_row W _ 3 _ _ _ hy).trans rfl⟩
  have HB1 := Lib_hid hbw1
  have HOP := Lib_hid (And.intro (lies_ok p hp) (lies_ok q hq))
  have HRD : Hid (∀ W, Below w.heap.size w W → Rd W w.heap.size 1 Ab nb (bs lb)) := fun W h => hrd.below h
  have hln : lb.length = nb := hrd.count
  clear hp hq hE hrd b0 b1 r0 r1 r01 s0 hbw1
  show Calls Tryz.prog 6 #[.agg #[.int .i64 p.kind, .int .u64 (p.a : Int), .int .u64 (p.b : Int), .slice p.addr p.parts.length p.cap], .agg #[.int .i64 q.kind, .int .u64 (q.a : Int), .int .u64 (q.b : Int), .slice q.addr q.parts.length q.cap], .slice Ab nb cb, .int .u64 (x : Int), .int .u64 (y : Int)] w _
  subst hw1
  go_enter Tryz.func6, Tryz.ntmps6
  go_upto_region 1 with (fail)
  generalize (w.alloc _).alloc (.cells #[.int .i64 q.kind, .int .u64 (q.a : Int), .int .u64 (q.b : Int), .slice q.addr q.parts.length q.cap] 25) = w1 at *
  obtain ⟨⟨c0, c1, c2, c3⟩, -⟩ := BX.out w1 (Below.refl _ _)
  go_wp2_with fail
  refine FP.mono ?_
  rintro e w2 ⟨rfl, hb2⟩
  clear FP c0 c1 c2 c3
  have hbw2 := HB1.out.trans (hb2.mono HB1.out.size)
  by_cases hcp : p.abs.count ≤ 60
  · rw [decide_eq_true hcp]
    have F2 := FQ.out w2 hb2
    obtain ⟨-, c0, c1, c2, c3⟩ := BX.out w2 hb2
    go_wp2_with fail
    refine F2.mono ?_
    rintro e w3 ⟨rfl, hb3⟩
    have hb13 := hb2.trans (hb3.mono hb2.size)
    have hbw3 := HB1.out.trans (hb13.mono HB1.out.size)
    clear F2 c0 c1 c2 c3
    by_cases hcq : q.abs.count ≤ 60 ∧ nb ≤ 40
    · obtain ⟨hcq, h40⟩ := hcq
      rw [decide_eq_true hcq]
      have q40 : decide ((nb : Int) > 40) = false := decide_eq_false (by omega)
      have q41 : ¬ (40 : Int) < (nb : Int) := by omega
      have q42 : ¬ 40 < nb := by omega
      have KRp : Hid (∀ W, Below w1.heap.size w1 W → Calls Tryz.prog 20 #[(.agg #[.int .i64 p.kind, .int .u64 (p.a : Int), .int .u64 (p.b : Int), .slice p.addr p.parts.length p.cap])] W fun e w' => e = .returned (.bool p.abs.rightB) ∧ Below W.heap.size W w') := fun W h =>
        pright_any p W 0 w.heap.size (HPL.out W (HB1.out.trans (h.mono HB1.out.size))) (by have := h.size; omega)
      have KRq : Hid (∀ W, Below w1.heap.size w1 W → Calls Tryz.prog 20 #[(.agg #[.int .i64 q.kind, .int .u64 (q.a : Int), .int .u64 (q.b : Int), .slice q.addr q.parts.length q.cap])] W fun e w' => e = .returned (.bool q.abs.rightB) ∧ Below W.heap.size W w') := fun W h =>
        pright_any q W 0 w.heap.size (HQL.out W (HB1.out.trans (h.mono HB1.out.size))) (by have := h.size; omega)
      have R3 := KRp.out w3 hb13
      obtain ⟨⟨c0, c1, c2, c3⟩, -⟩ := BX.out w3 hb13
      clear FQ hb2 hb3 hbw2
      go_wp2_with fail
      refine R3.mono ?_
      rintro e w4 ⟨rfl, hb4⟩
      have hb14 := hb13.trans (hb4.mono hb13.size)
      clear R3 c0 c1 c2 c3 hb4 hb13 hbw3
      cases hrp : p.abs.rightB with
      | true =>
        have R4 := KRq.out w4 hb14
        obtain ⟨-, c0, c1, c2, c3⟩ := BX.out w4 hb14
        go_wp2_with fail
        refine R4.mono ?_
        rintro e w5 ⟨rfl, hb5⟩
        have hb15 := hb14.trans (hb5.mono hb14.size)
        clear R4 c0 c1 c2 c3 hb5 hb14
        cases hrq : q.abs.rightB with
        | true =>
          have hbw5 := HB1.out.trans (hb15.mono HB1.out.size)
          have hs5 := hbw5.size
          have hs15 := hb15.size
          have hps : p.abs.put = p.abs.stand := by unfold T.put; rw [hrp]; rfl
          have hqs : q.abs.put = q.abs.stand := by unfold T.put; rw [hrq]; rfl
          have hpt : p.abs.text = p.abs.tell := by unfold T.text; rw [hrp]; rfl
          have hqt : q.abs.text = q.abs.tell := by unfold T.text; rw [hrq]; rfl
          have CP : Hid (∀ W', Below w1.heap.size w1 W' → Calls Tryz.prog 11 #[(.agg #[.int .i64 p.kind, .int .u64 (p.a : Int), .int .u64 (p.b : Int), .slice p.addr p.parts.length p.cap])] W' fun e w' => ∃ A n c, e = .returned (.slice A n c) ∧ w'.ownsRow W'.heap.size 5 1 (.slice A n c) n (bs p.abs.stand) ∧ Below W'.heap.size W' w') := fun W' h => by
            have hs := h.size
            have := pput_any p W' 0 w.heap.size (HPL.out W' (HB1.out.trans (h.mono HB1.out.size))) (by omega)
            rw [hps] at this
            exact this.mono fun e w' hM => made_iff.1 hM
          have CQ : Hid (∀ W', Below w1.heap.size w1 W' → Calls Tryz.prog 11 #[(.agg #[.int .i64 q.kind, .int .u64 (q.a : Int), .int .u64 (q.b : Int), .slice q.addr q.parts.length q.cap])] W' fun e w' => ∃ A n c, e = .returned (.slice A n c) ∧ w'.ownsRow W'.heap.size 5 1 (.slice A n c) n (bs q.abs.stand) ∧ Below W'.heap.size W' w') := fun W' h => by
            have hs := h.size
            have := pput_any q W' 0 w.heap.size (HQL.out W' (HB1.out.trans (h.mono HB1.out.size))) (by omega)
            rw [hqs] at this
            exact this.mono fun e w' hM => made_iff.1 hM
          have KTp : Hid (∀ W', Below w1.heap.size w1 W' → Calls Tryz.prog 28 #[(.agg #[.int .i64 p.kind, .int .u64 (p.a : Int), .int .u64 (p.b : Int), .slice p.addr p.parts.length p.cap])] W' fun e w' => e = .returned (.string ⟨p.abs.tell.toArray⟩) ∧ Below W'.heap.size W' w') := fun W' h => by
            have hw := HB1.out.trans (h.mono HB1.out.size)
            have hs := hw.size
            have := ptext_any p W' 0 w.heap.size w.heap.size (HPL.out W' hw) (by omega) (HEn.out W' hw) (by omega)
            rwa [hpt] at this
          have KTq : Hid (∀ W', Below w1.heap.size w1 W' → Calls Tryz.prog 28 #[(.agg #[.int .i64 q.kind, .int .u64 (q.a : Int), .int .u64 (q.b : Int), .slice q.addr q.parts.length q.cap])] W' fun e w' => e = .returned (.string ⟨q.abs.tell.toArray⟩) ∧ Below W'.heap.size W' w') := fun W' h => by
            have hw := HB1.out.trans (h.mono HB1.out.size)
            have hs := hw.size
            have := ptext_any q W' 0 w.heap.size w.heap.size (HQL.out W' hw) (by omega) (HEn.out W' hw) (by omega)
            rwa [hqt] at this
          have KSpq : Hid (∀ W', Below w1.heap.size w1 W' → Calls Tryz.prog 30 #[(.agg #[.int .i64 p.kind, .int .u64 (p.a : Int), .int .u64 (p.b : Int), .slice p.addr p.parts.length p.cap]), (.agg #[.int .i64 q.kind, .int .u64 (q.a : Int), .int .u64 (q.b : Int), .slice q.addr q.parts.length q.cap])] W' fun e w' => e = .returned (.bool (p.abs.sameB q.abs)) ∧ Below W'.heap.size W' w') := fun W' h => by
            have hw := HB1.out.trans (h.mono HB1.out.size)
            have hs := hw.size
            exact psame_any p q W' 0 w.heap.size 0 w.heap.size (HPL.out W' hw) (by omega) (HQL.out W' hw) (by omega)
          have KSz : Hid (∀ (W' : World) (z : V) (lo hi : Nat), Below w1.heap.size w1 W' → z.abs = p.abs → Lies W' lo hi z → hi ≤ W'.heap.size → Calls Tryz.prog 30 #[(.agg #[.int .i64 z.kind, .int .u64 (z.a : Int), .int .u64 (z.b : Int), .slice z.addr z.parts.length z.cap]), (.agg #[.int .i64 p.kind, .int .u64 (p.a : Int), .int .u64 (p.b : Int), .slice p.addr p.parts.length p.cap])] W' fun e w' => e = .returned (.bool true) ∧ Below W'.heap.size W' w') := fun W' z lo hi h e1 e2 e3 => by
            have hw := HB1.out.trans (h.mono HB1.out.size)
            have hs := hw.size
            have := psame_any z p W' lo hi 0 w.heap.size e2 e3 (HPL.out W' hw) (by omega)
            rw [e1, (sameB_iff _ _).2 rfl] at this
            exact this
          have hsb : ∀ x ∈ p.abs.stand, x < 256 := stand_byte p.abs (right_all hrp).1
          have hsl : p.abs.stand.length ≤ 2000 := by have := stand_len p (HPL.out w5 hbw5); omega
          have htl : p.abs.tell.length ≤ 3000 := by have := tell_len p (HPL.out w5 hbw5); omega
          have TK : Hid (∀ (A : Option Addr) (n c B : Nat) (W : World), n ≤ c ∧ c ≤ 9223372036854775807 → Rd W B 1 A n (bs (p.abs.stand ++ lb)) → B ≤ W.heap.size → Calls Tryz.prog 32 #[.slice A n c, .int .i64 0] W fun e w' => ∃ z : V, e = .returned (.tuple #[(.agg #[.int .i64 z.kind, .int .u64 (z.a : Int), .int .u64 (z.b : Int), .slice z.addr z.parts.length z.cap]), .int .i64 (p.abs.stand.length : Int), .int .i64 0]) ∧ z.abs = p.abs ∧ Lies w' W.heap.size w'.heap.size z ∧ Below W.heap.size W w') := fun A n c B W h1 h2 h3 => by
            have hb : ∀ x ∈ p.abs.stand ++ lb, x < 256 := fun x hx => by
              rcases List.mem_append.1 hx with hx | hx
              · exact hsb x hx
              · exact hlb8 x hx
            have := TA (p.abs.stand ++ lb) A n c 0 B W (TN _ A n c hb h1) h2 h3
            rw [take_stand hrp HOP.out.1 hlb8] at this
            exact this.mono fun e w' ⟨z, e1, e2, e3, _, e4⟩ => ⟨z, e1, e2, e3, e4⟩
          have PK : Hid (∀ (A : Option Addr) (n c B : Nat) (W : World), n ≤ c ∧ c ≤ 9223372036854775807 → Rd W B 1 A n (bs p.abs.stand) → B ≤ W.heap.size → Calls Tryz.prog 34 #[.slice A n c] W fun e w' => ∃ z : V, e = .returned (.tuple #[(.agg #[.int .i64 z.kind, .int .u64 (z.a : Int), .int .u64 (z.b : Int), .slice z.addr z.parts.length z.cap]), .int .i64 0]) ∧ z.abs = p.abs ∧ Lies w' W.heap.size w'.heap.size z ∧ Below W.heap.size W w') := fun A n c B W h1 h2 h3 => by
            have hc : p.abs.stand.length = n := h2.count
            have := pParse_any p.abs.stand A n c hc W fun W' hW' => TA p.abs.stand A n c 0 B W' (TN _ A n c hsb h1) (h2.below (hW'.mono h3)) (by have := hW'.size; omega)
            rw [parse_stand hrp HOP.out.1] at this
            exact this.mono fun e w' ⟨z, e1, e2, e3, _, e4⟩ => ⟨z, e1, e2, e3, e4⟩
          have RK : Hid (∀ W, Below w1.heap.size w1 W → Calls Tryz.prog 37 #[.string ⟨p.abs.tell.toArray⟩] W fun e w' => ∃ z : V, e = .returned (.tuple #[(.agg #[.int .i64 z.kind, .int .u64 (z.a : Int), .int .u64 (z.b : Int), .slice z.addr z.parts.length z.cap]), .int .i64 0]) ∧ z.abs = p.abs ∧ Lies w' W.heap.size w'.heap.size z ∧ Below W.heap.size W w') := fun W h => by
            have hw := HB1.out.trans (h.mono HB1.out.size)
            have := pread_any p.abs.tell w.heap.size W (HEn.out W hw) hw.size (by omega)
            rw [read_tell hrp HOP.out.1] at this
            exact this.mono fun e w' ⟨z, e1, e2, e3, _, e4⟩ => ⟨z, e1, e2, e3, e4⟩
          have HEQ : Hid (eqB p.abs.stand q.abs.stand = p.abs.sameB q.abs ∧ (p.abs.sameB q.abs = true → p.abs.tell = q.abs.tell) ∧ (p.abs.sameB q.abs = false → p.abs.tell ≠ q.abs.tell)) := by
            refine ⟨?_, fun h => by rw [(sameB_iff _ _).1 h], fun h e => ?_⟩
            · cases hs : p.abs.sameB q.abs with
              | true => rw [(sameB_iff _ _).1 hs, eqB_self]
              | false =>
                cases he : eqB p.abs.stand q.abs.stand with
                | false => rfl
                | true =>
                  have := stand_inj hrp hrq HOP.out.1 HOP.out.2 (by unfold eqB at he; exact of_decide_eq_true he)
                  rw [(sameB_iff _ _).2 this] at hs
                  cases hs
            · rw [(sameB_iff _ _).2 (tell_inj hrp hrq HOP.out.1 HOP.out.2 e)] at h
              cases h
          have HBX5 : Hid (∀ W, Below w5.heap.size w5 W → (W.cell? ⟨w.heap.size, 0, none⟩ = some (.int .i64 p.kind) ∧ W.cell? ⟨w.heap.size, 1, none⟩ = some (.int .u64 (p.a : Int)) ∧ W.cell? ⟨w.heap.size, 2, none⟩ = some (.int .u64 (p.b : Int)) ∧ W.cell? ⟨w.heap.size, 3, none⟩ = some (.slice p.addr p.parts.length p.cap)) ∧ (W.cell? ⟨w.heap.size + 1, 0, none⟩ = some (.int .i64 q.kind) ∧ W.cell? ⟨w.heap.size + 1, 1, none⟩ = some (.int .u64 (q.a : Int)) ∧ W.cell? ⟨w.heap.size + 1, 2, none⟩ = some (.int .u64 (q.b : Int)) ∧ W.cell? ⟨w.heap.size + 1, 3, none⟩ = some (.slice q.addr q.parts.length q.cap))) := fun W hW => BX.out W (hb15.trans (hW.mono hs15))
          clear TA TN hps hqs hpt hqt HEn
          clear KRp KRq
          go_wp2_with fail
          go_region_held3 (fun W => (W.cell? ⟨w.heap.size, 0, none⟩ = some (.int .i64 p.kind) ∧ W.cell? ⟨w.heap.size, 1, none⟩ = some (.int .u64 (p.a : Int)) ∧ W.cell? ⟨w.heap.size, 2, none⟩ = some (.int .u64 (p.b : Int)) ∧ W.cell? ⟨w.heap.size, 3, none⟩ = some (.slice p.addr p.parts.length p.cap)) ∧ (W.cell? ⟨w.heap.size + 1, 0, none⟩ = some (.int .i64 q.kind) ∧ W.cell? ⟨w.heap.size + 1, 1, none⟩ = some (.int .u64 (q.a : Int)) ∧ W.cell? ⟨w.heap.size + 1, 2, none⟩ = some (.int .u64 (q.b : Int)) ∧ W.cell? ⟨w.heap.size + 1, 3, none⟩ = some (.slice q.addr q.parts.length q.cap)))
            (first | exact HBX5.out _ (below_like4 (Below.refl _ _) rfl rfl rfl rfl) | exact HBX5.out _ ka | exact HBX5.out _ kb)
            ((first | (go_at_call 11; ((with_reducible refine (CP.out _ (by exact below_like4 hb15 rfl rfl rfl rfl)).mono ?_); rintro e wa ⟨A5, n5, c5, rfl, o5, ka'⟩; have ka : Below w5.heap.size w5 wa := ⟨ka'.os, ka'.tape, ka'.output, ka'.size, ka'.block⟩)) | (go_at_call 11; ((with_reducible refine (CQ.out wa (hb15.trans (ka.mono hs15))).mono ?_); rintro e wb ⟨A6, n6, c6, rfl, o6, kb'⟩; have kb := ka.trans (kb'.mono ka.size)))))
          all_goals
            have hb1b := hb15.trans (kb.mono hs15)
            have hbwb := HB1.out.trans (hb1b.mono HB1.out.size)
            have sab := kb'.size
            have ob5 := own_below o5 kb' (own_lt o5)
            have hn5 : p.abs.stand.length = n5 := by have := ob5.1; rw [bs_length] at this; omega
            have hn6 : q.abs.stand.length = n6 := by have := o6.1; rw [bs_length] at this; omega
            have OW := own_any wb.heap.size A5 n5 c5 p.abs.stand wb (Rd.own ob5) (by omega)
            have HO5 := Lib_hid ob5
            have HO6 := Lib_hid o6
            have s1b := hb1b.size
            have swb := hbwb.size
            clear o5 o6 ka' kb' ka kb ob5 hb15 hbw5 HBX5
            go_wp2_with fail
            refine OW.mono ?_
            rintro e w7 hMd
            obtain ⟨A7, n7, c7, rfl, ho7, hb7⟩ := made_iff.1 hMd
            obtain rfl : n7 = n5 := by have := ho7.1; rw [bs_length] at this; omega
            have s7 := hb7.size
            obtain ⟨i0, hi0, hz0, hz1, hz2⟩ := info_parts Tryz.info5
            have hm1 : n7 + nb ≤ maxLen := by unfold maxLen; omega
            have hm2 : (n7 + nb) * 1 ≤ 140737488355328 := by omega
            have hr7 := HRD.out w7 (hbwb.trans (hb7.mono (by omega)))
            clear OW hMd
            go_wp2_with (at_builtin; (refine wpList_app rfl _ _ 32 rfl wb.heap.size 5 i0 (.int .u8 0) 1 1 Tryz.underlying32 hi0 hz0 hz1 hz2 rfl (by decide) (.slice A7 n7 c7) n7 _ rfl ho7 w.heap.size Ab nb cb (bs lb) rfl hr7 (bs_one _) hm1 hm2 (by omega) ?_); intro v8 w8 ho8 hs8; rw [← bs_append] at ho8; obtain ⟨A8, c8, rfl, _⟩ := own_form ho8)
            have hb78 := hs8.below (B := wb.heap.size) (by omega) (fun k hk => own_ge ho7 k hk)
            have hbb8 := hb7.trans hb78
            have sb8 := hbb8.size
            have T8 := TK.out A8 _ c8 w8.heap.size w8 (own_cap ho8) (Rd.own ho8) (Nat.le_refl _)
            rw [hn5] at T8
            clear ho7 hs8 ho8 hb7 hb78 hr7 hi0 hz0 hz1 hz2 hm1 hm2
            refine T8.mono ?_
            rintro e w9 ⟨r, rfl, hr9, hrL, hb9⟩
            have s9 := hb9.size
            have b10 := below_new w9 (.cells #[.int .i64 r.kind, .int .u64 (r.a : Int), .int .u64 (r.b : Int), .slice r.addr r.parts.length r.cap] 25)
            have r10 := heap_alloc_new w9 (.cells #[.int .i64 r.kind, .int .u64 (r.a : Int), .int .u64 (r.b : Int), .slice r.addr r.parts.length r.cap] 25)
            have s10 : w9.heap.size + 1 ≤ (w9.alloc (.cells #[.int .i64 r.kind, .int .u64 (r.a : Int), .int .u64 (r.b : Int), .slice r.addr r.parts.length r.cap] 25)).heap.size := by simp
            clear T8
            go_upto_region 7 with (fail)
            generalize w9.alloc (.cells #[.int .i64 r.kind, .int .u64 (r.a : Int), .int .u64 (r.b : Int), .slice r.addr r.parts.length r.cap] 25) = w10 at *
            have hbb10 := hbb8.trans ((hb9.trans (b10.mono s9)).mono sb8)
            have o10 := own_below HO5.out hbb10 (own_lt HO5.out)
            have P10 := PK.out A5 _ c5 w10.heap.size w10 (own_cap o10) (Rd.own o10) (Nat.le_refl _)
            clear o10
            go_wp2_with fail
            refine P10.mono ?_
            rintro e w11 ⟨s, rfl, hs11, hsL, hb11⟩
            have s11 := hb11.size
            have b12 := below_new w11 (.cells #[.int .i64 s.kind, .int .u64 (s.a : Int), .int .u64 (s.b : Int), .slice s.addr s.parts.length s.cap] 25)
            have r12 := heap_alloc_new w11 (.cells #[.int .i64 s.kind, .int .u64 (s.a : Int), .int .u64 (s.b : Int), .slice s.addr s.parts.length s.cap] 25)
            have s12 : w11.heap.size + 1 ≤ (w11.alloc (.cells #[.int .i64 s.kind, .int .u64 (s.a : Int), .int .u64 (s.b : Int), .slice s.addr s.parts.length s.cap] 25)).heap.size := by simp
            clear P10
            go_upto_region 8 with (fail)
            generalize w11.alloc (.cells #[.int .i64 s.kind, .int .u64 (s.a : Int), .int .u64 (s.b : Int), .slice s.addr s.parts.length s.cap] 25) = w12 at *
            have hb1012 := hb11.trans (b12.mono s11)
            have hbb12 := hbb10.trans (hb1012.mono (by omega))
            have hb112 := hb1b.trans (hbb12.mono (by omega))
            have K12 := KTp.out w12 hb112
            obtain ⟨⟨c0, c1, c2, c3⟩, -⟩ := BX.out w12 hb112
            go_wp2_with fail
            refine K12.mono ?_
            rintro e w13 ⟨rfl, hb13⟩
            have s13 := hb13.size
            have hb113 := hb112.trans (hb13.mono (by omega))
            have K13 := RK.out w13 hb113
            clear K12 c0 c1 c2 c3
            go_wp2_with fail
            refine K13.mono ?_
            rintro e w14 ⟨t, rfl, ht14, htL, hb14⟩
            have s14 := hb14.size
            have b15 := below_new w14 (.cells #[.int .i64 t.kind, .int .u64 (t.a : Int), .int .u64 (t.b : Int), .slice t.addr t.parts.length t.cap] 25)
            have r15 := heap_alloc_new w14 (.cells #[.int .i64 t.kind, .int .u64 (t.a : Int), .int .u64 (t.b : Int), .slice t.addr t.parts.length t.cap] 25)
            have s15' : w14.heap.size + 1 ≤ (w14.alloc (.cells #[.int .i64 t.kind, .int .u64 (t.a : Int), .int .u64 (t.b : Int), .slice t.addr t.parts.length t.cap] 25)).heap.size := by simp
            clear K13
            go_upto_region 9 with (fail)
            generalize w14.alloc (.cells #[.int .i64 t.kind, .int .u64 (t.a : Int), .int .u64 (t.b : Int), .slice t.addr t.parts.length t.cap] 25) = w15 at *
            have hb1415 := b15
            have hb1215 := (hb13.trans (hb14.mono s13)).trans (b15.mono (by omega))
            have hb1015 := hb1012.trans (hb1215.mono (by omega))
            have hb115 := hb112.trans (hb1215.mono (by omega))
            have hbb15 := hbb12.trans (hb1215.mono (by omega))
            have LR : Hid (∀ W, Below w15.heap.size w15 W → Lies W w8.heap.size w9.heap.size r ∧ Lies W w10.heap.size w11.heap.size s ∧ Lies W w13.heap.size w14.heap.size t ∧ (W.cell? ⟨w9.heap.size, 0, none⟩ = some (.int .i64 r.kind) ∧ W.cell? ⟨w9.heap.size, 1, none⟩ = some (.int .u64 (r.a : Int)) ∧ W.cell? ⟨w9.heap.size, 2, none⟩ = some (.int .u64 (r.b : Int)) ∧ W.cell? ⟨w9.heap.size, 3, none⟩ = some (.slice r.addr r.parts.length r.cap)) ∧ (W.cell? ⟨w11.heap.size, 0, none⟩ = some (.int .i64 s.kind) ∧ W.cell? ⟨w11.heap.size, 1, none⟩ = some (.int .u64 (s.a : Int)) ∧ W.cell? ⟨w11.heap.size, 2, none⟩ = some (.int .u64 (s.b : Int)) ∧ W.cell? ⟨w11.heap.size, 3, none⟩ = some (.slice s.addr s.parts.length s.cap)) ∧ (W.cell? ⟨w14.heap.size, 0, none⟩ = some (.int .i64 t.kind) ∧ W.cell? ⟨w14.heap.size, 1, none⟩ = some (.int .u64 (t.a : Int)) ∧ W.cell? ⟨w14.heap.size, 2, none⟩ = some (.int .u64 (t.b : Int)) ∧ W.cell? ⟨w14.heap.size, 3, none⟩ = some (.slice t.addr t.parts.length t.cap))) := fun W hW => by
              have kr := (hW.block w9.heap.size (by omega)).trans ((hb1015.block w9.heap.size (by omega)).trans r10)
              have ks := (hW.block w11.heap.size (by omega)).trans ((hb1215.block w11.heap.size (by omega)).trans r12)
              have kt := (hW.block w14.heap.size (by omega)).trans r15
              exact ⟨((hrL.under b10).under (hb1015.mono (by omega))).under (hW.mono (by omega)), ((hsL.under b12).under (hb1215.mono (by omega))).under (hW.mono (by omega)), (htL.under b15).under (hW.mono (by omega)),
                ⟨(cell_of_row W _ 0 _ _ _ kr).trans rfl, (cell_of_row W _ 1 _ _ _ kr).trans rfl, (cell_of_row W _ 2 _ _ _ kr).trans rfl, (cell_of_row W _ 3 _ _ _ kr).trans rfl⟩, ⟨(cell_of_row W _ 0 _ _ _ ks).trans rfl, (cell_of_row W _ 1 _ _ _ ks).trans rfl, (cell_of_row W _ 2 _ _ _ ks).trans rfl, (cell_of_row W _ 3 _ _ _ ks).trans rfl⟩, (cell_of_row W _ 0 _ _ _ kt).trans rfl, (cell_of_row W _ 1 _ _ _ kt).trans rfl, (cell_of_row W _ 2 _ _ _ kt).trans rfl, (cell_of_row W _ 3 _ _ _ kt).trans rfl⟩
            have hs15b := hb115.size
            have hbw15 := HB1.out.trans (hb115.mono HB1.out.size)
            clear hrL hsL htL r10 r12 r15 b10 b12 b15 hb9 hb11 hb13 hb14 hb1012 hb1215 hb1015 hb1415 hbb8 hbb10 hbb12 hb112 hb113 PK RK TK
            obtain ⟨L1, L2, L3, ⟨c0, c1, c2, c3⟩, ⟨d0, d1, d2, d3⟩, f0, f1, f2, f3⟩ := LR.out w15 (Below.refl _ _)
            obtain ⟨⟨e0, e1, e2, e3⟩, -⟩ := BX.out w15 hb115
            have S1 := KSz.out w15 r _ _ hb115 hr9 L1 (by omega)
            clear L1 L2 L3 d0 d1 d2 d3 f0 f1 f2 f3
            go_wp2_with fail
            refine S1.mono ?_
            rintro e w16 ⟨rfl, hb16⟩
            have s16 := hb16.size
            have hb116 := hb115.trans (hb16.mono (by omega))
            clear S1 c0 c1 c2 c3 e0 e1 e2 e3
            obtain ⟨L1, L2, L3, -, ⟨d0, d1, d2, d3⟩, -⟩ := LR.out w16 hb16
            obtain ⟨⟨e0, e1, e2, e3⟩, -⟩ := BX.out w16 hb116
            have S2 := KSz.out w16 s _ _ hb116 hs11 L2 (by omega)
            clear L1 L2 L3
            go_wp2_with fail
            refine S2.mono ?_
            rintro e w17 ⟨rfl, hb17⟩
            have s17 := hb17.size
            have hb1517 := hb16.trans (hb17.mono s16)
            have hb117 := hb116.trans (hb17.mono (by omega))
            clear S2 d0 d1 d2 d3 e0 e1 e2 e3
            obtain ⟨L1, L2, L3, -, -, f0, f1, f2, f3⟩ := LR.out w17 hb1517
            obtain ⟨⟨e0, e1, e2, e3⟩, -⟩ := BX.out w17 hb117
            have S3 := KSz.out w17 t _ _ hb117 ht14 L3 (by omega)
            clear L1 L2 L3
            go_wp2_with fail
            refine S3.mono ?_
            rintro e w18 ⟨rfl, hb18⟩
            have s18 := hb18.size
            have hb1518 := hb1517.trans (hb18.mono (by omega))
            have hb118 := hb117.trans (hb18.mono (by omega))
            have hbb18 := hbb15.trans (hb1518.mono (by omega))
            clear S3 f0 f1 f2 f3 e0 e1 e2 e3 LR KSz hb1517 hb16 hb17 hb18 hb1518 hb116 hb117
            have D1 : Hid (∀ W', Below w18.heap.size w18 W' → Calls Tryz.prog 14 #[.slice A5 n7 c5, .slice A6 n6 c6] W' fun e w' => e = .returned (.bool (p.abs.sameB q.abs)) ∧ ∃ k, w' = W'.drewN k) := fun W' h => by
              have hbb := hbb18.trans (h.mono hbb18.size)
              have := same_any W'.heap.size W'.heap.size A5 A6 n7 n6 c5 c6 p.abs.stand q.abs.stand W' (Rd.own (own_below HO5.out hbb (own_lt HO5.out))) (Rd.own (own_below HO6.out hbb (own_lt HO6.out))) (by omega)
              rwa [HEQ.out.1] at this
            have D2 : Hid (∀ W', Below w18.heap.size w18 W' → Calls Tryz.prog 30 #[(.agg #[.int .i64 p.kind, .int .u64 (p.a : Int), .int .u64 (p.b : Int), .slice p.addr p.parts.length p.cap]), (.agg #[.int .i64 q.kind, .int .u64 (q.a : Int), .int .u64 (q.b : Int), .slice q.addr q.parts.length q.cap])] W' fun e w' => e = .returned (.bool (p.abs.sameB q.abs)) ∧ Below W'.heap.size W' w') := fun W' h => KSpq.out W' (hb118.trans (h.mono hb118.size))
            have D3 : Hid (∀ W', Below w18.heap.size w18 W' → Calls Tryz.prog 28 #[(.agg #[.int .i64 p.kind, .int .u64 (p.a : Int), .int .u64 (p.b : Int), .slice p.addr p.parts.length p.cap])] W' fun e w' => e = .returned (.string ⟨p.abs.tell.toArray⟩) ∧ Below W'.heap.size W' w') := fun W' h => KTp.out W' (hb118.trans (h.mono hb118.size))
            have D4 : Hid (∀ W', Below w18.heap.size w18 W' → Calls Tryz.prog 28 #[(.agg #[.int .i64 q.kind, .int .u64 (q.a : Int), .int .u64 (q.b : Int), .slice q.addr q.parts.length q.cap])] W' fun e w' => e = .returned (.string ⟨q.abs.tell.toArray⟩) ∧ Below W'.heap.size W' w') := fun W' h => KTq.out W' (hb118.trans (h.mono hb118.size))
            have HB18 : Hid (∀ W, Below w18.heap.size w18 W → (W.cell? ⟨w.heap.size, 0, none⟩ = some (.int .i64 p.kind) ∧ W.cell? ⟨w.heap.size, 1, none⟩ = some (.int .u64 (p.a : Int)) ∧ W.cell? ⟨w.heap.size, 2, none⟩ = some (.int .u64 (p.b : Int)) ∧ W.cell? ⟨w.heap.size, 3, none⟩ = some (.slice p.addr p.parts.length p.cap)) ∧ (W.cell? ⟨w.heap.size + 1, 0, none⟩ = some (.int .i64 q.kind) ∧ W.cell? ⟨w.heap.size + 1, 1, none⟩ = some (.int .u64 (q.a : Int)) ∧ W.cell? ⟨w.heap.size + 1, 2, none⟩ = some (.int .u64 (q.b : Int)) ∧ W.cell? ⟨w.heap.size + 1, 3, none⟩ = some (.slice q.addr q.parts.length q.cap))) := fun W hW => BX.out W (hb118.trans (hW.mono hb118.size))
            have HE2 := Lib_hid HEQ.out.2
            have HB118 := Lib_hid hb118
            have s118 := hb118.size
            clear HEQ KSpq KTp KTq CP CQ HO5 HO6 hb118 hbb18 hbb15 hn5 hn6
            go_wp2_with fail
            go_cut [142] from 125 to 141 (fun v W => v = .bool false ∧ Hid (Below w18.heap.size w18 W))
            case first =>
              generalize hsab : p.abs.sameB q.abs = sab at *
              generalize p.abs.tell = tp at *
              generalize q.abs.tell = tq at *
              have hcase : (sab = true ∧ tp = tq) ∨ (sab = false ∧ (tp == tq) = false) := by
                cases sab with
                | true => exact .inl ⟨rfl, HE2.out.1 rfl⟩
                | false => exact .inr ⟨rfl, by have := HE2.out.2 rfl; simpa using this⟩
              clear HE2 hsab htl hsl hsb
              rcases hcase with ⟨rfl, rfl⟩ | ⟨rfl, htt⟩
              · go_region_held3 (fun W => (W.cell? ⟨w.heap.size, 0, none⟩ = some (.int .i64 p.kind) ∧ W.cell? ⟨w.heap.size, 1, none⟩ = some (.int .u64 (p.a : Int)) ∧ W.cell? ⟨w.heap.size, 2, none⟩ = some (.int .u64 (p.b : Int)) ∧ W.cell? ⟨w.heap.size, 3, none⟩ = some (.slice p.addr p.parts.length p.cap)) ∧ (W.cell? ⟨w.heap.size + 1, 0, none⟩ = some (.int .i64 q.kind) ∧ W.cell? ⟨w.heap.size + 1, 1, none⟩ = some (.int .u64 (q.a : Int)) ∧ W.cell? ⟨w.heap.size + 1, 2, none⟩ = some (.int .u64 (q.b : Int)) ∧ W.cell? ⟨w.heap.size + 1, 3, none⟩ = some (.slice q.addr q.parts.length q.cap)))
                  (first | exact HB18.out _ (below_like4 (Below.refl _ _) rfl rfl rfl rfl) | exact HB18.out _ ka | exact HB18.out _ kb | exact HB18.out _ kc | exact HB18.out _ kd | exact HB18.out _ ke)
                  ((first | (go_at_call 14; ((with_reducible refine (D1.out _ (by exact below_like4 (Below.refl _ _) rfl rfl rfl rfl)).mono ?_); rintro e wa ⟨rfl, ka1, hwa⟩; have ka : Below w18.heap.size w18 wa := (by rw [hwa]; exact below_drew_ (n := ka1) (below_like4 (b' := World.drew w18) (Below.refl w18.heap.size w18) rfl rfl rfl rfl)); clear hwa)) | (go_at_call 30; ((with_reducible refine (D2.out _ ka).mono ?_); rintro e wbb ⟨rfl, kb'⟩; have kb := ka.trans (kb'.mono ka.size))) | (go_at_call 28; ((with_reducible refine (D3.out wbb kb).mono ?_); rintro e wc ⟨rfl, kc'⟩; have kc := kb.trans (kc'.mono kb.size))) | (go_at_call 28; ((with_reducible refine (D4.out wc kc).mono ?_); rintro e wd ⟨rfl, kd'⟩; have kd := kc.trans (kd'.mono kc.size))) | (go_at_call 30; ((with_reducible refine (D2.out wd kd).mono ?_); rintro e we ⟨rfl, ke'⟩; have ke := kd.trans (ke'.mono kd.size)))))
                all_goals
                  try go_step
                  try go_step
                  go_meet
                  exact ⟨rfl, Lib_hid ke⟩
              · go_region_held3 (fun W => (W.cell? ⟨w.heap.size, 0, none⟩ = some (.int .i64 p.kind) ∧ W.cell? ⟨w.heap.size, 1, none⟩ = some (.int .u64 (p.a : Int)) ∧ W.cell? ⟨w.heap.size, 2, none⟩ = some (.int .u64 (p.b : Int)) ∧ W.cell? ⟨w.heap.size, 3, none⟩ = some (.slice p.addr p.parts.length p.cap)) ∧ (W.cell? ⟨w.heap.size + 1, 0, none⟩ = some (.int .i64 q.kind) ∧ W.cell? ⟨w.heap.size + 1, 1, none⟩ = some (.int .u64 (q.a : Int)) ∧ W.cell? ⟨w.heap.size + 1, 2, none⟩ = some (.int .u64 (q.b : Int)) ∧ W.cell? ⟨w.heap.size + 1, 3, none⟩ = some (.slice q.addr q.parts.length q.cap)))
                  (first | exact HB18.out _ (below_like4 (Below.refl _ _) rfl rfl rfl rfl) | exact HB18.out _ ka | exact HB18.out _ kb | exact HB18.out _ kc | exact HB18.out _ kd | exact HB18.out _ ke)
                  ((first | (go_at_call 14; ((with_reducible refine (D1.out _ (by exact below_like4 (Below.refl _ _) rfl rfl rfl rfl)).mono ?_); rintro e wa ⟨rfl, ka1, hwa⟩; have ka : Below w18.heap.size w18 wa := (by rw [hwa]; exact below_drew_ (n := ka1) (below_like4 (b' := World.drew w18) (Below.refl w18.heap.size w18) rfl rfl rfl rfl)); clear hwa)) | (go_at_call 30; ((with_reducible refine (D2.out _ ka).mono ?_); rintro e wbb ⟨rfl, kb'⟩; have kb := ka.trans (kb'.mono ka.size))) | (go_at_call 28; ((with_reducible refine (D3.out wbb kb).mono ?_); rintro e wc ⟨rfl, kc'⟩; have kc := kb.trans (kc'.mono kb.size))) | (go_at_call 28; ((with_reducible refine (D4.out wc kc).mono ?_); rintro e wd ⟨rfl, kd'⟩; have kd := kc.trans (kd'.mono kc.size))) | (go_at_call 30; ((with_reducible refine (D2.out wd kd).mono ?_); rintro e we ⟨rfl, ke'⟩; have ke := kd.trans (ke'.mono kd.size)))))
                all_goals
                  try go_step
                  try go_step
                  go_meet
                  exact ⟨rfl, Lib_hid ke⟩
            case rest =>
              obtain ⟨rfl, hbc⟩ := hcut
              have hb1c := HB118.out.trans (hbc.out.mono s118)
              have hbwc := HB1.out.trans (hb1c.mono HB1.out.size)
              have swc := hbwc.size
              have s1c := hb1c.size
              have BXc : Hid (∀ W, Below wc.heap.size wc W → (W.cell? ⟨w.heap.size, 0, none⟩ = some (.int .i64 p.kind) ∧ W.cell? ⟨w.heap.size, 1, none⟩ = some (.int .u64 (p.a : Int)) ∧ W.cell? ⟨w.heap.size, 2, none⟩ = some (.int .u64 (p.b : Int)) ∧ W.cell? ⟨w.heap.size, 3, none⟩ = some (.slice p.addr p.parts.length p.cap)) ∧ (W.cell? ⟨w.heap.size + 1, 0, none⟩ = some (.int .i64 q.kind) ∧ W.cell? ⟨w.heap.size + 1, 1, none⟩ = some (.int .u64 (q.a : Int)) ∧ W.cell? ⟨w.heap.size + 1, 2, none⟩ = some (.int .u64 (q.b : Int)) ∧ W.cell? ⟨w.heap.size + 1, 3, none⟩ = some (.slice q.addr q.parts.length q.cap))) := fun W hW => BX.out W (hb1c.trans (hW.mono s1c))
              have DT : Hid (∀ W, Below wc.heap.size wc W → Calls Tryz.prog 13 #[(.agg #[.int .i64 p.kind, .int .u64 (p.a : Int), .int .u64 (p.b : Int), .slice p.addr p.parts.length p.cap])] W fun e w' => ∃ z : V, e = .returned (.agg #[.int .i64 z.kind, .int .u64 (z.a : Int), .int .u64 (z.b : Int), .slice z.addr z.parts.length z.cap]) ∧ z.abs = p.abs.turn ∧ Lies w' W.heap.size w'.heap.size z ∧ Below W.heap.size W w') := fun W h => by
                have hs := h.size
                exact (turnV_any p W 0 w.heap.size (HPL.out W (hbwc.trans (h.mono swc))) (by omega) (by omega) (by omega)).mono fun e w' ⟨z, e1, e2, e3, _, e4⟩ => ⟨z, e1, e2, e3, e4⟩
              have DB : Hid (∀ (W : World) (g : Nat), Below wc.heap.size wc W → W.heap[g]? = some (.cells #[.int .i64 p.kind, .int .u64 (p.a : Int), .int .u64 (p.b : Int), .slice p.addr p.parts.length p.cap, .int .i64 q.kind, .int .u64 (q.a : Int), .int .u64 (q.b : Int), .slice q.addr q.parts.length q.cap] 25 (0, 0)) → Calls Tryz.prog 12 #[.slice (some ⟨g, 0, none⟩) 2 2] W fun e w' => ∃ z : V, e = .returned (.agg #[.int .i64 z.kind, .int .u64 (z.a : Int), .int .u64 (z.b : Int), .slice z.addr z.parts.length z.cap]) ∧ z.abs = .node 6 0 0 [p.abs, q.abs] ∧ Lies w' W.heap.size w'.heap.size z ∧ Below W.heap.size W w') := fun W g h hg => by
                have hs := h.size
                have hw := hbwc.trans (h.mono swc)
                exact (both_any (some ⟨g, 0, none⟩) 2 [p, q] W 0 W.heap.size (pair_lies (k := 0) (by omega) hg (HPL.out W hw) (HQL.out W hw) (by omega) (by omega) (lt_of_block hg)) (Nat.le_refl _) (by simp [V.absL, T.countL]; omega)).mono fun e w' ⟨z, e1, e2, e3, _, e4⟩ => ⟨z, e1, by rw [e2]; simp [V.absL], e3, e4⟩
              have KH : Hid (∀ (W : World) (z : V) (lo hi : Nat), Lies W lo hi z → hi ≤ W.heap.size → z.abs.count ≤ 1000 → Calls Tryz.prog 26 #[(.agg #[.int .i64 z.kind, .int .u64 (z.a : Int), .int .u64 (z.b : Int), .slice z.addr z.parts.length z.cap]), .int .u64 (x : Int), .int .u64 (y : Int)] W fun e w' => e = .returned (.bool (z.abs.rightB && z.abs.askB x y)) ∧ Below W.heap.size W w') := fun W z lo hi h1 h2 h3 => pholds_any x y hx hy z W lo hi h1 h2 h3
              have e8 : Tryz.prog.follows .mixedOrders = true := by kernel_rfl
              have HBC := Lib_hid (And.intro hb1c hbwc)
              clear hb1c hbwc HB118 HB18 D1 D2 D3 D4 HE2
              go_wp2_with fail
              refine wp_region_gen2 (N := 185) (fun a0 L a W => ∃ g4 g9 g10 l1 h1 l2 h2 u r, P13 wc (.agg #[.int .i64 p.kind, .int .u64 (p.a : Int), .int .u64 (p.b : Int), .slice p.addr p.parts.length p.cap]) (.agg #[.int .i64 q.kind, .int .u64 (q.a : Int), .int .u64 (q.b : Int), .slice q.addr q.parts.length q.cap]) (.cells #[.int .i64 p.kind, .int .u64 (p.a : Int), .int .u64 (p.b : Int), .slice p.addr p.parts.length p.cap, .int .i64 q.kind, .int .u64 (q.a : Int), .int .u64 (q.b : Int), .slice q.addr q.parts.length q.cap] 25 (0, 0)) p.abs.turn (.node 6 0 0 [p.abs, q.abs]) a0 L a W g4 g9 g10 l1 h1 l2 h2 u r) e8 (by kernel_rfl) ?_ ?_ ?_
              · exact ⟨0, 0, 0, 0, 0, 0, 0, p, q, rfl, rfl, fun _ _ _ _ _ _ _ _ _ => rfl, below_drew1 wc, by simp, by simp, by simp, by simp, by simp, by simp, by simp, by simp, by simp, by simp, by simp, by simp, by simp, by simp, by simp⟩
              · rintro i o L a wx hi hLi ⟨g4, g9, g10, l1, h1, l2, h2, u, r, hI⟩ hD
                have hi8 : i < 10 := (Array.getElem?_eq_some_iff.1 hi).1
                have hcase : i = 0 ∨ i = 1 ∨ i = 2 ∨ i = 3 ∨ i = 4 ∨ i = 5 ∨ i = 6 ∨ i = 7 ∨ i = 8 ∨ i = 9 := by omega
                clear hi8
                rcases hcase with rfl | rfl | rfl | rfl | rfl | rfl | rfl | rfl | rfl | rfl
                · obtain rfl := Option.some.inj hi
                  have e5 : a.tmps.getD 5 undef = .pointer (some ⟨w.heap.size, 0, none⟩) := (hI.other 5 (by decide) (by decide) (by decide) (by decide) (by decide) (by decide) (by decide) (by decide)).trans rfl
                  obtain ⟨⟨c0, c1, c2, c3⟩, -⟩ := BXc.out wx hI.below
                  refine ⟨rfl, mid_step (.agg #[.int .i64 p.kind, .int .u64 (p.a : Int), .int .u64 (p.b : Int), .slice p.addr p.parts.length p.cap]) wx (fun K hK => ?_) ⟨_, _, _, _, _, _, _, _, _, hI.op0 rfl⟩⟩
                  go_simp
                  exact hK
                · obtain rfl := Option.some.inj hi
                  have e143 := hI.o0 (hD 0 (by kernel_rfl))
                  have DX := DT.out wx hI.below
                  refine ⟨rfl, mid_call (fun v w' => ∃ z : V, v = (.agg #[.int .i64 z.kind, .int .u64 (z.a : Int), .int .u64 (z.b : Int), .slice z.addr z.parts.length z.cap]) ∧ z.abs = p.abs.turn ∧ Lies w' wx.heap.size w'.heap.size z ∧ Below wx.heap.size wx w') (fun K hK => ?_) (fun v w' h => ?_)⟩
                  · go_simp
                    refine DX.mono ?_
                    rintro e w' ⟨z, rfl, k1, k2, k4⟩
                    exact hK _ _ ⟨z, rfl, k1, k2, k4⟩
                  · obtain ⟨z, rfl, k1, k2, k4⟩ := h
                    exact ⟨_, _, _, _, _, _, _, _, _, hI.op1 rfl hLi k4 k1 k2⟩
                · obtain rfl := Option.some.inj hi
                  have e5 : a.tmps.getD 5 undef = .pointer (some ⟨w.heap.size, 0, none⟩) := (hI.other 5 (by decide) (by decide) (by decide) (by decide) (by decide) (by decide) (by decide) (by decide)).trans rfl
                  obtain ⟨⟨c0, c1, c2, c3⟩, -⟩ := BXc.out wx hI.below
                  refine ⟨rfl, mid_step (.agg #[.int .i64 p.kind, .int .u64 (p.a : Int), .int .u64 (p.b : Int), .slice p.addr p.parts.length p.cap]) wx (fun K hK => ?_) ⟨_, _, _, _, _, _, _, _, _, hI.op2 rfl⟩⟩
                  go_simp
                  exact hK
                · obtain rfl := Option.some.inj hi
                  have e5 : a.tmps.getD 6 undef = .pointer (some ⟨w.heap.size + 1, 0, none⟩) := (hI.other 6 (by decide) (by decide) (by decide) (by decide) (by decide) (by decide) (by decide) (by decide)).trans rfl
                  obtain ⟨-, c0, c1, c2, c3⟩ := BXc.out wx hI.below
                  refine ⟨rfl, mid_step (.agg #[.int .i64 q.kind, .int .u64 (q.a : Int), .int .u64 (q.b : Int), .slice q.addr q.parts.length q.cap]) wx (fun K hK => ?_) ⟨_, _, _, _, _, _, _, _, _, hI.op3 rfl⟩⟩
                  go_simp
                  exact hK
                · obtain rfl := Option.some.inj hi
                  have e145 := hI.o2 (hD 2 (by kernel_rfl))
                  have e146 := hI.o3 (hD 3 (by kernel_rfl))
                  have e145b : a.tmps[145]?.getD undef = (.agg #[.int .i64 p.kind, .int .u64 (p.a : Int), .int .u64 (p.b : Int), .slice p.addr p.parts.length p.cap]) := by rw [← Array.getD_eq_getD_getElem?]; exact e145
                  have e146b : a.tmps[146]?.getD undef = (.agg #[.int .i64 q.kind, .int .u64 (q.a : Int), .int .u64 (q.b : Int), .slice q.addr q.parts.length q.cap]) := by rw [← Array.getD_eq_getD_getElem?]; exact e146
                  refine ⟨rfl, mid_step (.slice (some ⟨wx.heap.size, 0, none⟩) 2 2) (wx.alloc (.cells #[.int .i64 p.kind, .int .u64 (p.a : Int), .int .u64 (p.b : Int), .slice p.addr p.parts.length p.cap, .int .i64 q.kind, .int .u64 (q.a : Int), .int .u64 (q.b : Int), .slice q.addr q.parts.length q.cap] 25)) (fun K hK => ?_) ⟨_, _, _, _, _, _, _, _, _, hI.op4 rfl _ (heap_alloc_new wx _)⟩⟩
                  go_simp
                  exact hK
                · obtain rfl := Option.some.inj hi
                  have h147 := hI.o4 (hD 4 (by kernel_rfl))
                  have e147 := h147.1
                  have n8 : L 8 = false := by
                    cases h8 : L 8 with
                    | false => rfl
                    | true => have := (hI.o8 h8).2.2.1; rw [hLi] at this; cases this
                  have n9 : L 9 = false := by
                    cases h9 : L 9 with
                    | false => rfl
                    | true => have := (hI.o9 h9).2.1; rw [hLi] at this; cases this
                  have DX := DB.out wx g4 hI.below (h147.2 n8 n9)
                  refine ⟨rfl, mid_call (fun v w' => ∃ z : V, v = (.agg #[.int .i64 z.kind, .int .u64 (z.a : Int), .int .u64 (z.b : Int), .slice z.addr z.parts.length z.cap]) ∧ z.abs = (T.node 6 0 0 [p.abs, q.abs]) ∧ Lies w' wx.heap.size w'.heap.size z ∧ Below wx.heap.size wx w') (fun K hK => ?_) (fun v w' h => ?_)⟩
                  · go_simp
                    refine DX.mono ?_
                    rintro e w' ⟨z, rfl, k1, k2, k4⟩
                    exact hK _ _ ⟨z, rfl, k1, k2, k4⟩
                  · obtain ⟨z, rfl, k1, k2, k4⟩ := h
                    exact ⟨_, _, _, _, _, _, _, _, _, hI.op5 rfl hLi k4 k1 k2⟩
                · obtain rfl := Option.some.inj hi
                  refine ⟨rfl, mid_step (.pointer (some ⟨wx.heap.size, 0, none⟩)) (wx.alloc (.cells #[.int .i64 0, .int .u64 0, .int .u64 0, .slice none 0 0] 25)) (fun K hK => ?_) ⟨_, _, _, _, _, _, _, _, _, hI.op6 rfl hLi _ _ _ _⟩⟩
                  go_simp
                  exact hK
                · obtain rfl := Option.some.inj hi
                  refine ⟨rfl, mid_step (.pointer (some ⟨wx.heap.size, 0, none⟩)) (wx.alloc (.cells #[.int .i64 0, .int .u64 0, .int .u64 0, .slice none 0 0] 25)) (fun K hK => ?_) ⟨_, _, _, _, _, _, _, _, _, hI.op7 rfl hLi _ _ _ _⟩⟩
                  go_simp
                  exact hK
                · obtain rfl := Option.some.inj hi
                  have k1 := hD 1 (by kernel_rfl)
                  have k5 := hD 5 (by kernel_rfl)
                  have k6 := hD 6 (by kernel_rfl)
                  have k7 := hD 7 (by kernel_rfl)
                  have ev := (hI.o1 k1).1
                  obtain ⟨eb, -, x0, x1, x2, x3, hrow⟩ := hI.o6 k6
                  have c0 := (cell_of_row wx _ 0 _ _ _ hrow).trans rfl
                  have c1 := (cell_of_row wx _ 1 _ _ _ hrow).trans rfl
                  have c2 := (cell_of_row wx _ 2 _ _ _ hrow).trans rfl
                  have c3 := (cell_of_row wx _ 3 _ _ _ hrow).trans rfl
                  have y0 := frozen_of_row wx g9 0 _ _ hrow
                  have y1 := frozen_of_row wx g9 1 _ _ hrow
                  have y2 := frozen_of_row wx g9 2 _ _ hrow
                  have y3 := frozen_of_row wx g9 3 _ _ hrow
                  refine ⟨rfl, mid_step undef _ (fun K hK => ?_) ⟨_, _, _, _, _, _, _, _, _, hI.op8 hLi k1 k5 k6 k7⟩⟩
                  go_simp
                  exact hK
                · obtain rfl := Option.some.inj hi
                  have k5 := hD 5 (by kernel_rfl)
                  have k6 := hD 6 (by kernel_rfl)
                  have k7 := hD 7 (by kernel_rfl)
                  have ev := (hI.o5 k5).1
                  obtain ⟨eb, -, x0, x1, x2, x3, hrow⟩ := hI.o7 k7
                  have c0 := (cell_of_row wx _ 0 _ _ _ hrow).trans rfl
                  have c1 := (cell_of_row wx _ 1 _ _ _ hrow).trans rfl
                  have c2 := (cell_of_row wx _ 2 _ _ _ hrow).trans rfl
                  have c3 := (cell_of_row wx _ 3 _ _ _ hrow).trans rfl
                  have y0 := frozen_of_row wx g10 0 _ _ hrow
                  have y1 := frozen_of_row wx g10 1 _ _ hrow
                  have y2 := frozen_of_row wx g10 2 _ _ hrow
                  have y3 := frozen_of_row wx g10 3 _ _ hrow
                  refine ⟨rfl, mid_step undef _ (fun K hK => ?_) ⟨_, _, _, _, _, _, _, _, _, hI.op9 hLi k5 k6 k7⟩⟩
                  go_simp
                  exact hK
              · rintro L a W13 ⟨g4, g9, g10, l1, h1, l2, h2, u, r, hI⟩ hall
                have hact := hI.act rfl hall
                obtain ⟨-, hua, huL, hu1, hu2⟩ := hI.o1 (hall 1 (by decide))
                obtain ⟨-, hra, hrL, hr1, hr2⟩ := hI.o5 (hall 5 (by decide))
                obtain ⟨-, -, -, hr9⟩ := hI.o8 (hall 8 (by decide))
                obtain ⟨-, -, hr10⟩ := hI.o9 (hall 9 (by decide))
                have hb13 := hI.below
                clear hI hall DT DB
                rw [hact]
                clear hact
                simp only [Act.put, List.setIfInBounds_toArray, List.set_cons_succ, List.set_cons_zero]
                have s13 := hb13.size
                have hb113 := HBC.out.1.trans (hb13.mono s1c)
                have hbw13 := HBC.out.2.trans (hb13.mono swc)
                have BXd : Hid (∀ W, Below W13.heap.size W13 W → (W.cell? ⟨w.heap.size, 0, none⟩ = some (.int .i64 p.kind) ∧ W.cell? ⟨w.heap.size, 1, none⟩ = some (.int .u64 (p.a : Int)) ∧ W.cell? ⟨w.heap.size, 2, none⟩ = some (.int .u64 (p.b : Int)) ∧ W.cell? ⟨w.heap.size, 3, none⟩ = some (.slice p.addr p.parts.length p.cap)) ∧ (W.cell? ⟨w.heap.size + 1, 0, none⟩ = some (.int .i64 q.kind) ∧ W.cell? ⟨w.heap.size + 1, 1, none⟩ = some (.int .u64 (q.a : Int)) ∧ W.cell? ⟨w.heap.size + 1, 2, none⟩ = some (.int .u64 (q.b : Int)) ∧ W.cell? ⟨w.heap.size + 1, 3, none⟩ = some (.slice q.addr q.parts.length q.cap)) ∧ (W.cell? ⟨g9, 0, none⟩ = some (.int .i64 u.kind) ∧ W.cell? ⟨g9, 1, none⟩ = some (.int .u64 (u.a : Int)) ∧ W.cell? ⟨g9, 2, none⟩ = some (.int .u64 (u.b : Int)) ∧ W.cell? ⟨g9, 3, none⟩ = some (.slice u.addr u.parts.length u.cap)) ∧ (W.cell? ⟨g10, 0, none⟩ = some (.int .i64 r.kind) ∧ W.cell? ⟨g10, 1, none⟩ = some (.int .u64 (r.a : Int)) ∧ W.cell? ⟨g10, 2, none⟩ = some (.int .u64 (r.b : Int)) ∧ W.cell? ⟨g10, 3, none⟩ = some (.slice r.addr r.parts.length r.cap))) := fun W hW => by
                  obtain ⟨hp', hq'⟩ := BXc.out W (hb13.trans (hW.mono s13))
                  have k9 := (hW.block g9 (lt_of_block hr9)).trans hr9
                  have k10 := (hW.block g10 (lt_of_block hr10)).trans hr10
                  exact ⟨hp', hq', ⟨(cell_of_row W _ 0 _ _ _ k9).trans rfl, (cell_of_row W _ 1 _ _ _ k9).trans rfl, (cell_of_row W _ 2 _ _ _ k9).trans rfl, (cell_of_row W _ 3 _ _ _ k9).trans rfl⟩, ⟨(cell_of_row W _ 0 _ _ _ k10).trans rfl, (cell_of_row W _ 1 _ _ _ k10).trans rfl, (cell_of_row W _ 2 _ _ _ k10).trans rfl, (cell_of_row W _ 3 _ _ _ k10).trans rfl⟩⟩
                have huc : u.abs.count ≤ 1000 := by rw [hua]; have := turn_count p.abs; omega
                have hrc : r.abs.count ≤ 1000 := by rw [hra]; simp only [T.count, T.countL]; omega
                have E1 : Hid (∀ W, Below W13.heap.size W13 W → Calls Tryz.prog 20 #[(.agg #[.int .i64 u.kind, .int .u64 (u.a : Int), .int .u64 (u.b : Int), .slice u.addr u.parts.length u.cap])] W fun e w' => e = .returned (.bool p.abs.turn.rightB) ∧ Below W.heap.size W w') := fun W h => by
                  have := pright_any u W l1 h1 (huL.under (h.mono hu2)) (by have := h.size; omega)
                  rwa [hua] at this
                have E2 : Hid (∀ W, Below W13.heap.size W13 W → Calls Tryz.prog 26 #[(.agg #[.int .i64 u.kind, .int .u64 (u.a : Int), .int .u64 (u.b : Int), .slice u.addr u.parts.length u.cap]), .int .u64 (x : Int), .int .u64 (y : Int)] W fun e w' => e = .returned (.bool (p.abs.turn.rightB && !(p.abs.askB x y))) ∧ Below W.heap.size W w') := fun W h => by
                  have := KH.out W u l1 h1 (huL.under (h.mono hu2)) (by have := h.size; omega) huc
                  rwa [hua, turn_asks] at this
                have E3 : Hid (∀ W, Below W13.heap.size W13 W → Calls Tryz.prog 26 #[(.agg #[.int .i64 p.kind, .int .u64 (p.a : Int), .int .u64 (p.b : Int), .slice p.addr p.parts.length p.cap]), .int .u64 (x : Int), .int .u64 (y : Int)] W fun e w' => e = .returned (.bool (p.abs.askB x y)) ∧ Below W.heap.size W w') := fun W h => by
                  have := KH.out W p 0 w.heap.size (HPL.out W (hbw13.trans (h.mono hbw13.size))) (by have := hbw13.size; have := h.size; omega) (by omega)
                  rwa [hrp, Bool.true_and] at this
                have E6 : Hid (∀ W, Below W13.heap.size W13 W → Calls Tryz.prog 26 #[(.agg #[.int .i64 q.kind, .int .u64 (q.a : Int), .int .u64 (q.b : Int), .slice q.addr q.parts.length q.cap]), .int .u64 (x : Int), .int .u64 (y : Int)] W fun e w' => e = .returned (.bool (q.abs.askB x y)) ∧ Below W.heap.size W w') := fun W h => by
                  have := KH.out W q 0 w.heap.size (HQL.out W (hbw13.trans (h.mono hbw13.size))) (by have := hbw13.size; have := h.size; omega) (by omega)
                  rwa [hrq, Bool.true_and] at this
                have E4 : Hid (∀ W, Below W13.heap.size W13 W → Calls Tryz.prog 20 #[(.agg #[.int .i64 r.kind, .int .u64 (r.a : Int), .int .u64 (r.b : Int), .slice r.addr r.parts.length r.cap])] W fun e w' => e = .returned (.bool (T.node 6 0 0 [p.abs, q.abs]).rightB) ∧ Below W.heap.size W w') := fun W h => by
                  have := pright_any r W l2 h2 (hrL.under (h.mono hr2)) (by have := h.size; omega)
                  rwa [hra] at this
                have E5 : Hid (∀ W, Below W13.heap.size W13 W → Calls Tryz.prog 26 #[(.agg #[.int .i64 r.kind, .int .u64 (r.a : Int), .int .u64 (r.b : Int), .slice r.addr r.parts.length r.cap]), .int .u64 (x : Int), .int .u64 (y : Int)] W fun e w' => e = .returned (.bool ((T.node 6 0 0 [p.abs, q.abs]).rightB && (p.abs.askB x y && q.abs.askB x y))) ∧ Below W.heap.size W w') := fun W h => by
                  have := KH.out W r l2 h2 (hrL.under (h.mono hr2)) (by have := h.size; omega) hrc
                  rwa [hra, both_asks] at this
                have E7 : Hid (∀ W, Below W13.heap.size W13 W → Calls Tryz.prog 9 #[] W fun e w' => e = .returned (.bool true) ∧ Below W.heap.size W w') := fun W h => WK.out W (hbw13.trans (h.mono hbw13.size))
                have HBW13 := Lib_hid hbw13
                have sw13 := hbw13.size
                clear KH WK HPL HQL hr9 hr10 huL hrL hua hra huc hrc BXc HBC hb13 hb113 hbw13 hu1 hu2 hr1 hr2
                generalize p.abs.turn.rightB = rt at *
                generalize (T.node 6 0 0 [p.abs, q.abs]).rightB = rb at *
                generalize p.abs.askB x y = ap at *
                generalize q.abs.askB x y = aq at *
                go_wp2_with fail
                go_cut [161] from 149 to 160 (fun v W => v = .bool false ∧ Hid (Below W13.heap.size W13 W))
                case first =>
                  clear E4 E5 E6 E7
                  have hc14 : rt = false ∨ (rt = true ∧ ap = false) ∨ (rt = true ∧ ap = true) := by cases rt <;> cases ap <;> simp
                  rcases hc14 with rfl | ⟨rfl, rfl⟩ | ⟨rfl, rfl⟩
                  · clear E2 E3
                    refine wp_region_fix (N := 185) (fun k => ([(.agg #[.int .i64 u.kind, .int .u64 (u.a : Int), .int .u64 (u.b : Int), .slice u.addr u.parts.length u.cap]), .bool false, .bool false, undef, undef, undef, undef, undef, undef, undef, undef, undef, .bool false] : List Value).getD k undef) e8 (by kernel_rfl) rfl ?_ ?_
                    · intro i o a wx hi hB hO hD
                      have hi8 : i < 13 := (Array.getElem?_eq_some_iff.1 hi).1
                      have hcase : i = 0 ∨ i = 1 ∨ i = 2 ∨ i = 3 ∨ i = 4 ∨ i = 5 ∨ i = 6 ∨ i = 7 ∨ i = 8 ∨ i = 9 ∨ i = 10 ∨ i = 11 ∨ i = 12 := by omega
                      clear hi8
                      have hW : Below W13.heap.size W13 wx := hB
                      rcases hcase with rfl | rfl | rfl | rfl | rfl | rfl | rfl | rfl | rfl | rfl | rfl | rfl | rfl
                      · obtain rfl := Option.some.inj hi
                        have ep : a.tmps.getD 20 undef = .pointer (some ⟨g9, 0, none⟩) := (hO 20 (by decide +kernel)).trans rfl
                        obtain ⟨-, -, ⟨c0, c1, c2, c3⟩, -⟩ := BXd.out wx hW
                        refine .inl ⟨rfl, mid_step (.agg #[.int .i64 u.kind, .int .u64 (u.a : Int), .int .u64 (u.b : Int), .slice u.addr u.parts.length u.cap]) wx (fun K hK => ?_) ⟨rfl, Below.refl _ _⟩⟩
                        go_simp
                        exact hK
                      · obtain rfl := Option.some.inj hi
                        have e149 : a.tmps.getD 149 undef = (.agg #[.int .i64 u.kind, .int .u64 (u.a : Int), .int .u64 (u.b : Int), .slice u.addr u.parts.length u.cap]) := hD 0 (by kernel_rfl) _ 149 rfl rfl
                        have DX := E1.out wx hW
                        refine .inl ⟨rfl, mid_call (fun v w' => v = .bool false ∧ Below wx.heap.size wx w') (fun K hK => ?_) (fun v w' h => ⟨congrArg (Act.put a _) h.1, h.2⟩)⟩
                        go_simp
                        refine DX.mono ?_
                        rintro e w' ⟨rfl, k1⟩
                        exact hK _ _ ⟨rfl, k1⟩
                      · obtain rfl := Option.some.inj hi
                        have e150 : a.tmps.getD 150 undef = .bool false := hD 1 (by kernel_rfl) _ 150 rfl rfl
                        refine .inl ⟨rfl, mid_step (.bool false) wx (fun K hK => ?_) ⟨rfl, Below.refl _ _⟩⟩
                        go_simp
                        exact hK
                      · obtain rfl := Option.some.inj hi
                        have eg : a.tmps.getD 151 undef = .bool false := hD 2 (by kernel_rfl) _ 151 rfl rfl
                        exact .inr ⟨wanted_no 2 151 rfl rfl rfl eg (by decide), rfl⟩
                      · obtain rfl := Option.some.inj hi
                        have eg : a.tmps.getD 151 undef = .bool false := hD 2 (by kernel_rfl) _ 151 rfl rfl
                        exact .inr ⟨wanted_no 2 151 rfl rfl rfl eg (by decide), rfl⟩
                      · obtain rfl := Option.some.inj hi
                        have eg : a.tmps.getD 151 undef = .bool false := hD 2 (by kernel_rfl) _ 151 rfl rfl
                        exact .inr ⟨wanted_no 2 151 rfl rfl rfl eg (by decide), rfl⟩
                      · obtain rfl := Option.some.inj hi
                        have eg : a.tmps.getD 151 undef = .bool false := hD 2 (by kernel_rfl) _ 151 rfl rfl
                        exact .inr ⟨wanted_no 2 151 rfl rfl rfl eg (by decide), rfl⟩
                      · obtain rfl := Option.some.inj hi
                        have eg : a.tmps.getD 151 undef = .bool false := hD 2 (by kernel_rfl) _ 151 rfl rfl
                        exact .inr ⟨wanted_no 2 151 rfl rfl rfl eg (by decide), rfl⟩
                      · obtain rfl := Option.some.inj hi
                        have eg : a.tmps.getD 151 undef = .bool false := hD 2 (by kernel_rfl) _ 151 rfl rfl
                        exact .inr ⟨wanted_no 2 151 rfl rfl rfl eg (by decide), rfl⟩
                      · obtain rfl := Option.some.inj hi
                        have eg : a.tmps.getD 151 undef = .bool false := hD 2 (by kernel_rfl) _ 151 rfl rfl
                        exact .inr ⟨wanted_no 2 151 rfl rfl rfl eg (by decide), rfl⟩
                      · obtain rfl := Option.some.inj hi
                        have eg : a.tmps.getD 151 undef = .bool false := hD 2 (by kernel_rfl) _ 151 rfl rfl
                        exact .inr ⟨wanted_no 2 151 rfl rfl rfl eg (by decide), rfl⟩
                      · obtain rfl := Option.some.inj hi
                        have eg : a.tmps.getD 151 undef = .bool false := hD 2 (by kernel_rfl) _ 151 rfl rfl
                        exact .inr ⟨wanted_no 2 151 rfl rfl rfl eg (by decide), rfl⟩
                      · obtain rfl := Option.some.inj hi
                        have e151 : a.tmps.getD 151 undef = .bool false := hD 2 (by kernel_rfl) _ 151 rfl rfl
                        have e160 : a.tmps.getD 160 undef = undef := hD 11 (by kernel_rfl) _ 160 rfl rfl
                        refine .inl ⟨rfl, mid_step (.bool false) wx (fun K hK => ?_) ⟨rfl, Below.refl _ _⟩⟩
                        go_simp
                        exact hK
                    · intro a wx hsz hdf hO hB hF
                      have hact := act_puts (a := a) [(149, (.agg #[.int .i64 u.kind, .int .u64 (u.a : Int), .int .u64 (u.b : Int), .slice u.addr u.parts.length u.cap])), (150, .bool false), (151, .bool false), (152, undef), (153, undef), (154, undef), (155, undef), (156, undef), (157, undef), (158, undef), (159, undef), (160, undef), (161, .bool false)] _ hsz hdf (by
                        intro s v hm
                        simp only [List.mem_cons, Prod.mk.injEq, List.not_mem_nil, or_false] at hm
                        rcases hm with ⟨rfl, rfl⟩ | ⟨rfl, rfl⟩ | ⟨rfl, rfl⟩ | ⟨rfl, rfl⟩ | ⟨rfl, rfl⟩ | ⟨rfl, rfl⟩ | ⟨rfl, rfl⟩ | ⟨rfl, rfl⟩ | ⟨rfl, rfl⟩ | ⟨rfl, rfl⟩ | ⟨rfl, rfl⟩ | ⟨rfl, rfl⟩ | ⟨rfl, rfl⟩
                        · exact ⟨(by show 149 < 185; decide), hF 0 (by decide) _ 149 rfl rfl⟩
                        · exact ⟨(by show 150 < 185; decide), hF 1 (by decide) _ 150 rfl rfl⟩
                        · exact ⟨(by show 151 < 185; decide), hF 2 (by decide) _ 151 rfl rfl⟩
                        · exact ⟨(by show 152 < 185; decide), hF 3 (by decide) _ 152 rfl rfl⟩
                        · exact ⟨(by show 153 < 185; decide), hF 4 (by decide) _ 153 rfl rfl⟩
                        · exact ⟨(by show 154 < 185; decide), hF 5 (by decide) _ 154 rfl rfl⟩
                        · exact ⟨(by show 155 < 185; decide), hF 6 (by decide) _ 155 rfl rfl⟩
                        · exact ⟨(by show 156 < 185; decide), hF 7 (by decide) _ 156 rfl rfl⟩
                        · exact ⟨(by show 157 < 185; decide), hF 8 (by decide) _ 157 rfl rfl⟩
                        · exact ⟨(by show 158 < 185; decide), hF 9 (by decide) _ 158 rfl rfl⟩
                        · exact ⟨(by show 159 < 185; decide), hF 10 (by decide) _ 159 rfl rfl⟩
                        · exact ⟨(by show 160 < 185; decide), hF 11 (by decide) _ 160 rfl rfl⟩
                        · exact ⟨(by show 161 < 185; decide), hF 12 (by decide) _ 161 rfl rfl⟩) (fun s hs => hO s (by exact hs))
                      rw [hact]
                      clear hact hF hO hsz hdf
                      simp only [List.foldl, Act.put, List.setIfInBounds_toArray, List.set_cons_succ, List.set_cons_zero]
                      go_step
                      go_step
                      go_meet
                      exact ⟨rfl, Lib_hid hB⟩
                  · go_region_held3 (fun W => (W.cell? ⟨w.heap.size, 0, none⟩ = some (.int .i64 p.kind) ∧ W.cell? ⟨w.heap.size, 1, none⟩ = some (.int .u64 (p.a : Int)) ∧ W.cell? ⟨w.heap.size, 2, none⟩ = some (.int .u64 (p.b : Int)) ∧ W.cell? ⟨w.heap.size, 3, none⟩ = some (.slice p.addr p.parts.length p.cap)) ∧ (W.cell? ⟨w.heap.size + 1, 0, none⟩ = some (.int .i64 q.kind) ∧ W.cell? ⟨w.heap.size + 1, 1, none⟩ = some (.int .u64 (q.a : Int)) ∧ W.cell? ⟨w.heap.size + 1, 2, none⟩ = some (.int .u64 (q.b : Int)) ∧ W.cell? ⟨w.heap.size + 1, 3, none⟩ = some (.slice q.addr q.parts.length q.cap)) ∧ (W.cell? ⟨g9, 0, none⟩ = some (.int .i64 u.kind) ∧ W.cell? ⟨g9, 1, none⟩ = some (.int .u64 (u.a : Int)) ∧ W.cell? ⟨g9, 2, none⟩ = some (.int .u64 (u.b : Int)) ∧ W.cell? ⟨g9, 3, none⟩ = some (.slice u.addr u.parts.length u.cap)) ∧ (W.cell? ⟨g10, 0, none⟩ = some (.int .i64 r.kind) ∧ W.cell? ⟨g10, 1, none⟩ = some (.int .u64 (r.a : Int)) ∧ W.cell? ⟨g10, 2, none⟩ = some (.int .u64 (r.b : Int)) ∧ W.cell? ⟨g10, 3, none⟩ = some (.slice r.addr r.parts.length r.cap)))
                      (first | exact BXd.out _ (below_like4 (Below.refl _ _) rfl rfl rfl rfl) | exact BXd.out _ ka | exact BXd.out _ kb | exact BXd.out _ kc)
                      ((first | (go_at_call 20; ((with_reducible refine (E1.out _ (by exact below_like4 (Below.refl _ _) rfl rfl rfl rfl)).mono ?_); rintro e wa ⟨rfl, ka'⟩; have ka : Below W13.heap.size W13 wa := ⟨ka'.os, ka'.tape, ka'.output, ka'.size, ka'.block⟩)) | (go_at_call 26; ((with_reducible refine (E2.out wa ka).mono ?_); rintro e wb' ⟨rfl, kb'⟩; have kb := ka.trans (kb'.mono ka.size))) | (go_at_call 26; ((with_reducible refine (E3.out wb' kb).mono ?_); rintro e wc' ⟨rfl, kc'⟩; have kc := kb.trans (kc'.mono kb.size)))))
                    all_goals
                      try go_step
                      try go_step
                      go_meet
                      exact ⟨rfl, Lib_hid kc⟩
                  · go_region_held3 (fun W => (W.cell? ⟨w.heap.size, 0, none⟩ = some (.int .i64 p.kind) ∧ W.cell? ⟨w.heap.size, 1, none⟩ = some (.int .u64 (p.a : Int)) ∧ W.cell? ⟨w.heap.size, 2, none⟩ = some (.int .u64 (p.b : Int)) ∧ W.cell? ⟨w.heap.size, 3, none⟩ = some (.slice p.addr p.parts.length p.cap)) ∧ (W.cell? ⟨w.heap.size + 1, 0, none⟩ = some (.int .i64 q.kind) ∧ W.cell? ⟨w.heap.size + 1, 1, none⟩ = some (.int .u64 (q.a : Int)) ∧ W.cell? ⟨w.heap.size + 1, 2, none⟩ = some (.int .u64 (q.b : Int)) ∧ W.cell? ⟨w.heap.size + 1, 3, none⟩ = some (.slice q.addr q.parts.length q.cap)) ∧ (W.cell? ⟨g9, 0, none⟩ = some (.int .i64 u.kind) ∧ W.cell? ⟨g9, 1, none⟩ = some (.int .u64 (u.a : Int)) ∧ W.cell? ⟨g9, 2, none⟩ = some (.int .u64 (u.b : Int)) ∧ W.cell? ⟨g9, 3, none⟩ = some (.slice u.addr u.parts.length u.cap)) ∧ (W.cell? ⟨g10, 0, none⟩ = some (.int .i64 r.kind) ∧ W.cell? ⟨g10, 1, none⟩ = some (.int .u64 (r.a : Int)) ∧ W.cell? ⟨g10, 2, none⟩ = some (.int .u64 (r.b : Int)) ∧ W.cell? ⟨g10, 3, none⟩ = some (.slice r.addr r.parts.length r.cap)))
                      (first | exact BXd.out _ (below_like4 (Below.refl _ _) rfl rfl rfl rfl) | exact BXd.out _ ka | exact BXd.out _ kb | exact BXd.out _ kc)
                      ((first | (go_at_call 20; ((with_reducible refine (E1.out _ (by exact below_like4 (Below.refl _ _) rfl rfl rfl rfl)).mono ?_); rintro e wa ⟨rfl, ka'⟩; have ka : Below W13.heap.size W13 wa := ⟨ka'.os, ka'.tape, ka'.output, ka'.size, ka'.block⟩)) | (go_at_call 26; ((with_reducible refine (E2.out wa ka).mono ?_); rintro e wb' ⟨rfl, kb'⟩; have kb := ka.trans (kb'.mono ka.size))) | (go_at_call 26; ((with_reducible refine (E3.out wb' kb).mono ?_); rintro e wc' ⟨rfl, kc'⟩; have kc := kb.trans (kc'.mono kb.size)))))
                    all_goals
                      try go_step
                      try go_step
                      go_meet
                      exact ⟨rfl, Lib_hid kc⟩
                case rest =>
                  obtain ⟨rfl, hbd⟩ := hcut
                  rename World => Wd
                  have hbd := hbd.out
                  clear E1 E2
                  go_wp2_with fail
                  have hc16 : rb = false ∨ (rb = true ∧ ap = false) ∨ (rb = true ∧ ap = true ∧ aq = false) ∨ (rb = true ∧ ap = true ∧ aq = true) := by cases rb <;> cases ap <;> cases aq <;> simp
                  rcases hc16 with rfl | ⟨rfl, rfl⟩ | ⟨rfl, rfl, rfl⟩ | ⟨rfl, rfl, rfl⟩
                  · clear E3 E5 E6
                    refine wp_region_fix (N := 185) (fun k => ([(.agg #[.int .i64 r.kind, .int .u64 (r.a : Int), .int .u64 (r.b : Int), .slice r.addr r.parts.length r.cap]), .bool false, .bool true, .bool true, undef, undef, undef, undef, undef, undef, undef, undef, undef, undef, undef, undef, undef, undef, undef, .bool true, .bool true, .bool true, .bool true, .bool true] : List Value).getD k undef) e8 (by kernel_rfl) rfl ?_ ?_
                    · intro i o a wx hi hB hO hD
                      have hi8 : i < 24 := (Array.getElem?_eq_some_iff.1 hi).1
                      have hcase : i = 0 ∨ i = 1 ∨ i = 2 ∨ i = 3 ∨ i = 4 ∨ i = 5 ∨ i = 6 ∨ i = 7 ∨ i = 8 ∨ i = 9 ∨ i = 10 ∨ i = 11 ∨ i = 12 ∨ i = 13 ∨ i = 14 ∨ i = 15 ∨ i = 16 ∨ i = 17 ∨ i = 18 ∨ i = 19 ∨ i = 20 ∨ i = 21 ∨ i = 22 ∨ i = 23 := by omega
                      clear hi8
                      have hW : Below W13.heap.size W13 wx := hbd.trans (hB.mono hbd.size)
                      rcases hcase with rfl | rfl | rfl | rfl | rfl | rfl | rfl | rfl | rfl | rfl | rfl | rfl | rfl | rfl | rfl | rfl | rfl | rfl | rfl | rfl | rfl | rfl | rfl | rfl
                      · obtain rfl := Option.some.inj hi
                        have ep : a.tmps.getD 21 undef = .pointer (some ⟨g10, 0, none⟩) := (hO 21 (by decide +kernel)).trans rfl
                        obtain ⟨-, -, -, c0, c1, c2, c3⟩ := BXd.out wx hW
                        refine .inl ⟨rfl, mid_step (.agg #[.int .i64 r.kind, .int .u64 (r.a : Int), .int .u64 (r.b : Int), .slice r.addr r.parts.length r.cap]) wx (fun K hK => ?_) ⟨rfl, Below.refl _ _⟩⟩
                        go_simp
                        exact hK
                      · obtain rfl := Option.some.inj hi
                        have e162 : a.tmps.getD 162 undef = (.agg #[.int .i64 r.kind, .int .u64 (r.a : Int), .int .u64 (r.b : Int), .slice r.addr r.parts.length r.cap]) := hD 0 (by kernel_rfl) _ 162 rfl rfl
                        have DX := E4.out wx hW
                        refine .inl ⟨rfl, mid_call (fun v w' => v = .bool false ∧ Below wx.heap.size wx w') (fun K hK => ?_) (fun v w' h => ⟨congrArg (Act.put a _) h.1, h.2⟩)⟩
                        go_simp
                        refine DX.mono ?_
                        rintro e w' ⟨rfl, k1⟩
                        exact hK _ _ ⟨rfl, k1⟩
                      · obtain rfl := Option.some.inj hi
                        have e163 : a.tmps.getD 163 undef = .bool false := hD 1 (by kernel_rfl) _ 163 rfl rfl
                        refine .inl ⟨rfl, mid_step (.bool true) wx (fun K hK => ?_) ⟨rfl, Below.refl _ _⟩⟩
                        go_simp
                        exact hK
                      · obtain rfl := Option.some.inj hi
                        have e164 : a.tmps.getD 164 undef = .bool true := hD 2 (by kernel_rfl) _ 164 rfl rfl
                        refine .inl ⟨rfl, mid_step (.bool true) wx (fun K hK => ?_) ⟨rfl, Below.refl _ _⟩⟩
                        go_simp
                        exact hK
                      · obtain rfl := Option.some.inj hi
                        have eg : a.tmps.getD 165 undef = .bool true := hD 3 (by kernel_rfl) _ 165 rfl rfl
                        exact .inr ⟨wanted_no 3 165 rfl rfl rfl eg (by decide), rfl⟩
                      · obtain rfl := Option.some.inj hi
                        have eg : a.tmps.getD 165 undef = .bool true := hD 3 (by kernel_rfl) _ 165 rfl rfl
                        exact .inr ⟨wanted_no 3 165 rfl rfl rfl eg (by decide), rfl⟩
                      · obtain rfl := Option.some.inj hi
                        have eg : a.tmps.getD 165 undef = .bool true := hD 3 (by kernel_rfl) _ 165 rfl rfl
                        exact .inr ⟨wanted_no 3 165 rfl rfl rfl eg (by decide), rfl⟩
                      · obtain rfl := Option.some.inj hi
                        have eg : a.tmps.getD 165 undef = .bool true := hD 3 (by kernel_rfl) _ 165 rfl rfl
                        exact .inr ⟨wanted_no 3 165 rfl rfl rfl eg (by decide), rfl⟩
                      · obtain rfl := Option.some.inj hi
                        have eg : a.tmps.getD 165 undef = .bool true := hD 3 (by kernel_rfl) _ 165 rfl rfl
                        exact .inr ⟨wanted_no 3 165 rfl rfl rfl eg (by decide), rfl⟩
                      · obtain rfl := Option.some.inj hi
                        have eg : a.tmps.getD 165 undef = .bool true := hD 3 (by kernel_rfl) _ 165 rfl rfl
                        exact .inr ⟨wanted_no 3 165 rfl rfl rfl eg (by decide), rfl⟩
                      · obtain rfl := Option.some.inj hi
                        have eg : a.tmps.getD 165 undef = .bool true := hD 3 (by kernel_rfl) _ 165 rfl rfl
                        exact .inr ⟨wanted_no 3 165 rfl rfl rfl eg (by decide), rfl⟩
                      · obtain rfl := Option.some.inj hi
                        have eg : a.tmps.getD 165 undef = .bool true := hD 3 (by kernel_rfl) _ 165 rfl rfl
                        exact .inr ⟨wanted_no 3 165 rfl rfl rfl eg (by decide), rfl⟩
                      · obtain rfl := Option.some.inj hi
                        have eg : a.tmps.getD 165 undef = .bool true := hD 3 (by kernel_rfl) _ 165 rfl rfl
                        exact .inr ⟨wanted_no 3 165 rfl rfl rfl eg (by decide), rfl⟩
                      · obtain rfl := Option.some.inj hi
                        have eg : a.tmps.getD 174 undef = undef := hD 12 (by kernel_rfl) _ 174 rfl rfl
                        exact .inr ⟨wanted_none 12 174 rfl rfl rfl eg, rfl⟩
                      · obtain rfl := Option.some.inj hi
                        have eg : a.tmps.getD 174 undef = undef := hD 12 (by kernel_rfl) _ 174 rfl rfl
                        exact .inr ⟨wanted_none 12 174 rfl rfl rfl eg, rfl⟩
                      · obtain rfl := Option.some.inj hi
                        have eg : a.tmps.getD 174 undef = undef := hD 12 (by kernel_rfl) _ 174 rfl rfl
                        exact .inr ⟨wanted_none 12 174 rfl rfl rfl eg, rfl⟩
                      · obtain rfl := Option.some.inj hi
                        have eg : a.tmps.getD 174 undef = undef := hD 12 (by kernel_rfl) _ 174 rfl rfl
                        exact .inr ⟨wanted_none 12 174 rfl rfl rfl eg, rfl⟩
                      · obtain rfl := Option.some.inj hi
                        have eg : a.tmps.getD 165 undef = .bool true := hD 3 (by kernel_rfl) _ 165 rfl rfl
                        exact .inr ⟨wanted_no 3 165 rfl rfl rfl eg (by decide), rfl⟩
                      · obtain rfl := Option.some.inj hi
                        have eg : a.tmps.getD 165 undef = .bool true := hD 3 (by kernel_rfl) _ 165 rfl rfl
                        exact .inr ⟨wanted_no 3 165 rfl rfl rfl eg (by decide), rfl⟩
                      · obtain rfl := Option.some.inj hi
                        have e165 : a.tmps.getD 165 undef = .bool true := hD 3 (by kernel_rfl) _ 165 rfl rfl
                        have e180 : a.tmps.getD 180 undef = undef := hD 18 (by kernel_rfl) _ 180 rfl rfl
                        refine .inl ⟨rfl, mid_step (.bool true) wx (fun K hK => ?_) ⟨rfl, Below.refl _ _⟩⟩
                        go_simp
                        exact hK
                      · obtain rfl := Option.some.inj hi
                        have e181 : a.tmps.getD 181 undef = .bool true := hD 19 (by kernel_rfl) _ 181 rfl rfl
                        refine .inl ⟨rfl, mid_step (.bool true) wx (fun K hK => ?_) ⟨rfl, Below.refl _ _⟩⟩
                        go_simp
                        exact hK
                      · obtain rfl := Option.some.inj hi
                        have eg : a.tmps.getD 182 undef = .bool true := hD 20 (by kernel_rfl) _ 182 rfl rfl
                        have DX := E7.out wx hW
                        refine .inl ⟨wanted_yes 20 182 rfl rfl rfl eg, mid_call (fun v w' => v = .bool true ∧ Below wx.heap.size wx w') (fun K hK => ?_) (fun v w' h => ⟨congrArg (Act.put a _) h.1, h.2⟩)⟩
                        go_simp
                        refine DX.mono ?_
                        rintro e w' ⟨rfl, k1⟩
                        exact hK _ _ ⟨rfl, k1⟩
                      · obtain rfl := Option.some.inj hi
                        have e182 : a.tmps.getD 182 undef = .bool true := hD 20 (by kernel_rfl) _ 182 rfl rfl
                        have e183 : a.tmps.getD 183 undef = .bool true := hD 21 (by kernel_rfl) _ 183 rfl rfl
                        refine .inl ⟨rfl, mid_step (.bool true) wx (fun K hK => ?_) ⟨rfl, Below.refl _ _⟩⟩
                        go_simp
                        exact hK
                      · obtain rfl := Option.some.inj hi
                        have e184 : a.tmps.getD 184 undef = .bool true := hD 22 (by kernel_rfl) _ 184 rfl rfl
                        refine .inl ⟨rfl, mid_step (.bool true) wx (fun K hK => ?_) ⟨rfl, Below.refl _ _⟩⟩
                        go_simp
                        exact hK
                    · intro a wx hsz hdf hO hB hF
                      have hact := act_puts (a := a) [(162, (.agg #[.int .i64 r.kind, .int .u64 (r.a : Int), .int .u64 (r.b : Int), .slice r.addr r.parts.length r.cap])), (163, .bool false), (164, .bool true), (165, .bool true), (166, undef), (167, undef), (168, undef), (169, undef), (170, undef), (171, undef), (172, undef), (173, undef), (174, undef), (175, undef), (176, undef), (177, undef), (178, undef), (179, undef), (180, undef), (181, .bool true), (182, .bool true), (183, .bool true), (184, .bool true), (10, .bool true)] _ hsz hdf (by
                        intro s v hm
                        simp only [List.mem_cons, Prod.mk.injEq, List.not_mem_nil, or_false] at hm
                        rcases hm with ⟨rfl, rfl⟩ | ⟨rfl, rfl⟩ | ⟨rfl, rfl⟩ | ⟨rfl, rfl⟩ | ⟨rfl, rfl⟩ | ⟨rfl, rfl⟩ | ⟨rfl, rfl⟩ | ⟨rfl, rfl⟩ | ⟨rfl, rfl⟩ | ⟨rfl, rfl⟩ | ⟨rfl, rfl⟩ | ⟨rfl, rfl⟩ | ⟨rfl, rfl⟩ | ⟨rfl, rfl⟩ | ⟨rfl, rfl⟩ | ⟨rfl, rfl⟩ | ⟨rfl, rfl⟩ | ⟨rfl, rfl⟩ | ⟨rfl, rfl⟩ | ⟨rfl, rfl⟩ | ⟨rfl, rfl⟩ | ⟨rfl, rfl⟩ | ⟨rfl, rfl⟩ | ⟨rfl, rfl⟩
                        · exact ⟨(by show 162 < 185; decide), hF 0 (by decide) _ 162 rfl rfl⟩
                        · exact ⟨(by show 163 < 185; decide), hF 1 (by decide) _ 163 rfl rfl⟩
                        · exact ⟨(by show 164 < 185; decide), hF 2 (by decide) _ 164 rfl rfl⟩
                        · exact ⟨(by show 165 < 185; decide), hF 3 (by decide) _ 165 rfl rfl⟩
                        · exact ⟨(by show 166 < 185; decide), hF 4 (by decide) _ 166 rfl rfl⟩
                        · exact ⟨(by show 167 < 185; decide), hF 5 (by decide) _ 167 rfl rfl⟩
                        · exact ⟨(by show 168 < 185; decide), hF 6 (by decide) _ 168 rfl rfl⟩
                        · exact ⟨(by show 169 < 185; decide), hF 7 (by decide) _ 169 rfl rfl⟩
                        · exact ⟨(by show 170 < 185; decide), hF 8 (by decide) _ 170 rfl rfl⟩
                        · exact ⟨(by show 171 < 185; decide), hF 9 (by decide) _ 171 rfl rfl⟩
                        · exact ⟨(by show 172 < 185; decide), hF 10 (by decide) _ 172 rfl rfl⟩
                        · exact ⟨(by show 173 < 185; decide), hF 11 (by decide) _ 173 rfl rfl⟩
                        · exact ⟨(by show 174 < 185; decide), hF 12 (by decide) _ 174 rfl rfl⟩
                        · exact ⟨(by show 175 < 185; decide), hF 13 (by decide) _ 175 rfl rfl⟩
                        · exact ⟨(by show 176 < 185; decide), hF 14 (by decide) _ 176 rfl rfl⟩
                        · exact ⟨(by show 177 < 185; decide), hF 15 (by decide) _ 177 rfl rfl⟩
                        · exact ⟨(by show 178 < 185; decide), hF 16 (by decide) _ 178 rfl rfl⟩
                        · exact ⟨(by show 179 < 185; decide), hF 17 (by decide) _ 179 rfl rfl⟩
                        · exact ⟨(by show 180 < 185; decide), hF 18 (by decide) _ 180 rfl rfl⟩
                        · exact ⟨(by show 181 < 185; decide), hF 19 (by decide) _ 181 rfl rfl⟩
                        · exact ⟨(by show 182 < 185; decide), hF 20 (by decide) _ 182 rfl rfl⟩
                        · exact ⟨(by show 183 < 185; decide), hF 21 (by decide) _ 183 rfl rfl⟩
                        · exact ⟨(by show 184 < 185; decide), hF 22 (by decide) _ 184 rfl rfl⟩
                        · exact ⟨(by show 10 < 185; decide), hF 23 (by decide) _ 10 rfl rfl⟩) (fun s hs => hO s (by exact hs))
                      rw [hact]
                      clear hact hF hO hsz hdf
                      simp only [List.foldl, Act.put, List.setIfInBounds_toArray, List.set_cons_succ, List.set_cons_zero]
                      have hbz := HBW13.out.trans ((hbd.trans (hB.mono hbd.size)).mono sw13)
                      go_wp2_with fail
                      go_ret
                      exact ⟨rfl, hbz⟩
                  · clear E6
                    refine wp_region_fix (N := 185) (fun k => ([(.agg #[.int .i64 r.kind, .int .u64 (r.a : Int), .int .u64 (r.b : Int), .slice r.addr r.parts.length r.cap]), .bool true, .bool false, .bool false, (.agg #[.int .i64 r.kind, .int .u64 (r.a : Int), .int .u64 (r.b : Int), .slice r.addr r.parts.length r.cap]), .int .u64 (x : Int), .int .u64 (y : Int), .bool false, (.agg #[.int .i64 p.kind, .int .u64 (p.a : Int), .int .u64 (p.b : Int), .slice p.addr p.parts.length p.cap]), .int .u64 (x : Int), .int .u64 (y : Int), .bool false, .bool false, undef, undef, undef, undef, .bool false, .bool true, .bool true, .bool true, .bool true, .bool true, .bool true] : List Value).getD k undef) e8 (by kernel_rfl) rfl ?_ ?_
                    · intro i o a wx hi hB hO hD
                      have hi8 : i < 24 := (Array.getElem?_eq_some_iff.1 hi).1
                      have hcase : i = 0 ∨ i = 1 ∨ i = 2 ∨ i = 3 ∨ i = 4 ∨ i = 5 ∨ i = 6 ∨ i = 7 ∨ i = 8 ∨ i = 9 ∨ i = 10 ∨ i = 11 ∨ i = 12 ∨ i = 13 ∨ i = 14 ∨ i = 15 ∨ i = 16 ∨ i = 17 ∨ i = 18 ∨ i = 19 ∨ i = 20 ∨ i = 21 ∨ i = 22 ∨ i = 23 := by omega
                      clear hi8
                      have hW : Below W13.heap.size W13 wx := hbd.trans (hB.mono hbd.size)
                      rcases hcase with rfl | rfl | rfl | rfl | rfl | rfl | rfl | rfl | rfl | rfl | rfl | rfl | rfl | rfl | rfl | rfl | rfl | rfl | rfl | rfl | rfl | rfl | rfl | rfl
                      · obtain rfl := Option.some.inj hi
                        have ep : a.tmps.getD 21 undef = .pointer (some ⟨g10, 0, none⟩) := (hO 21 (by decide +kernel)).trans rfl
                        obtain ⟨-, -, -, c0, c1, c2, c3⟩ := BXd.out wx hW
                        refine .inl ⟨rfl, mid_step (.agg #[.int .i64 r.kind, .int .u64 (r.a : Int), .int .u64 (r.b : Int), .slice r.addr r.parts.length r.cap]) wx (fun K hK => ?_) ⟨rfl, Below.refl _ _⟩⟩
                        go_simp
                        exact hK
                      · obtain rfl := Option.some.inj hi
                        have e162 : a.tmps.getD 162 undef = (.agg #[.int .i64 r.kind, .int .u64 (r.a : Int), .int .u64 (r.b : Int), .slice r.addr r.parts.length r.cap]) := hD 0 (by kernel_rfl) _ 162 rfl rfl
                        have DX := E4.out wx hW
                        refine .inl ⟨rfl, mid_call (fun v w' => v = .bool true ∧ Below wx.heap.size wx w') (fun K hK => ?_) (fun v w' h => ⟨congrArg (Act.put a _) h.1, h.2⟩)⟩
                        go_simp
                        refine DX.mono ?_
                        rintro e w' ⟨rfl, k1⟩
                        exact hK _ _ ⟨rfl, k1⟩
                      · obtain rfl := Option.some.inj hi
                        have e163 : a.tmps.getD 163 undef = .bool true := hD 1 (by kernel_rfl) _ 163 rfl rfl
                        refine .inl ⟨rfl, mid_step (.bool false) wx (fun K hK => ?_) ⟨rfl, Below.refl _ _⟩⟩
                        go_simp
                        exact hK
                      · obtain rfl := Option.some.inj hi
                        have e164 : a.tmps.getD 164 undef = .bool false := hD 2 (by kernel_rfl) _ 164 rfl rfl
                        refine .inl ⟨rfl, mid_step (.bool false) wx (fun K hK => ?_) ⟨rfl, Below.refl _ _⟩⟩
                        go_simp
                        exact hK
                      · obtain rfl := Option.some.inj hi
                        have eg : a.tmps.getD 165 undef = .bool false := hD 3 (by kernel_rfl) _ 165 rfl rfl
                        have ep : a.tmps.getD 21 undef = .pointer (some ⟨g10, 0, none⟩) := (hO 21 (by decide +kernel)).trans rfl
                        obtain ⟨-, -, -, c0, c1, c2, c3⟩ := BXd.out wx hW
                        refine .inl ⟨wanted_yes 3 165 rfl rfl rfl eg, mid_step (.agg #[.int .i64 r.kind, .int .u64 (r.a : Int), .int .u64 (r.b : Int), .slice r.addr r.parts.length r.cap]) wx (fun K hK => ?_) ⟨rfl, Below.refl _ _⟩⟩
                        go_simp
                        exact hK
                      · obtain rfl := Option.some.inj hi
                        have eg : a.tmps.getD 165 undef = .bool false := hD 3 (by kernel_rfl) _ 165 rfl rfl
                        have e3 : a.tmps.getD 3 undef = .int .u64 (x : Int) := (hO 3 (by decide +kernel)).trans rfl
                        refine .inl ⟨wanted_yes 3 165 rfl rfl rfl eg, mid_step (.int .u64 (x : Int)) wx (fun K hK => ?_) ⟨rfl, Below.refl _ _⟩⟩
                        go_simp
                        exact hK
                      · obtain rfl := Option.some.inj hi
                        have eg : a.tmps.getD 165 undef = .bool false := hD 3 (by kernel_rfl) _ 165 rfl rfl
                        have e4 : a.tmps.getD 4 undef = .int .u64 (y : Int) := (hO 4 (by decide +kernel)).trans rfl
                        refine .inl ⟨wanted_yes 3 165 rfl rfl rfl eg, mid_step (.int .u64 (y : Int)) wx (fun K hK => ?_) ⟨rfl, Below.refl _ _⟩⟩
                        go_simp
                        exact hK
                      · obtain rfl := Option.some.inj hi
                        have eg : a.tmps.getD 165 undef = .bool false := hD 3 (by kernel_rfl) _ 165 rfl rfl
                        have e166 : a.tmps.getD 166 undef = (.agg #[.int .i64 r.kind, .int .u64 (r.a : Int), .int .u64 (r.b : Int), .slice r.addr r.parts.length r.cap]) := hD 4 (by kernel_rfl) _ 166 rfl rfl
                        have e167 : a.tmps.getD 167 undef = .int .u64 (x : Int) := hD 5 (by kernel_rfl) _ 167 rfl rfl
                        have e168 : a.tmps.getD 168 undef = .int .u64 (y : Int) := hD 6 (by kernel_rfl) _ 168 rfl rfl
                        have DX := E5.out wx hW
                        refine .inl ⟨wanted_yes 3 165 rfl rfl rfl eg, mid_call (fun v w' => v = .bool false ∧ Below wx.heap.size wx w') (fun K hK => ?_) (fun v w' h => ⟨congrArg (Act.put a _) h.1, h.2⟩)⟩
                        go_simp
                        refine DX.mono ?_
                        rintro e w' ⟨rfl, k1⟩
                        exact hK _ _ ⟨rfl, k1⟩
                      · obtain rfl := Option.some.inj hi
                        have eg : a.tmps.getD 165 undef = .bool false := hD 3 (by kernel_rfl) _ 165 rfl rfl
                        have ep : a.tmps.getD 5 undef = .pointer (some ⟨w.heap.size, 0, none⟩) := (hO 5 (by decide +kernel)).trans rfl
                        obtain ⟨⟨c0, c1, c2, c3⟩, -, -, -⟩ := BXd.out wx hW
                        refine .inl ⟨wanted_yes 3 165 rfl rfl rfl eg, mid_step (.agg #[.int .i64 p.kind, .int .u64 (p.a : Int), .int .u64 (p.b : Int), .slice p.addr p.parts.length p.cap]) wx (fun K hK => ?_) ⟨rfl, Below.refl _ _⟩⟩
                        go_simp
                        exact hK
                      · obtain rfl := Option.some.inj hi
                        have eg : a.tmps.getD 165 undef = .bool false := hD 3 (by kernel_rfl) _ 165 rfl rfl
                        have e3 : a.tmps.getD 3 undef = .int .u64 (x : Int) := (hO 3 (by decide +kernel)).trans rfl
                        refine .inl ⟨wanted_yes 3 165 rfl rfl rfl eg, mid_step (.int .u64 (x : Int)) wx (fun K hK => ?_) ⟨rfl, Below.refl _ _⟩⟩
                        go_simp
                        exact hK
                      · obtain rfl := Option.some.inj hi
                        have eg : a.tmps.getD 165 undef = .bool false := hD 3 (by kernel_rfl) _ 165 rfl rfl
                        have e4 : a.tmps.getD 4 undef = .int .u64 (y : Int) := (hO 4 (by decide +kernel)).trans rfl
                        refine .inl ⟨wanted_yes 3 165 rfl rfl rfl eg, mid_step (.int .u64 (y : Int)) wx (fun K hK => ?_) ⟨rfl, Below.refl _ _⟩⟩
                        go_simp
                        exact hK
                      · obtain rfl := Option.some.inj hi
                        have eg : a.tmps.getD 165 undef = .bool false := hD 3 (by kernel_rfl) _ 165 rfl rfl
                        have e170 : a.tmps.getD 170 undef = (.agg #[.int .i64 p.kind, .int .u64 (p.a : Int), .int .u64 (p.b : Int), .slice p.addr p.parts.length p.cap]) := hD 8 (by kernel_rfl) _ 170 rfl rfl
                        have e171 : a.tmps.getD 171 undef = .int .u64 (x : Int) := hD 9 (by kernel_rfl) _ 171 rfl rfl
                        have e172 : a.tmps.getD 172 undef = .int .u64 (y : Int) := hD 10 (by kernel_rfl) _ 172 rfl rfl
                        have DX := E3.out wx hW
                        refine .inl ⟨wanted_yes 3 165 rfl rfl rfl eg, mid_call (fun v w' => v = .bool false ∧ Below wx.heap.size wx w') (fun K hK => ?_) (fun v w' h => ⟨congrArg (Act.put a _) h.1, h.2⟩)⟩
                        go_simp
                        refine DX.mono ?_
                        rintro e w' ⟨rfl, k1⟩
                        exact hK _ _ ⟨rfl, k1⟩
                      · obtain rfl := Option.some.inj hi
                        have eg : a.tmps.getD 165 undef = .bool false := hD 3 (by kernel_rfl) _ 165 rfl rfl
                        have e173 : a.tmps.getD 173 undef = .bool false := hD 11 (by kernel_rfl) _ 173 rfl rfl
                        refine .inl ⟨wanted_yes 3 165 rfl rfl rfl eg, mid_step (.bool false) wx (fun K hK => ?_) ⟨rfl, Below.refl _ _⟩⟩
                        go_simp
                        exact hK
                      · obtain rfl := Option.some.inj hi
                        have eg : a.tmps.getD 174 undef = .bool false := hD 12 (by kernel_rfl) _ 174 rfl rfl
                        exact .inr ⟨wanted_no 12 174 rfl rfl rfl eg (by decide), rfl⟩
                      · obtain rfl := Option.some.inj hi
                        have eg : a.tmps.getD 174 undef = .bool false := hD 12 (by kernel_rfl) _ 174 rfl rfl
                        exact .inr ⟨wanted_no 12 174 rfl rfl rfl eg (by decide), rfl⟩
                      · obtain rfl := Option.some.inj hi
                        have eg : a.tmps.getD 174 undef = .bool false := hD 12 (by kernel_rfl) _ 174 rfl rfl
                        exact .inr ⟨wanted_no 12 174 rfl rfl rfl eg (by decide), rfl⟩
                      · obtain rfl := Option.some.inj hi
                        have eg : a.tmps.getD 174 undef = .bool false := hD 12 (by kernel_rfl) _ 174 rfl rfl
                        exact .inr ⟨wanted_no 12 174 rfl rfl rfl eg (by decide), rfl⟩
                      · obtain rfl := Option.some.inj hi
                        have eg : a.tmps.getD 165 undef = .bool false := hD 3 (by kernel_rfl) _ 165 rfl rfl
                        have e174 : a.tmps.getD 174 undef = .bool false := hD 12 (by kernel_rfl) _ 174 rfl rfl
                        have e178 : a.tmps.getD 178 undef = undef := hD 16 (by kernel_rfl) _ 178 rfl rfl
                        refine .inl ⟨wanted_yes 3 165 rfl rfl rfl eg, mid_step (.bool false) wx (fun K hK => ?_) ⟨rfl, Below.refl _ _⟩⟩
                        go_simp
                        exact hK
                      · obtain rfl := Option.some.inj hi
                        have eg : a.tmps.getD 165 undef = .bool false := hD 3 (by kernel_rfl) _ 165 rfl rfl
                        have e169 : a.tmps.getD 169 undef = .bool false := hD 7 (by kernel_rfl) _ 169 rfl rfl
                        have e179 : a.tmps.getD 179 undef = .bool false := hD 17 (by kernel_rfl) _ 179 rfl rfl
                        refine .inl ⟨wanted_yes 3 165 rfl rfl rfl eg, mid_step (.bool true) wx (fun K hK => ?_) ⟨rfl, Below.refl _ _⟩⟩
                        go_simp
                        exact hK
                      · obtain rfl := Option.some.inj hi
                        have e165 : a.tmps.getD 165 undef = .bool false := hD 3 (by kernel_rfl) _ 165 rfl rfl
                        have e180 : a.tmps.getD 180 undef = .bool true := hD 18 (by kernel_rfl) _ 180 rfl rfl
                        refine .inl ⟨rfl, mid_step (.bool true) wx (fun K hK => ?_) ⟨rfl, Below.refl _ _⟩⟩
                        go_simp
                        exact hK
                      · obtain rfl := Option.some.inj hi
                        have e181 : a.tmps.getD 181 undef = .bool true := hD 19 (by kernel_rfl) _ 181 rfl rfl
                        refine .inl ⟨rfl, mid_step (.bool true) wx (fun K hK => ?_) ⟨rfl, Below.refl _ _⟩⟩
                        go_simp
                        exact hK
                      · obtain rfl := Option.some.inj hi
                        have eg : a.tmps.getD 182 undef = .bool true := hD 20 (by kernel_rfl) _ 182 rfl rfl
                        have DX := E7.out wx hW
                        refine .inl ⟨wanted_yes 20 182 rfl rfl rfl eg, mid_call (fun v w' => v = .bool true ∧ Below wx.heap.size wx w') (fun K hK => ?_) (fun v w' h => ⟨congrArg (Act.put a _) h.1, h.2⟩)⟩
                        go_simp
                        refine DX.mono ?_
                        rintro e w' ⟨rfl, k1⟩
                        exact hK _ _ ⟨rfl, k1⟩
                      · obtain rfl := Option.some.inj hi
                        have e182 : a.tmps.getD 182 undef = .bool true := hD 20 (by kernel_rfl) _ 182 rfl rfl
                        have e183 : a.tmps.getD 183 undef = .bool true := hD 21 (by kernel_rfl) _ 183 rfl rfl
                        refine .inl ⟨rfl, mid_step (.bool true) wx (fun K hK => ?_) ⟨rfl, Below.refl _ _⟩⟩
                        go_simp
                        exact hK
                      · obtain rfl := Option.some.inj hi
                        have e184 : a.tmps.getD 184 undef = .bool true := hD 22 (by kernel_rfl) _ 184 rfl rfl
                        refine .inl ⟨rfl, mid_step (.bool true) wx (fun K hK => ?_) ⟨rfl, Below.refl _ _⟩⟩
                        go_simp
                        exact hK
                    · intro a wx hsz hdf hO hB hF
                      have hact := act_puts (a := a) [(162, (.agg #[.int .i64 r.kind, .int .u64 (r.a : Int), .int .u64 (r.b : Int), .slice r.addr r.parts.length r.cap])), (163, .bool true), (164, .bool false), (165, .bool false), (166, (.agg #[.int .i64 r.kind, .int .u64 (r.a : Int), .int .u64 (r.b : Int), .slice r.addr r.parts.length r.cap])), (167, .int .u64 (x : Int)), (168, .int .u64 (y : Int)), (169, .bool false), (170, (.agg #[.int .i64 p.kind, .int .u64 (p.a : Int), .int .u64 (p.b : Int), .slice p.addr p.parts.length p.cap])), (171, .int .u64 (x : Int)), (172, .int .u64 (y : Int)), (173, .bool false), (174, .bool false), (175, undef), (176, undef), (177, undef), (178, undef), (179, .bool false), (180, .bool true), (181, .bool true), (182, .bool true), (183, .bool true), (184, .bool true), (10, .bool true)] _ hsz hdf (by
                        intro s v hm
                        simp only [List.mem_cons, Prod.mk.injEq, List.not_mem_nil, or_false] at hm
                        rcases hm with ⟨rfl, rfl⟩ | ⟨rfl, rfl⟩ | ⟨rfl, rfl⟩ | ⟨rfl, rfl⟩ | ⟨rfl, rfl⟩ | ⟨rfl, rfl⟩ | ⟨rfl, rfl⟩ | ⟨rfl, rfl⟩ | ⟨rfl, rfl⟩ | ⟨rfl, rfl⟩ | ⟨rfl, rfl⟩ | ⟨rfl, rfl⟩ | ⟨rfl, rfl⟩ | ⟨rfl, rfl⟩ | ⟨rfl, rfl⟩ | ⟨rfl, rfl⟩ | ⟨rfl, rfl⟩ | ⟨rfl, rfl⟩ | ⟨rfl, rfl⟩ | ⟨rfl, rfl⟩ | ⟨rfl, rfl⟩ | ⟨rfl, rfl⟩ | ⟨rfl, rfl⟩ | ⟨rfl, rfl⟩
                        · exact ⟨(by show 162 < 185; decide), hF 0 (by decide) _ 162 rfl rfl⟩
                        · exact ⟨(by show 163 < 185; decide), hF 1 (by decide) _ 163 rfl rfl⟩
                        · exact ⟨(by show 164 < 185; decide), hF 2 (by decide) _ 164 rfl rfl⟩
                        · exact ⟨(by show 165 < 185; decide), hF 3 (by decide) _ 165 rfl rfl⟩
                        · exact ⟨(by show 166 < 185; decide), hF 4 (by decide) _ 166 rfl rfl⟩
                        · exact ⟨(by show 167 < 185; decide), hF 5 (by decide) _ 167 rfl rfl⟩
                        · exact ⟨(by show 168 < 185; decide), hF 6 (by decide) _ 168 rfl rfl⟩
                        · exact ⟨(by show 169 < 185; decide), hF 7 (by decide) _ 169 rfl rfl⟩
                        · exact ⟨(by show 170 < 185; decide), hF 8 (by decide) _ 170 rfl rfl⟩
                        · exact ⟨(by show 171 < 185; decide), hF 9 (by decide) _ 171 rfl rfl⟩
                        · exact ⟨(by show 172 < 185; decide), hF 10 (by decide) _ 172 rfl rfl⟩
                        · exact ⟨(by show 173 < 185; decide), hF 11 (by decide) _ 173 rfl rfl⟩
                        · exact ⟨(by show 174 < 185; decide), hF 12 (by decide) _ 174 rfl rfl⟩
                        · exact ⟨(by show 175 < 185; decide), hF 13 (by decide) _ 175 rfl rfl⟩
                        · exact ⟨(by show 176 < 185; decide), hF 14 (by decide) _ 176 rfl rfl⟩
                        · exact ⟨(by show 177 < 185; decide), hF 15 (by decide) _ 177 rfl rfl⟩
                        · exact ⟨(by show 178 < 185; decide), hF 16 (by decide) _ 178 rfl rfl⟩
                        · exact ⟨(by show 179 < 185; decide), hF 17 (by decide) _ 179 rfl rfl⟩
                        · exact ⟨(by show 180 < 185; decide), hF 18 (by decide) _ 180 rfl rfl⟩
                        · exact ⟨(by show 181 < 185; decide), hF 19 (by decide) _ 181 rfl rfl⟩
                        · exact ⟨(by show 182 < 185; decide), hF 20 (by decide) _ 182 rfl rfl⟩
                        · exact ⟨(by show 183 < 185; decide), hF 21 (by decide) _ 183 rfl rfl⟩
                        · exact ⟨(by show 184 < 185; decide), hF 22 (by decide) _ 184 rfl rfl⟩
                        · exact ⟨(by show 10 < 185; decide), hF 23 (by decide) _ 10 rfl rfl⟩) (fun s hs => hO s (by exact hs))
                      rw [hact]
                      clear hact hF hO hsz hdf
                      simp only [List.foldl, Act.put, List.setIfInBounds_toArray, List.set_cons_succ, List.set_cons_zero]
                      have hbz := HBW13.out.trans ((hbd.trans (hB.mono hbd.size)).mono sw13)
                      go_wp2_with fail
                      go_ret
                      exact ⟨rfl, hbz⟩
                  · go_region_held3 (fun W => (W.cell? ⟨w.heap.size, 0, none⟩ = some (.int .i64 p.kind) ∧ W.cell? ⟨w.heap.size, 1, none⟩ = some (.int .u64 (p.a : Int)) ∧ W.cell? ⟨w.heap.size, 2, none⟩ = some (.int .u64 (p.b : Int)) ∧ W.cell? ⟨w.heap.size, 3, none⟩ = some (.slice p.addr p.parts.length p.cap)) ∧ (W.cell? ⟨w.heap.size + 1, 0, none⟩ = some (.int .i64 q.kind) ∧ W.cell? ⟨w.heap.size + 1, 1, none⟩ = some (.int .u64 (q.a : Int)) ∧ W.cell? ⟨w.heap.size + 1, 2, none⟩ = some (.int .u64 (q.b : Int)) ∧ W.cell? ⟨w.heap.size + 1, 3, none⟩ = some (.slice q.addr q.parts.length q.cap)) ∧ (W.cell? ⟨g9, 0, none⟩ = some (.int .i64 u.kind) ∧ W.cell? ⟨g9, 1, none⟩ = some (.int .u64 (u.a : Int)) ∧ W.cell? ⟨g9, 2, none⟩ = some (.int .u64 (u.b : Int)) ∧ W.cell? ⟨g9, 3, none⟩ = some (.slice u.addr u.parts.length u.cap)) ∧ (W.cell? ⟨g10, 0, none⟩ = some (.int .i64 r.kind) ∧ W.cell? ⟨g10, 1, none⟩ = some (.int .u64 (r.a : Int)) ∧ W.cell? ⟨g10, 2, none⟩ = some (.int .u64 (r.b : Int)) ∧ W.cell? ⟨g10, 3, none⟩ = some (.slice r.addr r.parts.length r.cap)))
                      (first | exact BXd.out _ (below_like4 hbd rfl rfl rfl rfl) | exact BXd.out _ ka | exact BXd.out _ kb | exact BXd.out _ kc | exact BXd.out _ kd | exact BXd.out _ ke)
                      ((first | (go_at_call 20; ((with_reducible refine (E4.out _ (by exact below_like4 hbd rfl rfl rfl rfl)).mono ?_); rintro e wa ⟨rfl, ka'⟩; have ka : Below W13.heap.size W13 wa := hbd.trans (⟨ka'.os, ka'.tape, ka'.output, ka'.size, fun i hi => ka'.block i (Nat.lt_of_lt_of_le hi hbd.size)⟩ : Below W13.heap.size Wd wa))) | (go_at_call 26; ((with_reducible refine (E5.out wa ka).mono ?_); rintro e wb' ⟨rfl, kb'⟩; have kb := ka.trans (kb'.mono ka.size))) | (go_at_call 26; ((with_reducible refine (E3.out wb' kb).mono ?_); rintro e wc' ⟨rfl, kc'⟩; have kc := kb.trans (kc'.mono kb.size))) | (go_at_call 26; ((with_reducible refine (E6.out wc' kc).mono ?_); rintro e wd' ⟨rfl, kd'⟩; have kd := kc.trans (kd'.mono kc.size))) | (go_at_call 9; ((with_reducible refine (E7.out wd' kd).mono ?_); rintro e we' ⟨rfl, ke'⟩; have ke := kd.trans (ke'.mono kd.size)))))
                    all_goals
                      have hbz := HBW13.out.trans (ke.mono sw13)
                      go_wp2_with fail
                      go_ret
                      exact ⟨rfl, hbz⟩
                    
                  · go_region_held3 (fun W => (W.cell? ⟨w.heap.size, 0, none⟩ = some (.int .i64 p.kind) ∧ W.cell? ⟨w.heap.size, 1, none⟩ = some (.int .u64 (p.a : Int)) ∧ W.cell? ⟨w.heap.size, 2, none⟩ = some (.int .u64 (p.b : Int)) ∧ W.cell? ⟨w.heap.size, 3, none⟩ = some (.slice p.addr p.parts.length p.cap)) ∧ (W.cell? ⟨w.heap.size + 1, 0, none⟩ = some (.int .i64 q.kind) ∧ W.cell? ⟨w.heap.size + 1, 1, none⟩ = some (.int .u64 (q.a : Int)) ∧ W.cell? ⟨w.heap.size + 1, 2, none⟩ = some (.int .u64 (q.b : Int)) ∧ W.cell? ⟨w.heap.size + 1, 3, none⟩ = some (.slice q.addr q.parts.length q.cap)) ∧ (W.cell? ⟨g9, 0, none⟩ = some (.int .i64 u.kind) ∧ W.cell? ⟨g9, 1, none⟩ = some (.int .u64 (u.a : Int)) ∧ W.cell? ⟨g9, 2, none⟩ = some (.int .u64 (u.b : Int)) ∧ W.cell? ⟨g9, 3, none⟩ = some (.slice u.addr u.parts.length u.cap)) ∧ (W.cell? ⟨g10, 0, none⟩ = some (.int .i64 r.kind) ∧ W.cell? ⟨g10, 1, none⟩ = some (.int .u64 (r.a : Int)) ∧ W.cell? ⟨g10, 2, none⟩ = some (.int .u64 (r.b : Int)) ∧ W.cell? ⟨g10, 3, none⟩ = some (.slice r.addr r.parts.length r.cap)))
                      (first | exact BXd.out _ (below_like4 hbd rfl rfl rfl rfl) | exact BXd.out _ ka | exact BXd.out _ kb | exact BXd.out _ kc | exact BXd.out _ kd | exact BXd.out _ ke)
                      ((first | (go_at_call 20; ((with_reducible refine (E4.out _ (by exact below_like4 hbd rfl rfl rfl rfl)).mono ?_); rintro e wa ⟨rfl, ka'⟩; have ka : Below W13.heap.size W13 wa := hbd.trans (⟨ka'.os, ka'.tape, ka'.output, ka'.size, fun i hi => ka'.block i (Nat.lt_of_lt_of_le hi hbd.size)⟩ : Below W13.heap.size Wd wa))) | (go_at_call 26; ((with_reducible refine (E5.out wa ka).mono ?_); rintro e wb' ⟨rfl, kb'⟩; have kb := ka.trans (kb'.mono ka.size))) | (go_at_call 26; ((with_reducible refine (E3.out wb' kb).mono ?_); rintro e wc' ⟨rfl, kc'⟩; have kc := kb.trans (kc'.mono kb.size))) | (go_at_call 26; ((with_reducible refine (E6.out wc' kc).mono ?_); rintro e wd' ⟨rfl, kd'⟩; have kd := kc.trans (kd'.mono kc.size))) | (go_at_call 9; ((with_reducible refine (E7.out wd' kd).mono ?_); rintro e we' ⟨rfl, ke'⟩; have ke := kd.trans (ke'.mono kd.size)))))
                    all_goals
                      have hbz := HBW13.out.trans (ke.mono sw13)
                      go_wp2_with fail
                      go_ret
                      exact ⟨rfl, hbz⟩
                    
        | false =>
          have R5 := KRp.out w5 hb15
          rw [hrp] at R5
          obtain ⟨⟨c0, c1, c2, c3⟩, -⟩ := BX.out w5 hb15
          go_wp2_with fail
          refine R5.mono ?_
          rintro e w6 ⟨rfl, hb6⟩
          have hb16 := hb15.trans (hb6.mono hb15.size)
          have hbw6 := HB1.out.trans (hb16.mono HB1.out.size)
          clear R5 c0 c1 c2 c3
          have W1 := WK.out w6 hbw6
          go_wp2_with fail
          refine W1.mono ?_
          rintro e wz ⟨rfl, hbz'⟩
          have hbz := hbw6.trans (hbz'.mono hbw6.size)
          go_wp2_with fail
          go_ret
          exact ⟨rfl, hbz⟩
      | false =>
        have R5 := KRp.out w4 hb14
        rw [hrp] at R5
        obtain ⟨⟨c0, c1, c2, c3⟩, -⟩ := BX.out w4 hb14
        go_wp2_with fail
        refine R5.mono ?_
        rintro e w6 ⟨rfl, hb6⟩
        have hb16 := hb14.trans (hb6.mono hb14.size)
        have hbw6 := HB1.out.trans (hb16.mono HB1.out.size)
        have s6 := hbw6.size
        clear R5 c0 c1 c2 c3
        have hput : p.abs.put = [] := by unfold T.put; rw [hrp]; rfl
        have htx : p.abs.text = [] := by unfold T.text; rw [hrp]; rfl
        have R6 : Calls Tryz.prog 11 #[(.agg #[.int .i64 p.kind, .int .u64 (p.a : Int), .int .u64 (p.b : Int), .slice p.addr p.parts.length p.cap])] w6 (Made 5 p.abs.put w6) := pput_any p w6 0 w.heap.size (HPL.out w6 hbw6) (by omega)
        rw [hput] at R6
        obtain ⟨⟨c0, c1, c2, c3⟩, -⟩ := BX.out w6 hb16
        go_wp2_with fail
        refine R6.mono ?_
        rintro e w7 hMd
        obtain ⟨A7, n7, c7, rfl, ho7, hb7⟩ := made_iff.1 hMd
        obtain rfl : n7 = 0 := by have := ho7.1; rw [bs_length] at this; simp at this; omega
        have hb17 := hb16.trans (hb7.mono hb16.size)
        have hbw7 := HB1.out.trans (hb17.mono HB1.out.size)
        have s7 := hbw7.size
        clear R6 hMd ho7 c0 c1 c2 c3
        have R7 : Calls Tryz.prog 28 #[(.agg #[.int .i64 p.kind, .int .u64 (p.a : Int), .int .u64 (p.b : Int), .slice p.addr p.parts.length p.cap])] w7 fun e w' => e = .returned (.string ⟨p.abs.text.toArray⟩) ∧ Below w7.heap.size w7 w' := ptext_any p w7 0 w.heap.size w.heap.size (HPL.out w7 hbw7) (by omega) (HEn.out w7 hbw7) (by omega)
        rw [htx] at R7
        obtain ⟨⟨c0, c1, c2, c3⟩, -⟩ := BX.out w7 hb17
        go_wp2_with fail
        refine R7.mono ?_
        rintro e w8 ⟨rfl, hb8⟩
        have hb18 := hb17.trans (hb8.mono hb17.size)
        have hbw8 := HB1.out.trans (hb18.mono HB1.out.size)
        have s8 := hbw8.size
        clear R7 c0 c1 c2 c3
        have R8 : Calls Tryz.prog 26 #[(.agg #[.int .i64 p.kind, .int .u64 (p.a : Int), .int .u64 (p.b : Int), .slice p.addr p.parts.length p.cap]), .int .u64 (x : Int), .int .u64 (y : Int)] w8 fun e w' => e = .returned (.bool (p.abs.rightB && p.abs.askB x y)) ∧ Below w8.heap.size w8 w' := pholds_any x y hx hy p w8 0 w.heap.size (HPL.out w8 hbw8) (by omega) (by omega)
        rw [hrp, Bool.false_and] at R8
        obtain ⟨⟨c0, c1, c2, c3⟩, -⟩ := BX.out w8 hb18
        go_wp2_with fail
        refine R8.mono ?_
        rintro e w9 ⟨rfl, hb9⟩
        have hb19 := hb18.trans (hb9.mono hb18.size)
        have hbw9 := HB1.out.trans (hb19.mono HB1.out.size)
        clear R8 c0 c1 c2 c3
        have W1 := WK.out w9 hbw9
        go_wp2_with fail
        refine W1.mono ?_
        rintro e wz ⟨rfl, hbz'⟩
        have hbz := hbw9.trans (hbz'.mono hbw9.size)
        go_wp2_with fail
        go_ret
        exact ⟨rfl, hbz⟩
    · have hor : decide (q.abs.count ≤ 60) = false ∨ (decide (q.abs.count ≤ 60) = true ∧ (decide ((nb : Int) > 40) = true ∧ (40 : Int) < (nb : Int) ∧ 40 < nb)) := by
        by_cases h : q.abs.count ≤ 60
        · exact .inr ⟨decide_eq_true h, decide_eq_true (by omega), by omega, by omega⟩
        · exact .inl (decide_eq_false h)
      clear hcq FQ
      rcases hor with e1 | ⟨e1, e2, e3, e4⟩
      · rw [e1]
        have W1 := WK.out w3 hbw3
        go_wp2_with fail
        refine W1.mono ?_
        rintro e wz ⟨rfl, hbz'⟩
        have hbz := hbw3.trans (hbz'.mono hbw3.size)
        go_wp2_with fail
        go_ret
        exact ⟨rfl, hbz⟩
      · rw [e1]
        have W1 := WK.out w3 hbw3
        go_wp2_with fail
        refine W1.mono ?_
        rintro e wz ⟨rfl, hbz'⟩
        have hbz := hbw3.trans (hbz'.mono hbw3.size)
        go_wp2_with fail
        go_ret
        exact ⟨rfl, hbz⟩
  · rw [decide_eq_false hcp]
    have W1 := WK.out w2 hbw2
    go_wp2_with fail
    refine W1.mono ?_
    rintro e wz ⟨rfl, hbz'⟩
    have hbz := hbw2.trans (hbz'.mono hbw2.size)
    go_wp2_with fail
    go_ret
    exact ⟨rfl, hbz⟩

end Go.Proofs.YtiijdacnfhiagaaGreatDoor
