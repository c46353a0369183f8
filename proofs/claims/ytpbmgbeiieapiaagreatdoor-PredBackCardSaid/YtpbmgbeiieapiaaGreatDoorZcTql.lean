/-
  Layer 4: the document's Read.
  Layer 4: the chapter's examples, plainly.
  Layer 4: what is told is read as it was, plainly.
-/
import Derived.Test.YtpbmgbeiieapiaaGreatDoorZcTdx
import Derived.Test.YtpbmgbeiieapiaaGreatDoorZcTpk
import Derived.Test.YtpbmgbeiieapiaaGreatDoorZcTqc
import Derived.Test.YtpbmgbeiieapiaaGreatDoorZcTqd

namespace Go.Proofs.YtpbmgbeiieapiaaGreatDoor
open Go Go.RowKit
set_option linter.unusedVariables false

set_option maxRecDepth 100000 in
theorem rRead_ret {Q : Ending → World → Prop} {W : World} {h0 z : Nat} {x0 x1 x2 x3 : Value} (HR2 : W.heap[h0]? = some (.cells #[x0, x1, x2, x3] 30 (0, 0))) (HF2 : Q (.returned (.tuple #[.agg #[x0, x1, x2, x3], .int .i64 z])) W)
    (tmps : Array Value) (h2 : tmps.getD 2 undef = .pointer (some ⟨h0, 0, none⟩)) (h3 : tmps.getD 3 undef = .int .i64 z) : bodyPost Tryz.prog Tryz.f38 Q .ret { tmps := tmps, defers := [] } W := by
  rw [Array.getD_eq_getD_getElem?] at h2 h3
  have d0 := cell_of_row W _ 0 _ _ _ HR2
  have d1 := cell_of_row W _ 1 _ _ _ HR2
  have d2 := cell_of_row W _ 2 _ _ _ HR2
  have d3 := cell_of_row W _ 3 _ _ _ HR2
  simp at d0 d1 d2 d3
  exact bodyPost_ret (v := .tuple #[.agg #[x0, x1, x2, x3], .int .i64 z]) (by simp [results, Tryz.results38, go_sem, h2, h3, d0, d1, d2, d3]) rfl HF2

/-- A text has no more nodes than bytes. -/
theorem moreS_count {f : List UInt8 → Option (T × List UInt8)} (hf : ∀ s t r, f s = some (t, r) → t.count + r.length ≤ s.length) : ∀ (n : Nat) (s : List UInt8) (ts : List T) (r : List UInt8), moreS f n s = some (ts, r) → T.countL ts + r.length ≤ s.length
  | 0, s, ts, r, h => by cases h
  | n + 1, s, ts, r, h => by
    unfold moreS at h
    split at h
    · obtain ⟨⟨t, r'⟩, h1, h⟩ := Option.bind_eq_some_iff.1 h
      obtain ⟨⟨ts', r2⟩, h2, he⟩ := Option.map_eq_some_iff.1 h
      injection he with e1 e2
      subst e1 e2
      have := hf _ _ _ h1
      have := moreS_count hf n r' ts' r2 h2
      have := trim_le s [44]
      simp only [T.countL] at *
      omega
    · split at h
      · injection h with h
        injection h with e1 e2
        subst e1 e2
        have := trim_le s [41]
        simp only [T.countL]
        omega
      · cases h
theorem rdS_count : ∀ (d : Nat) (s : List UInt8) (t : T) (r : List UInt8), rdS d s = some (t, r) → t.count + r.length ≤ s.length
  | 0, s, t, r, h => by cases h
  | d + 1, s, t, r, h => by
    unfold rdS at h
    split at h
    · cases h
    · rename_i hk
      obtain ⟨⟨vs, r1⟩, h1, h⟩ := Option.bind_eq_some_iff.1 h
      obtain ⟨⟨ts, r2⟩, h2, he⟩ := Option.map_eq_some_iff.1 h
      injection he with e1 e2
      subst e1 e2
      have h3 := (numsS_len _ _ _ _ h1).2.1
      have h4 := (kindS_le s).2.2 hk
      have h5 : T.countL ts + r2.length ≤ r1.length := by
        unfold partsS at h2
        split at h2
        · obtain ⟨⟨t', r'⟩, h5, he⟩ := Option.map_eq_some_iff.1 h2
          injection he with e1 e2
          subst e1 e2
          have := rdS_count d _ _ _ h5
          simp only [T.countL] at *
          omega
        · split at h2
          · unfold listS at h2
            split at h2
            · have := trim_le r1 [40]
              split at h2
              · injection h2 with h2
                injection h2 with e1 e2
                subst e1 e2
                have := trim_le (Lib.trimPrefix r1 [40]) [41]
                simp only [T.countL]
                omega
              · obtain ⟨⟨t', r'⟩, h6, h2⟩ := Option.bind_eq_some_iff.1 h2
                obtain ⟨⟨ts', r3⟩, h7, he⟩ := Option.map_eq_some_iff.1 h2
                injection he with e1 e2
                subst e1 e2
                have := rdS_count d _ _ _ h6
                have := moreS_count (rdS_count d) _ _ _ _ h7
                simp only [T.countL] at *
                omega
            · cases h2
          · injection h2 with h2
            injection h2 with e1 e2
            subst e1 e2
            simp only [T.countL]
            omega
      rw [T.count]
      simp only at *
      omega

set_option maxRecDepth 100000 in
set_option maxHeartbeats 3200000 in
theorem rRead_any (s : List UInt8) (w : World) (hl : s.length ≤ 900) : Calls Tryz.prog 38 #[.string ⟨s.toArray⟩] w (AnsEnd 30 (ansT (readT s)) w) := by
  obtain ⟨w1, hw1⟩ : ∃ w1, w1 = w.alloc (.cells #[.int .i64 0, .int .u64 0, .int .u64 0, .slice none 0 0] 30) := ⟨_, rfl⟩
  have q1 := heap_alloc_new w (.cells #[.int .i64 0, .int .u64 0, .int .u64 0, .slice none 0 0] 30)
  have b1 := below_new w (.cells #[.int .i64 0, .int .u64 0, .int .u64 0, .slice none 0 0] 30)
  have s1 : w1.heap.size = w.heap.size + 1 := by rw [hw1]; simp
  rw [← hw1] at q1 b1
  have ND := rread4_any 8 (Nat.le_refl _) s w1 (by omega)
  have ND : Calls Tryz.prog 54 #[.string ⟨s.toArray⟩, .int .i64 8] w1 (RdE4 8 s w1) := ND
  have HOK : Hid (∀ t, rdS 8 s = some (t, []) → t.rightB = true → ansT (readT s) = (t, 0)) := fun t h1 h2 => by unfold readT; rw [h1]; simp [h2, ansT]
  have HNO : Hid ((∀ t, rdS 8 s = some (t, []) → t.rightB = false) → ansT (readT s) = (.node 0 0 0 [], 40)) := fun h => by
    unfold readT
    cases h8 : rdS 8 s with
    | none => rfl
    | some x =>
      obtain ⟨t, r⟩ := x
      cases r with
      | nil => simp [h t h8, ansT]
      | cons c r => rfl
  generalize ansT (readT s) = o at *
  have HBADEND : Hid (∀ W : World, W.heap[w.heap.size]? = some (.cells #[.int .i64 0, .int .u64 0, .int .u64 0, .slice none 0 0] 30 (0, 0)) → Below w.heap.size w W → (∀ t, rdS 8 s = some (t, []) → t.rightB = false) →
      AnsEnd 30 o w (.returned (.tuple #[.agg #[.int .i64 0, .int .u64 0, .int .u64 0, .slice none 0 0], .int .i64 40])) (put4 W w.heap.size (.int .i64 0) (.int .u64 0) (.int .u64 0) (.slice none 0 0)) ∧
      (put4 W w.heap.size (.int .i64 0) (.int .u64 0) (.int .u64 0) (.slice none 0 0)).heap[w.heap.size]? = some (.cells #[.int .i64 0, .int .u64 0, .int .u64 0, .slice none 0 0] 30 (0, 0))) := by
    intro W h1 h2 h3
    rw [HNO.out h3]
    exact ⟨⟨.node 0 0 0 none 0 [], rfl, by simp [V.abs, V.absL], zero_lies _ _ _, zero_shp _ _ _, put4_below h2 (Nat.le_refl _) _ _ _ _⟩, put4_row h1 _ _ _ _⟩
  subst hw1
  go_enter Tryz.func38, Tryz.ntmps38
  go_upto_region 1 with (fail)
  generalize w.alloc (.cells #[.int .i64 0, .int .u64 0, .int .u64 0, .slice none 0 0] 30) = w2 at *
  go_wp2_with fail
  refine ND.mono ?_
  rintro e w3 ⟨k, a, b, n, c, A, s', ok, rfl, hb3, hR⟩
  have s3 := hb3.size
  have b4 := below_new w3 (.cells #[.int .i64 k, .int .u64 (a : Int), .int .u64 (b : Int), .slice A n c] 30)
  have r4 := heap_alloc_new w3 (.cells #[.int .i64 k, .int .u64 (a : Int), .int .u64 (b : Int), .slice A n c] 30)
  have q4 := (b4.block w.heap.size (by omega)).trans ((hb3.block w.heap.size (by omega)).trans q1)
  have hb4 := (b1.trans (hb3.mono (by omega))).trans (b4.mono (by omega))
  have s4 : (w3.alloc (.cells #[.int .i64 k, .int .u64 (a : Int), .int .u64 (b : Int), .slice A n c] 30)).heap.size = w3.heap.size + 1 := by simp
  have HB4B := Lib_hid b4
  clear ND q1 b1 hb3 b4
  go_upto_region 2 with (fail)
  generalize w3.alloc (.cells #[.int .i64 k, .int .u64 (a : Int), .int .u64 (b : Int), .slice A n c] 30) = w4 at *
  cases ok with
  | false =>
    have hno : ∀ t', rdS 8 s = some (t', []) → t'.rightB = false := fun t' h => by rw [hR.no rfl] at h; cases h
    have e0 := cell_of_row w4 _ 0 _ _ _ q4
    have e1 := cell_of_row w4 _ 1 _ _ _ q4
    have e2 := cell_of_row w4 _ 2 _ _ _ q4
    have e3 := cell_of_row w4 _ 3 _ _ _ q4
    have y0 := frozen_of_row w4 w.heap.size 0 _ _ q4
    have y1 := frozen_of_row w4 w.heap.size 1 _ _ q4
    have y2 := frozen_of_row w4 w.heap.size 2 _ _ q4
    have y3 := frozen_of_row w4 w.heap.size 3 _ _ q4
    simp at e0 e1 e2 e3
    have HX := Lib_hid (HBADEND.out w4 q4 hb4 hno)
    clear q4 hb4
    go_wp2_with fail
    show bodyPost _ _ _ _ _ (put4 w4 w.heap.size (.int .i64 0) (.int .u64 0) (.int .u64 0) (.slice none 0 0))
    have HX2 := HX.out
    clear HX HBADEND e0 e1 e2 e3 y0 y1 y2 y3
    generalize put4 w4 w.heap.size (.int .i64 0) (.int .u64 0) (.int .u64 0) (.slice none 0 0) = W2 at *
    exact rRead_ret (z := 40) HX2.2 HX2.1 _ rfl rfl
  | true =>
    obtain ⟨t, us, e1, e2, e3, hL, hS⟩ := hR.yes rfl
    by_cases hs' : s' = []
    · subst hs'
      have hct : t.count ≤ 1000 := by
        have := rdS_count 8 _ _ _ e1
        omega
      have hL4 := hL.under (HB4B.out.mono (Nat.le_refl _))
      have RR := rright_any (.node k a b A c us) w4 _ _ hL4 (by omega) (by rw [e2]; exact hct)
      rw [e2] at RR
      simp only [V.val, V.kind, V.a, V.b, V.sl, V.addr, V.parts, V.cap] at RR
      have d0 := cell_of_row w4 _ 0 _ _ _ r4
      have d1 := cell_of_row w4 _ 1 _ _ _ r4
      have d2 := cell_of_row w4 _ 2 _ _ _ r4
      have d3 := cell_of_row w4 _ 3 _ _ _ r4
      simp at d0 d1 d2 d3
      have HLS := Lib_hid (And.intro e1 (And.intro e2 (And.intro hL4 (hS.under HB4B.out))))
      have HUS := Lib_hid e3
      clear e1 e2 hL hS hL4 hct hR
      rw [e3] at RR
      clear e3
      go_wp2_with fail
      refine RR.mono ?_
      rintro e w5 ⟨rfl, hb5⟩
      have q5 := (hb5.block w.heap.size (by omega)).trans q4
      have r5 := (hb5.block w3.heap.size (by omega)).trans r4
      have hbw5 := hb4.trans (hb5.mono hb4.size)
      have HB5 := Lib_hid hb5
      clear RR d0 d1 d2 d3 q4 r4 hb4 hb5
      cases hr : t.rightB with
      | true =>
        obtain ⟨e1, e2, hL4, hS4⟩ := HLS.out
        have HX : Hid (AnsEnd 30 o w (.returned (.tuple #[.agg #[.int .i64 k, .int .u64 (a : Int), .int .u64 (b : Int), .slice A n c], .int .i64 0])) (put4 w5 w.heap.size (.int .i64 k) (.int .u64 (a : Int)) (.int .u64 (b : Int)) (.slice A n c)) ∧
            (put4 w5 w.heap.size (.int .i64 k) (.int .u64 (a : Int)) (.int .u64 (b : Int)) (.slice A n c)).heap[w.heap.size]? = some (.cells #[.int .i64 k, .int .u64 (a : Int), .int .u64 (b : Int), .slice A n c] 30 (0, 0))) := by
          have h5s := HB5.out.size
          rw [HOK.out t e1 hr]
          refine ⟨⟨.node k a b A c us, by rw [← HUS.out]; rfl, e2, ?_, ?_, put4_below hbw5 (Nat.le_refl _) _ _ _ _⟩, put4_row q5 _ _ _ _⟩
          · rw [put4_size]
            exact ((hL4.under (HB5.out.mono (by omega))).keep fun p h1 _ => World.cell?_of_block (put4_else w5 (by omega) _ _ _ _)).more (by omega) (by omega)
          · exact (Shp.keepL _ (hL4.under (HB5.out.mono (by omega))) (hS4.under HB5.out) fun g' h1 _ => put4_else w5 (by omega) _ _ _ _).more (by omega)
        have e0 := cell_of_row w5 _ 0 _ _ _ q5
        have e1 := cell_of_row w5 _ 1 _ _ _ q5
        have e2 := cell_of_row w5 _ 2 _ _ _ q5
        have e3 := cell_of_row w5 _ 3 _ _ _ q5
        have y0 := frozen_of_row w5 w.heap.size 0 _ _ q5
        have y1 := frozen_of_row w5 w.heap.size 1 _ _ q5
        have y2 := frozen_of_row w5 w.heap.size 2 _ _ q5
        have y3 := frozen_of_row w5 w.heap.size 3 _ _ q5
        have f0 := cell_of_row w5 _ 0 _ _ _ r5
        have f1 := cell_of_row w5 _ 1 _ _ _ r5
        have f2 := cell_of_row w5 _ 2 _ _ _ r5
        have f3 := cell_of_row w5 _ 3 _ _ _ r5
        simp at e0 e1 e2 e3 f0 f1 f2 f3
        clear q5 r5 hbw5 hL4 hS4 HLS
        go_wp2_with fail
        show bodyPost _ _ _ _ _ (put4 w5 w.heap.size (.int .i64 k) (.int .u64 (a : Int)) (.int .u64 (b : Int)) (.slice A n c))
        have HX2 := HX.out
        clear HX HBADEND e0 e1 e2 e3 y0 y1 y2 y3 f0 f1 f2 f3
        generalize put4 w5 w.heap.size (.int .i64 k) (.int .u64 (a : Int)) (.int .u64 (b : Int)) (.slice A n c) = W2 at *
        exact rRead_ret (z := 0) HX2.2 HX2.1 _ rfl rfl
      | false =>
        have hno : ∀ t', rdS 8 s = some (t', []) → t'.rightB = false := fun t' h => by
          have := HLS.out.1
          rw [h] at this
          injection this with this
          injection this with this _
          rw [this]; exact hr
        have e0 := cell_of_row w5 _ 0 _ _ _ q5
        have e1 := cell_of_row w5 _ 1 _ _ _ q5
        have e2 := cell_of_row w5 _ 2 _ _ _ q5
        have e3 := cell_of_row w5 _ 3 _ _ _ q5
        have y0 := frozen_of_row w5 w.heap.size 0 _ _ q5
        have y1 := frozen_of_row w5 w.heap.size 1 _ _ q5
        have y2 := frozen_of_row w5 w.heap.size 2 _ _ q5
        have y3 := frozen_of_row w5 w.heap.size 3 _ _ q5
        simp at e0 e1 e2 e3
        have HX := Lib_hid (HBADEND.out w5 q5 hbw5 hno)
        clear q5 hbw5
        go_wp2_with fail
        show bodyPost _ _ _ _ _ (put4 w5 w.heap.size (.int .i64 0) (.int .u64 0) (.int .u64 0) (.slice none 0 0))
        have HX2 := HX.out
        clear HX HBADEND e0 e1 e2 e3 y0 y1 y2 y3
        generalize put4 w5 w.heap.size (.int .i64 0) (.int .u64 0) (.int .u64 0) (.slice none 0 0) = W2 at *
        exact rRead_ret (z := 40) HX2.2 HX2.1 _ rfl rfl
    · have hsb : (s' == []) = false := by cases s' with | nil => exact absurd rfl hs' | cons x y => rfl
      have hno : ∀ t', rdS 8 s = some (t', []) → t'.rightB = false := fun t' h => by
        rw [e1] at h
        injection h with h
        injection h with _ h
        exact absurd h hs'
      have HS' := Lib_hid hs'
      clear hs' e1
      have e0 := cell_of_row w4 _ 0 _ _ _ q4
      have e1 := cell_of_row w4 _ 1 _ _ _ q4
      have e2 := cell_of_row w4 _ 2 _ _ _ q4
      have e3 := cell_of_row w4 _ 3 _ _ _ q4
      have y0 := frozen_of_row w4 w.heap.size 0 _ _ q4
      have y1 := frozen_of_row w4 w.heap.size 1 _ _ q4
      have y2 := frozen_of_row w4 w.heap.size 2 _ _ q4
      have y3 := frozen_of_row w4 w.heap.size 3 _ _ q4
      simp at e0 e1 e2 e3
      have HX := Lib_hid (HBADEND.out w4 q4 hb4 hno)
      clear q4 hb4
      go_wp2_with fail
      show bodyPost _ _ _ _ _ (put4 w4 w.heap.size (.int .i64 0) (.int .u64 0) (.int .u64 0) (.slice none 0 0))
      have HX2 := HX.out
      clear HX HBADEND e0 e1 e2 e3 y0 y1 y2 y3
      generalize put4 w4 w.heap.size (.int .i64 0) (.int .u64 0) (.int .u64 0) (.slice none 0 0) = W2 at *
      exact rRead_ret (z := 40) HX2.2 HX2.1 _ rfl rfl

end Go.Proofs.YtpbmgbeiieapiaaGreatDoor

namespace Go.Proofs.YtpbmgbeiieapiaaGreatDoor
open Go Go.RowKit
set_option linter.unusedVariables false

theorem dec1 {n : Nat} (h : n < 10) : Lib.decDigits n = [UInt8.ofNat (48 + n)] := by rw [Lib.decDigits, dif_pos h]
theorem num_one {n : Nat} (hn : n < 10) (r : List UInt8) (hr : ∀ c, r[0]? = some c → isDig c = false) : numS (UInt8.ofNat (48 + n) :: r) = some (n, r) := by
  have hd : isDig (UInt8.ofNat (48 + n)) = true := by
    rw [isDig_iff]
    have : (UInt8.ofNat (48 + n)).toNat = 48 + n := by simp; omega
    omega
  have h0 := (DgI.zero (UInt8.ofNat (48 + n) :: r)).step (c := UInt8.ofNat (48 + n)) rfl hd (by have := (UInt8.ofNat (48 + n)).toNat_lt; omega)
  have e : 0 * 10 + ((UInt8.ofNat (48 + n)).toNat - 48) = n := by simp; omega
  rw [e] at h0
  rw [h0.done (by simp) (fun c hc => hr c (by simpa using hc)), if_pos ⟨by omega, by rw [dec1 hn]; rfl⟩]
  rfl

def exT : T := .node 6 0 0 [.node 2 7 0 [], .node 5 0 0 [.node 4 3 1 []]]
theorem ex1 : ansT (readT [38, 40, 120, 60, 61, 55, 44, 33, 118, 37, 51, 61, 49, 41]) = (exT, 0) := by
  have n7 : numS [55, 44, 33, 118, 37, 51, 61, 49, 41] = some (7, [44, 33, 118, 37, 51, 61, 49, 41]) := num_one (n := 7) (by omega) _ (by intro c h; injection h with h; subst h; rfl)
  have n3 : numS [51, 61, 49, 41] = some (3, [61, 49, 41]) := num_one (n := 3) (by omega) _ (by intro c h; injection h with h; subst h; rfl)
  have n1 : numS [49, 41] = some (1, [41]) := num_one (n := 1) (by omega) _ (by intro c h; injection h with h; subst h; rfl)
  have a1 : rdS 7 [120, 60, 61, 55, 44, 33, 118, 37, 51, 61, 49, 41] = some (.node 2 7 0 [], [44, 33, 118, 37, 51, 61, 49, 41]) := by
    rw [rd_x (d := 6) rfl rfl]
    show (numS [55, 44, 33, 118, 37, 51, 61, 49, 41]).map _ = _
    rw [n7]; rfl
  have a2 : rdS 6 [118, 37, 51, 61, 49, 41] = some (.node 4 3 1 [], [41]) := by
    rw [rd_m (d := 5) rfl rfl rfl rfl]
    show (numS [51, 61, 49, 41]).bind _ = _
    rw [n3]
    show (if Lib.hasPrefix [61, 49, 41] [61] then (numS [49, 41]).map _ else none) = _
    rw [n1]; rfl
  have a3 : rdS 7 [33, 118, 37, 51, 61, 49, 41] = some (.node 5 0 0 [.node 4 3 1 []], [41]) := by
    rw [rd_n (d := 6) (fun i q1 q2 => by have : i = 1 ∨ i = 2 ∨ i = 3 ∨ i = 4 := by omega
                                         rcases this with rfl | rfl | rfl | rfl <;> rfl) rfl]
    show (rdS 6 [118, 37, 51, 61, 49, 41]).map _ = _
    rw [a2]; rfl
  have a4 : rdS 8 [38, 40, 120, 60, 61, 55, 44, 33, 118, 37, 51, 61, 49, 41] = some (exT, []) := by
    rw [rd_r (d := 7) 6 38 (by decide) (fun i q1 q2 => by have : i = 1 ∨ i = 2 ∨ i = 3 ∨ i = 4 ∨ i = 5 := by omega
                                                          rcases this with rfl | rfl | rfl | rfl | rfl <;> rfl) rfl]
    show (listB (rdS 7) [120, 60, 61, 55, 44, 33, 118, 37, 51, 61, 49, 41]).map _ = _
    have b1 : listB (rdS 7) [120, 60, 61, 55, 44, 33, 118, 37, 51, 61, 49, 41] = some ([.node 2 7 0 [], .node 5 0 0 [.node 4 3 1 []]], []) := by
      show contS (rdS 7) [120, 60, 61, 55, 44, 33, 118, 37, 51, 61, 49, 41] = _
      rw [cont_more (rdS_len 7) a1, cont_shut a3]
      rfl
    rw [b1]; rfl
  unfold readT
  rw [a4]
  show ansT (if exT.rightB then some exT else none) = _
  rw [show exT.rightB = true by rfl]
  rfl
theorem ex2 : ansT (readT [118, 37, 51, 61, 51]) = (.node 0 0 0 [], 40) := by
  have n3 : numS [51, 61, 51] = some (3, [61, 51]) := num_one (n := 3) (by omega) _ (by intro c h; injection h with h; subst h; rfl)
  have n1 : numS [51] = some (3, []) := num_one (n := 3) (by omega) _ (by intro c h; cases h)
  have a2 : rdS 8 [118, 37, 51, 61, 51] = some (.node 4 3 3 [], []) := by
    rw [rd_m (d := 7) rfl rfl rfl rfl]
    show (numS [51, 61, 51]).bind _ = _
    rw [n3]
    show (if Lib.hasPrefix [61, 51] [61] then (numS [51]).map _ else none) = _
    rw [n1]; rfl
  unfold readT
  rw [a2]
  rfl
theorem ex3 : ansT (readT [120, 60, 61, 48, 55]) = (.node 0 0 0 [], 40) := by
  have n0 : numS [48, 55] = none := by
    have h0 := ((DgI.zero [48, 55]).step (c := 48) rfl rfl (by decide)).step (c := 55) rfl rfl (by decide)
    have h1 := h0.done (by simp) (fun c hc => by simp at hc)
    rw [h1]
    have : Lib.decDigits ((0 * 10 + ((48 : UInt8).toNat - 48)) * 10 + ((55 : UInt8).toNat - 48)) = [55] := by
      rw [show ((0 * 10 + ((48 : UInt8).toNat - 48)) * 10 + ((55 : UInt8).toNat - 48)) = 7 by rfl, dec1 (by omega)]; rfl
    rw [this]
    rfl
  have a2 : rdS 8 [120, 60, 61, 48, 55] = none := by
    rw [rd_x (d := 7) rfl rfl]
    show (numS [48, 55]).map _ = _
    rw [n0]; rfl
  unfold readT
  rw [a2]
  rfl
theorem ex4 : ansT (readT [38, 40, 97, 108, 108, 44, 41]) = (.node 0 0 0 [], 40) := by
  have a1 : rdS 7 [97, 108, 108, 44, 41] = some (.node 1 0 0 [], [44, 41]) := rd_all (d := 6) rfl
  have a3 : rdS 7 [41] = none := rd_0 (d := 6) (fun i q1 q2 => by have : i = 1 ∨ i = 2 ∨ i = 3 ∨ i = 4 ∨ i = 5 := by omega
                                                                  rcases this with rfl | rfl | rfl | rfl | rfl <;> rfl) rfl rfl
  have a4 : rdS 8 [38, 40, 97, 108, 108, 44, 41] = none := by
    rw [rd_r (d := 7) 6 38 (by decide) (fun i q1 q2 => by have : i = 1 ∨ i = 2 ∨ i = 3 ∨ i = 4 ∨ i = 5 := by omega
                                                          rcases this with rfl | rfl | rfl | rfl | rfl <;> rfl) rfl]
    have b1 : listB (rdS 7) [97, 108, 108, 44, 41] = none := by
      show contS (rdS 7) [97, 108, 108, 44, 41] = _
      rw [cont_more (rdS_len 7) a1, cont_none a3]
      rfl
    have b2 : listB (rdS 7) (List.drop 2 [38, 40, 97, 108, 108, 44, 41]) = none := b1
    rw [b2]
    rfl
  unfold readT
  rw [a4]
  rfl
theorem ex_put : exT.put = [6, 2, 2, 7, 5, 4, 3, 1] := by
  have e : ∀ n, n < 128 → enc n = [n] := fun n h => enc_lt h
  have e2 := e 2 (by omega)
  have e7 := e 7 (by omega)
  have e3 := e 3 (by omega)
  have e1 := e 1 (by omega)
  unfold T.put
  rw [show exT.rightB = true by rfl, if_pos rfl]
  unfold exT
  simp [T.stand, T.standL, numsL, numN, e2, e7, e3, e1]

end Go.Proofs.YtpbmgbeiieapiaaGreatDoor

namespace Go.Proofs.YtpbmgbeiieapiaaGreatDoor
open Go Go.RowKit
set_option linter.unusedVariables false

/-! ### Texts -/
theorem dec_dig (n : Nat) : ∀ c ∈ Lib.decDigits n, isDig c = true := by
  induction n using Nat.strongRecOn with
  | _ n ih =>
  have hd : ∀ m : Nat, m < 10 → isDig (UInt8.ofNat (48 + m)) = true := fun m hm => by
    rw [isDig_iff]
    have : (UInt8.ofNat (48 + m)).toNat = 48 + m := by simp; omega
    omega
  by_cases h : n < 10
  · rw [dec1 h]
    intro c hc
    obtain rfl : c = UInt8.ofNat (48 + n) := by simpa using hc
    exact hd n h
  · rw [Lib.decDigits, dif_neg h]
    intro c hc
    rcases List.mem_append.1 hc with hc | hc
    · exact ih (n / 10) (by omega) c hc
    · obtain rfl : c = UInt8.ofNat (48 + n % 10) := by simpa using hc
      exact hd _ (Nat.mod_lt _ (by omega))
theorem dec_parse (n : Nat) : n ≤ 18446744073709551615 → Lib.parseUintM 18446744073709551615 0 (Lib.decDigits n) = .ok n := by
  induction n using Nat.strongRecOn with
  | _ n ih =>
  intro hn
  have hd : ∀ m : Nat, m < 10 → isDig (UInt8.ofNat (48 + m)) = true ∧ (UInt8.ofNat (48 + m)).toNat - 48 = m := fun m hm => by
    have : (UInt8.ofNat (48 + m)).toNat = 48 + m := by simp; omega
    exact ⟨by rw [isDig_iff]; omega, by omega⟩
  by_cases h : n < 10
  · rw [dec1 h, parse_one (hd n h).1, (hd n h).2, if_neg (by omega)]
    simp
  · obtain ⟨h1, h2⟩ := hd (n % 10) (Nat.mod_lt _ (by omega))
    rw [Lib.decDigits, dif_neg h, parse_append, ih (n / 10) (by omega) (by omega)]
    simp only
    rw [parse_one h1, h2, if_neg (by omega)]
    congr 1
    omega
theorem dec_pos (n : Nat) : 0 < (Lib.decDigits n).length := by
  rw [Lib.decDigits]
  split <;> simp
theorem num_dec (n : Nat) (hn : n < 18446744073709551616) (r : List UInt8) (hr : ∀ c, r[0]? = some c → isDig c = false) : numS (Lib.decDigits n ++ r) = some (n, r) := by
  have h0 : DgI (Lib.decDigits n ++ r) (Lib.decDigits n).length n := by
    unfold DgI
    rw [List.take_left]
    exact ⟨dec_dig n, dec_parse n (by omega)⟩
  rw [h0.done (by simp) (fun c hc => hr c (by rw [List.getElem?_append_right (Nat.le_refl _), Nat.sub_self] at hc; exact hc)), if_pos ⟨dec_pos n, by rw [List.take_left]⟩, List.drop_left]

/-- Behind a text stands no digit. -/
def NoDig (r : List UInt8) : Prop := ∀ c, r[0]? = some c → isDig c = false
theorem noDig_cons (c : UInt8) (r : List UInt8) (h : isDig c = false) : NoDig (c :: r) := fun x hx => by
  obtain rfl : c = x := by simpa using hx
  exact h
theorem tell_head {t : T} (h : t.allB = true) : ∃ c l, t.tell = c :: l ∧ c ≠ 41 := by
  obtain ⟨k, a, b, ps⟩ := t
  rw [T.allB, Bool.and_eq_true] at h
  rw [T.tell]
  rcases fits_kind h.2 with rfl | rfl | rfl | rfl | rfl | rfl | rfl
  · exact ⟨97, _, rfl, by decide⟩
  · exact ⟨120, _, rfl, by decide⟩
  · exact ⟨118, _, rfl, by decide⟩
  · exact ⟨118, _, rfl, by decide⟩
  · exact ⟨33, _, rfl, by decide⟩
  · exact ⟨38, _, rfl, by decide⟩
  · exact ⟨124, _, rfl, by decide⟩
theorem join_two (x y : List UInt8) (r : List (List UInt8)) (sep : List UInt8) : Lib.join (x :: y :: r) sep = x ++ sep ++ Lib.join (y :: r) sep := by
  rw [Lib.join_cons, Lib.join_cons]
  simp [Lib.joinTail, List.append_assoc]
theorem cont_tell {f : List UInt8 → Option (T × List UInt8)} (hf : ∀ s t r, f s = some (t, r) → r.length < s.length) (r : List UInt8) :
    ∀ (ps : List T) (p : T), (∀ x ∈ p :: ps, ∀ r', NoDig r' → f (x.tell ++ r') = some (x, r')) → contS f (Lib.join (T.tellL (p :: ps)) [44] ++ 41 :: r) = some (p :: ps, r)
  | [], p, h => by
    rw [T.tellL, T.tellL, Lib.join_one]
    exact cont_shut (h p (by simp) _ (noDig_cons _ _ (by decide)))
  | q :: ps, p, h => by
    have e : Lib.join (T.tellL (p :: q :: ps)) [44] ++ 41 :: r = p.tell ++ 44 :: (Lib.join (T.tellL (q :: ps)) [44] ++ 41 :: r) := by
      rw [T.tellL, T.tellL, join_two]
      simp [List.append_assoc]
    rw [e, cont_more hf (h p (by simp) _ (noDig_cons _ _ (by decide))), cont_tell hf r ps q fun x hx => h x (by simp at hx ⊢; exact .inr hx)]
    rfl
theorem rd_tell : ∀ (t : T) (d : Nat) (r : List UInt8), t.allB = true → t.okN → t.depth ≤ d → NoDig r → rdS d (t.tell ++ r) = some (t, r) := by
  refine T.ind fun k a b ps ih d r hall hok hd hr => ?_
  rw [T.allB, Bool.and_eq_true] at hall
  rw [T.okN] at hok
  rw [T.depth] at hd
  obtain ⟨ha, hb, -, hol⟩ := hok
  obtain ⟨hal, hfit⟩ := hall
  obtain ⟨d', rfl⟩ : ∃ d', d = d' + 1 := ⟨d - 1, by omega⟩
  have IH : ∀ p ∈ ps, ∀ r', NoDig r' → rdS d' (p.tell ++ r') = some (p, r') := fun p hp r' hr' => ih p hp d' r' (all_mem hal p hp) ((okL_iff _).1 hol p hp) (depth_mem (by omega) p hp) hr'
  have hfit2 := hfit
  unfold fitsB at hfit2
  rcases fits_kind hfit with rfl | rfl | rfl | rfl | rfl | rfl | rfl
  · obtain ⟨rfl, rfl, h0⟩ := of_decide_eq_true hfit2
    obtain rfl := List.eq_nil_of_length_eq_zero h0
    rw [tell_1 hfit, rd_all (by simp [Lib.hasPrefix, List.isPrefixOf])]
    rfl
  · obtain ⟨rfl, h0⟩ := of_decide_eq_true hfit2
    obtain rfl := List.eq_nil_of_length_eq_zero h0
    rw [tell_2 hfit, rd_x (by simp [Lib.hasPrefix, List.isPrefixOf]) (by simp [Lib.hasPrefix, List.isPrefixOf])]
    show (numS (Lib.decDigits a ++ r)).map _ = _
    rw [num_dec a ha r hr]
    rfl
  · obtain ⟨rfl, h0⟩ := of_decide_eq_true hfit2
    obtain rfl := List.eq_nil_of_length_eq_zero h0
    rw [tell_3 hfit, rd_v (by simp [Lib.hasPrefix, List.isPrefixOf]) (by simp [Lib.hasPrefix, List.isPrefixOf]) (by simp [Lib.hasPrefix, List.isPrefixOf])]
    show (numS (Lib.decDigits a ++ r)).map _ = _
    rw [num_dec a ha r hr]
    rfl
  · obtain ⟨-, h0⟩ := of_decide_eq_true hfit2
    obtain rfl := List.eq_nil_of_length_eq_zero h0
    rw [tell_4 hfit, rd_m (by simp [Lib.hasPrefix, List.isPrefixOf]) (by simp [Lib.hasPrefix, List.isPrefixOf]) (by simp [Lib.hasPrefix, List.isPrefixOf]) (by simp [Lib.hasPrefix, List.isPrefixOf])]
    show (numS (Lib.decDigits a ++ [61] ++ Lib.decDigits b ++ r)).bind _ = _
    rw [show Lib.decDigits a ++ [61] ++ Lib.decDigits b ++ r = Lib.decDigits a ++ (61 :: (Lib.decDigits b ++ r)) by simp, num_dec a ha _ (noDig_cons _ _ (by decide)), Option.bind_some]
    simp only
    rw [pre_one, if_pos (by decide)]
    show (numS (Lib.decDigits b ++ r)).map _ = _
    rw [num_dec b hb r hr]
    rfl
  · obtain ⟨rfl, rfl, h0⟩ := of_decide_eq_true hfit2
    obtain ⟨p, rfl⟩ : ∃ p, ps = [p] := by
      match ps, h0 with
      | [p], _ => exact ⟨p, rfl⟩
    have hn : ∀ i, 1 ≤ i → i < 5 → Lib.hasPrefix ([33] ++ p.tell ++ r) (wordL i) = false := fun i h1 h2 => by
      have : i = 1 ∨ i = 2 ∨ i = 3 ∨ i = 4 := by omega
      rcases this with rfl | rfl | rfl | rfl <;> rfl
    rw [tell_5, rd_n hn rfl]
    show (rdS d' (p.tell ++ r)).map _ = _
    rw [IH p (by simp) r hr]
    rfl
  · obtain ⟨rfl, rfl⟩ := of_decide_eq_true hfit2
    rw [tell_67 (.inl rfl)]
    have e : [if (6 : Int) = 7 then (124 : UInt8) else 38, 40] ++ Lib.join (T.tellL ps) [44] ++ [41] ++ r = 38 :: 40 :: (Lib.join (T.tellL ps) [44] ++ 41 :: r) := by simp
    rw [e, rd_r 6 38 (.inl ⟨rfl, rfl⟩) (fun i h1 h2 => by
      have : i = 1 ∨ i = 2 ∨ i = 3 ∨ i = 4 ∨ i = 5 := by omega
      rcases this with rfl | rfl | rfl | rfl | rfl <;> rfl) rfl, if_pos (show Lib.hasPrefix (38 :: 40 :: (Lib.join (T.tellL ps) [44] ++ 41 :: r)) [38, 40] = true from rfl)]
    show (listB (rdS d') (Lib.join (T.tellL ps) [44] ++ 41 :: r)).map _ = _
    cases ps with
    | nil => rfl
    | cons p ps =>
      obtain ⟨c, l, h1, h2⟩ := tell_head (all_mem hal p (by simp))
      have hb : listB (rdS d') (Lib.join (T.tellL (p :: ps)) [44] ++ 41 :: r) = contS (rdS d') (Lib.join (T.tellL (p :: ps)) [44] ++ 41 :: r) := by
        unfold listB
        rw [if_neg]
        · rfl
        · rw [T.tellL, Lib.join_cons, h1, List.cons_append, List.cons_append, pre_one]
          simp
          exact fun e => h2 e.symm
      rw [hb, cont_tell (rdS_len d') r ps p IH]
      rfl
  · obtain ⟨rfl, rfl⟩ := of_decide_eq_true hfit2
    rw [tell_67 (.inr rfl)]
    have e : [if (7 : Int) = 7 then (124 : UInt8) else 38, 40] ++ Lib.join (T.tellL ps) [44] ++ [41] ++ r = 124 :: 40 :: (Lib.join (T.tellL ps) [44] ++ 41 :: r) := by simp
    rw [e, rd_r 7 124 (.inr ⟨rfl, rfl⟩) (fun i h1 h2 => by
      have : i = 1 ∨ i = 2 ∨ i = 3 ∨ i = 4 ∨ i = 5 ∨ i = 6 := by omega
      rcases this with rfl | rfl | rfl | rfl | rfl | rfl <;> rfl) rfl, if_pos (show Lib.hasPrefix (124 :: 40 :: (Lib.join (T.tellL ps) [44] ++ 41 :: r)) [124, 40] = true from rfl)]
    show (listB (rdS d') (Lib.join (T.tellL ps) [44] ++ 41 :: r)).map _ = _
    cases ps with
    | nil => rfl
    | cons p ps =>
      obtain ⟨c, l, h1, h2⟩ := tell_head (all_mem hal p (by simp))
      have hb : listB (rdS d') (Lib.join (T.tellL (p :: ps)) [44] ++ 41 :: r) = contS (rdS d') (Lib.join (T.tellL (p :: ps)) [44] ++ 41 :: r) := by
        unfold listB
        rw [if_neg]
        · rfl
        · rw [T.tellL, Lib.join_cons, h1, List.cons_append, List.cons_append, pre_one]
          simp
          exact fun e => h2 e.symm
      rw [hb, cont_tell (rdS_len d') r ps p IH]
      rfl
theorem read_tell {t : T} (hr : t.rightB = true) (hok : t.okN) : readT t.tell = some t := by
  have h := hr
  unfold T.rightB at h
  rw [Bool.and_eq_true, Bool.and_eq_true] at h
  have := rd_tell t 8 [] h.1.1 hok (of_decide_eq_true h.1.2) (fun c hc => by cases hc)
  rw [List.append_nil] at this
  unfold readT
  rw [this]
  simp [hr]

theorem tell_inj {p q : T} (hp : p.rightB = true) (hq : q.rightB = true) (op : p.okN) (oq : q.okN) (h : p.tell = q.tell) : p = q := by
  have h1 := read_tell hp op
  rw [h, read_tell hq oq] at h1
  exact (Option.some.inj h1).symm

end Go.Proofs.YtpbmgbeiieapiaaGreatDoor
