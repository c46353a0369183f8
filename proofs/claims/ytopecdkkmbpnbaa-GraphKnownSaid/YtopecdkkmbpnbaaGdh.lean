/-
  Layer 13: the document's in, Only.
-/
import Derived.Test.YtopecdkkmbpnbaaGdg
namespace Go.Proofs.Ytopecdkkmbpnbaa
open Go Go.RowKit Go.Maps
set_option linter.unusedVariables false

set_option maxRecDepth 100000 in
set_option maxHeartbeats 1600000 in
theorem rin_any {w : World} {B n c : Nat} {A : Option Addr} {l : List Int} (h : Rd w B 1 A n (zc l)) (hn : n ≤ 1000000) (x : Int) :
    Calls Try.prog 51 #[.slice A n c, .int .i64 x] w fun r w' => r = .returned (.bool (decide (x ∈ l))) ∧ w = w' := by
  have HC := Lib_hid (rdz_count h)
  have HI := Lib_hid (fun (i : Nat) (hi : i < n) => z_at h hi)
  have HT : Hid (∀ i, i < n → (x ∈ l.take (i + 1) ↔ x ∈ l.take i ∨ atZ l i = x)) := fun i hi => by
    rw [take_snocZ (by rw [HC.out]; exact hi), List.mem_append, List.mem_singleton]
    exact or_congr_right ⟨Eq.symm, Eq.symm⟩
  clear h
  go_enter Try.func51, Try.ntmps51
  go_wp2
  go_loopw [5] (fun i wr => ∃ k : Nat, i = .int .i64 k ∧ k ≤ n ∧ Hid (x ∉ l.take k) ∧ wr = w) (fun i _ => n - (intOf i).toNat)
  case atStart => exact ⟨0, rfl, Nat.zero_le _, (by simp [Hid]), rfl⟩
  case round =>
    obtain ⟨k, rfl, hk, hno, rfl⟩ := hrel
    by_cases hlt : k < n
    · obtain ⟨ad, rfl, _, c0⟩ := HI.out k hlt
      by_cases he : atZ l k = x
      · have FIN : Hid (decide (x ∈ l) = true) := decide_eq_true (by rw [← he, atZ_lt (by rw [HC.out]; exact hlt)]; exact List.getElem_mem _)
        have d0 : (atZ l k == x) = true := by simp [he]
        clear hno he
        generalize atZ l k = a at *
        go_wp2
        go_ret
        exact ⟨by rw [FIN.out]; rfl, rfl⟩
      · have hno2 : Hid (x ∉ l.take (k + 1)) := fun hc => by
          rcases (HT.out k hlt).1 hc with h1 | h1
          · exact hno.out h1
          · exact he h1
        have d0 : (atZ l k == x) = false := by simp [he]
        clear hno he
        generalize atZ l k = a at *
        go_wp2
        go_roundw
        case rel => exact ⟨k + 1, by go_num, by omega, hno2, trivial⟩
        case measure => simp [intOf]; omega
    · obtain rfl : k = n := by omega
      have FIN : Hid (decide (x ∈ l) = false) := decide_eq_false (by have := hno.out; rwa [List.take_of_length_le (by rw [HC.out]; exact Nat.le_refl _)] at this)
      go_wp2
      go_ret
      exact ⟨by rw [FIN.out]; rfl, rfl⟩

theorem onlyE_snoc {L : List Ed} {ns : List Int} {k : Nat} (h : k < L.length) : onlyE (L.take (k + 1)) ns = onlyE (L.take k) ns ++ (if decide ((at3 L k).1 ∈ ns ∧ (at3 L k).2.1 ∈ ns) then [at3 L k] else []) := by
  unfold onlyE
  rw [take_snoc3 h, List.filter_append]
  by_cases hc : decide ((at3 L k).1 ∈ ns ∧ (at3 L k).2.1 ∈ ns) = true <;> simp [List.filter, hc]

set_option maxRecDepth 100000 in
set_option maxHeartbeats 3200000 in
theorem ronly_any {w : World} {B n c B' n' c' : Nat} {A A' : Option Addr} {L : List Ed} {ns : List Int} {N : Nat} (h : Rd w B 3 A n (ec L)) (h' : Rd w B' 1 A' n' (zc ns)) (hB : B ≤ w.heap.size) (hB' : B' ≤ w.heap.size) (hn : n ≤ 1000000) (hn' : n' ≤ 1000000) :
    Calls Try.prog 27 #[.agg #[.int .i64 (N : Int), .slice A n c], .slice A' n' c'] w (RgE N (onlyE L ns) w) := by
  have HC := Lib_hid (rde_count h)
  have HI := Lib_hid (fun (W : World) (hW : Below w.heap.size w W) (i : Nat) (hi : i < n) => e_at (h.below (hW.mono hB)) hi)
  have HIN := Lib_hid (fun (V : World) (hV : Below w.heap.size w V) (x : Int) => rin_any (c := c') (h'.below (hV.mono hB')) hn' x)
  have HS : Hid (∀ k, k < n → onlyE (L.take (k + 1)) ns = onlyE (L.take k) ns ++ (if decide ((at3 L k).1 ∈ ns ∧ (at3 L k).2.1 ∈ ns) then [at3 L k] else [])) := fun k hk => onlyE_snoc (by rw [HC.out]; exact hk)
  have HLN : Hid (∀ k, (onlyE (L.take k) ns).length ≤ n) := fun k => by
    have h1 := List.length_filter_le (fun x : Ed => decide (x.1 ∈ ns ∧ x.2.1 ∈ ns)) (L.take k)
    have h2 := List.length_take_le' k L
    have h3 := HC.out
    show (List.filter _ _).length ≤ n
    omega
  have HN := Lib_hid hn
  obtain ⟨i0, hi, hz0, hz1, hz2⟩ := info_parts Try.infoD
  obtain ⟨W, hW⟩ : ∃ W, W = ((w.alloc (.cells #[.int .i64 (N : Int), .slice A n c] 31)).alloc (.cells #[.int .i64 0, .slice none 0 0] 31)).alloc (.cells #[.int .i64 (N : Int), .slice none 0 0] 31) := ⟨_, rfl⟩
  have b1 := below_new w (.cells #[.int .i64 (N : Int), .slice A n c] 31)
  have x1 := heap_alloc_new w (.cells #[.int .i64 (N : Int), .slice A n c] 31)
  have s1 : (w.alloc (.cells #[.int .i64 (N : Int), .slice A n c] 31)).heap.size = w.heap.size + 1 := by simp
  obtain ⟨wa, hwa⟩ : ∃ wa, wa = w.alloc (.cells #[.int .i64 (N : Int), .slice A n c] 31) := ⟨_, rfl⟩
  rw [← hwa] at b1 x1 s1 hW
  have b2 := below_new wa (.cells #[.int .i64 0, .slice none 0 0] 31)
  have x2 := heap_alloc_new wa (.cells #[.int .i64 0, .slice none 0 0] 31)
  have s2 : (wa.alloc (.cells #[.int .i64 0, .slice none 0 0] 31)).heap.size = w.heap.size + 1 + 1 := by simp [s1]
  obtain ⟨wb, hwb⟩ : ∃ wb, wb = wa.alloc (.cells #[.int .i64 0, .slice none 0 0] 31) := ⟨_, rfl⟩
  rw [← hwb] at b2 x2 s2 hW
  have b3 := below_new wb (.cells #[.int .i64 (N : Int), .slice none 0 0] 31)
  have x3 := heap_alloc_new wb (.cells #[.int .i64 (N : Int), .slice none 0 0] 31)
  have s3 : (wb.alloc (.cells #[.int .i64 (N : Int), .slice none 0 0] 31)).heap.size = w.heap.size + 1 + 1 + 1 := by simp [s2]
  rw [← hW] at b3 x3 s3
  rw [s2] at x3
  rw [s1] at x2
  have HQ : Hid ((W.heap[w.heap.size]? = some (.cells #[.int .i64 (N : Int), .slice A n c] 31 (0, 0)) ∧ W.heap[w.heap.size + 1]? = some (.cells #[.int .i64 0, .slice none 0 0] 31 (0, 0)) ∧ W.heap[w.heap.size + 1 + 1]? = some (.cells #[.int .i64 (N : Int), .slice none 0 0] 31 (0, 0))) ∧ Below w.heap.size w W ∧ W.heap.size = w.heap.size + 3) :=
    ⟨⟨(b3.block _ (by omega)).trans ((b2.block _ (by omega)).trans x1), (b3.block _ (by omega)).trans x2, x3⟩, (b1.trans (b2.mono b1.size)).trans (b3.mono (b1.trans (b2.mono b1.size)).size), by omega⟩
  clear b1 b2 b3 x1 x2 x3 s1 s2 s3 h h'
  go_enter Try.func27, Try.ntmps27
  go_upto_region 2 with (fail)
  rw [← hwa, ← hwb, ← hW]
  clear hwa hwb hW
  go_wp2
  go_loopw [6] (fun i wr => ∃ (k m' c2 : Nat) (A2 : Option Addr) (X : List Ed), i = .int .i64 k ∧ k ≤ n ∧ Hid (X = onlyE (L.take k) ns ∧ m' = X.length) ∧ Hid (wr.heap[w.heap.size + 1 + 1]? = some (.cells #[.int .i64 (N : Int), .slice A2 m' c2] 31 (0, 0)) ∧ wr.ownsRow (w.heap.size + 1 + 1 + 1) 48 3 (.slice A2 m' c2) m' (ec X) ∧ Below (w.heap.size + 1 + 1) W wr)) (fun i _ => n - (intOf i).toNat)
  case atStart => exact ⟨0, 0, 0, none, [], rfl, Nat.zero_le _, ⟨rfl, rfl⟩, ⟨HQ.out.1.2.2, own_zero _ _ _ _, Below.refl _ _⟩⟩
  case round =>
    obtain ⟨k, m', c2, A2, X, rfl, hk, hX, hV⟩ := hrel
    have KW : Hid (∀ V : World, Below (w.heap.size + 1 + 1) W V → V.cell? ⟨w.heap.size, 1, none⟩ = some (.slice A n c) ∧ Below w.heap.size w V) := fun V hb => by
      have h1 := (hb.block w.heap.size (by omega)).trans HQ.out.1.1
      exact ⟨cell_of_row _ _ 1 _ _ _ h1, HQ.out.2.1.trans (hb.mono (by omega))⟩
    obtain ⟨g1, hbw⟩ := KW.out wr hV.out.2.2
    by_cases hlt : k < n
    · have hsn := HS.out k hlt
      have HMB := Lib_hid (mx_room (show m' ≤ 1000001 by have h8 := HLN.out k; rw [← hX.out.1, ← hX.out.2] at h8; have := HN.out; omega))
      obtain ⟨bk, off, hA, _, c0, c1, c2'⟩ := HI.out _ hbw k hlt
      subst hA
      have HIK := Lib_hid (fun (W : World) (hW : Below w.heap.size w W) => HI.out W hW k hlt)
      have hxx : at3 L k = ((at3 L k).1, (at3 L k).2.1, (at3 L k).2.2) := rfl
      rw [hxx] at hsn
      have I1 := Lib_hid (HIN.out wr hbw (at3 L k).1)
      have I2 := Lib_hid (HIN.out wr hbw (at3 L k).2.1)
      have hki : (k : Int) < (n : Int) := by omega
      have hk0 : (0 : Int) ≤ (k : Int) := by omega
      have hn6 : n ≤ 1000000 := HN.out
      clear hxx
      generalize (at3 L k).1 = a1 at *
      generalize (at3 L k).2.1 = a2 at *
      generalize (at3 L k).2.2 = a3 at *
      by_cases h1 : a1 ∈ ns
      · rw [decide_eq_true h1] at I1
        by_cases h2 : a2 ∈ ns
        · rw [decide_eq_true h2] at I2
          rw [if_pos (decide_eq_true ⟨h1, h2⟩)] at hsn
          have HW2 := Lib_hid hsn
          clear hsn h1 h2 HIN HS
          go_wp2_with (first | (go_at_call 51; first | ((with_reducible refine I1.out.mono ?_); rintro r ws ⟨rfl, rfl⟩) | ((with_reducible refine I2.out.mono ?_); rintro r ws ⟨rfl, rfl⟩)))
          have hV2 := hV
          have hbw2 := hbw
          have HAT := Lib_hid (HIK.out wr hbw2)
          clear g1 hbw c0 c1 c2' hV I1 I2
          obtain ⟨V, rfl⟩ : ∃ V, V = wr := ⟨wr, rfl⟩
          obtain ⟨g1, hbw⟩ := KW.out V hV2.out.2.2
          have ovd : V.drew.ownsRow (w.heap.size + 1 + 1 + 1) 48 3 (.slice A2 m' c2) m' (ec (X)) := hV2.out.2.1
          have oE := own_below ovd (below_new V.drew (.cells #[.int .i64 a1, .int .i64 a2, .int .i64 a3] 48)) (own_lt ovd)
          have rE := ec_newD V.drew (a1, a2, a3)
          have hvs := (Array.getElem?_eq_some_iff.1 hV2.out.1).1
          have hbs : w.heap.size + 1 + 1 + 1 ≤ (V.drew.alloc (.cells #[.int .i64 a1, .int .i64 a2, .int .i64 a3] 48)).heap.size := by simp; omega
          have HO := Lib_hid (And.intro oE rE)
          have v1 := cell_of_row _ _ 1 _ _ _ hV2.out.1
          obtain ⟨hm1, hmb, _, _⟩ := HMB.out
          have PU0 : Hid (∀ (w6 : World) (A6 : Option Addr) (c6 : Nat), w6.ownsRow (w.heap.size + 1 + 1 + 1) 48 3 (.slice A6 (m' + 1) c6) (m' + 1) (ec (X) ++ ec [(a1, a2, a3)]) → Stp (V.drew.alloc (.cells #[.int .i64 a1, .int .i64 a2, .int .i64 a3] 48)) w6 (.slice A2 m' c2) (.slice A6 (m' + 1) c6) →
              ((∃ v, w6.cell? ⟨w.heap.size + 1 + 1, 1, none⟩ = some v) ∧ w6.frozen? ⟨w.heap.size + 1 + 1, 1, none⟩ = false) ∧ (w6.setCell ⟨w.heap.size + 1 + 1, 1, none⟩ (.slice A6 (m' + 1) c6)).heap[w.heap.size + 1 + 1]? = some (.cells #[.int .i64 (N : Int), .slice A6 (m' + 1) c6] 31 (0, 0)) ∧ (w6.setCell ⟨w.heap.size + 1 + 1, 1, none⟩ (.slice A6 (m' + 1) c6)).ownsRow (w.heap.size + 1 + 1 + 1) 48 3 (.slice A6 (m' + 1) c6) (m' + 1) (ec (X) ++ ec [(a1, a2, a3)]) ∧ Below (w.heap.size + 1 + 1) V.drew (w6.setCell ⟨w.heap.size + 1 + 1, 1, none⟩ (.slice A6 (m' + 1) c6))) := fun w6 A6 c6 ho hst =>
            out_push (q := w.heap.size + 1 + 1) (w := V.drew) hV2.out.1 hV2.out.2.1 ho ((Stp.alloc V.drew (.cells #[.int .i64 a1, .int .i64 a2, .int .i64 a3] 48) (.slice A2 m' c2)).trans hst)
          obtain ⟨bk', off', hA', _, c0, c1, c2'⟩ := HAT.out
          simp only [Option.some.injEq, Addr.mk.injEq, and_true] at hA'
          obtain ⟨rfl, rfl⟩ := hA'
          clear oE rE ovd
          go_region_law
            ((refine step_app rfl (.tmp 36) (.tmp 42) 29 rfl (w.heap.size + 1 + 1 + 1) 48 i0 (.agg #[.int .i64 0, .int .i64 0, .int .i64 0]) 3 24 Try.underlying29 hi hz0 hz1 hz2 rfl (by decide) (.slice A2 m' c2) m' (ec (X)) (by go_simp) HO.out.1 (V.heap.size + 1) (some ⟨V.heap.size, 0, none⟩) 1 1 (ec [(a1, a2, a3)]) (by go_simp) HO.out.2 (ec_one _) hm1 hmb hbs ?_); intro v' w6 hown6 hst; obtain ⟨A6, cw6, rfl⟩ := own_form' hown6; have PU := PU0.out w6 A6 cw6 hown6 hst; obtain ⟨⟨⟨vv, p0⟩, p1⟩, PU1⟩ := PU; have PUH := Lib_hid PU1; clear PU1 hown6 hst)
          all_goals
            clear c0 c1 c2' g1 hbw v1 p0 p1
            obtain ⟨u1, u2, u3⟩ := PUH.out
            rw [← ec_append] at u2
            have HU := Lib_hid (And.intro u1 (And.intro u2 (hV2.out.2.2.drew.trans u3)))
            clear u1 u2 u3 PUH PU0 HO hV2 HAT
            generalize w6.setCell ⟨w.heap.size + 1 + 1, 1, none⟩ (.slice A6 (m' + 1) cw6) = V6 at *
            go_wp2
            go_roundw
            case rel => exact ⟨k + 1, m' + 1, cw6, A6, X ++ [(a1, a2, a3)], by go_num, by omega, ⟨by rw [HW2.out, ← hX.out.1], by rw [List.length_append, ← hX.out.2]; rfl⟩, HU.out⟩
            case measure => simp [intOf]; omega
        · rw [decide_eq_false h2] at I2
          rw [if_neg (by simp [h2])] at hsn
          have HW2 := Lib_hid hsn
          clear hsn h1 h2 HIN HS
          go_wp2_with (first | (go_at_call 51; first | ((with_reducible refine I1.out.mono ?_); rintro r ws ⟨rfl, rfl⟩) | ((with_reducible refine I2.out.mono ?_); rintro r ws ⟨rfl, rfl⟩)))
          go_roundw
          case rel => exact ⟨k + 1, m', c2, A2, X, by go_num, by omega, ⟨by rw [HW2.out, ← hX.out.1, List.append_nil], hX.out.2⟩, hV⟩
          case measure => simp [intOf]; omega
      · rw [decide_eq_false h1] at I1
        rw [if_neg (by simp [h1])] at hsn
        have HW2 := Lib_hid hsn
        clear hsn h1 HIN HS
        go_wp2_with (first | (go_at_call 51; first | ((with_reducible refine I1.out.mono ?_); rintro r ws ⟨rfl, rfl⟩) | ((with_reducible refine I2.out.mono ?_); rintro r ws ⟨rfl, rfl⟩)))
        go_roundw
        case rel => exact ⟨k + 1, m', c2, A2, X, by go_num, by omega, ⟨by rw [HW2.out, ← hX.out.1, List.append_nil], hX.out.2⟩, hV⟩
        case measure => simp [intOf]; omega
    · obtain rfl : k = n := by omega
      have HX : Hid (X = onlyE L ns ∧ m' = X.length) := ⟨hX.out.1.trans (by rw [List.take_of_length_le (by rw [HC.out]; exact Nat.le_refl _)]), hX.out.2⟩
      have z1 := (hV.out.2.2.block (w.heap.size + 1) (by omega)).trans HQ.out.1.2.1
      have h0 := cell_of_row _ _ 0 _ _ _ hV.out.1
      have h1 := cell_of_row _ _ 1 _ _ _ hV.out.1
      have x0 := cell_of_row _ _ 0 _ _ _ z1
      have x1 := cell_of_row _ _ 1 _ _ _ z1
      have f0 := frozen_of_row _ _ 0 _ _ z1
      have f1 := frozen_of_row _ _ 1 _ _ z1
      have HBB := Lib_hid hbw
      clear hX HLN HS HI hbw
      go_wp2
      obtain ⟨zf, hB9, hs9, ho9⟩ := box_store (u := .int .i64 (N : Int)) (v := .slice A2 m' c2) z1 hV.out.2.1 (by omega) (Below.refl _ _)
      have hBB := (HBB.out.setCell (p := ⟨w.heap.size + 1, 0, none⟩) (show w.heap.size ≤ w.heap.size + 1 by omega) (.int .i64 (N : Int))).setCell (p := ⟨w.heap.size + 1, 1, none⟩) (show w.heap.size ≤ w.heap.size + 1 by omega) (.slice A2 m' c2)
      generalize (wr.setCell ⟨w.heap.size + 1, 0, none⟩ (.int .i64 (N : Int))).setCell ⟨w.heap.size + 1, 1, none⟩ (.slice A2 m' c2) = U at *
      have q0 := cell_of_row _ _ 0 _ _ _ zf
      have q1 := cell_of_row _ _ 1 _ _ _ zf
      obtain ⟨rfl, rfl⟩ := HX.out
      exact bodyPost_ret (v := .agg #[.int .i64 (N : Int), .slice A2 (onlyE L ns).length c2]) (by simp [results, Try.results27, go_sem, q0, q1]) rfl ⟨A2, c2, rfl, Rd.own ho9, hBB⟩

end Go.Proofs.Ytopecdkkmbpnbaa
