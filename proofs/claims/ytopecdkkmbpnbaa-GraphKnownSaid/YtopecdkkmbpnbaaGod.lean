/-
  Layer 13: the document's Next, and Remove.
-/
import Derived.Test.YtopecdkkmbpnbaaGoc
import Derived.Test.YtopecdkkmbpnbaaGgo
namespace Go.Proofs.Ytopecdkkmbpnbaa
open Go Go.RowKit Go.Maps
set_option linter.unusedVariables false

theorem nextZ_step {L : List Ed} {k : Nat} (hk : k < L.length) (x : Int) : nextZ (L.take (k + 1)) x = if (at3 L k).1 = x then putZ (nextZ (L.take k) x) (at3 L k).2.1 else nextZ (L.take k) x := by
  unfold nextZ outE
  rw [take_snoc3 hk, List.filter_append]
  by_cases h : (at3 L k).1 = x
  · rw [if_pos h]
    simp only [List.filter_cons, List.filter_nil, h, decide_true, if_true, List.map_append, List.map_cons, List.map_nil]
    exact compZ_snoc _ _
  · rw [if_neg h]
    simp [h]
theorem zc_new1 (w : World) (z : Int) : Rd (w.alloc (.cells #[.int .i64 z] 3)) (w.heap.size + 1) 1 (some ⟨w.heap.size, 0, none⟩) 1 (zc [z]) := by
  have := Rd.own (World.ownsRow_lit (base := 0) (e := 3) (size := 1) w #[.int .i64 z] 1 (Nat.zero_le _) (by decide) rfl)
  simpa [zc] using this
theorem putZ_eq {X : List Int} {y : Int} {j : Nat} (hj : j + 1 = X.length) (h : atZ X j = y) : putZ X y = X := by
  unfold putZ
  rw [if_pos]
  rw [List.getLast?_eq_getElem?, ← h, atZ_lt (by omega), show X.length - 1 = j by omega]
  exact List.getElem?_eq_getElem (by omega)
theorem putZ_ne {X : List Int} {y : Int} {j : Nat} (hj : j + 1 = X.length) (h : atZ X j ≠ y) : putZ X y = X ++ [y] := by
  unfold putZ
  rw [if_neg]
  rw [List.getLast?_eq_getElem?, show X.length - 1 = j by omega, List.getElem?_eq_getElem (by omega), ← atZ_lt (by omega)]
  exact fun e => h (Option.some.inj e)

set_option maxRecDepth 100000 in
set_option maxHeartbeats 3200000 in
theorem rnext_any {w : World} {B n c : Nat} {A : Option Addr} {L : List Ed} {N : Int} (x : Int) (h : Rd w B 3 A n (ec L)) (hB : B ≤ w.heap.size) (hn : n ≤ 1000000) :
    Calls Try.prog 50 #[.agg #[.int .i64 N, .slice A n c], .int .i64 x] w (MadeC 3 1 (nextZ L x).length (zc (nextZ L x)) w) := by
  have HC := Lib_hid (rde_count h)
  have HI := Lib_hid (fun (W : World) (hW : Below w.heap.size w W) (i : Nat) (hi : i < n) => e_at (h.below (hW.mono hB)) hi)
  have HS : Hid (∀ k, k < n → nextZ (L.take (k + 1)) x = if (at3 L k).1 = x then putZ (nextZ (L.take k) x) (at3 L k).2.1 else nextZ (L.take k) x) := fun k hk => nextZ_step (by rw [HC.out]; exact hk) x
  have HLN : Hid (∀ k, (nextZ (L.take k) x).length ≤ n) := fun k => by
    have h1 := nextZ_len (L.take k) x
    have h2 := List.length_take_le' k L
    have h3 := HC.out
    omega
  obtain ⟨i0, hi, hz0, hz1, hz2⟩ := info_parts Try.infoI
  have bA := below_new w (.cells #[.int .i64 N, .slice A n c] 31)
  have xA := heap_alloc_new w (.cells #[.int .i64 N, .slice A n c] 31)
  have sA : (w.alloc (.cells #[.int .i64 N, .slice A n c] 31)).heap.size = w.heap.size + 1 := by simp
  obtain ⟨W, hW⟩ : ∃ W, W = w.alloc (.cells #[.int .i64 N, .slice A n c] 31) := ⟨_, rfl⟩
  rw [← hW] at bA xA sA
  have HQ := Lib_hid (And.intro xA (And.intro bA sA))
  have KW : Hid (∀ V : World, Below (w.heap.size + 1) W V → V.cell? ⟨w.heap.size, 1, none⟩ = some (.slice A n c) ∧ Below w.heap.size w V) := fun V hb => by
    have h1 := (hb.block w.heap.size (by omega)).trans HQ.out.1
    exact ⟨cell_of_row _ _ 1 _ _ _ h1, HQ.out.2.1.trans (hb.mono (by omega))⟩
  clear h bA xA sA
  go_enter Try.func50, Try.ntmps50
  go_upto_region 1 with (fail)
  rw [← hW]
  clear hW
  go_wp2
  go_loopw [5, 6] (fun o i wr => ∃ (k m c' : Nat) (A' : Option Addr) (X : List Int), o = .slice A' m c' ∧ i = .int .i64 k ∧ k ≤ n ∧ Hid (X = nextZ (L.take k) x ∧ m = X.length) ∧ Hid (wr.ownsRow (w.heap.size + 1) 3 1 (.slice A' m c') m (zc X) ∧ Below (w.heap.size + 1) W wr)) (fun _ i _ => n - (intOf i).toNat)
  case atStart => exact ⟨0, 0, 0, none, [], rfl, rfl, Nat.zero_le _, ⟨rfl, rfl⟩, own_zero _ _ _ _, Below.refl _ _⟩
  case round =>
    obtain ⟨k, m, c', A', X, rfl, rfl, hk, hX, hs⟩ := hrel
    obtain ⟨g1, hbw⟩ := KW.out wr hs.out.2
    by_cases hlt : k < n
    · have hsn := HS.out k hlt
      rw [← hX.out.1] at hsn
      obtain ⟨bk, off, hA, _, e0, e1, e2⟩ := HI.out _ hbw k hlt
      subst hA
      have hmn : m ≤ 1000000 := by have h1 := HLN.out k; rw [← hX.out.1, ← hX.out.2] at h1; omega
      have hki : (k : Int) < (n : Int) := by omega
      have hk0 : (0 : Int) ≤ (k : Int) := by omega
      obtain ⟨W1, rfl⟩ : ∃ W1, W1 = wr := ⟨wr, rfl⟩
      generalize (at3 L k).1 = a1 at *
      generalize (at3 L k).2.1 = a2 at *
      generalize (at3 L k).2.2 = a3 at *
      have HQ5 : Hid (∀ nq : Nat, (W1.drewN nq).ownsRow (w.heap.size + 1) 3 1 (.slice A' m c') m (zc X) ∧ Below (w.heap.size + 1) W (W1.drewN nq) ∧ (W1.drewN nq).cell? ⟨w.heap.size, 1, none⟩ = some (.slice (some ⟨bk, off, none⟩) n c) ∧ (W1.drewN nq).cell? ⟨bk, off + k * 3 + 1, none⟩ = some (.int .i64 a2)) := fun nq => ⟨hs.out.1, ⟨hs.out.2.os, hs.out.2.tape, hs.out.2.output, hs.out.2.size, hs.out.2.block⟩, g1, e1⟩
      by_cases h1 : a1 = x
      · have b1 : (a1 == x) = true := beq_iff_eq.2 h1
        rw [if_pos h1] at hsn
        by_cases h2 : m = 0
        · have hX0 : X = [] := List.eq_nil_of_length_eq_zero (by rw [← hX.out.2]; exact h2)
          have bm : ((m : Int) == 0) = true := beq_iff_eq.2 (by omega)
          rw [show putZ X a2 = X ++ [a2] by rw [hX0]; rfl] at hsn
          clear hX0
          have HSN := Lib_hid hsn
          clear hsn h1 h2
          go_upto_region 5 with (fail)
          go_quiet (fail)
          go_upto_region 6 with (fail)
          have hs9 := Lib_hid (HQ5.out nq)
          clear g1 hbw e0 e1 e2 HQ5 hs
          generalize W1.drewN nq = W2 at *
          obtain ⟨-, -, g1, e1⟩ := hs9.out
          have bA := below_new W2 (.cells #[.int .i64 a2] 3)
          have HO2 := Lib_hid (And.intro (own_below hs9.out.1 bA (own_lt hs9.out.1)) (And.intro (zc_new1 W2 a2) (And.intro (hs9.out.2.1.trans (bA.mono (show w.heap.size + 1 ≤ W2.heap.size by have h1 := hs9.out.2.1.size; have h2 := HQ.out.2.2; omega))) (show w.heap.size + 1 ≤ (W2.alloc (.cells #[.int .i64 a2] 3)).heap.size by have h1 := hs9.out.2.1.size; have h2 := HQ.out.2.2; have h3 := bA.size; omega))))
          have hm1 : m + 1 ≤ maxLen := by unfold maxLen; omega
          have hmb : (m + 1) * 8 ≤ 140737488355328 := by omega
          clear bA hs9
          go_wp2_with (at_builtin; (refine wpList_app rfl _ _ 55 rfl (w.heap.size + 1) 3 i0 (.int .i64 0) 1 8 Try.underlying55 hi hz0 hz1 hz2 rfl (by decide) _ m _ rfl HO2.out.1 (W2.heap.size + 1) (some ⟨W2.heap.size, 0, none⟩) 1 1 (zc [a2]) rfl HO2.out.2.1 (zc_one _) hm1 hmb HO2.out.2.2.2 ?_); intro v' w6 hown6 hst; obtain ⟨Aw6, cw6, rfl⟩ := own_form' hown6)
          rw [← zc_append] at hown6
          have hbw6 := Lib_hid (And.intro hown6 (HO2.out.2.2.1.grown hst.grow HO2.out.2.2.2 (own_ge HO2.out.1)))
          have hm2 : Hid (m + 1 = (X ++ [a2]).length) := by rw [List.length_append, ← hX.out.2]; rfl
          clear hown6 hst HO2 e1 g1
          go_wp2
          go_roundw
          case rel => exact ⟨k + 1, m + 1, cw6, Aw6, X ++ [a2], rfl, by go_num, by omega, ⟨HSN.out.symm, hm2.out⟩, hbw6⟩
          case measure => simp [intOf]; omega
        · have bm : ((m : Int) == 0) = false := beq_eq_false_iff_ne.2 (by omega)
          obtain ⟨j, hj⟩ : ∃ j : Nat, j + 1 = m := ⟨m - 1, by omega⟩
          obtain ⟨ad, hA', _, z0⟩ := z_at (Rd.own hs.out.1) (k := j) (by omega)
          subst hA'
          have hw : IntKind.i64.wrap ((m : Int) - 1) = (j : Int) := by rw [IntWalk.i64_in _ (by omega)]; omega
          have hjm : (j : Int) < (m : Int) := by omega
          have hj0 : (0 : Int) ≤ (j : Int) := by omega
          have HJ := Lib_hid hj
          by_cases h3 : atZ X j = a2
          · have bz : (atZ X j != a2) = false := by simp [h3]
            rw [putZ_eq (by rw [← hX.out.2]; exact hj) h3] at hsn
            clear hj h3
            generalize atZ X j = y at *
            have HSN := Lib_hid hsn
            clear hsn h1 h2
            go_upto_region 5 with (fail)
            go_quiet (fail)
            have hs9 : Hid ((W1.drewN nq).ownsRow (w.heap.size + 1) 3 1 (.slice (some ad) m c') m (zc X) ∧ Below (w.heap.size + 1) W (W1.drewN nq)) := ⟨(HQ5.out nq).1, (HQ5.out nq).2.1⟩
            go_wp2
            go_roundw
            case rel => exact ⟨k + 1, m, c', (some ad), X, rfl, by go_num, by omega, ⟨HSN.out.symm, hX.out.2⟩, hs9⟩
            case measure => simp [intOf]; omega
          · have bz : (atZ X j != a2) = true := by simp [h3]
            rw [putZ_ne (by rw [← hX.out.2]; exact hj) h3] at hsn
            clear hj h3
            generalize atZ X j = y at *
            have HSN := Lib_hid hsn
            clear hsn h1 h2
            go_upto_region 5 with (fail)
            go_quiet (fail)
            go_upto_region 6 with (fail)
            have hs9 := Lib_hid (HQ5.out nq)
            clear g1 hbw e0 e1 e2 HQ5 hs
            generalize W1.drewN nq = W2 at *
            obtain ⟨-, -, g1, e1⟩ := hs9.out
            have bA := below_new W2 (.cells #[.int .i64 a2] 3)
            have HO2 := Lib_hid (And.intro (own_below hs9.out.1 bA (own_lt hs9.out.1)) (And.intro (zc_new1 W2 a2) (And.intro (hs9.out.2.1.trans (bA.mono (show w.heap.size + 1 ≤ W2.heap.size by have h1 := hs9.out.2.1.size; have h2 := HQ.out.2.2; omega))) (show w.heap.size + 1 ≤ (W2.alloc (.cells #[.int .i64 a2] 3)).heap.size by have h1 := hs9.out.2.1.size; have h2 := HQ.out.2.2; have h3 := bA.size; omega))))
            have hm1 : m + 1 ≤ maxLen := by unfold maxLen; omega
            have hmb : (m + 1) * 8 ≤ 140737488355328 := by omega
            clear bA hs9
            go_wp2_with (at_builtin; (refine wpList_app rfl _ _ 55 rfl (w.heap.size + 1) 3 i0 (.int .i64 0) 1 8 Try.underlying55 hi hz0 hz1 hz2 rfl (by decide) _ m _ rfl HO2.out.1 (W2.heap.size + 1) (some ⟨W2.heap.size, 0, none⟩) 1 1 (zc [a2]) rfl HO2.out.2.1 (zc_one _) hm1 hmb HO2.out.2.2.2 ?_); intro v' w6 hown6 hst; obtain ⟨Aw6, cw6, rfl⟩ := own_form' hown6)
            rw [← zc_append] at hown6
            have hbw6 := Lib_hid (And.intro hown6 (HO2.out.2.2.1.grown hst.grow HO2.out.2.2.2 (own_ge HO2.out.1)))
            have hm2 : Hid (m + 1 = (X ++ [a2]).length) := by rw [List.length_append, ← hX.out.2]; rfl
            clear hown6 hst HO2 e1 g1
            go_wp2
            go_roundw
            case rel => exact ⟨k + 1, m + 1, cw6, Aw6, X ++ [a2], rfl, by go_num, by omega, ⟨HSN.out.symm, hm2.out⟩, hbw6⟩
            case measure => simp [intOf]; omega
      · have b1 : (a1 == x) = false := beq_eq_false_iff_ne.2 h1
        rw [if_neg h1] at hsn
        have HSN := Lib_hid hsn
        clear hsn h1
        go_upto_region 5 with (fail)
        go_quiet (fail)
        have hs9 : Hid ((W1.drewN nq).ownsRow (w.heap.size + 1) 3 1 (.slice A' m c') m (zc X) ∧ Below (w.heap.size + 1) W (W1.drewN nq)) := ⟨(HQ5.out nq).1, (HQ5.out nq).2.1⟩
        go_wp2
        go_roundw
        case rel => exact ⟨k + 1, m, c', A', X, rfl, by go_num, by omega, ⟨HSN.out.symm, hX.out.2⟩, hs9⟩
        case measure => simp [intOf]; omega
    · obtain rfl : k = n := by omega
      have HX : Hid (X = nextZ L x ∧ m = X.length) := ⟨by rw [hX.out.1, List.take_of_length_le (by rw [HC.out]; exact Nat.le_refl _)], hX.out.2⟩
      have hbw2 := Lib_hid hbw
      clear hbw HS HLN HI hX
      go_wp2
      go_ret
      obtain ⟨rfl, rfl⟩ := HX.out
      exact ⟨A', c', rfl, own_mono' hs.out.1 (by omega), hbw2.out⟩

/-- How the document's Remove ends. -/
def RrmEnd (N : Nat) (L : List Ed) (e : Ed) (w : World) (r : Ending) (w' : World) : Prop := ∃ (A : Option Addr) (c : Nat), r = .returned (.tuple #[.agg #[.int .i64 (N : Int), .slice A (remE L e).length c], .bool (decide (e ∈ L))]) ∧ Rd w' w'.heap.size 3 A (remE L e).length (ec (remE L e)) ∧ Below w.heap.size w w' ∧ ∀ ad, A = some ad → w.heap.size ≤ ad.block ∧ ad.block < w'.heap.size

set_option maxRecDepth 100000 in
set_option maxHeartbeats 3200000 in
theorem rremove_any {w : World} {B n c : Nat} {A : Option Addr} {L : List Ed} {N : Nat} (e : Ed) (h : Rd w B 3 A n (ec L)) (hB : B ≤ w.heap.size) (hn : n ≤ 1000000) (hnd : L.Nodup) :
    Calls Try.prog 17 #[.agg #[.int .i64 (N : Int), .slice A n c], eV e] w (RrmEnd N L e w) := by
  have HC := Lib_hid (rde_count h)
  have HI := Lib_hid (fun (W : World) (hW : Below w.heap.size w W) (i : Nat) (hi : i < n) => e_at (h.below (hW.mono hB)) hi)
  have HS : Hid (∀ k, k < n → remE (L.take (k + 1)) e = remE (L.take k) e ++ if at3 L k = e then [] else [at3 L k]) := fun k hk => remE_take (by rw [HC.out]; exact hk)
  have HLN : Hid (∀ k, (remE (L.take k) e).length ≤ n) := fun k => by
    have h1 := remE_le (L.take k) e
    have h2 := List.length_take_le' k L
    have h3 := HC.out
    omega
  have FINB : Hid (decide (((remE L e).length : Int) < (n : Int)) = decide (e ∈ L)) := by
    have h3 := HC.out
    unfold Hid
    rw [decide_eq_decide]
    constructor
    · intro h1
      by_cases h2 : e ∈ L
      · exact h2
      · rw [remE_no h2] at h1; omega
    · intro h2
      have := remE_len hnd h2
      omega
  have NE := Lib_hid (fun (y : Ed) (W : World) => neq_dd y e W)
  have HN := Lib_hid hn
  obtain ⟨i0, hi, hz0, hz1, hz2⟩ := info_parts Try.infoD
  obtain ⟨wa, hwa⟩ : ∃ wa, wa = w.alloc (.cells #[.int .i64 (N : Int), .slice A n c] 31) := ⟨_, rfl⟩
  have b1 := below_new w (.cells #[.int .i64 (N : Int), .slice A n c] 31)
  have x1 := heap_alloc_new w (.cells #[.int .i64 (N : Int), .slice A n c] 31)
  have s1 : (w.alloc (.cells #[.int .i64 (N : Int), .slice A n c] 31)).heap.size = w.heap.size + 1 := by simp
  rw [← hwa] at b1 x1 s1
  obtain ⟨we, hwe⟩ : ∃ we, we = wa.alloc (.cells #[.int .i64 e.1, .int .i64 e.2.1, .int .i64 e.2.2] 48) := ⟨_, rfl⟩
  have b4 := below_new wa (.cells #[.int .i64 e.1, .int .i64 e.2.1, .int .i64 e.2.2] 48)
  have x4 := heap_alloc_new wa (.cells #[.int .i64 e.1, .int .i64 e.2.1, .int .i64 e.2.2] 48)
  have s4 : (wa.alloc (.cells #[.int .i64 e.1, .int .i64 e.2.1, .int .i64 e.2.2] 48)).heap.size = w.heap.size + 1 + 1 := by simp [s1]
  rw [← hwe] at b4 x4 s4
  obtain ⟨wb, hwb⟩ : ∃ wb, wb = we.alloc (.cells #[.int .i64 0, .slice none 0 0] 31) := ⟨_, rfl⟩
  have b2 := below_new we (.cells #[.int .i64 0, .slice none 0 0] 31)
  have x2 := heap_alloc_new we (.cells #[.int .i64 0, .slice none 0 0] 31)
  have s2 : (we.alloc (.cells #[.int .i64 0, .slice none 0 0] 31)).heap.size = w.heap.size + 1 + 1 + 1 := by simp [s4]
  rw [← hwb] at b2 x2 s2
  obtain ⟨W, hW⟩ : ∃ W, W = wb.alloc (.cells #[.int .i64 (N : Int), .slice none 0 0] 31) := ⟨_, rfl⟩
  have b3 := below_new wb (.cells #[.int .i64 (N : Int), .slice none 0 0] 31)
  have x3 := heap_alloc_new wb (.cells #[.int .i64 (N : Int), .slice none 0 0] 31)
  have s3 : (wb.alloc (.cells #[.int .i64 (N : Int), .slice none 0 0] 31)).heap.size = w.heap.size + 1 + 1 + 1 + 1 := by simp [s2]
  rw [← hW] at b3 x3 s3
  rw [s2] at x3
  rw [s4] at x2
  rw [s1] at x4
  have HQ : Hid ((W.heap[w.heap.size]? = some (.cells #[.int .i64 (N : Int), .slice A n c] 31 (0, 0)) ∧ W.heap[w.heap.size + 1]? = some (.cells #[.int .i64 e.1, .int .i64 e.2.1, .int .i64 e.2.2] 48 (0, 0)) ∧ W.heap[w.heap.size + 1 + 1]? = some (.cells #[.int .i64 0, .slice none 0 0] 31 (0, 0)) ∧ W.heap[w.heap.size + 1 + 1 + 1]? = some (.cells #[.int .i64 (N : Int), .slice none 0 0] 31 (0, 0))) ∧ Below w.heap.size w W ∧ W.heap.size = w.heap.size + 4) :=
    ⟨⟨(b3.block _ (by omega)).trans ((b2.block _ (by omega)).trans ((b4.block _ (by omega)).trans x1)), (b3.block _ (by omega)).trans ((b2.block _ (by omega)).trans x4), (b3.block _ (by omega)).trans x2, x3⟩, ((b1.trans (b4.mono b1.size)).trans (b2.mono (b1.trans (b4.mono b1.size)).size)).trans (b3.mono ((b1.trans (b4.mono b1.size)).trans (b2.mono (b1.trans (b4.mono b1.size)).size)).size), by omega⟩
  clear b1 b2 b3 b4 x1 x2 x3 x4 s1 s2 s3 s4 h hnd
  unfold eV at NE ⊢
  go_enter Try.func17, Try.ntmps17
  go_upto_region 2 with (fail)
  rw [← hwa, ← hwe, ← hwb, ← hW]
  clear hwa hwe hwb hW
  go_wp2
  go_loopw [7] (fun i wr => ∃ (k m' c2 : Nat) (A2 : Option Addr) (X : List Ed), i = .int .i64 k ∧ k ≤ n ∧ Hid (X = remE (L.take k) e ∧ m' = X.length) ∧ Hid (wr.heap[w.heap.size + 1 + 1 + 1]? = some (.cells #[.int .i64 (N : Int), .slice A2 m' c2] 31 (0, 0)) ∧ wr.ownsRow (w.heap.size + 1 + 1 + 1 + 1) 48 3 (.slice A2 m' c2) m' (ec X) ∧ Below (w.heap.size + 1 + 1 + 1) W wr)) (fun i _ => n - (intOf i).toNat)
  case atStart => exact ⟨0, 0, 0, none, [], rfl, Nat.zero_le _, ⟨rfl, rfl⟩, ⟨HQ.out.1.2.2.2, own_zero _ _ _ _, Below.refl _ _⟩⟩
  case round =>
    obtain ⟨k, m', c2, A2, X, rfl, hk, hX, hV⟩ := hrel
    have KW : Hid (∀ V : World, Below (w.heap.size + 1 + 1 + 1) W V → (V.cell? ⟨w.heap.size, 1, none⟩ = some (.slice A n c) ∧ V.cell? ⟨w.heap.size + 1, 0, none⟩ = some (.int .i64 e.1) ∧ V.cell? ⟨w.heap.size + 1, 1, none⟩ = some (.int .i64 e.2.1) ∧ V.cell? ⟨w.heap.size + 1, 2, none⟩ = some (.int .i64 e.2.2)) ∧ Below w.heap.size w V) := fun V hb => by
      have h1 := (hb.block w.heap.size (by omega)).trans HQ.out.1.1
      have h2 := (hb.block (w.heap.size + 1) (by omega)).trans HQ.out.1.2.1
      exact ⟨⟨cell_of_row _ _ 1 _ _ _ h1, cell_of_row _ _ 0 _ _ _ h2, cell_of_row _ _ 1 _ _ _ h2, cell_of_row _ _ 2 _ _ _ h2⟩, HQ.out.2.1.trans (hb.mono (by omega))⟩
    obtain ⟨⟨g1, ex, ey, ez⟩, hbw⟩ := KW.out wr hV.out.2.2
    by_cases hlt : k < n
    · have hsn := HS.out k hlt
      have HMB := Lib_hid (mx_room (show m' ≤ 1000001 by have h8 := HLN.out k; rw [← hX.out.1, ← hX.out.2] at h8; have := HN.out; omega))
      obtain ⟨bk, off, hA, _, c0, c1, c2'⟩ := HI.out _ hbw k hlt
      subst hA
      have HIK := Lib_hid (fun (W : World) (hW : Below w.heap.size w W) => HI.out W hW k hlt)
      have E1 := fun W : World => NE.out (at3 L k) W
      have hki : (k : Int) < (n : Int) := by omega
      have hk0 : (0 : Int) ≤ (k : Int) := by omega
      have hn6 : n ≤ 1000000 := HN.out
      obtain ⟨V0, rfl⟩ : ∃ V0, V0 = wr := ⟨wr, rfl⟩
      have HV0 : Hid (∀ nq : Nat, (V0.drewN nq).heap[w.heap.size + 1 + 1 + 1]? = some (.cells #[.int .i64 (N : Int), .slice A2 m' c2] 31 (0, 0)) ∧ (V0.drewN nq).ownsRow (w.heap.size + 1 + 1 + 1 + 1) 48 3 (.slice A2 m' c2) m' (ec X) ∧ Below (w.heap.size + 1 + 1 + 1) W (V0.drewN nq)) := fun nq => ⟨hV.out.1, hV.out.2.1, ⟨hV.out.2.2.os, hV.out.2.2.tape, hV.out.2.2.output, hV.out.2.2.size, hV.out.2.2.block⟩⟩
      by_cases he : at3 L k = e
      · rw [if_pos he, List.append_nil] at hsn
        rw [decide_eq_true he] at E1
        have HW2 := Lib_hid hsn
        clear hsn he
        generalize (at3 L k).1 = a1 at *
        generalize (at3 L k).2.1 = a2 at *
        generalize (at3 L k).2.2 = a3 at *
        generalize e.1 = e1 at *
        generalize e.2.1 = e2 at *
        generalize e.2.2 = e3 at *
        go_upto_region 5 with (fail)
        go_quiet (fail)
        have HV9 := Lib_hid (HV0.out nq)
        go_wp2
        go_roundw
        case rel => exact ⟨k + 1, m', c2, A2, X, by go_num, by omega, ⟨by rw [HW2.out, ← hX.out.1], hX.out.2⟩, HV9⟩
        case measure => simp [intOf]; omega
      · rw [if_neg he] at hsn
        rw [decide_eq_false he] at E1
        rw [show at3 L k = ((at3 L k).1, (at3 L k).2.1, (at3 L k).2.2) from rfl] at hsn
        have HW2 := Lib_hid hsn
        clear hsn he
        have HATV := Lib_hid (fun (V : World) (hV : Below (w.heap.size + 1 + 1 + 1) W V) => And.intro (KW.out V hV).1.1 (HIK.out V (KW.out V hV).2))
        generalize (at3 L k).1 = a1 at *
        generalize (at3 L k).2.1 = a2 at *
        generalize (at3 L k).2.2 = a3 at *
        generalize e.1 = e1 at *
        generalize e.2.1 = e2 at *
        generalize e.2.2 = e3 at *
        go_upto_region 5 with (fail)
        go_quiet (fail)
        go_upto_region 6 with (fail)
        have hV2 := Lib_hid (HV0.out nq)
        clear g1 hbw c0 c1 c2' hV E1 ex ey ez HV0
        generalize V0.drewN nq = V at *
        obtain ⟨g1, bk', off', hA', _, c0, c1, c2'⟩ := HATV.out V hV2.out.2.2
        simp only [Option.some.injEq, Addr.mk.injEq, and_true] at hA'
        obtain ⟨rfl, rfl⟩ := hA'
        have ovd : V.drew.ownsRow (w.heap.size + 1 + 1 + 1 + 1) 48 3 (.slice A2 m' c2) m' (ec (X)) := hV2.out.2.1
        have oE := own_below ovd (below_new V.drew (.cells #[.int .i64 a1, .int .i64 a2, .int .i64 a3] 48)) (own_lt ovd)
        have rE := ec_newD V.drew (a1, a2, a3)
        have hvs := (Array.getElem?_eq_some_iff.1 hV2.out.1).1
        have hbs : w.heap.size + 1 + 1 + 1 + 1 ≤ (V.drew.alloc (.cells #[.int .i64 a1, .int .i64 a2, .int .i64 a3] 48)).heap.size := by simp; omega
        have HO := Lib_hid (And.intro oE rE)
        have v1 := cell_of_row _ _ 1 _ _ _ hV2.out.1
        obtain ⟨hm1, hmb, _, _⟩ := HMB.out
        have PU0 : Hid (∀ (w6 : World) (A6 : Option Addr) (c6 : Nat), w6.ownsRow (w.heap.size + 1 + 1 + 1 + 1) 48 3 (.slice A6 (m' + 1) c6) (m' + 1) (ec (X) ++ ec [(a1, a2, a3)]) → Stp (V.drew.alloc (.cells #[.int .i64 a1, .int .i64 a2, .int .i64 a3] 48)) w6 (.slice A2 m' c2) (.slice A6 (m' + 1) c6) →
            ((∃ v, w6.cell? ⟨w.heap.size + 1 + 1 + 1, 1, none⟩ = some v) ∧ w6.frozen? ⟨w.heap.size + 1 + 1 + 1, 1, none⟩ = false) ∧ (w6.setCell ⟨w.heap.size + 1 + 1 + 1, 1, none⟩ (.slice A6 (m' + 1) c6)).heap[w.heap.size + 1 + 1 + 1]? = some (.cells #[.int .i64 (N : Int), .slice A6 (m' + 1) c6] 31 (0, 0)) ∧ (w6.setCell ⟨w.heap.size + 1 + 1 + 1, 1, none⟩ (.slice A6 (m' + 1) c6)).ownsRow (w.heap.size + 1 + 1 + 1 + 1) 48 3 (.slice A6 (m' + 1) c6) (m' + 1) (ec (X) ++ ec [(a1, a2, a3)]) ∧ Below (w.heap.size + 1 + 1 + 1) V.drew (w6.setCell ⟨w.heap.size + 1 + 1 + 1, 1, none⟩ (.slice A6 (m' + 1) c6))) := fun w6 A6 c6 ho hst =>
          out_push (q := w.heap.size + 1 + 1 + 1) (w := V.drew) hV2.out.1 hV2.out.2.1 ho ((Stp.alloc V.drew (.cells #[.int .i64 a1, .int .i64 a2, .int .i64 a3] 48) (.slice A2 m' c2)).trans hst)
        clear oE rE ovd
        go_region_law
          ((refine step_app rfl (.tmp 26) (.tmp 32) 29 rfl (w.heap.size + 1 + 1 + 1 + 1) 48 i0 (.agg #[.int .i64 0, .int .i64 0, .int .i64 0]) 3 24 Try.underlying29 hi hz0 hz1 hz2 rfl (by decide) (.slice A2 m' c2) m' (ec (X)) (by go_simp) HO.out.1 (V.heap.size + 1) (some ⟨V.heap.size, 0, none⟩) 1 1 (ec [(a1, a2, a3)]) (by go_simp) HO.out.2 (ec_one _) hm1 hmb hbs ?_); intro v' w6 hown6 hst; obtain ⟨A6, cw6, rfl⟩ := own_form' hown6; have PU := PU0.out w6 A6 cw6 hown6 hst; obtain ⟨⟨⟨vv, p0⟩, p1⟩, PU1⟩ := PU; have PUH := Lib_hid PU1; clear PU1 hown6 hst)
        all_goals
          clear c0 c1 c2' g1 v1 p0 p1
          obtain ⟨u1, u2, u3⟩ := PUH.out
          rw [← ec_append] at u2
          have HU := Lib_hid (And.intro u1 (And.intro u2 (hV2.out.2.2.drew.trans u3)))
          clear u1 u2 u3 PUH PU0 HO hV2 HATV
          generalize w6.setCell ⟨w.heap.size + 1 + 1 + 1, 1, none⟩ (.slice A6 (m' + 1) cw6) = V6 at *
          go_wp2
          go_roundw
          case rel => exact ⟨k + 1, m' + 1, cw6, A6, X ++ [(a1, a2, a3)], by go_num, by omega, ⟨by rw [HW2.out, ← hX.out.1], by rw [List.length_append, ← hX.out.2]; rfl⟩, HU.out⟩
          case measure => simp [intOf]; omega
    · obtain rfl : k = n := by omega
      have HX : Hid (X = remE L e ∧ m' = X.length) := ⟨hX.out.1.trans (by rw [List.take_of_length_le (by rw [HC.out]; exact Nat.le_refl _)]), hX.out.2⟩
      have z1 := (hV.out.2.2.block (w.heap.size + 1 + 1) (by omega)).trans HQ.out.1.2.2.1
      obtain ⟨W9, rfl⟩ : ∃ W9, W9 = wr := ⟨wr, rfl⟩
      have h0 := cell_of_row _ _ 0 _ _ _ hV.out.1
      have h1 := cell_of_row _ _ 1 _ _ _ hV.out.1
      have x0 := cell_of_row _ _ 0 _ _ _ z1
      have x1 := cell_of_row _ _ 1 _ _ _ z1
      have f0 := frozen_of_row _ _ 0 _ _ z1
      have f1 := frozen_of_row _ _ 1 _ _ z1
      have HBB := Lib_hid (And.intro hbw z1)
      clear hX HLN HS HI hbw ex ey ez
      go_upto_region 7 with (fail)
      go_region
      have z1' := HBB.out.2
      obtain ⟨zf, hB9, hs9, ho9⟩ := box_store (u := .int .i64 (N : Int)) (v := .slice A2 m' c2) z1' hV.out.2.1 (by omega) (Below.refl _ _)
      have hBB := ((HBB.out.1.setCell (p := ⟨w.heap.size + 1 + 1, 0, none⟩) (show w.heap.size ≤ w.heap.size + 1 + 1 by omega) (.int .i64 (N : Int))).setCell (p := ⟨w.heap.size + 1 + 1, 1, none⟩) (show w.heap.size ≤ w.heap.size + 1 + 1 by omega) (.slice A2 m' c2)).drew
      have zf2 : ((W9.setCell ⟨w.heap.size + 1 + 1, 0, none⟩ (.int .i64 (N : Int))).setCell ⟨w.heap.size + 1 + 1, 1, none⟩ (.slice A2 m' c2)).drew.heap[w.heap.size + 1 + 1]? = _ := zf
      have ho2 : ((W9.setCell ⟨w.heap.size + 1 + 1, 0, none⟩ (.int .i64 (N : Int))).setCell ⟨w.heap.size + 1 + 1, 1, none⟩ (.slice A2 m' c2)).drew.ownsRow (w.heap.size + 1 + 1 + 1 + 1) 48 3 (.slice A2 m' c2) m' (ec X) := ho9
      clear zf ho9 hB9 hs9 z1' h0 h1 x0 x1 f0 f1 z1
      generalize ((W9.setCell ⟨w.heap.size + 1 + 1, 0, none⟩ (.int .i64 (N : Int))).setCell ⟨w.heap.size + 1 + 1, 1, none⟩ (.slice A2 m' c2)).drew = U at *
      have q0 := cell_of_row _ _ 0 _ _ _ zf2
      have q1 := cell_of_row _ _ 1 _ _ _ zf2
      have HU2 := Lib_hid (And.intro ho2 hBB)
      have FB : Hid (decide (m' < k) = decide (e ∈ L)) := by
        rw [HX.out.2, HX.out.1]
        unfold Hid
        rw [← FINB.out, decide_eq_decide]; omega
      clear ho2 hBB
      generalize hbb : decide (m' < k) = bb at *
      clear hbb
      go_wp2
      exact bodyPost_ret (v := .tuple #[.agg #[.int .i64 (N : Int), .slice A2 m' c2], .bool bb]) (by simp [results, Try.results17, go_sem, q0, q1]) rfl (by
        obtain ⟨hX1, hX2⟩ := HX.out
        subst hX1
        subst hX2
        exact ⟨A2, c2, by rw [FB.out], Rd.own HU2.out.1, HU2.out.2, fun ad hA => ⟨Nat.le_trans (by omega) (own_ge HU2.out.1 ad.block (by rw [hA]; rfl)), own_lt HU2.out.1 ad.block (by rw [hA]; rfl)⟩⟩)

end Go.Proofs.Ytopecdkkmbpnbaa
