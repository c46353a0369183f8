/-
  Layer 8: the document's in: is a number in one of some sets; in each?
-/
import Derived.Test.YtiembenkdldklaaDoorYg
namespace Go.Proofs.YtiembenkdldklaaDoor
open Go Go.RowKit
set_option linter.unusedVariables false

def anyI (ms : List (List Bool)) (i : Nat) : Bool := ms.any fun m => bt m i
def allI (ms : List (List Bool)) (i : Nat) : Bool := ms.all fun m => bt m i
/-- A row of the document's sets. -/
structure DL (w : World) (B : Nat) (vs : List Value) (ms : List (List Bool)) : Prop where
  len : vs.length = ms.length
  each : ∀ j, j < ms.length → ∃ A c, vs[j]? = some (.slice A (ms.getD j []).length c) ∧ DS w B (.agg #[.slice A (ms.getD j []).length c]) (ms.getD j [])
theorem DL.below {w w' : World} {B : Nat} {vs : List Value} {ms : List (List Bool)} (h : DL w B vs ms) (hb : Below B w w') : DL w' B vs ms :=
  ⟨h.len, fun j hj => by obtain ⟨A, c, e, d⟩ := h.each j hj; exact ⟨A, c, e, d.below hb⟩⟩
theorem take_get {α : Type} (d : α) {l : List α} {k : Nat} (h : k < l.length) : l.take (k + 1) = l.take k ++ [l.getD k d] := by
  rw [List.take_add_one, List.getElem?_eq_getElem h, List.getD_eq_getElem?_getD, List.getElem?_eq_getElem h]; rfl
theorem anyI_take {ms : List (List Bool)} {k i : Nat} (h : k < ms.length) : anyI (ms.take (k + 1)) i = (anyI (ms.take k) i || bt (ms.getD k []) i) := by
  unfold anyI; rw [take_get [] h, List.any_append]; simp
theorem allI_take {ms : List (List Bool)} {k i : Nat} (h : k < ms.length) : allI (ms.take (k + 1)) i = (allI (ms.take k) i && bt (ms.getD k []) i) := by
  unfold allI; rw [take_get [] h, List.all_append]; simp

set_option maxRecDepth 100000 in
set_option maxHeartbeats 1600000 in
theorem din_any (B n c : Nat) (A : Option Addr) (vs : List Value) (ms : List (List Bool)) (i : Nat) (w : World) (hr : Rd w B 1 A n vs) (h : DL w B vs ms) (hB : B ≤ w.heap.size) (hn : n ≤ 1000000000) :
    Calls Tryd.prog 53 #[.slice A n c, .int .i64 (i : Int)] w fun e w' => e = .returned (.tuple #[.bool (anyI ms i), .bool (allI ms i)]) ∧ Below w.heap.size w w' := by
  have hnm : n = ms.length := by have := hr.len; have := h.len; omega
  have HH := Lib_hid (fun (X : World) (hX : Below w.heap.size w X) (k : Nat) (hk : k < n) => show ∃ ad A' n' c', A = some ad ∧ ad.block < B ∧ X.cell? (ad.add k) = some (.slice A' n' c') ∧ Calls Tryd.prog 42 #[.agg #[.slice A' n' c'], .int .i64 (i : Int)] X (fun e w' => e = .returned (.bool (bt (ms.getD k []) i)) ∧ Below X.heap.size X w') by
    obtain ⟨ad, e, hb, hc⟩ := (hr.below (hX.mono hB)).lies (by omega)
    obtain ⟨A', c', e1, d⟩ := h.each k (by omega)
    refine ⟨ad, A', _, c', e, hb, hc k _ e1, ?_⟩
    rw [← hasB_nat]
    exact dhas_any B _ _ (i : Int) X (d.below (hX.mono hB)) (Nat.le_trans hB hX.size))
  have HN := Lib_hid hnm
  have h0 : Hid (anyI (ms.take 0) i = false ∧ allI (ms.take 0) i = true) := by unfold Hid anyI allI; simp
  clear hr h hnm
  go_enter Tryd.func53, Tryd.ntmps53
  go_wp2
  go_loopw [6, 7, 8] (fun x y j wr => ∃ (k : Nat) (p q : Bool), x = .bool p ∧ y = .bool q ∧ j = .int .i64 k ∧ k ≤ n ∧ Hid (anyI (ms.take k) i = p ∧ allI (ms.take k) i = q) ∧ Below w.heap.size w wr) (fun _ _ j _ => n - (intOf j).toNat)
  case atStart => exact ⟨0, false, true, rfl, rfl, rfl, Nat.zero_le _, h0, Below.refl _ _⟩
  case round =>
    clear h0
    obtain ⟨k, p, q, rfl, rfl, rfl, hk, hpq, hb⟩ := hrel
    by_cases hlt : k < n
    · have hkm : k < ms.length := by rw [← HN.out]; exact hlt
      have s1 := anyI_take (i := i) hkm
      have s2 := allI_take (i := i) hkm
      rw [hpq.out.1] at s1
      rw [hpq.out.2] at s2
      obtain ⟨ad, A', n', c', rfl, hbl, hc1, HC⟩ := HH.out _ hb k hlt
      have HCC := Lib_hid HC
      have HC2 := Lib_hid (fun (X : World) (hX : Below w.heap.size w X) => HH.out X hX k hlt)
      have hadw : ad.block < w.heap.size := by omega
      have HB := Lib_hid hb
      have hq0 : (ad.add k).block < w.heap.size := by rw [add_block]; exact hadw
      have HSS := Lib_hid (And.intro s1 s2)
      have HC1 := Lib_hid hc1
      clear s1 s2 hpq HC hkm
      generalize hbt : bt (ms.getD k []) i = b at *
      clear hbt
      have fin : True := trivial
      cases p with
      | false =>
        go_wp2_with fail
        refine HCC.out.mono ?_
        rintro e w1 ⟨rfl, hb1⟩
        have hb2 := hb.trans (hb1.mono hb.size)
        cases q with
        | true =>
          obtain ⟨ad2, A2, n2, c2, e2, _, hc2, HD⟩ := HC2.out w1 hb2
          have hx : ad2 = ad := by injection e2 with e2; exact e2.symm
          subst hx
          have HDD := Lib_hid HD
          have HB2 := Lib_hid hb2
          clear hb1 hb HD e2 hb2 hc1
          go_wp2_with fail
          refine HDD.out.mono ?_
          rintro e w3 ⟨rfl, hb3⟩
          have hb4 := HB2.out.trans (hb3.mono HB2.out.size)
          clear hb3
          go_wp2
          go_roundw
          case rel => exact ⟨k + 1, _, _, rfl, rfl, by go_num, by omega, ⟨by rw [HSS.out.1]; rfl, by rw [HSS.out.2]; rfl⟩, hb4⟩
          case measure => simp [intOf]; omega
        | false =>
          clear hb1 hb hc1
          go_wp2
          go_roundw
          case rel => exact ⟨k + 1, _, _, rfl, rfl, by go_num, by omega, ⟨by rw [HSS.out.1]; rfl, by rw [HSS.out.2]; rfl⟩, hb2⟩
          case measure => simp [intOf]; omega
      | true =>
        cases q with
        | true =>
          go_wp2_with fail
          refine HCC.out.mono ?_
          rintro e w1 ⟨rfl, hb1⟩
          have hb2 := hb.trans (hb1.mono hb.size)
          clear hb1 hb hc1
          go_wp2
          go_roundw
          case rel => exact ⟨k + 1, _, _, rfl, rfl, by go_num, by omega, ⟨by rw [HSS.out.1]; rfl, by rw [HSS.out.2]; rfl⟩, hb2⟩
          case measure => simp [intOf]; omega
        | false =>
          clear hc1
          go_wp2
          go_roundw
          case rel => exact ⟨k + 1, _, _, rfl, rfl, by go_num, by omega, ⟨by rw [HSS.out.1]; rfl, by rw [HSS.out.2]; rfl⟩, hb⟩
          case measure => simp [intOf]; omega
    · obtain rfl : k = n := by omega
      have e : ms.take k = ms := List.take_of_length_le (by rw [HN.out]; exact Nat.le_refl _)
      have hp := hpq.out
      rw [e] at hp
      have HP := Lib_hid hp
      clear hp hpq e
      go_wp2
      go_ret2
      exact ⟨by rw [HP.out.1, HP.out.2]; rfl, hb⟩

end Go.Proofs.YtiembenkdldklaaDoor
