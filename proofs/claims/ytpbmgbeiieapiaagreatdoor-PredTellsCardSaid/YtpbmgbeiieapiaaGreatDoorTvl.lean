/-
  Layer 4: the document's value.
-/
import Derived.Test.YtpbmgbeiieapiaaGreatDoorTdg
namespace Go.Proofs.YtpbmgbeiieapiaaGreatDoor
open Go Go.RowKit
set_option linter.unusedVariables false

def ValEnd (s : List UInt8) (w : World) (e : Ending) (w' : World) : Prop :=
  Below w.heap.size w w' ∧ ∃ (v : Nat) (r : List UInt8) (ok : Bool), e = .returned (.tuple #[.int .u64 (v : Int), .string ⟨r.toArray⟩, .bool ok]) ∧ v < 18446744073709551616 ∧ (ok = true → numS s = some (v, r)) ∧ (ok = false → numS s = none)

set_option maxRecDepth 100000 in
set_option maxHeartbeats 3200000 in
theorem rvalue_any (s : List UInt8) (hl : s.length ≤ 1000000) (w : World) : Calls Tryz.prog 73 #[.string ⟨s.toArray⟩] w (ValEnd s w) := by
  go_enter Tryz.func73, Tryz.ntmps73
  go_wp2
  go_loop [5, 6] (fun x z => ∃ n i : Nat, x = .int .u64 n ∧ z = .int .i64 i ∧ i ≤ s.length ∧ DgI s i n) (fun _ z => s.length - (intOf z).toNat)
  case atStart => exact ⟨0, 0, rfl, rfl, Nat.zero_le _, DgI.zero s⟩
  case round =>
    obtain ⟨n, i, rfl, rfl, hi1, hD⟩ := hrel
    by_cases hlt : i < s.length
    · have hil : (i : Int) < (s.length : Int) := by omega
      have hix := ix_str s i hlt
      obtain ⟨c, hc⟩ : ∃ c, s[i]? = some c := ⟨_, List.getElem?_eq_getElem hlt⟩
      have hce : s[i] = c := (List.getElem?_eq_some_iff.1 hc).2
      rw [hce] at hix
      have HC := Lib_hid hc
      clear hc hce
      have hc8 := c.toNat_lt
      by_cases h48 : 48 ≤ c.toNat
      · by_cases h57 : c.toNat ≤ 57
        · have hd := Lib_hid ((isDig_iff c).2 ⟨h48, h57⟩)
          have hn := hD.lt
          have i48 : (48 : Int) ≤ (c.toNat : Int) := by omega
          have i57 : (c.toNat : Int) ≤ 57 := by omega
          have hD := Lib_hid hD
          have HSTEP : Hid (n * 10 + (c.toNat - 48) ≤ 18446744073709551615 → DgI s (i + 1) (n * 10 + (c.toNat - 48))) := fun h => hD.out.step HC.out hd.out h
          have HOV : Hid (18446744073709551615 < n * 10 + (c.toNat - 48) → numS s = none) := fun h => hD.out.over HC.out hd.out h
          clear hc8
          generalize c.toNat = cn at *
          obtain ⟨dg, rfl⟩ : ∃ dg : Nat, cn = 48 + dg := ⟨cn - 48, by omega⟩
          rw [show ((48 + dg : Nat) : Int) = 48 + (dg : Int) by omega] at hix i48 i57
          simp only [Nat.add_sub_cancel_left] at HSTEP HOV
          have hw8 : IntKind.u8.wrap (48 + (dg : Int) - 48) = (dg : Int) := by rw [IntKind.wrap_u8]; omega
          by_cases hov : 18446744073709551615 < n * 10 + dg
          · have hX : Hid (ValEnd s w (.returned (.tuple #[.int .u64 0, .string ⟨s.toArray⟩, .bool false])) w) := ⟨Below.refl _ _, 0, s, false, rfl, by omega, (fun h => by cases h), fun _ => HOV.out hov⟩
            have hcmp : (18446744073709551615 - (dg : Int)) / 10 < (n : Int) := by omega
            clear HSTEP HOV hov h48 h57 hD hd HC
            go_wp2_with fail
            go_ret3
            exact hX.out
          · have hcmp : ¬ (18446744073709551615 - (dg : Int)) / 10 < (n : Int) := by omega
            have hST := Lib_hid (HSTEP.out (by omega))
            have hm1 : (n : Int) * 10 + (dg : Int) ≤ 18446744073709551615 := by omega
            clear HSTEP HOV hov h48 h57 hD hd HC
            go_wp2_with fail
            go_round
            case rel => exact ⟨n * 10 + dg, i + 1, by go_num, by go_num, by omega, hST.out⟩
            case measure => simp [intOf]; omega
        · have i57 : ¬ (c.toNat : Int) ≤ 57 := by omega
          have i48 : (48 : Int) ≤ (c.toNat : Int) := by omega
          have hnd : ∀ c', s[i]? = some c' → isDig c' = false := fun c' h => by
            rw [HC.out] at h
            injection h with h
            subst h
            cases hd : isDig c with
            | false => rfl
            | true => have := (isDig_iff c).1 hd; omega
          generalize c.toNat = cn at *
          have HD := Lib_hid (hD.done hi1 hnd)
          have hlt := hD.lt
          have hsd := sl_drop s i hi1
          have hst := sl_take s i hi1
          by_cases hi0 : 0 < i
          · have hid : decide ((0 : Int) < (i : Int)) = true := by simp; omega
            have hid2 : decide (0 < i) = true := by simp; omega
            have DG : Hid (∀ k, Calls Tryz.prog 63 #[.int .u64 n] (w.drewN k) fun e w'' => e = .returned (.string ⟨(Lib.decDigits n).toArray⟩) ∧ ∃ q, w'' = w.drewN q) := fun k => (rdigits_any n (w.drewN k) (by omega)).mono fun e w'' ⟨h1, h2⟩ => ⟨h1, k, h2⟩
            have HX : Hid (∀ W : World, Below w.heap.size w W → ValEnd s w (.returned (.tuple #[.int .u64 (n : Int), .string ⟨(s.drop i).toArray⟩, .bool (Lib.decDigits n == s.take i)])) W) := by
              intro W hW
              refine ⟨hW, n, s.drop i, _, rfl, by omega, fun h => ?_, fun h => ?_⟩
              · rw [HD.out, if_pos ⟨hi0, by simpa using h⟩]
              · rw [HD.out, if_neg (fun h2 => by rw [h2.2] at h; simp at h)]
            clear HD hD hnd HC h48 h57
            generalize Lib.decDigits n = dd at *
            generalize s.take i = tk at *
            generalize s.drop i = dr at *
            go_wp2_with fail
            go_quiet ((go_at_call 63; exact DG.out _))
            all_goals
              go_wp2_with fail
              go_ret3
              exact HX.out _ (by exact below_drew_ (Below.refl _ _))
          · have hi00 : i = 0 := by omega
            have hid : decide ((0 : Int) < (i : Int)) = false := by simp; omega
            have hid2 : decide (0 < i) = false := by simp; omega
            have HX : Hid (∀ W : World, Below w.heap.size w W → ValEnd s w (.returned (.tuple #[.int .u64 (n : Int), .string ⟨(s.drop i).toArray⟩, .bool false])) W) := by
              intro W hW
              refine ⟨hW, n, s.drop i, _, rfl, by omega, (fun h => by cases h), fun h => ?_⟩
              rw [HD.out, if_neg (fun h2 => hi0 h2.1)]
            clear HD hD hi00 hnd HC h48 h57
            generalize s.take i = tk at *
            generalize s.drop i = dr at *
            go_wp2_with fail
            go_quiet (fail)
            go_wp2_with fail
            go_ret3
            exact HX.out _ (by exact below_drew_ (Below.refl _ _))
      · have i48 : ¬ (48 : Int) ≤ (c.toNat : Int) := by omega
        have hnd : ∀ c', s[i]? = some c' → isDig c' = false := fun c' h => by
          rw [HC.out] at h
          injection h with h
          subst h
          cases hd : isDig c with
          | false => rfl
          | true => have := (isDig_iff c).1 hd; omega
        generalize c.toNat = cn at *
        have HD := Lib_hid (hD.done hi1 hnd)
        have hlt := hD.lt
        have hsd := sl_drop s i hi1
        have hst := sl_take s i hi1
        by_cases hi0 : 0 < i
        · have hid : decide ((0 : Int) < (i : Int)) = true := by simp; omega
          have hid2 : decide (0 < i) = true := by simp; omega
          have DG : Hid (∀ k, Calls Tryz.prog 63 #[.int .u64 n] (w.drewN k) fun e w'' => e = .returned (.string ⟨(Lib.decDigits n).toArray⟩) ∧ ∃ q, w'' = w.drewN q) := fun k => (rdigits_any n (w.drewN k) (by omega)).mono fun e w'' ⟨h1, h2⟩ => ⟨h1, k, h2⟩
          have HX : Hid (∀ W : World, Below w.heap.size w W → ValEnd s w (.returned (.tuple #[.int .u64 (n : Int), .string ⟨(s.drop i).toArray⟩, .bool (Lib.decDigits n == s.take i)])) W) := by
            intro W hW
            refine ⟨hW, n, s.drop i, _, rfl, by omega, fun h => ?_, fun h => ?_⟩
            · rw [HD.out, if_pos ⟨hi0, by simpa using h⟩]
            · rw [HD.out, if_neg (fun h2 => by rw [h2.2] at h; simp at h)]
          clear HD hD hnd HC h48
          generalize Lib.decDigits n = dd at *
          generalize s.take i = tk at *
          generalize s.drop i = dr at *
          go_wp2_with fail
          go_quiet ((go_at_call 63; exact DG.out _))
          all_goals
            go_wp2_with fail
            go_ret3
            exact HX.out _ (by exact below_drew_ (Below.refl _ _))
        · have hi00 : i = 0 := by omega
          have hid : decide ((0 : Int) < (i : Int)) = false := by simp; omega
          have hid2 : decide (0 < i) = false := by simp; omega
          have HX : Hid (∀ W : World, Below w.heap.size w W → ValEnd s w (.returned (.tuple #[.int .u64 (n : Int), .string ⟨(s.drop i).toArray⟩, .bool false])) W) := by
            intro W hW
            refine ⟨hW, n, s.drop i, _, rfl, by omega, (fun h => by cases h), fun h => ?_⟩
            rw [HD.out, if_neg (fun h2 => hi0 h2.1)]
          clear HD hD hi00 hnd HC h48
          generalize s.take i = tk at *
          generalize s.drop i = dr at *
          go_wp2_with fail
          go_quiet (fail)
          go_wp2_with fail
          go_ret3
          exact HX.out _ (by exact below_drew_ (Below.refl _ _))
    · have hil : ¬ (i : Int) < (s.length : Int) := by omega
      have hnd : ∀ c', s[i]? = some c' → isDig c' = false := fun c' h => by have := (List.getElem?_eq_some_iff.1 h).1; omega
      have HD := Lib_hid (hD.done hi1 hnd)
      have hlt := hD.lt
      have hsd := sl_drop s i hi1
      have hst := sl_take s i hi1
      by_cases hi0 : 0 < i
      · have hid : decide ((0 : Int) < (i : Int)) = true := by simp; omega
        have hid2 : decide (0 < i) = true := by simp; omega
        have DG : Hid (∀ k, Calls Tryz.prog 63 #[.int .u64 n] (w.drewN k) fun e w'' => e = .returned (.string ⟨(Lib.decDigits n).toArray⟩) ∧ ∃ q, w'' = w.drewN q) := fun k => (rdigits_any n (w.drewN k) (by omega)).mono fun e w'' ⟨h1, h2⟩ => ⟨h1, k, h2⟩
        have HX : Hid (∀ W : World, Below w.heap.size w W → ValEnd s w (.returned (.tuple #[.int .u64 (n : Int), .string ⟨(s.drop i).toArray⟩, .bool (Lib.decDigits n == s.take i)])) W) := by
          intro W hW
          refine ⟨hW, n, s.drop i, _, rfl, by omega, fun h => ?_, fun h => ?_⟩
          · rw [HD.out, if_pos ⟨hi0, by simpa using h⟩]
          · rw [HD.out, if_neg (fun h2 => by rw [h2.2] at h; simp at h)]
        clear HD hD hnd
        generalize Lib.decDigits n = dd at *
        generalize s.take i = tk at *
        generalize s.drop i = dr at *
        go_wp2_with fail
        go_quiet ((go_at_call 63; exact DG.out _))
        all_goals
          go_wp2_with fail
          go_ret3
          exact HX.out _ (by exact below_drew_ (Below.refl _ _))
      · have hi00 : i = 0 := by omega
        have hid : decide ((0 : Int) < (i : Int)) = false := by simp; omega
        have hid2 : decide (0 < i) = false := by simp; omega
        have HX : Hid (∀ W : World, Below w.heap.size w W → ValEnd s w (.returned (.tuple #[.int .u64 (n : Int), .string ⟨(s.drop i).toArray⟩, .bool false])) W) := by
          intro W hW
          refine ⟨hW, n, s.drop i, _, rfl, by omega, (fun h => by cases h), fun h => ?_⟩
          rw [HD.out, if_neg (fun h2 => hi0 h2.1)]
        clear HD hD hi00 hnd
        generalize s.take i = tk at *
        generalize s.drop i = dr at *
        go_wp2_with fail
        go_quiet (fail)
        go_wp2_with fail
        go_ret3
        exact HX.out _ (by exact below_drew_ (Below.refl _ _))

end Go.Proofs.YtpbmgbeiieapiaaGreatDoor
