/-
  Layer 4: the document's value.
  Layer 4: the document's read, plainly.
  Layer 4: the document's row, where read is known.
  Layer 4: the document's read.
  Layer 4: the program's Read.
  Layer 4: the document's Read.
  Layer 4: the chapter's examples, plainly.
  Layer 4: works: the chapter's examples.
-/
import Derived.Test.YtiijdacnfhiagaaGreatDoorTdg
import Derived.Test.YtiijdacnfhiagaaGreatDoorZkTno
import Derived.Test.YtiijdacnfhiagaaGreatDoorTex
import Derived.Test.YtiijdacnfhiagaaGreatDoorZkTqc
import Derived.Test.YtiijdacnfhiagaaGreatDoorHlp
import Derived.Test.YtiijdacnfhiagaaGreatDoorZkTcl

namespace Go.Proofs.YtiijdacnfhiagaaGreatDoor
open Go Go.RowKit
set_option linter.unusedVariables false

def ValEnd (s : List UInt8) (w : World) (e : Ending) (w' : World) : Prop :=
  Below w.heap.size w w' ∧ ∃ (v : Nat) (r : List UInt8) (ok : Bool), e = .returned (.tuple #[.int .u64 (v : Int), .string ⟨r.toArray⟩, .bool ok]) ∧ v < 18446744073709551616 ∧ (ok = true → numS s = some (v, r)) ∧ (ok = false → numS s = none)

set_option maxRecDepth 100000 in
set_option maxHeartbeats 3200000 in
theorem rvalue_any (s : List UInt8) (hl : s.length ≤ 1000000) (w : World) : Calls Tryz.prog 73 #[.string ⟨s.toArray⟩] w (ValEnd s w) := by
  go_enter Tryz.func73, Tryz.ntmps73
  go_wp2
  go_loop [5, 6] (fun x z => ∃ n i : Nat, x = .int .u64 n ∧ z = .int .i64 i ∧ i ≤ s.length ∧ DgI s i n) (fun _ z => s.length - (intOf z).toNat)
  case atStart => exact ⟨0, 0, rfl, rfl, Nat.zero_le _, DgI.zero s⟩
  case round =>
    obtain ⟨n, i, rfl, rfl, hi1, hD⟩ := hrel
    by_cases hlt : i < s.length
    · have hil : (i : Int) < (s.length : Int) := by omega
      have hix := ix_str s i hlt
      obtain ⟨c, hc⟩ : ∃ c, s[i]? = some c := ⟨_, List.getElem?_eq_getElem hlt⟩
      have hce : s[i] = c := (List.getElem?_eq_some_iff.1 hc).2
      rw [hce] at hix
      have HC := Lib_hid hc
      clear hc hce
      have hc8 := c.toNat_lt
      by_cases h48 : 48 ≤ c.toNat
      · by_cases h57 : c.toNat ≤ 57
        · have hd := Lib_hid ((isDig_iff c).2 ⟨h48, h57⟩)
          have hn := hD.lt
          have i48 : (48 : Int) ≤ (c.toNat : Int) := by omega
          have i57 : (c.toNat : Int) ≤ 57 := by omega
          have hD := Lib_hid hD
          have HSTEP : Hid (n * 10 + (c.toNat - 48) ≤ 18446744073709551615 → DgI s (i + 1) (n * 10 + (c.toNat - 48))) := fun h => hD.out.step HC.out hd.out h
          have HOV : Hid (18446744073709551615 < n * 10 + (c.toNat - 48) → numS s = none) := fun h => hD.out.over HC.out hd.out h
          clear hc8
          generalize c.toNat = cn at *
          obtain ⟨dg, rfl⟩ : ∃ dg : Nat, cn = 48 + dg := ⟨cn - 48, by omega⟩
          rw [show ((48 + dg : Nat) : Int) = 48 + (dg : Int) by omega] at hix i48 i57
          simp only [Nat.add_sub_cancel_left] at HSTEP HOV
          have hw8 : IntKind.u8.wrap (48 + (dg : Int) - 48) = (dg : Int) := by rw [IntKind.wrap_u8]; omega
          by_cases hov : 18446744073709551615 < n * 10 + dg
          · have hX : Hid (ValEnd s w (.returned (.tuple #[.int .u64 0, .string ⟨s.toArray⟩, .bool false])) w) := ⟨Below.refl _ _, 0, s, false, rfl, by omega, (fun h => by cases h), fun _ => HOV.out hov⟩
            have hcmp : (18446744073709551615 - (dg : Int)) / 10 < (n : Int) := by omega
            clear HSTEP HOV hov h48 h57 hD hd HC
            go_wp2_with fail
            go_ret3
            exact hX.out
          · have hcmp : ¬ (18446744073709551615 - (dg : Int)) / 10 < (n : Int) := by omega
            have hST := Lib_hid (HSTEP.out (by omega))
            have hm1 : (n : Int) * 10 + (dg : Int) ≤ 18446744073709551615 := by omega
            clear HSTEP HOV hov h48 h57 hD hd HC
            go_wp2_with fail
            go_round
            case rel => exact ⟨n * 10 + dg, i + 1, by go_num, by go_num, by omega, hST.out⟩
            case measure => simp [intOf]; omega
        · have i57 : ¬ (c.toNat : Int) ≤ 57 := by omega
          have i48 : (48 : Int) ≤ (c.toNat : Int) := by omega
          have hnd : ∀ c', s[i]? = some c' → isDig c' = false := fun c' h => by
            rw [HC.out] at h
            injection h with h
            subst h
            cases hd : isDig c with
            | false => rfl
            | true => have := (isDig_iff c).1 hd; omega
          generalize c.toNat = cn at *
          have HD := Lib_hid (hD.done hi1 hnd)
          have hlt := hD.lt
          have hsd := sl_drop s i hi1
          have hst := sl_take s i hi1
          by_cases hi0 : 0 < i
          · have hid : decide ((0 : Int) < (i : Int)) = true := by simp; omega
            have hid2 : decide (0 < i) = true := by simp; omega
            have DG : Hid (∀ k, Calls Tryz.prog 63 #[.int .u64 n] (w.drewN k) fun e w'' => e = .returned (.string ⟨(Lib.decDigits n).toArray⟩) ∧ ∃ q, w'' = w.drewN q) := fun k => (rdigits_any n (w.drewN k) (by omega)).mono fun e w'' ⟨h1, h2⟩ => ⟨h1, k, h2⟩
            have HX : Hid (∀ W : World, Below w.heap.size w W → ValEnd s w (.returned (.tuple #[.int .u64 (n : Int), .string ⟨(s.drop i).toArray⟩, .bool (Lib.decDigits n == s.take i)])) W) := by
              intro W hW
              refine ⟨hW, n, s.drop i, _, rfl, by omega, fun h => ?_, fun h => ?_⟩
              · rw [HD.out, if_pos ⟨hi0, by simpa using h⟩]
              · rw [HD.out, if_neg (fun h2 => by rw [h2.2] at h; simp at h)]
            clear HD hD hnd HC h48 h57
            generalize Lib.decDigits n = dd at *
            generalize s.take i = tk at *
            generalize s.drop i = dr at *
            go_wp2_with fail
            go_quiet ((go_at_call 63; exact DG.out _))
            all_goals
              go_wp2_with fail
              go_ret3
              exact HX.out _ (by exact below_drew_ (Below.refl _ _))
          · have hi00 : i = 0 := by omega
            have hid : decide ((0 : Int) < (i : Int)) = false := by simp; omega
            have hid2 : decide (0 < i) = false := by simp; omega
            have HX : Hid (∀ W : World, Below w.heap.size w W → ValEnd s w (.returned (.tuple #[.int .u64 (n : Int), .string ⟨(s.drop i).toArray⟩, .bool false])) W) := by
              intro W hW
              refine ⟨hW, n, s.drop i, _, rfl, by omega, (fun h => by cases h), fun h => ?_⟩
              rw [HD.out, if_neg (fun h2 => hi0 h2.1)]
            clear HD hD hi00 hnd HC h48 h57
            generalize s.take i = tk at *
            generalize s.drop i = dr at *
            go_wp2_with fail
            go_quiet (fail)
            go_wp2_with fail
            go_ret3
            exact HX.out _ (by exact below_drew_ (Below.refl _ _))
      · have i48 : ¬ (48 : Int) ≤ (c.toNat : Int) := by omega
        have hnd : ∀ c', s[i]? = some c' → isDig c' = false := fun c' h => by
          rw [HC.out] at h
          injection h with h
          subst h
          cases hd : isDig c with
          | false => rfl
          | true => have := (isDig_iff c).1 hd; omega
        generalize c.toNat = cn at *
        have HD := Lib_hid (hD.done hi1 hnd)
        have hlt := hD.lt
        have hsd := sl_drop s i hi1
        have hst := sl_take s i hi1
        by_cases hi0 : 0 < i
        · have hid : decide ((0 : Int) < (i : Int)) = true := by simp; omega
          have hid2 : decide (0 < i) = true := by simp; omega
          have DG : Hid (∀ k, Calls Tryz.prog 63 #[.int .u64 n] (w.drewN k) fun e w'' => e = .returned (.string ⟨(Lib.decDigits n).toArray⟩) ∧ ∃ q, w'' = w.drewN q) := fun k => (rdigits_any n (w.drewN k) (by omega)).mono fun e w'' ⟨h1, h2⟩ => ⟨h1, k, h2⟩
          have HX : Hid (∀ W : World, Below w.heap.size w W → ValEnd s w (.returned (.tuple #[.int .u64 (n : Int), .string ⟨(s.drop i).toArray⟩, .bool (Lib.decDigits n == s.take i)])) W) := by
            intro W hW
            refine ⟨hW, n, s.drop i, _, rfl, by omega, fun h => ?_, fun h => ?_⟩
            · rw [HD.out, if_pos ⟨hi0, by simpa using h⟩]
            · rw [HD.out, if_neg (fun h2 => by rw [h2.2] at h; simp at h)]
          clear HD hD hnd HC h48
          generalize Lib.decDigits n = dd at *
          generalize s.take i = tk at *
          generalize s.drop i = dr at *
          go_wp2_with fail
          go_quiet ((go_at_call 63; exact DG.out _))
          all_goals
            go_wp2_with fail
            go_ret3
            exact HX.out _ (by exact below_drew_ (Below.refl _ _))
        · have hi00 : i = 0 := by omega
          have hid : decide ((0 : Int) < (i : Int)) = false := by simp; omega
          have hid2 : decide (0 < i) = false := by simp; omega
          have HX : Hid (∀ W : World, Below w.heap.size w W → ValEnd s w (.returned (.tuple #[.int .u64 (n : Int), .string ⟨(s.drop i).toArray⟩, .bool false])) W) := by
            intro W hW
            refine ⟨hW, n, s.drop i, _, rfl, by omega, (fun h => by cases h), fun h => ?_⟩
            rw [HD.out, if_neg (fun h2 => hi0 h2.1)]
          clear HD hD hi00 hnd HC h48
          generalize s.take i = tk at *
          generalize s.drop i = dr at *
          go_wp2_with fail
          go_quiet (fail)
          go_wp2_with fail
          go_ret3
          exact HX.out _ (by exact below_drew_ (Below.refl _ _))
    · have hil : ¬ (i : Int) < (s.length : Int) := by omega
      have hnd : ∀ c', s[i]? = some c' → isDig c' = false := fun c' h => by have := (List.getElem?_eq_some_iff.1 h).1; omega
      have HD := Lib_hid (hD.done hi1 hnd)
      have hlt := hD.lt
      have hsd := sl_drop s i hi1
      have hst := sl_take s i hi1
      by_cases hi0 : 0 < i
      · have hid : decide ((0 : Int) < (i : Int)) = true := by simp; omega
        have hid2 : decide (0 < i) = true := by simp; omega
        have DG : Hid (∀ k, Calls Tryz.prog 63 #[.int .u64 n] (w.drewN k) fun e w'' => e = .returned (.string ⟨(Lib.decDigits n).toArray⟩) ∧ ∃ q, w'' = w.drewN q) := fun k => (rdigits_any n (w.drewN k) (by omega)).mono fun e w'' ⟨h1, h2⟩ => ⟨h1, k, h2⟩
        have HX : Hid (∀ W : World, Below w.heap.size w W → ValEnd s w (.returned (.tuple #[.int .u64 (n : Int), .string ⟨(s.drop i).toArray⟩, .bool (Lib.decDigits n == s.take i)])) W) := by
          intro W hW
          refine ⟨hW, n, s.drop i, _, rfl, by omega, fun h => ?_, fun h => ?_⟩
          · rw [HD.out, if_pos ⟨hi0, by simpa using h⟩]
          · rw [HD.out, if_neg (fun h2 => by rw [h2.2] at h; simp at h)]
        clear HD hD hnd
        generalize Lib.decDigits n = dd at *
        generalize s.take i = tk at *
        generalize s.drop i = dr at *
        go_wp2_with fail
        go_quiet ((go_at_call 63; exact DG.out _))
        all_goals
          go_wp2_with fail
          go_ret3
          exact HX.out _ (by exact below_drew_ (Below.refl _ _))
      · have hi00 : i = 0 := by omega
        have hid : decide ((0 : Int) < (i : Int)) = false := by simp; omega
        have hid2 : decide (0 < i) = false := by simp; omega
        have HX : Hid (∀ W : World, Below w.heap.size w W → ValEnd s w (.returned (.tuple #[.int .u64 (n : Int), .string ⟨(s.drop i).toArray⟩, .bool false])) W) := by
          intro W hW
          refine ⟨hW, n, s.drop i, _, rfl, by omega, (fun h => by cases h), fun h => ?_⟩
          rw [HD.out, if_neg (fun h2 => hi0 h2.1)]
        clear HD hD hi00 hnd
        generalize s.take i = tk at *
        generalize s.drop i = dr at *
        go_wp2_with fail
        go_quiet (fail)
        go_wp2_with fail
        go_ret3
        exact HX.out _ (by exact below_drew_ (Below.refl _ _))

end Go.Proofs.YtiijdacnfhiagaaGreatDoor

namespace Go.Proofs.YtiijdacnfhiagaaGreatDoor
open Go Go.RowKit
set_option linter.unusedVariables false

/-- A list's parts behind its bracket. -/
def listB (f : List UInt8 → Option (T × List UInt8)) (q : List UInt8) : Option (List T × List UInt8) :=
  if Lib.hasPrefix q [41] then some ([], Lib.trimPrefix q [41]) else (f q).bind fun (t, r') => (moreS f (r'.length + 1) r').map fun (ts, r2) => (t :: ts, r2)
/-- A part, and what stands behind. -/
def contS (f : List UInt8 → Option (T × List UInt8)) (q : List UInt8) : Option (List T × List UInt8) := (f q).bind fun (t, r') => (moreS f (r'.length + 1) r').map fun (ts, r2) => (t :: ts, r2)
theorem listS_B (f : List UInt8 → Option (T × List UInt8)) (s : List UInt8) : listS f s = if Lib.hasPrefix s [40] then listB f (Lib.trimPrefix s [40]) else none := rfl
theorem pre_one (c x : UInt8) (l : List UInt8) : Lib.hasPrefix (c :: l) [x] = (x == c) := by simp [Lib.hasPrefix, List.isPrefixOf]
theorem pre_nil (x : UInt8) : Lib.hasPrefix [] [x] = false := rfl
theorem trim_one (c : UInt8) (l : List UInt8) : Lib.trimPrefix (c :: l) [c] = l := by unfold Lib.trimPrefix; rw [pre_one]; simp
theorem trim_yes {s x : List UInt8} (h : Lib.hasPrefix s x = true) : Lib.trimPrefix s x = s.drop x.length := by unfold Lib.trimPrefix; rw [if_pos h]
theorem pre_len {s x : List UInt8} (h : Lib.hasPrefix s x = true) : x.length ≤ s.length := by
  unfold Lib.hasPrefix at h
  exact (List.isPrefixOf_iff_prefix.1 h).length_le

section
variable {f : List UInt8 → Option (T × List UInt8)} {q rest : List UInt8} {t : T}
theorem cont_none (h : f q = none) : contS f q = none := by unfold contS; rw [h]; rfl
theorem cont_end (h : f q = some (t, [])) : contS f q = none := by
  unfold contS; rw [h]
  simp only [Option.bind_some]
  rw [show moreS f ([].length + 1) [] = none by unfold moreS; simp [pre_nil]]
  rfl
theorem cont_shut {l : List UInt8} (h : f q = some (t, 41 :: l)) : contS f q = some ([t], l) := by
  unfold contS; rw [h]
  simp only [Option.bind_some]
  rw [show moreS f ((41 :: l).length + 1) (41 :: l) = some ([], l) by unfold moreS; rw [pre_one, pre_one, trim_one]; rfl]
  rfl
theorem cont_bad {c : UInt8} {l : List UInt8} (h : f q = some (t, c :: l)) (h1 : c ≠ 41) (h2 : c ≠ 44) : contS f q = none := by
  unfold contS; rw [h]
  simp only [Option.bind_some]
  rw [show moreS f ((c :: l).length + 1) (c :: l) = none by
    unfold moreS
    rw [pre_one, pre_one]
    have e1 : (44 == c) = false := by simp; exact fun e => h2 e.symm
    have e2 : (41 == c) = false := by simp; exact fun e => h1 e.symm
    rw [e1, e2]; rfl]
  rfl
theorem cont_more {l : List UInt8} (hf : ∀ s t r, f s = some (t, r) → r.length < s.length) (h : f q = some (t, 44 :: l)) : contS f q = (contS f l).map fun (ts, r) => (t :: ts, r) := by
  conv => lhs; unfold contS
  rw [h]
  simp only [Option.bind_some]
  have : moreS f ((44 :: l).length + 1) (44 :: l) = contS f l := by
    conv => lhs; unfold moreS
    rw [pre_one, trim_one]
    simp only [beq_self_eq_true, if_true]
    unfold contS
    cases hl : f l with
    | none => rfl
    | some x =>
      obtain ⟨t2, r2⟩ := x
      have := hf _ _ _ hl
      simp only [Option.bind_some]
      rw [moreS_fuel hf (44 :: l).length (r2.length + 1) r2 (by simp; omega) (Nat.le_refl _)]
  rw [this]
end

section
variable {d : Nat} {s : List UInt8}
theorem kind_hit {j : Nat} (h1 : 1 ≤ j) (h7 : j ≤ 7) (hn : ∀ i, 1 ≤ i → i < j → Lib.hasPrefix s (wordL i) = false) (hy : Lib.hasPrefix s (wordL j) = true) : kindS s = (j, s.drop (wordL j).length) := by
  rw [kindS_at h1 h7 hn hy, trim_yes hy]
theorem rd_all (h : Lib.hasPrefix s [97, 108, 108] = true) : rdS (d + 1) s = some (.node 1 0 0 [], s.drop 3) := by
  rw [rdS_succ (kind_hit (j := 1) (by omega) (by omega) (fun i h1 h2 => by omega) h) (by omega)]
  rfl
theorem rd_x (h1 : Lib.hasPrefix s [97, 108, 108] = false) (h : Lib.hasPrefix s [120, 60, 61] = true) : rdS (d + 1) s = (numS (s.drop 3)).map fun x => (.node 2 x.1 0 [], x.2) := by
  rw [rdS_succ (kind_hit (j := 2) (by omega) (by omega) (fun i q1 q2 => by obtain rfl : i = 1 := by omega
                                                                           exact h1) h) (by omega)]
  show (numsS 1 (s.drop 3)).bind _ = _
  show (((numS (s.drop 3)).map _).bind _) = _
  cases numS (s.drop 3) with
  | none => rfl
  | some x => rfl
theorem rd_v (h1 : Lib.hasPrefix s [97, 108, 108] = false) (h2 : Lib.hasPrefix s [120, 60, 61] = false) (h : Lib.hasPrefix s [118, 60, 61] = true) : rdS (d + 1) s = (numS (s.drop 3)).map fun x => (.node 3 x.1 0 [], x.2) := by
  rw [rdS_succ (kind_hit (j := 3) (by omega) (by omega) (fun i q1 q2 => by
    have : i = 1 ∨ i = 2 := by omega
    rcases this with rfl | rfl
    · exact h1
    · exact h2) h) (by omega)]
  show (((numS (s.drop 3)).map _).bind _) = _
  cases numS (s.drop 3) with
  | none => rfl
  | some x => rfl
theorem rd_m (h1 : Lib.hasPrefix s [97, 108, 108] = false) (h2 : Lib.hasPrefix s [120, 60, 61] = false) (h3 : Lib.hasPrefix s [118, 60, 61] = false) (h : Lib.hasPrefix s [118, 37] = true) :
    rdS (d + 1) s = (numS (s.drop 2)).bind fun x => if Lib.hasPrefix x.2 [61] then (numS (x.2.drop 1)).map fun y => (.node 4 x.1 y.1 [], y.2) else none := by
  rw [rdS_succ (kind_hit (j := 4) (by omega) (by omega) (fun i q1 q2 => by
    have : i = 1 ∨ i = 2 ∨ i = 3 := by omega
    rcases this with rfl | rfl | rfl
    · exact h1
    · exact h2
    · exact h3) h) (by omega)]
  show (((((numS (s.drop 2)).map _).bind _).bind _)) = _
  cases numS (s.drop 2) with
  | none => rfl
  | some x =>
    obtain ⟨v, r⟩ := x
    simp only [Option.map_some, Option.bind_some]
    cases h61 : Lib.hasPrefix r [61] with
    | false => rfl
    | true =>
      simp only [if_true, trim_yes h61]
      show (((numS (r.drop 1)).map _).bind _) = _
      cases numS (r.drop 1) with
      | none => rfl
      | some y => rfl
theorem rd_n (hn : ∀ i, 1 ≤ i → i < 5 → Lib.hasPrefix s (wordL i) = false) (h : Lib.hasPrefix s [33] = true) : rdS (d + 1) s = (rdS d (s.drop 1)).map fun x => (.node 5 0 0 [x.1], x.2) := by
  rw [rdS_succ (kind_hit (j := 5) (by omega) (by omega) hn h) (by omega)]
  show (((rdS d (s.drop 1)).map _).map _) = _
  cases rdS d (s.drop 1) with
  | none => rfl
  | some x => rfl
theorem pre_two {a b : UInt8} : Lib.hasPrefix s [a, b] = (Lib.hasPrefix s [a] && Lib.hasPrefix (s.drop 1) [b]) := by
  cases s with
  | nil => rfl
  | cons c l =>
    cases l with
    | nil => simp [Lib.hasPrefix, List.isPrefixOf]
    | cons x l => simp [Lib.hasPrefix, List.isPrefixOf]
theorem rd_r (j : Nat) (c : UInt8) (hj : j = 6 ∧ c = 38 ∨ j = 7 ∧ c = 124) (hn : ∀ i, 1 ≤ i → i < j → Lib.hasPrefix s (wordL i) = false) (h : Lib.hasPrefix s [c] = true) :
    rdS (d + 1) s = if Lib.hasPrefix s [c, 40] then (listB (rdS d) (s.drop 2)).map fun x => (.node j 0 0 x.1, x.2) else none := by
  have hk : kindS s = (j, s.drop 1) := by
    rcases hj with ⟨rfl, rfl⟩ | ⟨rfl, rfl⟩
    · exact kind_hit (by omega) (by omega) hn h
    · exact kind_hit (by omega) (by omega) hn h
  rw [rdS_succ hk (by omega), pre_two, h, Bool.true_and]
  have h0 : numN ((j : Nat) : Int) = 0 := by rcases hj with ⟨rfl, _⟩ | ⟨rfl, _⟩ <;> rfl
  rw [h0]
  show (((partsS (rdS d) j (s.drop 1)).map _)) = _
  have hp : partsS (rdS d) j (s.drop 1) = listS (rdS d) (s.drop 1) := by unfold partsS; rw [if_neg (by omega), if_pos (by omega)]
  rw [hp, listS_B]
  cases h40 : Lib.hasPrefix (s.drop 1) [40] with
  | false => rfl
  | true =>
    rw [if_pos rfl, if_pos rfl, trim_yes h40, List.drop_drop]
    rfl
theorem rd_0 (hn : ∀ i, 1 ≤ i → i < 6 → Lib.hasPrefix s (wordL i) = false) (h6 : Lib.hasPrefix s [38, 40] = false) (h7 : Lib.hasPrefix s [124, 40] = false) : rdS (d + 1) s = none := by
  cases e6 : Lib.hasPrefix s [38] with
  | true => rw [rd_r 6 38 (.inl ⟨rfl, rfl⟩) hn e6, h6]; rfl
  | false =>
    have hn7 : ∀ i, 1 ≤ i → i < 7 → Lib.hasPrefix s (wordL i) = false := fun i q1 q2 => by
      rcases Nat.lt_or_ge i 6 with h | h
      · exact hn i q1 h
      · obtain rfl : i = 6 := by omega
        exact e6
    cases e7 : Lib.hasPrefix s [124] with
    | true => rw [rd_r 7 124 (.inr ⟨rfl, rfl⟩) hn7 e7, h7]; rfl
    | false =>
      have hk := kindS_none (s := s) (fun i q1 q2 => by
        rcases Nat.lt_or_ge i 7 with h | h
        · exact hn7 i q1 h
        · obtain rfl : i = 7 := by omega
          exact e7)
      show (if (kindS s).1 = 0 then none else _) = _
      rw [hk, if_pos rfl]
end

end Go.Proofs.YtiijdacnfhiagaaGreatDoor

namespace Go.Proofs.YtiijdacnfhiagaaGreatDoor
open Go Go.RowKit
set_option linter.unusedVariables false

/-- How the document's read ends. -/
structure RrR (d : Nat) (s : List UInt8) (w w' : World) (k : Int) (a b n c : Nat) (A : Option Addr) (s' : List UInt8) (ok : Bool) : Prop where
  yes : ok = true → ∃ t us, rdS d s = some (t, s') ∧ (V.node k a b A c us).abs = t ∧ us.length = n ∧ Lies w' w.heap.size w'.heap.size (.node k a b A c us) ∧ Shp 30 w' w.heap.size (.node k a b A c us)
  no : ok = false → rdS d s = none
def RdE4 (d : Nat) (s : List UInt8) (w : World) (e : Ending) (w' : World) : Prop :=
  ∃ (k : Int) (a b n c : Nat) (A : Option Addr) (s' : List UInt8) (ok : Bool), e = .returned (.tuple #[.agg #[.int .i64 k, .int .u64 (a : Int), .int .u64 (b : Int), .slice A n c], .string ⟨s'.toArray⟩, .bool ok]) ∧ Below w.heap.size w w' ∧ RrR d s w w' k a b n c A s' ok
def ROK (d : Nat) : Prop := ∀ (s : List UInt8) (w : World), s.length ≤ 1000000 → Calls Tryz.prog 54 #[.string ⟨s.toArray⟩, .int .i64 (d : Int)] w (RdE4 d s w)
def RowEnd4 (d kd : Nat) (s : List UInt8) (w : World) (e : Ending) (w' : World) : Prop :=
  ∃ (n c : Nat) (A : Option Addr) (s' : List UInt8) (ok : Bool), e = .returned (.tuple #[.agg #[.int .i64 (kd : Int), .int .u64 0, .int .u64 0, .slice A n c], .string ⟨s'.toArray⟩, .bool ok]) ∧ Below w.heap.size w w' ∧
    (ok = true → ∃ us, listB (rdS d) s = some (V.absL us, s') ∧ us.length = n ∧ TRow 30 w.heap.size (.slice A n c) us w') ∧ (ok = false → listB (rdS d) s = none)

theorem ext_drop (s : List UInt8) (k : Nat) : (⟨s.toArray⟩ : ByteArray).extract k s.length = ⟨(s.drop k).toArray⟩ := by
  apply ByteArray.ext
  simp [ByteArray.data_extract]
  rw [List.take_of_length_le (by simp)]
def strLen (v : Value) : Nat := match v with
  | Value.string b => b.size
  | _ => 0
theorem strLen_eq (s : List UInt8) : strLen (.string ⟨s.toArray⟩) = s.length := by simp [strLen, ByteArray.size]

set_option maxRecDepth 100000 in
theorem row_ret {Q : Ending → World → Prop} {W : World} {h0 : Nat} {x0 x1 x2 x3 y : Value} {b : Bool} (HR2 : W.heap[h0]? = some (.cells #[x0, x1, x2, x3] 30 (0, 0))) (HF2 : Q (.returned (.tuple #[.agg #[x0, x1, x2, x3], y, .bool b])) W)
    (tmps : Array Value) (h6 : tmps.getD 6 undef = .pointer (some ⟨h0, 0, none⟩)) (h7 : tmps.getD 7 undef = y) (h8 : tmps.getD 8 undef = .bool b) : bodyPost Tryz.prog Tryz.f74 Q .ret { tmps := tmps, defers := [] } W := by
  rw [Array.getD_eq_getD_getElem?] at h6 h7 h8
  have d0 := cell_of_row W _ 0 _ _ _ HR2
  have d1 := cell_of_row W _ 1 _ _ _ HR2
  have d2 := cell_of_row W _ 2 _ _ _ HR2
  have d3 := cell_of_row W _ 3 _ _ _ HR2
  simp at d0 d1 d2 d3
  exact bodyPost_ret (v := .tuple #[.agg #[x0, x1, x2, x3], y, .bool b]) (by simp [results, Tryz.results74, go_sem, h6, h7, h8, d0, d1, d2, d3]) rfl HF2

set_option maxRecDepth 100000 in
set_option maxHeartbeats 3200000 in
theorem rrow_any (d kd : Nat) (hd : d ≤ 8) (hkd : kd ≤ 7) (IH : ROK d) (s : List UInt8) (hl : s.length ≤ 1000000) (w : World) :
    Calls Tryz.prog 74 #[.agg #[.int .i64 (kd : Int), .int .u64 0, .int .u64 0, .slice none 0 0], .string ⟨s.toArray⟩, .int .i64 ((d : Int) + 1)] w (RowEnd4 d kd s w) := by
  obtain ⟨i0, hi0, hz0, hz1, hz2⟩ := info_parts Tryz.infoR
  obtain ⟨w1, hw1⟩ : ∃ w1, w1 = w.alloc (.cells #[.int .i64 (kd : Int), .int .u64 0, .int .u64 0, .slice none 0 0] 30) := ⟨_, rfl⟩
  have p1 := heap_alloc_new w (.cells #[.int .i64 (kd : Int), .int .u64 0, .int .u64 0, .slice none 0 0] 30)
  have b1 := below_new w (.cells #[.int .i64 (kd : Int), .int .u64 0, .int .u64 0, .slice none 0 0] 30)
  have s1 : w1.heap.size = w.heap.size + 1 := by rw [hw1]; simp
  rw [← hw1] at p1 b1
  obtain ⟨w2, hw2⟩ : ∃ w2, w2 = w1.alloc (.cells #[.int .i64 0, .int .u64 0, .int .u64 0, .slice none 0 0] 30) := ⟨_, rfl⟩
  have q2 := heap_alloc_new w1 (.cells #[.int .i64 0, .int .u64 0, .int .u64 0, .slice none 0 0] 30)
  have b2 := below_new w1 (.cells #[.int .i64 0, .int .u64 0, .int .u64 0, .slice none 0 0] 30)
  have s2 : w2.heap.size = w.heap.size + 2 := by rw [hw2]; simp [s1]
  rw [← hw2, s1] at q2 b2
  have p2 := (b2.block w.heap.size (by omega)).trans p1
  have hbw := b1.trans (b2.mono (by omega))
  have BG := Lib_hid (fun (x : List UInt8) W => rbegins_any s x W)
  have HIH := Lib_hid IH
  have HRET : Hid (∀ (W : World) (n c : Nat) (A : Option Addr) (s' : List UInt8) (ok : Bool) (us : List V), W.heap[w.heap.size + 1]? = some (.cells #[.int .i64 0, .int .u64 0, .int .u64 0, .slice none 0 0] 30 (0, 0)) → Below w.heap.size w W →
      (ok = true → ∃ us, listB (rdS d) s = some (V.absL us, s') ∧ us.length = n ∧ TRow 30 (w.heap.size + 2) (.slice A n c) us W) → (ok = false → listB (rdS d) s = none) → w.heap.size + 2 ≤ W.heap.size →
      RowEnd4 d kd s w (.returned (.tuple #[.agg #[.int .i64 (kd : Int), .int .u64 0, .int .u64 0, .slice A n c], .string ⟨s'.toArray⟩, .bool ok])) (put4 W (w.heap.size + 1) (.int .i64 (kd : Int)) (.int .u64 0) (.int .u64 0) (.slice A n c)) ∧
      (put4 W (w.heap.size + 1) (.int .i64 (kd : Int)) (.int .u64 0) (.int .u64 0) (.slice A n c)).heap[w.heap.size + 1]? = some (.cells #[.int .i64 (kd : Int), .int .u64 0, .int .u64 0, .slice A n c] 30 (0, 0))) := by
    intro W n c A s' ok us0 h1 h2 h3 h4 h5
    refine ⟨⟨n, c, A, s', ok, rfl, put4_below h2 (by omega) _ _ _ _, fun ho => ?_, h4⟩, put4_row h1 _ _ _ _⟩
    obtain ⟨us, e1, e2, hT⟩ := h3 ho
    have hT2 := hT.keep (w' := put4 W (w.heap.size + 1) (.int .i64 (kd : Int)) (.int .u64 0) (.int .u64 0) (.slice A n c)) (by rw [put4_size]; exact Nat.le_refl _) (fun g hg _ => put4_else W (by omega) _ _ _ _)
    exact ⟨us, e1, e2, own_base hT2.own fun k hk => by have := own_ge hT2.own k hk; omega, fun u hu => by
      obtain ⟨lo, hi, q1, q2, q3, q4, q5⟩ := hT2.el u hu
      exact ⟨lo, hi, by omega, q2, q3, q4, q5⟩⟩
  have HB2 := Lib_hid (And.intro q2 (And.intro hbw s2))
  subst hw2 hw1
  clear b1 b2 p1 IH q2 hbw s1
  go_enter Tryz.func74, Tryz.ntmps74
  go_upto_region 1 with (fail)
  generalize (w.alloc _).alloc (.cells #[.int .i64 0, .int .u64 0, .int .u64 0, .slice none 0 0] 30) = w2 at *
  have BG1 := BG.out [41] w2
  clear BG
  cases h41 : Lib.hasPrefix s [41] with
  | true =>
    rw [h41] at BG1
    have hls := pre_len h41
    have hext := ext_drop s 1
    have hLB : listB (rdS d) s = some (V.absL [], s.drop 1) := by unfold listB; rw [if_pos h41, trim_yes h41]; simp [V.absL]
    have hi1 : (1 : Int) ≤ (s.length : Int) := by have := hls; simp at this; omega
    generalize s.drop 1 = s' at *
    have pE := p2
    have qE := HB2.out.1
    have bE := HB2.out.2.1
    have sE : w.heap.size + 2 ≤ w2.heap.size := by have := HB2.out.2.2; omega
    clear p2 HB2 s2 h41 hls
    have e0 := cell_of_row w2 _ 0 _ _ _ pE
    have e1 := cell_of_row w2 _ 1 _ _ _ pE
    have e2 := cell_of_row w2 _ 2 _ _ _ pE
    have e3 := cell_of_row w2 _ 3 _ _ _ pE
    have f0 := cell_of_row w2 _ 0 _ _ _ qE
    have f1 := cell_of_row w2 _ 1 _ _ _ qE
    have f2 := cell_of_row w2 _ 2 _ _ _ qE
    have f3 := cell_of_row w2 _ 3 _ _ _ qE
    have y0 := frozen_of_row w2 (w.heap.size + 1) 0 _ _ qE
    have y1 := frozen_of_row w2 (w.heap.size + 1) 1 _ _ qE
    have y2 := frozen_of_row w2 (w.heap.size + 1) 2 _ _ qE
    have y3 := frozen_of_row w2 (w.heap.size + 1) 3 _ _ qE
    simp at e0 e1 e2 e3 f0 f1 f2 f3
    have HX := Lib_hid (HRET.out w2.drew 0 0 none s' true [] qE bE.drew (fun _ => ⟨[], hLB, rfl, TRow.nil _ _ _⟩) (fun h => by cases h) sE)
    clear pE qE bE sE
    clear hLB HRET
    go_upto_region 2 with (go_at_call 72; refine BG1.mono ?_; rintro e w' ⟨rfl, rfl⟩)
    go_region
    all_goals
      go_wp2_with fail
      show bodyPost _ _ _ _ _ (put4 w2.drew (w.heap.size + 1) (.int .i64 (kd : Int)) (.int .u64 0) (.int .u64 0) (.slice none 0 0))
      have HX2 := HX.out
      clear HX e0 e1 e2 e3 f0 f1 f2 f3 y0 y1 y2 y3
      generalize put4 w2.drew (w.heap.size + 1) (.int .i64 (kd : Int)) (.int .u64 0) (.int .u64 0) (.slice none 0 0) = W2 at *
      exact row_ret (b := true) HX2.2 HX2.1 _ rfl rfl rfl
  | false =>
    have H41 := Lib_hid h41
    have hT0 := TRow.nil 30 (w.heap.size + 2) w2
    have hlb : listB (rdS d) s = (contS (rdS d) s).map fun x => (V.absL [] ++ x.1, x.2) := by
      show (if _ then _ else contS (rdS d) s) = _
      rw [if_neg (by rw [h41]; simp)]
      cases contS (rdS d) s with
      | none => rfl
      | some x => simp [V.absL]
    have HLB := Lib_hid hlb
    have HT0 := Lib_hid hT0
    have hq2 := HB2.out.1
    have hbw := HB2.out.2.1
    have hs2 := HB2.out.2.2
    have hd1 : IntKind.i64.wrap ((d : Int) + 1 - 1) = (d : Int) := by rw [IntKind.wrap_i64]; omega
    rw [h41] at BG1
    clear h41 hT0 hlb HB2
    go_wp2_with (go_at_call 72; refine BG1.mono ?_; rintro e w' ⟨rfl, rfl⟩)
    clear BG1
    go_loopw [1] (fun x W => ∃ (us : List V) (A : Option Addr) (n c : Nat) (ss : List UInt8), x = .string ⟨ss.toArray⟩ ∧ W.heap[w.heap.size]? = some (.cells #[.int .i64 (kd : Int), .int .u64 0, .int .u64 0, .slice A n c] 30 (0, 0)) ∧ W.heap[w.heap.size + 1]? = some (.cells #[.int .i64 0, .int .u64 0, .int .u64 0, .slice none 0 0] 30 (0, 0)) ∧
        Hid (TRow 30 (w.heap.size + 2) (.slice A n c) us W) ∧ Hid (listB (rdS d) s = (contS (rdS d) ss).map fun x => (V.absL us ++ x.1, x.2)) ∧ n + ss.length ≤ s.length ∧ Below w.heap.size w W ∧ w.heap.size + 2 ≤ W.heap.size) (fun x _ => strLen x)
    case atStart => exact ⟨[], none, 0, 0, s, rfl, p2, hq2, HT0, HLB, by omega, hbw, by omega⟩
    case round =>
      clear p2 hq2 HT0 HLB hbw hs2
      obtain ⟨us, A, n, c, ss, rfl, pW, qW, hT, hlb, hns, hbW, sW⟩ := hrel
      rename World => W
      have CH := HIH.out ss W (by omega)
      have hun : us.length = n := by
        obtain ⟨A2, c2, e, _⟩ := own_form hT.out.own
        injection e with _ e
        exact e.symm
      have HUN := Lib_hid hun
      have hSL : Hid (strLen (.string ⟨ss.toArray⟩) = ss.length) := strLen_eq ss
      clear hun
      go_wp2_with fail
      refine CH.mono ?_
      rintro e w3 ⟨k, a, b, n', c', A', s', ok, rfl, hb3, hR⟩
      have s3 := hb3.size
      have b4 := below_new w3 (.cells #[.int .i64 k, .int .u64 (a : Int), .int .u64 (b : Int), .slice A' n' c'] 30)
      have r4 := heap_alloc_new w3 (.cells #[.int .i64 k, .int .u64 (a : Int), .int .u64 (b : Int), .slice A' n' c'] 30)
      have s4 := b4.size
      have hb4 := hb3.trans (b4.mono s3)
      have bW4 := hbW.trans (hb4.mono (by omega))
      have p4 := (hb4.block w.heap.size (by omega)).trans pW
      have q4 := (hb4.block (w.heap.size + 1) (by omega)).trans qW
      have HB4 := Lib_hid b4
      have sw4 : w3.heap.size < (w3.alloc (.cells #[.int .i64 k, .int .u64 (a : Int), .int .u64 (b : Int), .slice A' n' c'] 30)).heap.size := by simp
      clear CH pW qW hbW b4
      go_upto_region 4 with (fail)
      generalize w3.alloc (.cells #[.int .i64 k, .int .u64 (a : Int), .int .u64 (b : Int), .slice A' n' c'] 30) = w4 at *
      cases ok with
      | false =>
        have hno : listB (rdS d) s = none := by rw [hlb.out, cont_none (hR.no rfl)]; rfl
        have pE := p4
        have qE := q4
        have bE := bW4
        have sE : w.heap.size + 2 ≤ w4.heap.size := by omega
        clear p4 q4 bW4
        have e0 := cell_of_row w4 _ 0 _ _ _ pE
        have e1 := cell_of_row w4 _ 1 _ _ _ pE
        have e2 := cell_of_row w4 _ 2 _ _ _ pE
        have e3 := cell_of_row w4 _ 3 _ _ _ pE
        have f0 := cell_of_row w4 _ 0 _ _ _ qE
        have f1 := cell_of_row w4 _ 1 _ _ _ qE
        have f2 := cell_of_row w4 _ 2 _ _ _ qE
        have f3 := cell_of_row w4 _ 3 _ _ _ qE
        have y0 := frozen_of_row w4 (w.heap.size + 1) 0 _ _ qE
        have y1 := frozen_of_row w4 (w.heap.size + 1) 1 _ _ qE
        have y2 := frozen_of_row w4 (w.heap.size + 1) 2 _ _ qE
        have y3 := frozen_of_row w4 (w.heap.size + 1) 3 _ _ qE
        simp at e0 e1 e2 e3 f0 f1 f2 f3
        have HX := Lib_hid (HRET.out w4 n c A ss false [] qE bE (fun h => by cases h) (fun _ => hno) sE)
        clear pE qE bE sE HRET
        go_wp2_with fail
        show bodyPost _ _ _ _ _ (put4 w4 (w.heap.size + 1) (.int .i64 (kd : Int)) (.int .u64 0) (.int .u64 0) (.slice A n c))
        have HX2 := HX.out
        clear HX e0 e1 e2 e3 f0 f1 f2 f3 y0 y1 y2 y3
        generalize put4 w4 (w.heap.size + 1) (.int .i64 (kd : Int)) (.int .u64 0) (.int .u64 0) (.slice A n c) = W2 at *
        exact row_ret (b := false) HX2.2 HX2.1 _ rfl rfl rfl
      | true =>
        obtain ⟨t, us2, e1, e2, e3, hL, hS⟩ := hR.yes rfl
        have hlr := rdS_len d _ _ _ e1
        by_cases hnil : s' = []
        · subst hnil
          have hno : listB (rdS d) s = none := by rw [hlb.out, cont_end e1]; rfl
          have pE := p4
          have qE := q4
          have bE := bW4
          have sE : w.heap.size + 2 ≤ w4.heap.size := by omega
          clear p4 q4 bW4
          have e0 := cell_of_row w4 _ 0 _ _ _ pE
          have e1 := cell_of_row w4 _ 1 _ _ _ pE
          have e2 := cell_of_row w4 _ 2 _ _ _ pE
          have e3 := cell_of_row w4 _ 3 _ _ _ pE
          have f0 := cell_of_row w4 _ 0 _ _ _ qE
          have f1 := cell_of_row w4 _ 1 _ _ _ qE
          have f2 := cell_of_row w4 _ 2 _ _ _ qE
          have f3 := cell_of_row w4 _ 3 _ _ _ qE
          have y0 := frozen_of_row w4 (w.heap.size + 1) 0 _ _ qE
          have y1 := frozen_of_row w4 (w.heap.size + 1) 1 _ _ qE
          have y2 := frozen_of_row w4 (w.heap.size + 1) 2 _ _ qE
          have y3 := frozen_of_row w4 (w.heap.size + 1) 3 _ _ qE
          simp at e0 e1 e2 e3 f0 f1 f2 f3
          have HX := Lib_hid (HRET.out w4 n c A ss false [] qE bE (fun h => by cases h) (fun _ => hno) sE)
          clear pE qE bE sE HRET
          go_wp2_with fail
          show bodyPost _ _ _ _ _ (put4 w4 (w.heap.size + 1) (.int .i64 (kd : Int)) (.int .u64 0) (.int .u64 0) (.slice A n c))
          have HX2 := HX.out
          clear HX e0 e1 e2 e3 f0 f1 f2 f3 y0 y1 y2 y3
          generalize put4 w4 (w.heap.size + 1) (.int .i64 (kd : Int)) (.int .u64 0) (.int .u64 0) (.slice A n c) = W2 at *
          exact row_ret (b := false) HX2.2 HX2.1 _ rfl rfl rfl
        · obtain ⟨ch, l, hs'⟩ : ∃ ch l, s' = ch :: l := by
            cases s' with
            | nil => exact absurd rfl hnil
            | cons ch l => exact ⟨ch, l, rfl⟩
          have hsb : (s' == []) = false := by rw [hs']; rfl
          have hix : ∀ W, (Instr.index 9 (.string ⟨s'.toArray⟩) (.int .i64 0)).run Tryz.prog W = .ok (.int .u8 ((ch.toNat : Nat) : Int)) W := fun W => by have := ix_str s' 0 (by rw [hs']; simp) W; simp only [hs', List.getElem_cons_zero] at this ⊢; exact this
          have hext := ext_drop s' 1
          rw [show s'.drop 1 = l by rw [hs']; rfl] at hext
          have hi1 : (1 : Int) ≤ (s'.length : Int) := by rw [hs']; simp; omega
          have hll : l.length + 1 = s'.length := by rw [hs']; simp
          have HS' := Lib_hid hs'
          have e1' := e1
          rw [hs'] at e1'
          clear hs' hnil
          subst e3
          have hm1 : n + 1 ≤ maxLen := by unfold maxLen; omega
          have hm2 : (n + 1) * 48 ≤ 140737488355328 := by omega
          have hown4 : w4.ownsRow (w.heap.size + 2) 30 4 (.slice A n c) n (vCells us) := by
            have h1 := hT.out.own
            rw [HUN.out] at h1
            exact own_below h1 hb4 (own_lt h1)
          have hnew := below_new w4 (.cells #[.int .i64 k, .int .u64 (a : Int), .int .u64 (b : Int), .slice A' us2.length c'] 30)
          have hRd := new_val w4 30 (.node k a b A' c' us2)
          simp only [V.kind, V.a, V.b, V.sl, V.addr, V.parts, V.cap] at hRd
          have p3 := cell_of_row w4 _ 3 _ _ _ p4
          have d0 := cell_of_row w4 _ 0 _ _ _ r4
          have d1 := cell_of_row w4 _ 1 _ _ _ r4
          have d2 := cell_of_row w4 _ 2 _ _ _ r4
          have d3 := cell_of_row w4 _ 3 _ _ _ r4
          simp at p3 d0 d1 d2 d3
          have HE : Hid (∀ (w5 : World) (v' : Value), Stp (w4.alloc (.cells #[.int .i64 k, .int .u64 (a : Int), .int .u64 (b : Int), .slice A' us2.length c'] 30)) w5 (.slice A n c) v' → w5.ownsRow (w.heap.size + 2) 30 4 v' (n + 1) (vCells us ++ vCells [.node k a b A' c' us2]) →
              TRow 30 (w.heap.size + 2) v' (us ++ [V.node k a b A' c' us2]) w5 ∧ (∀ i, i < w.heap.size + 2 → w5.heap[i]? = w4.heap[i]?) ∧ w4.heap.size ≤ w5.heap.size ∧ Below w.heap.size w w5) := by
            intro w5 v' hst ho
            have hge := own_ge hT.out.own
            have hns := hnew.size
            refine ⟨hT.out.push (w2 := w3) (w3 := w4.alloc _) (by omega) hb3 hL hS (HB4.out.trans (hnew.mono (by omega))) hst (by rw [HUN.out]; exact ho), fun i hi => ?_, by have := hst.grow.size; omega, ?_⟩
            · exact (hst.grow.block i (by omega) (fun e => by have := hge i e.symm; omega)).trans (hnew.block i (by omega))
            · exact (bW4.trans (hnew.mono (by omega))).trans (hst.below (by omega) fun q hq => by have := hge q hq; omega)
          have HPQ := Lib_hid (And.intro p4 q4)
          have HSP := Lib_hid (And.intro hlb.out (And.intro e1' e2))
          clear hT hL hS hb3 hR hlb e1 e1' e2 bW4 p4 q4 r4 hb4
          go_upto_region 7 with (at_builtin; (refine wpList_app rfl _ _ 28 rfl (w.heap.size + 2) 30 i0 (.agg #[.int .i64 0, .int .u64 0, .int .u64 0, .slice none 0 0]) 4 48 Tryz.underlying28 hi0 hz0 hz1 hz2 rfl (by decide) (.slice A n c) n (vCells us) rfl (own_below hown4 hnew (own_lt hown4)) (w4.heap.size + 1) (some ⟨w4.heap.size, 0, none⟩) 1 1 (vCells [.node k a b A' c' us2]) rfl hRd (v_one _) hm1 hm2 (by simp; omega) ?_); intro v5 w5 ho5 hs5; have hx := HE.out w5 v5 hs5 ho5; obtain ⟨A5, c5, rfl, _⟩ := own_form ho5; have p5 := (hx.2.1 w.heap.size (by omega)).trans HPQ.out.1; have g5 := cell_of_row w5 _ 3 _ _ _ p5; have z5 := frozen_of_row w5 w.heap.size 3 _ _ p5; simp at g5)
          have p6 := Joins.block_setCell (i := 3) p5 (.slice A5 (n + 1) c5)
          have q6 := (Below.heap_setCell w5 ⟨w.heap.size, 3, none⟩ (.slice A5 (n + 1) c5) (w.heap.size + 1) (by show w.heap.size + 1 ≠ w.heap.size; omega)).trans ((hx.2.1 (w.heap.size + 1) (by omega)).trans HPQ.out.2)
          have hT6 := hx.1.keep (w' := w5.setCell ⟨w.heap.size, 3, none⟩ (.slice A5 (n + 1) c5)) (by simp [World.setCell]) (fun g hg _ => Below.heap_setCell w5 ⟨w.heap.size, 3, none⟩ _ g (by show g ≠ w.heap.size; omega))
          have b6 := hx.2.2.2.setCell (p := ⟨w.heap.size, 3, none⟩) (by show w.heap.size ≤ w.heap.size; omega) (.slice A5 (n + 1) c5)
          have s6 : w.heap.size + 2 ≤ (w5.setCell ⟨w.heap.size, 3, none⟩ (.slice A5 (n + 1) c5)).heap.size := by have := hx.2.2.1; simp [World.setCell]; omega
          have HT6 := Lib_hid hT6
          have habs : Hid (V.absL (us ++ [V.node k a b A' c' us2]) = V.absL us ++ [t]) := by unfold Hid; rw [absL_map, List.map_append, ← absL_map, List.map_cons, List.map_nil, HSP.out.2.2]
          have hulen : Hid ((us ++ [V.node k a b A' c' us2]).length = n + 1) := by unfold Hid; rw [List.length_append, HUN.out]; rfl
          clear hx p5 g5 z5 ho5 hs5 hT6 HE hown4 hnew hRd p3 d0 d1 d2 d3
          generalize w5.setCell ⟨w.heap.size, 3, none⟩ (.slice A5 (n + 1) c5) = w6 at *
          have p6 : w6.heap[w.heap.size]? = some (.cells #[.int .i64 (kd : Int), .int .u64 0, .int .u64 0, .slice A5 (n + 1) c5] 30 (0, 0)) := p6
          by_cases h41 : ch = 41
          · have hq : ((ch.toNat : Int) == 41) = true := by rw [h41]; decide
            have hspec : listB (rdS d) s = some (V.absL (us ++ [V.node k a b A' c' us2]), l) := by
              rw [HSP.out.1, cont_shut (by rw [← h41]; exact HSP.out.2.1), habs.out]; rfl
            have pE := p6
            have qE := q6
            have bE := b6
            have sE := s6
            clear p6 q6 b6 s6 h41
            have e0 := cell_of_row w6 _ 0 _ _ _ pE
            have e1 := cell_of_row w6 _ 1 _ _ _ pE
            have e2 := cell_of_row w6 _ 2 _ _ _ pE
            have e3 := cell_of_row w6 _ 3 _ _ _ pE
            have f0 := cell_of_row w6 _ 0 _ _ _ qE
            have f1 := cell_of_row w6 _ 1 _ _ _ qE
            have f2 := cell_of_row w6 _ 2 _ _ _ qE
            have f3 := cell_of_row w6 _ 3 _ _ _ qE
            have y0 := frozen_of_row w6 (w.heap.size + 1) 0 _ _ qE
            have y1 := frozen_of_row w6 (w.heap.size + 1) 1 _ _ qE
            have y2 := frozen_of_row w6 (w.heap.size + 1) 2 _ _ qE
            have y3 := frozen_of_row w6 (w.heap.size + 1) 3 _ _ qE
            simp at e0 e1 e2 e3 f0 f1 f2 f3
            have HX := Lib_hid (HRET.out w6 (n + 1) c5 A5 l true [] qE bE (fun _ => ⟨_, hspec, hulen.out, HT6.out⟩) (fun h => by cases h) sE)
            clear pE qE bE sE HRET
            go_wp2_with fail
            show bodyPost _ _ _ _ _ (put4 w6 (w.heap.size + 1) (.int .i64 (kd : Int)) (.int .u64 0) (.int .u64 0) (.slice A5 (n + 1) c5))
            have HX2 := HX.out
            clear HX e0 e1 e2 e3 f0 f1 f2 f3 y0 y1 y2 y3
            generalize put4 w6 (w.heap.size + 1) (.int .i64 (kd : Int)) (.int .u64 0) (.int .u64 0) (.slice A5 (n + 1) c5) = W2 at *
            exact row_ret (b := true) HX2.2 HX2.1 _ rfl rfl rfl
          · have hq : ((ch.toNat : Int) == 41) = false := by
              simp only [beq_eq_false_iff_ne, ne_eq]
              intro e
              apply h41
              have e2 : ch.toNat = 41 := by omega
              rw [← UInt8.toNat_inj]
              exact e2
            by_cases h44 : ch = 44
            · have hq2 : ((ch.toNat : Int) != 44) = false := by rw [h44]; decide
              have hspec : listB (rdS d) s = (contS (rdS d) l).map fun x => (V.absL (us ++ [V.node k a b A' c' us2]) ++ x.1, x.2) := by
                rw [HSP.out.1, cont_more (rdS_len d) (by rw [← h44]; exact HSP.out.2.1), habs.out]
                cases contS (rdS d) l with
                | none => rfl
                | some x => simp
              have HSPEC := Lib_hid hspec
              have HML : Hid (strLen (.string ⟨l.toArray⟩) < strLen (.string ⟨ss.toArray⟩)) := by unfold Hid; rw [hSL.out, strLen_eq]; omega
              clear hspec h41 h44
              go_wp2_with fail
              go_roundw
              case rel => exact ⟨us ++ [.node k a b A' c' us2], A5, n + 1, c5, l, by go_num, p6, q6, HT6, HSPEC, by omega, b6, s6⟩
              case measure => exact HML.out
            · have hq2 : ((ch.toNat : Int) != 44) = true := by
                simp only [bne_iff_ne, ne_eq]
                intro e
                apply h44
                have e2 : ch.toNat = 44 := by omega
                rw [← UInt8.toNat_inj]
                exact e2
              have hno : listB (rdS d) s = none := by rw [HSP.out.1, cont_bad HSP.out.2.1 h41 h44]; rfl
              have pE := p6
              have qE := q6
              have bE := b6
              have sE := s6
              clear p6 q6 b6 s6 h41 h44
              have e0 := cell_of_row w6 _ 0 _ _ _ pE
              have e1 := cell_of_row w6 _ 1 _ _ _ pE
              have e2 := cell_of_row w6 _ 2 _ _ _ pE
              have e3 := cell_of_row w6 _ 3 _ _ _ pE
              have f0 := cell_of_row w6 _ 0 _ _ _ qE
              have f1 := cell_of_row w6 _ 1 _ _ _ qE
              have f2 := cell_of_row w6 _ 2 _ _ _ qE
              have f3 := cell_of_row w6 _ 3 _ _ _ qE
              have y0 := frozen_of_row w6 (w.heap.size + 1) 0 _ _ qE
              have y1 := frozen_of_row w6 (w.heap.size + 1) 1 _ _ qE
              have y2 := frozen_of_row w6 (w.heap.size + 1) 2 _ _ qE
              have y3 := frozen_of_row w6 (w.heap.size + 1) 3 _ _ qE
              simp at e0 e1 e2 e3 f0 f1 f2 f3
              have HX := Lib_hid (HRET.out w6 (n + 1) c5 A5 l false [] qE bE (fun h => by cases h) (fun _ => hno) sE)
              clear pE qE bE sE HRET
              go_wp2_with fail
              show bodyPost _ _ _ _ _ (put4 w6 (w.heap.size + 1) (.int .i64 (kd : Int)) (.int .u64 0) (.int .u64 0) (.slice A5 (n + 1) c5))
              have HX2 := HX.out
              clear HX e0 e1 e2 e3 f0 f1 f2 f3 y0 y1 y2 y3
              generalize put4 w6 (w.heap.size + 1) (.int .i64 (kd : Int)) (.int .u64 0) (.int .u64 0) (.slice A5 (n + 1) c5) = W2 at *
              exact row_ret (b := false) HX2.2 HX2.1 _ rfl rfl rfl

end Go.Proofs.YtiijdacnfhiagaaGreatDoor

namespace Go.Proofs.YtiijdacnfhiagaaGreatDoor
open Go Go.RowKit
set_option linter.unusedVariables false

set_option maxRecDepth 100000 in
theorem rread_ret {Q : Ending → World → Prop} {W : World} {h0 : Nat} {x0 x1 x2 x3 y : Value} {b : Bool} (HR2 : W.heap[h0]? = some (.cells #[x0, x1, x2, x3] 30 (0, 0))) (HF2 : Q (.returned (.tuple #[.agg #[x0, x1, x2, x3], y, .bool b])) W)
    (tmps : Array Value) (h6 : tmps.getD 4 undef = .pointer (some ⟨h0, 0, none⟩)) (h7 : tmps.getD 5 undef = y) (h8 : tmps.getD 6 undef = .bool b) : bodyPost Tryz.prog Tryz.f54 Q .ret { tmps := tmps, defers := [] } W := by
  rw [Array.getD_eq_getD_getElem?] at h6 h7 h8
  have d0 := cell_of_row W _ 0 _ _ _ HR2
  have d1 := cell_of_row W _ 1 _ _ _ HR2
  have d2 := cell_of_row W _ 2 _ _ _ HR2
  have d3 := cell_of_row W _ 3 _ _ _ HR2
  simp at d0 d1 d2 d3
  exact bodyPost_ret (v := .tuple #[.agg #[x0, x1, x2, x3], y, .bool b]) (by simp [results, Tryz.results54, go_sem, h6, h7, h8, d0, d1, d2, d3]) rfl HF2

theorem leaf_lies (w : World) (lo hi k a b : Nat) (hk : k ≤ 7) (ha : a < 18446744073709551616) (hb : b < 18446744073709551616) : Lies w lo hi (.node k a b none 0 []) := .mk _ _ _ _ _ _ (by omega) ha hb Rd.zero (by simp) (fun ad e => by cases e) (by simp)
theorem leaf_shp (E : TypeId) (w : World) (lo k a b : Nat) : Shp E w lo (.node k a b none 0 []) := .mk _ _ _ _ _ _ (by simp) (by simp)
theorem pre_head {s : List UInt8} {c : UInt8} {l : List UInt8} (h : Lib.hasPrefix s (c :: l) = true) : ∃ r, s = c :: r := by
  cases s with
  | nil => cases h
  | cons x r =>
    simp [Lib.hasPrefix, List.isPrefixOf] at h
    exact ⟨r, by rw [h.1]⟩

set_option maxRecDepth 100000 in
set_option maxHeartbeats 6400000 in
theorem rread4_any (d : Nat) : d ≤ 8 → ROK d := by
  induction d with
  | zero =>
    intro _ s w hl
    obtain ⟨w1, hw1⟩ : ∃ w1, w1 = w.alloc (.cells #[.int .i64 0, .int .u64 0, .int .u64 0, .slice none 0 0] 30) := ⟨_, rfl⟩
    have q1 := heap_alloc_new w (.cells #[.int .i64 0, .int .u64 0, .int .u64 0, .slice none 0 0] 30)
    have b1 := below_new w (.cells #[.int .i64 0, .int .u64 0, .int .u64 0, .slice none 0 0] 30)
    rw [← hw1] at q1 b1
    have HX : Hid (RdE4 0 s w (.returned (.tuple #[.agg #[.int .i64 0, .int .u64 0, .int .u64 0, .slice none 0 0], .string ⟨s.toArray⟩, .bool false])) (put4 w1 w.heap.size (.int .i64 0) (.int .u64 0) (.int .u64 0) (.slice none 0 0)) ∧
        (put4 w1 w.heap.size (.int .i64 0) (.int .u64 0) (.int .u64 0) (.slice none 0 0)).heap[w.heap.size]? = some (.cells #[.int .i64 0, .int .u64 0, .int .u64 0, .slice none 0 0] 30 (0, 0))) :=
      ⟨⟨0, 0, 0, 0, 0, none, s, false, rfl, put4_below b1 (Nat.le_refl _) _ _ _ _, (fun h => by cases h), fun _ => rfl⟩, put4_row q1 _ _ _ _⟩
    have f0 := cell_of_row w1 _ 0 _ _ _ q1
    have f1 := cell_of_row w1 _ 1 _ _ _ q1
    have f2 := cell_of_row w1 _ 2 _ _ _ q1
    have f3 := cell_of_row w1 _ 3 _ _ _ q1
    have y0 := frozen_of_row w1 w.heap.size 0 _ _ q1
    have y1 := frozen_of_row w1 w.heap.size 1 _ _ q1
    have y2 := frozen_of_row w1 w.heap.size 2 _ _ q1
    have y3 := frozen_of_row w1 w.heap.size 3 _ _ q1
    simp at f0 f1 f2 f3
    subst hw1
    clear q1 b1
    go_enter Tryz.func54, Tryz.ntmps54
    go_upto_region 1 with (fail)
    generalize w.alloc (.cells #[.int .i64 0, .int .u64 0, .int .u64 0, .slice none 0 0] 30) = w1 at *
    go_wp2_with fail
    show bodyPost _ _ _ _ _ (put4 w1 w.heap.size (.int .i64 0) (.int .u64 0) (.int .u64 0) (.slice none 0 0))
    have HX2 := HX.out
    clear HX f0 f1 f2 f3 y0 y1 y2 y3
    generalize put4 w1 w.heap.size (.int .i64 0) (.int .u64 0) (.int .u64 0) (.slice none 0 0) = W2 at *
    exact rread_ret (b := false) HX2.2 HX2.1 _ rfl rfl rfl
  | succ d ih =>
  intro hd s w hl
  have IH := ih (by omega)
  clear ih
  obtain ⟨w1, hw1⟩ : ∃ w1, w1 = w.alloc (.cells #[.int .i64 0, .int .u64 0, .int .u64 0, .slice none 0 0] 30) := ⟨_, rfl⟩
  have q1 := heap_alloc_new w (.cells #[.int .i64 0, .int .u64 0, .int .u64 0, .slice none 0 0] 30)
  have b1 := below_new w (.cells #[.int .i64 0, .int .u64 0, .int .u64 0, .slice none 0 0] 30)
  have s1 : w1.heap.size = w.heap.size + 1 := by rw [hw1]; simp
  rw [← hw1] at q1 b1
  have BG := Lib_hid (fun (q x : List UInt8) W => rbegins_any q x W)
  have VA := Lib_hid (fun (q : List UInt8) (hq : q.length ≤ 1000000) W => rvalue_any q hq W)
  have HIH := Lib_hid IH
  have HRET : Hid (∀ (W : World) (k : Int) (a b n c : Nat) (A : Option Addr) (s' : List UInt8) (ok : Bool), W.heap[w.heap.size]? = some (.cells #[.int .i64 0, .int .u64 0, .int .u64 0, .slice none 0 0] 30 (0, 0)) → Below w.heap.size w W →
      (ok = true → ∃ t us, rdS (d + 1) s = some (t, s') ∧ (V.node k a b A c us).abs = t ∧ us.length = n ∧ Lies W (w.heap.size + 1) W.heap.size (.node k a b A c us) ∧ Shp 30 W (w.heap.size + 1) (.node k a b A c us)) → (ok = false → rdS (d + 1) s = none) →
      RdE4 (d + 1) s w (.returned (.tuple #[.agg #[.int .i64 k, .int .u64 (a : Int), .int .u64 (b : Int), .slice A n c], .string ⟨s'.toArray⟩, .bool ok])) (put4 W w.heap.size (.int .i64 k) (.int .u64 (a : Int)) (.int .u64 (b : Int)) (.slice A n c)) ∧
      (put4 W w.heap.size (.int .i64 k) (.int .u64 (a : Int)) (.int .u64 (b : Int)) (.slice A n c)).heap[w.heap.size]? = some (.cells #[.int .i64 k, .int .u64 (a : Int), .int .u64 (b : Int), .slice A n c] 30 (0, 0))) := by
    intro W k a b n c A s' ok h1 h2 h3 h4
    refine ⟨⟨k, a, b, n, c, A, s', ok, rfl, put4_below h2 (Nat.le_refl _) _ _ _ _, fun ho => ?_, h4⟩, put4_row h1 _ _ _ _⟩
    obtain ⟨t, us, e1, e2, e3, hL, hS⟩ := h3 ho
    refine ⟨t, us, e1, e2, e3, ?_, ?_⟩
    · rw [put4_size]
      exact (hL.keep fun p h1 _ => World.cell?_of_block (put4_else W (by omega) _ _ _ _)).more (by omega) (Nat.le_refl _)
    · exact (Shp.keepL _ hL hS fun g' h1 _ => put4_else W (by omega) _ _ _ _).more (by omega)
  have hd0 : (((d + 1 : Nat) : Int) == 0) = false := by simp; omega
  have hdc : ((d + 1 : Nat) : Int) = (d : Int) + 1 := by omega
  rw [hdc] at hd0 ⊢
  have hd1 : IntKind.i64.wrap ((d : Int) + 1 - 1) = (d : Int) := by rw [IntKind.wrap_i64]; omega
  subst hw1
  clear IH hdc
  go_enter Tryz.func54, Tryz.ntmps54
  go_upto_region 1 with (fail)
  generalize w.alloc (.cells #[.int .i64 0, .int .u64 0, .int .u64 0, .slice none 0 0] 30) = w1 at *
  cases h1 : Lib.hasPrefix s [97, 108, 108] with
  | true =>
    have hl3 := pre_len h1
    have hi3 : (3 : Int) ≤ (s.length : Int) := by simp at hl3; omega
    have hext := ext_drop s 3
    have hsp := rd_all (d := d) h1
    have BG1 := BG.out s [97, 108, 108] w1
    rw [h1] at BG1
    generalize s.drop 3 = s' at *
    have qE := q1
    have bE := b1
    clear q1 b1 h1 hl3 BG VA HIH
    have f0 := cell_of_row w1 _ 0 _ _ _ qE
    have f1 := cell_of_row w1 _ 1 _ _ _ qE
    have f2 := cell_of_row w1 _ 2 _ _ _ qE
    have f3 := cell_of_row w1 _ 3 _ _ _ qE
    have y0 := frozen_of_row w1 w.heap.size 0 _ _ qE
    have y1 := frozen_of_row w1 w.heap.size 1 _ _ qE
    have y2 := frozen_of_row w1 w.heap.size 2 _ _ qE
    have y3 := frozen_of_row w1 w.heap.size 3 _ _ qE
    simp at f0 f1 f2 f3
    have HX := Lib_hid (HRET.out w1.drew 1 0 0 0 0 none s' true qE bE.drew (fun _ => ⟨_, [], hsp, by simp [V.abs, V.absL], rfl, leaf_lies _ _ _ 1 0 0 (by omega) (by omega) (by omega), leaf_shp _ _ _ 1 0 0⟩) (fun h => by cases h))
    clear qE bE HRET
    go_upto_region 4 with (go_at_call 72; refine BG1.mono ?_; rintro e w' ⟨rfl, rfl⟩)
    clear hsp
    go_region
    all_goals (go_wp2_with fail)
    show bodyPost _ _ _ _ _ (put4 w1.drew w.heap.size (.int .i64 1) (.int .u64 0) (.int .u64 0) (.slice none 0 0))
    have HX2 := HX.out
    clear HX f0 f1 f2 f3 y0 y1 y2 y3
    generalize put4 w1.drew w.heap.size (.int .i64 1) (.int .u64 0) (.int .u64 0) (.slice none 0 0) = W2 at *
    exact rread_ret (b := true) HX2.2 HX2.1 _ rfl rfl rfl
  | false =>
  cases h2 : Lib.hasPrefix s [120, 60, 61] with
  | true =>
    have hl3 := pre_len h2
    have hi3 : (3 : Int) ≤ (s.length : Int) := by simp at hl3; omega
    have hext := ext_drop s 3
    have hsp := rd_x (d := d) h1 h2
    obtain ⟨rr, hrr⟩ := pre_head h2
    have hix : ∀ W, (Instr.index 9 (.string ⟨s.toArray⟩) (.int .i64 0)).run Tryz.prog W = .ok (.int .u8 120) W := fun W => by have := ix_str s 0 (by rw [hrr]; simp) W; simp only [hrr, List.getElem_cons_zero] at this ⊢; exact this
    have VV := VA.out (s.drop 3) (by rw [List.length_drop]; omega) w1
    have HSP := Lib_hid hsp
    clear hsp hrr hl3 VA HIH
    generalize s.drop 3 = s' at *
    go_wp2_with (first | (go_at_call 72; refine (BG.out _ _ _).mono ?_; rintro e w' ⟨rfl, rfl⟩) | (go_at_call 73; refine VV.mono ?_; rintro e w2 ⟨hb2, v, r, ok, rfl, hv, hok, hno⟩; have q2 := (hb2.block w.heap.size (by omega)).trans q1; have f0 := cell_of_row w2 _ 0 _ _ _ q2; have f1 := cell_of_row w2 _ 1 _ _ _ q2; have f2 := cell_of_row w2 _ 2 _ _ _ q2; have f3 := cell_of_row w2 _ 3 _ _ _ q2; have y0 := frozen_of_row w2 w.heap.size 0 _ _ q2; have y1 := frozen_of_row w2 w.heap.size 1 _ _ q2; have y2 := frozen_of_row w2 w.heap.size 2 _ _ q2; have y3 := frozen_of_row w2 w.heap.size 3 _ _ q2; simp at f0 f1 f2 f3))
    have HX := Lib_hid (HRET.out w2 2 v 0 0 0 none r ok q2 (b1.trans (hb2.mono (by omega))) (fun h => ⟨_, [], by rw [HSP.out, hok h]; rfl, by simp [V.abs, V.absL], rfl, leaf_lies _ _ _ 2 v 0 (by omega) hv (by omega), leaf_shp _ _ _ 2 v 0⟩) (fun h => by rw [HSP.out, hno h]; rfl))
    show bodyPost _ _ _ _ _ (put4 w2 w.heap.size (.int .i64 2) (.int .u64 (v : Int)) (.int .u64 0) (.slice none 0 0))
    have HX2 := HX.out
    clear HX f0 f1 f2 f3 y0 y1 y2 y3
    generalize put4 w2 w.heap.size (.int .i64 2) (.int .u64 (v : Int)) (.int .u64 0) (.slice none 0 0) = W2 at *
    exact rread_ret (b := ok) HX2.2 HX2.1 _ rfl rfl rfl
  | false =>
  cases h3 : Lib.hasPrefix s [118, 60, 61] with
  | true =>
    have hl3 := pre_len h3
    have hi3 : (3 : Int) ≤ (s.length : Int) := by simp at hl3; omega
    have hext := ext_drop s 3
    have hsp := rd_v (d := d) h1 h2 h3
    obtain ⟨rr, hrr⟩ := pre_head h3
    have hix : ∀ W, (Instr.index 9 (.string ⟨s.toArray⟩) (.int .i64 0)).run Tryz.prog W = .ok (.int .u8 118) W := fun W => by have := ix_str s 0 (by rw [hrr]; simp) W; simp only [hrr, List.getElem_cons_zero] at this ⊢; exact this
    have VV := VA.out (s.drop 3) (by rw [List.length_drop]; omega) w1
    have HSP := Lib_hid hsp
    clear hsp hrr hl3 VA HIH
    generalize s.drop 3 = s' at *
    go_wp2_with (first | (go_at_call 72; refine (BG.out _ _ _).mono ?_; rintro e w' ⟨rfl, rfl⟩) | (go_at_call 73; refine VV.mono ?_; rintro e w2 ⟨hb2, v, r, ok, rfl, hv, hok, hno⟩; have q2 := (hb2.block w.heap.size (by omega)).trans q1; have f0 := cell_of_row w2 _ 0 _ _ _ q2; have f1 := cell_of_row w2 _ 1 _ _ _ q2; have f2 := cell_of_row w2 _ 2 _ _ _ q2; have f3 := cell_of_row w2 _ 3 _ _ _ q2; have y0 := frozen_of_row w2 w.heap.size 0 _ _ q2; have y1 := frozen_of_row w2 w.heap.size 1 _ _ q2; have y2 := frozen_of_row w2 w.heap.size 2 _ _ q2; have y3 := frozen_of_row w2 w.heap.size 3 _ _ q2; simp at f0 f1 f2 f3))
    have HX := Lib_hid (HRET.out w2 3 v 0 0 0 none r ok q2 (b1.trans (hb2.mono (by omega))) (fun h => ⟨_, [], by rw [HSP.out, hok h]; rfl, by simp [V.abs, V.absL], rfl, leaf_lies _ _ _ 3 v 0 (by omega) hv (by omega), leaf_shp _ _ _ 3 v 0⟩) (fun h => by rw [HSP.out, hno h]; rfl))
    show bodyPost _ _ _ _ _ (put4 w2 w.heap.size (.int .i64 3) (.int .u64 (v : Int)) (.int .u64 0) (.slice none 0 0))
    have HX2 := HX.out
    clear HX f0 f1 f2 f3 y0 y1 y2 y3
    generalize put4 w2 w.heap.size (.int .i64 3) (.int .u64 (v : Int)) (.int .u64 0) (.slice none 0 0) = W2 at *
    exact rread_ret (b := ok) HX2.2 HX2.1 _ rfl rfl rfl
  | false =>
  cases h4 : Lib.hasPrefix s [118, 37] with
  | true =>
    have hl2 := pre_len h4
    have hi2 : (2 : Int) ≤ (s.length : Int) := by simp at hl2; omega
    have hext := ext_drop s 2
    have hsp := rd_m (d := d) h1 h2 h3 h4
    have VV := VA.out (s.drop 2) (by rw [List.length_drop]; omega) w1
    have hdl : (s.drop 2).length ≤ s.length := by rw [List.length_drop]; omega
    have HSP := Lib_hid hsp
    clear hsp hl2
    generalize s.drop 2 = s' at *
    go_wp2_with (first | (go_at_call 72; refine (BG.out _ _ _).mono ?_; rintro e w' ⟨rfl, rfl⟩))
    refine VV.mono ?_
    rintro e w2 ⟨hb2, v, r, ok, rfl, hv, hok, hno⟩
    have q2 := (hb2.block w.heap.size (by omega)).trans q1
    have bw2 := b1.trans (hb2.mono (by omega))
    have s2 := hb2.size
    clear VV
    cases ok with
    | false =>
      have hno2 : rdS (d + 1) s = none := by rw [HSP.out, hno rfl]; rfl
      have f0 := cell_of_row w2 _ 0 _ _ _ q2
      have f1 := cell_of_row w2 _ 1 _ _ _ q2
      have f2 := cell_of_row w2 _ 2 _ _ _ q2
      have f3 := cell_of_row w2 _ 3 _ _ _ q2
      have y0 := frozen_of_row w2 w.heap.size 0 _ _ q2
      have y1 := frozen_of_row w2 w.heap.size 1 _ _ q2
      have y2 := frozen_of_row w2 w.heap.size 2 _ _ q2
      have y3 := frozen_of_row w2 w.heap.size 3 _ _ q2
      simp at f0 f1 f2 f3
      have HX := Lib_hid (HRET.out w2 0 0 0 0 0 none s false q2 bw2 (fun h => by cases h) (fun _ => hno2))
      clear hno2
      go_wp2_with fail
      show bodyPost _ _ _ _ _ (put4 w2 w.heap.size (.int .i64 0) (.int .u64 0) (.int .u64 0) (.slice none 0 0))
      have HX2 := HX.out
      clear HX f0 f1 f2 f3 y0 y1 y2 y3
      generalize put4 w2 w.heap.size (.int .i64 0) (.int .u64 0) (.int .u64 0) (.slice none 0 0) = W2 at *
      exact rread_ret (b := false) HX2.2 HX2.1 _ rfl rfl rfl
    | true =>
      have hns := hok rfl
      have hrl : r.length ≤ s'.length := (numS_lt hns).2
      have BG2 := BG.out r [61] w2
      cases h61 : Lib.hasPrefix r [61] with
      | false =>
        rw [h61] at BG2
        have hno2 : rdS (d + 1) s = none := by
          rw [HSP.out, hns, Option.bind_some]
          simp only [h61]
          rfl
        have f0 := cell_of_row w2 _ 0 _ _ _ q2
        have f1 := cell_of_row w2 _ 1 _ _ _ q2
        have f2 := cell_of_row w2 _ 2 _ _ _ q2
        have f3 := cell_of_row w2 _ 3 _ _ _ q2
        have y0 := frozen_of_row w2 w.heap.size 0 _ _ q2
        have y1 := frozen_of_row w2 w.heap.size 1 _ _ q2
        have y2 := frozen_of_row w2 w.heap.size 2 _ _ q2
        have y3 := frozen_of_row w2 w.heap.size 3 _ _ q2
        simp at f0 f1 f2 f3
        have HX := Lib_hid (HRET.out w2 0 0 0 0 0 none s false q2 bw2 (fun h => by cases h) (fun _ => hno2))
        clear hno2 h61
        go_wp2_with (go_at_call 72; refine BG2.mono ?_; rintro e w' ⟨rfl, rfl⟩)
        show bodyPost _ _ _ _ _ (put4 w2 w.heap.size (.int .i64 0) (.int .u64 0) (.int .u64 0) (.slice none 0 0))
        have HX2 := HX.out
        clear HX f0 f1 f2 f3 y0 y1 y2 y3
        generalize put4 w2 w.heap.size (.int .i64 0) (.int .u64 0) (.int .u64 0) (.slice none 0 0) = W2 at *
        exact rread_ret (b := false) HX2.2 HX2.1 _ rfl rfl rfl
      | true =>
        rw [h61] at BG2
        have hl1 := pre_len h61
        have hi1 : (1 : Int) ≤ (r.length : Int) := by simp at hl1; omega
        have hext2 := ext_drop r 1
        have VV2 := VA.out (r.drop 1) (by rw [List.length_drop]; omega) w2
        have hsp2 : rdS (d + 1) s = (numS (r.drop 1)).map fun y => (.node 4 v y.1 [], y.2) := by
          rw [HSP.out, hns, Option.bind_some]
          simp only [h61, if_true]
        have HSP2 := Lib_hid hsp2
        clear hsp2 hl1 h61
        generalize r.drop 1 = r2 at *
        go_wp2_with (go_at_call 72; refine BG2.mono ?_; rintro e w' ⟨rfl, rfl⟩)
        refine VV2.mono ?_
        rintro e w3 ⟨hb3, v2, r3, ok3, rfl, hv2, hok3, hno3⟩
        have q3 := (hb3.block w.heap.size (by omega)).trans q2
        have bw3 := bw2.trans (hb3.mono (by omega))
        have f0 := cell_of_row w3 _ 0 _ _ _ q3
        have f1 := cell_of_row w3 _ 1 _ _ _ q3
        have f2 := cell_of_row w3 _ 2 _ _ _ q3
        have f3 := cell_of_row w3 _ 3 _ _ _ q3
        have y0 := frozen_of_row w3 w.heap.size 0 _ _ q3
        have y1 := frozen_of_row w3 w.heap.size 1 _ _ q3
        have y2 := frozen_of_row w3 w.heap.size 2 _ _ q3
        have y3 := frozen_of_row w3 w.heap.size 3 _ _ q3
        simp at f0 f1 f2 f3
        have HX := Lib_hid (HRET.out w3 4 v v2 0 0 none r3 ok3 q3 bw3 (fun h => ⟨_, [], by rw [HSP2.out, hok3 h]; rfl, by simp [V.abs, V.absL], rfl, leaf_lies _ _ _ 4 v v2 (by omega) hv hv2, leaf_shp _ _ _ 4 v v2⟩) (fun h => by rw [HSP2.out, hno3 h]; rfl))
        clear VV2 BG2
        go_wp2_with fail
        show bodyPost _ _ _ _ _ (put4 w3 w.heap.size (.int .i64 4) (.int .u64 v) (.int .u64 v2) (.slice none 0 0))
        have HX2 := HX.out
        clear HX f0 f1 f2 f3 y0 y1 y2 y3
        generalize put4 w3 w.heap.size (.int .i64 4) (.int .u64 v) (.int .u64 v2) (.slice none 0 0) = W2 at *
        exact rread_ret (b := ok3) HX2.2 HX2.1 _ rfl rfl rfl
  | false =>
  have HN5 : Hid (∀ i, 1 ≤ i → i < 5 → Lib.hasPrefix s (wordL i) = false) := fun i q1 q2 => by
    have : i = 1 ∨ i = 2 ∨ i = 3 ∨ i = 4 := by omega
    rcases this with rfl | rfl | rfl | rfl
    · exact h1
    · exact h2
    · exact h3
    · exact h4
  cases h5 : Lib.hasPrefix s [33] with
  | true =>
    have hl1 := pre_len h5
    have hi1 : (1 : Int) ≤ (s.length : Int) := by simp at hl1; omega
    have hext := ext_drop s 1
    have hsp := rd_n (d := d) HN5.out h5
    have CH := HIH.out (s.drop 1) w1 (by rw [List.length_drop]; omega)
    have HSP := Lib_hid hsp
    clear hsp hl1
    generalize s.drop 1 = s' at *
    go_wp2_with (first | (go_at_call 72; refine (BG.out _ _ _).mono ?_; rintro e w' ⟨rfl, rfl⟩))
    refine CH.mono ?_
    rintro e w2 ⟨k, a, b, n, c, A, r, ok, rfl, hb2, hR⟩
    have s2 := hb2.size
    have b3 := below_new w2 (.cells #[.int .i64 k, .int .u64 (a : Int), .int .u64 (b : Int), .slice A n c] 30)
    have r3 := heap_alloc_new w2 (.cells #[.int .i64 k, .int .u64 (a : Int), .int .u64 (b : Int), .slice A n c] 30)
    have q3 := (b3.block w.heap.size (by omega)).trans ((hb2.block w.heap.size (by omega)).trans q1)
    have bw3 := (b1.trans (hb2.mono (by omega))).trans (b3.mono (by omega))
    have s3 : (w2.alloc (.cells #[.int .i64 k, .int .u64 (a : Int), .int .u64 (b : Int), .slice A n c] 30)).heap.size = w2.heap.size + 1 := by simp
    have HB3 := Lib_hid b3
    clear CH b3
    go_upto_region 19 with (fail)
    generalize w2.alloc (.cells #[.int .i64 k, .int .u64 (a : Int), .int .u64 (b : Int), .slice A n c] 30) = w3 at *
    have d0 := cell_of_row w3 _ 0 _ _ _ r3
    have d1 := cell_of_row w3 _ 1 _ _ _ r3
    have d2 := cell_of_row w3 _ 2 _ _ _ r3
    have d3 := cell_of_row w3 _ 3 _ _ _ r3
    simp at d0 d1 d2 d3
    obtain ⟨w4, hw4⟩ : ∃ w4, w4 = w3.alloc (.cells #[.int .i64 k, .int .u64 (a : Int), .int .u64 (b : Int), .slice A n c] 30) := ⟨_, rfl⟩
    have b4 := below_new w3 (.cells #[.int .i64 k, .int .u64 (a : Int), .int .u64 (b : Int), .slice A n c] 30)
    have hoL := World.ownsRow_lit (base := w3.heap.size) (e := 30) (size := 4) w3 #[.int .i64 k, .int .u64 (a : Int), .int .u64 (b : Int), .slice A n c] 1 (Nat.le_refl _) (by decide) rfl
    rw [← hw4] at b4 hoL
    have q4 := (b4.block w.heap.size (by omega)).trans q3
    have bw4 := bw3.trans (b4.mono (by omega))
    have s4 := b4.size
    have hyes : ok = true → ∃ t us, rdS (d + 1) s = some (t, r) ∧ (V.node 5 0 0 (some ⟨w3.heap.size, 0, none⟩) 1 us).abs = t ∧ us.length = 1 ∧ Lies w4 (w.heap.size + 1) w4.heap.size (.node 5 0 0 (some ⟨w3.heap.size, 0, none⟩) 1 us) ∧ Shp 30 w4 (w.heap.size + 1) (.node 5 0 0 (some ⟨w3.heap.size, 0, none⟩) 1 us) := by
      intro ho
      obtain ⟨t, us, e1, e2, e3, hL, hS⟩ := hR.yes ho
      subst e3
      have hT : TRow 30 (w.heap.size + 1) (.slice (some ⟨w3.heap.size, 0, none⟩) 1 1) [.node k a b A c us] w4 := by
        refine ⟨own_base hoL fun j hj => by have e : w3.heap.size = j := Option.some.inj hj; omega, fun u hu => ?_⟩
        obtain rfl : u = .node k a b A c us := by simpa using hu
        have hb24 : Below w2.heap.size w2 w4 := HB3.out.trans (b4.mono (by omega))
        exact ⟨w1.heap.size, w2.heap.size, by omega, hb24.size, hL.under hb24, hS.under hb24, fun g hg => .inr (by have e : w3.heap.size = g := Option.some.inj hg; omega)⟩
      obtain ⟨_, hL4, hS4⟩ := hT.tree (k := 5) (a := 0) (b := 0) (by omega) (by omega) (by omega)
      refine ⟨.node 5 0 0 [t], [.node k a b A c us], by rw [HSP.out, e1]; rfl, by rw [V.abs, V.absL, V.absL, e2], rfl, hL4, hS4⟩
    have hno2 : ok = false → rdS (d + 1) s = none := fun h => by rw [HSP.out, hR.no h]; rfl
    clear q3 bw3 hoL hR
    have f0 := cell_of_row w4 _ 0 _ _ _ q4
    have f1 := cell_of_row w4 _ 1 _ _ _ q4
    have f2 := cell_of_row w4 _ 2 _ _ _ q4
    have f3 := cell_of_row w4 _ 3 _ _ _ q4
    have y0 := frozen_of_row w4 w.heap.size 0 _ _ q4
    have y1 := frozen_of_row w4 w.heap.size 1 _ _ q4
    have y2 := frozen_of_row w4 w.heap.size 2 _ _ q4
    have y3 := frozen_of_row w4 w.heap.size 3 _ _ q4
    simp at f0 f1 f2 f3
    have HX := Lib_hid (HRET.out w4 5 0 0 1 1 (some ⟨w3.heap.size, 0, none⟩) r ok q4 bw4 hyes hno2)
    subst hw4
    clear q4 bw4 hyes hno2 HB3 b4 s3
    go_wp2_with fail
    show bodyPost _ _ _ _ _ (put4 (w3.alloc (.cells #[.int .i64 k, .int .u64 (a : Int), .int .u64 (b : Int), .slice A n c] 30)) w.heap.size (.int .i64 5) (.int .u64 0) (.int .u64 0) (.slice (some ⟨w3.heap.size, 0, none⟩) 1 1))
    have HX2 := HX.out
    clear HX f0 f1 f2 f3 y0 y1 y2 y3
    generalize put4 (w3.alloc (.cells #[.int .i64 k, .int .u64 (a : Int), .int .u64 (b : Int), .slice A n c] 30)) w.heap.size (.int .i64 5) (.int .u64 0) (.int .u64 0) (.slice (some ⟨w3.heap.size, 0, none⟩) 1 1) = W2 at *
    exact rread_ret (b := ok) HX2.2 HX2.1 _ rfl rfl rfl
  | false =>
  have HN6 : Hid (∀ i, 1 ≤ i → i < 6 → Lib.hasPrefix s (wordL i) = false) := fun i q1 q2 => by
    rcases Nat.lt_or_ge i 5 with h | h
    · exact HN5.out i q1 h
    · obtain rfl : i = 5 := by omega
      exact h5
  cases h6 : Lib.hasPrefix s [38, 40] with
  | true =>
    have hl2 := pre_len h6
    have hi2 : (2 : Int) ≤ (s.length : Int) := by simp at hl2; omega
    have hext := ext_drop s 2
    have hw1p : Lib.hasPrefix s [38] = true := by
      have h := h6
      rw [pre_two, Bool.and_eq_true] at h
      exact h.1
    have hsp := rd_r (d := d) 6 38 (by decide) HN6.out hw1p
    rw [h6, if_pos rfl] at hsp
    have RW := rrow_any d 6 (by omega) (by omega) HIH.out (s.drop 2) (by rw [List.length_drop]; omega) w1
    have RW : Calls Tryz.prog 74 #[.agg #[.int .i64 6, .int .u64 0, .int .u64 0, .slice none 0 0], .string ⟨(s.drop 2).toArray⟩, .int .i64 ((d : Int) + 1)] w1 (RowEnd4 d 6 (s.drop 2) w1) := RW
    have HSP := Lib_hid hsp
    clear hsp hl2 hw1p
    generalize s.drop 2 = s' at *
    go_wp2_with (first | (go_at_call 72; refine (BG.out _ _ _).mono ?_; rintro e w' ⟨rfl, rfl⟩))
    refine RW.mono ?_
    rintro e w2 ⟨n, c, A, r, ok, rfl, hb2, hyes, hno⟩
    have q2 := (hb2.block w.heap.size (by omega)).trans q1
    have bw2 := b1.trans (hb2.mono (by omega))
    have s2 := hb2.size
    have hyes2 : ok = true → ∃ t us, rdS (d + 1) s = some (t, r) ∧ (V.node 6 0 0 A c us).abs = t ∧ us.length = n ∧ Lies w2 (w.heap.size + 1) w2.heap.size (.node 6 0 0 A c us) ∧ Shp 30 w2 (w.heap.size + 1) (.node 6 0 0 A c us) := by
      intro ho
      obtain ⟨us, e1, e2, hT⟩ := hyes ho
      obtain ⟨_, hL4, hS4⟩ := hT.tree (k := 6) (a := 0) (b := 0) (by omega) (by omega) (by omega)
      exact ⟨_, us, by rw [HSP.out, e1]; rfl, by rw [V.abs]; rfl, e2, hL4.more (by omega) (Nat.le_refl _), hS4.more (by omega)⟩
    have hno2 : ok = false → rdS (d + 1) s = none := fun h => by rw [HSP.out, hno h]; rfl
    clear RW hyes hno
    have f0 := cell_of_row w2 _ 0 _ _ _ q2
    have f1 := cell_of_row w2 _ 1 _ _ _ q2
    have f2 := cell_of_row w2 _ 2 _ _ _ q2
    have f3 := cell_of_row w2 _ 3 _ _ _ q2
    have y0 := frozen_of_row w2 w.heap.size 0 _ _ q2
    have y1 := frozen_of_row w2 w.heap.size 1 _ _ q2
    have y2 := frozen_of_row w2 w.heap.size 2 _ _ q2
    have y3 := frozen_of_row w2 w.heap.size 3 _ _ q2
    simp at f0 f1 f2 f3
    have HX := Lib_hid (HRET.out w2 6 0 0 n c A r ok q2 bw2 hyes2 hno2)
    clear hyes2 hno2
    go_wp2_with fail
    show bodyPost _ _ _ _ _ (put4 w2 w.heap.size (.int .i64 6) (.int .u64 0) (.int .u64 0) (.slice A n c))
    have HX2 := HX.out
    clear HX f0 f1 f2 f3 y0 y1 y2 y3
    generalize put4 w2 w.heap.size (.int .i64 6) (.int .u64 0) (.int .u64 0) (.slice A n c) = W2 at *
    exact rread_ret (b := ok) HX2.2 HX2.1 _ rfl rfl rfl
  | false =>
  cases h7 : Lib.hasPrefix s [124, 40] with
  | true =>
    have HN7 : Hid (Lib.hasPrefix s [124] = true → ∀ i, 1 ≤ i → i < 7 → Lib.hasPrefix s (wordL i) = false) := fun h124 i q1 q2 => by
      rcases Nat.lt_or_ge i 6 with h | h
      · exact HN6.out i q1 h
      · obtain rfl : i = 6 := by omega
        obtain ⟨rr, hrr⟩ := pre_head h124
        rw [hrr]
        rfl
    have hl2 := pre_len h7
    have hi2 : (2 : Int) ≤ (s.length : Int) := by simp at hl2; omega
    have hext := ext_drop s 2
    have hw1p : Lib.hasPrefix s [124] = true := by
      have h := h7
      rw [pre_two, Bool.and_eq_true] at h
      exact h.1
    have hsp := rd_r (d := d) 7 124 (by decide) (HN7.out hw1p) hw1p
    rw [h7, if_pos rfl] at hsp
    have RW := rrow_any d 7 (by omega) (by omega) HIH.out (s.drop 2) (by rw [List.length_drop]; omega) w1
    have RW : Calls Tryz.prog 74 #[.agg #[.int .i64 7, .int .u64 0, .int .u64 0, .slice none 0 0], .string ⟨(s.drop 2).toArray⟩, .int .i64 ((d : Int) + 1)] w1 (RowEnd4 d 7 (s.drop 2) w1) := RW
    have HSP := Lib_hid hsp
    clear hsp hl2 hw1p
    generalize s.drop 2 = s' at *
    go_wp2_with (first | (go_at_call 72; refine (BG.out _ _ _).mono ?_; rintro e w' ⟨rfl, rfl⟩))
    refine RW.mono ?_
    rintro e w2 ⟨n, c, A, r, ok, rfl, hb2, hyes, hno⟩
    have q2 := (hb2.block w.heap.size (by omega)).trans q1
    have bw2 := b1.trans (hb2.mono (by omega))
    have s2 := hb2.size
    have hyes2 : ok = true → ∃ t us, rdS (d + 1) s = some (t, r) ∧ (V.node 7 0 0 A c us).abs = t ∧ us.length = n ∧ Lies w2 (w.heap.size + 1) w2.heap.size (.node 7 0 0 A c us) ∧ Shp 30 w2 (w.heap.size + 1) (.node 7 0 0 A c us) := by
      intro ho
      obtain ⟨us, e1, e2, hT⟩ := hyes ho
      obtain ⟨_, hL4, hS4⟩ := hT.tree (k := 7) (a := 0) (b := 0) (by omega) (by omega) (by omega)
      exact ⟨_, us, by rw [HSP.out, e1]; rfl, by rw [V.abs]; rfl, e2, hL4.more (by omega) (Nat.le_refl _), hS4.more (by omega)⟩
    have hno2 : ok = false → rdS (d + 1) s = none := fun h => by rw [HSP.out, hno h]; rfl
    clear RW hyes hno
    have f0 := cell_of_row w2 _ 0 _ _ _ q2
    have f1 := cell_of_row w2 _ 1 _ _ _ q2
    have f2 := cell_of_row w2 _ 2 _ _ _ q2
    have f3 := cell_of_row w2 _ 3 _ _ _ q2
    have y0 := frozen_of_row w2 w.heap.size 0 _ _ q2
    have y1 := frozen_of_row w2 w.heap.size 1 _ _ q2
    have y2 := frozen_of_row w2 w.heap.size 2 _ _ q2
    have y3 := frozen_of_row w2 w.heap.size 3 _ _ q2
    simp at f0 f1 f2 f3
    have HX := Lib_hid (HRET.out w2 7 0 0 n c A r ok q2 bw2 hyes2 hno2)
    clear hyes2 hno2
    go_wp2_with fail
    show bodyPost _ _ _ _ _ (put4 w2 w.heap.size (.int .i64 7) (.int .u64 0) (.int .u64 0) (.slice A n c))
    have HX2 := HX.out
    clear HX f0 f1 f2 f3 y0 y1 y2 y3
    generalize put4 w2 w.heap.size (.int .i64 7) (.int .u64 0) (.int .u64 0) (.slice A n c) = W2 at *
    exact rread_ret (b := ok) HX2.2 HX2.1 _ rfl rfl rfl
  | false =>
    have hno2 := rd_0 (d := d) HN6.out h6 h7
    have qE := q1
    have bE := b1
    clear q1 b1
    have f0 := cell_of_row w1 _ 0 _ _ _ qE
    have f1 := cell_of_row w1 _ 1 _ _ _ qE
    have f2 := cell_of_row w1 _ 2 _ _ _ qE
    have f3 := cell_of_row w1 _ 3 _ _ _ qE
    have y0 := frozen_of_row w1 w.heap.size 0 _ _ qE
    have y1 := frozen_of_row w1 w.heap.size 1 _ _ qE
    have y2 := frozen_of_row w1 w.heap.size 2 _ _ qE
    have y3 := frozen_of_row w1 w.heap.size 3 _ _ qE
    simp at f0 f1 f2 f3
    have HX := Lib_hid (HRET.out w1 0 0 0 0 0 none s false qE bE (fun h => by cases h) (fun _ => hno2))
    clear hno2
    go_wp2_with (first | (go_at_call 72; refine (BG.out _ _ _).mono ?_; rintro e w' ⟨rfl, rfl⟩))
    show bodyPost _ _ _ _ _ (put4 w1 w.heap.size (.int .i64 0) (.int .u64 0) (.int .u64 0) (.slice none 0 0))
    have HX2 := HX.out
    clear HX f0 f1 f2 f3 y0 y1 y2 y3
    generalize put4 w1 w.heap.size (.int .i64 0) (.int .u64 0) (.int .u64 0) (.slice none 0 0) = W2 at *
    exact rread_ret (b := false) HX2.2 HX2.1 _ rfl rfl rfl

end Go.Proofs.YtiijdacnfhiagaaGreatDoor

namespace Go.Proofs.YtiijdacnfhiagaaGreatDoor
open Go Go.RowKit
set_option linter.unusedVariables false

/-- A tree, or none, as it is answered: with the error. -/
def ansT : Option T → T × Nat
  | some t => (t, 0)
  | none => (.node 0 0 0 [], 40)
/-- The predicate whose text that is. -/
def readT (s : List UInt8) : Option T := match rdS 8 s with
  | some (t, []) => if t.rightB then some t else none
  | _ => none
def AnsEnd (E : TypeId) (o : T × Nat) (w : World) (e : Ending) (w' : World) : Prop :=
  ∃ u : V, e = .returned (.tuple #[u.val, .int .i64 (o.2 : Int)]) ∧ u.abs = o.1 ∧ Lies w' w.heap.size w'.heap.size u ∧ Shp E w' w.heap.size u ∧ Below w.heap.size w w'
theorem zero_lies (w : World) (lo hi : Nat) : Lies w lo hi (.node 0 0 0 none 0 []) := .mk _ _ _ _ _ _ (by omega) (by omega) (by omega) Rd.zero (by simp) (fun ad e => by cases e) (by simp)
theorem zero_shp (E : TypeId) (w : World) (lo : Nat) : Shp E w lo (.node 0 0 0 none 0 []) := .mk _ _ _ _ _ _ (by simp) (by simp)

set_option maxRecDepth 100000 in
theorem read_ret {Q : Ending → World → Prop} {W : World} {h0 z : Nat} {x0 x1 x2 x3 : Value} (HR2 : W.heap[h0]? = some (.cells #[x0, x1, x2, x3] 25 (0, 0))) (HF2 : Q (.returned (.tuple #[.agg #[x0, x1, x2, x3], .int .i64 z])) W)
    (tmps : Array Value) (h2 : tmps.getD 2 undef = .pointer (some ⟨h0, 0, none⟩)) (h3 : tmps.getD 3 undef = .int .i64 z) : bodyPost Tryz.prog Tryz.f37 Q .ret { tmps := tmps, defers := [] } W := by
  rw [Array.getD_eq_getD_getElem?] at h2 h3
  have d0 := cell_of_row W _ 0 _ _ _ HR2
  have d1 := cell_of_row W _ 1 _ _ _ HR2
  have d2 := cell_of_row W _ 2 _ _ _ HR2
  have d3 := cell_of_row W _ 3 _ _ _ HR2
  simp at d0 d1 d2 d3
  exact bodyPost_ret (v := .tuple #[.agg #[x0, x1, x2, x3], .int .i64 z]) (by simp [results, Tryz.results37, go_sem, h2, h3, d0, d1, d2, d3]) rfl HF2

set_option maxRecDepth 100000 in
set_option maxHeartbeats 3200000 in
theorem pread_any (s : List UInt8) (B : Nat) (w : World) (hE : Env B w) (hB : B ≤ w.heap.size) (hl : s.length ≤ 1000000) :
    Calls Tryz.prog 37 #[.string ⟨s.toArray⟩] w (AnsEnd 25 (ansT (readT s)) w) := by
  obtain ⟨w1, hw1⟩ : ∃ w1, w1 = w.alloc (.cells #[.int .i64 0, .int .u64 0, .int .u64 0, .slice none 0 0] 25) := ⟨_, rfl⟩
  have q1 := heap_alloc_new w (.cells #[.int .i64 0, .int .u64 0, .int .u64 0, .slice none 0 0] 25)
  have b1 := below_new w (.cells #[.int .i64 0, .int .u64 0, .int .u64 0, .slice none 0 0] 25)
  have s1 : w1.heap.size = w.heap.size + 1 := by rw [hw1]; simp
  rw [← hw1] at q1 b1
  obtain ⟨w2, hw2⟩ : ∃ w2, w2 = w1.alloc (.cells #[.int .i64 0, .string ⟨s.toArray⟩, .bool false] 82) := ⟨_, rfl⟩
  have g2 := heap_alloc_new w1 (.cells #[.int .i64 0, .string ⟨s.toArray⟩, .bool false] 82)
  have b2 := below_new w1 (.cells #[.int .i64 0, .string ⟨s.toArray⟩, .bool false] 82)
  have s2 : w2.heap.size = w.heap.size + 2 := by rw [hw2]; simp [s1]
  rw [← hw2] at g2 b2
  rw [s1] at g2 b2
  have g2 : w2.heap[w.heap.size + 1]? = some (RdrC 0 s false) := g2
  have q2 := (b2.block w.heap.size (by omega)).trans q1
  have hbw := b1.trans (b2.mono (by omega))
  have ND := pnode_any 8 (Nat.le_refl _) 0 s false B (w.heap.size + 1) w2 g2 (hE.under hbw hB) (by omega) hl (fun _ => by omega) (by omega)
  have ND : Calls Tryz.prog 53 #[.pointer (some ⟨w.heap.size + 1, 0, none⟩), .int .i64 1] w2 (NdEnd 8 0 s false (w.heap.size + 1) w2) := ND
  have HOK : Hid (∀ t, rdS 8 s = some (t, []) → t.rightB = true → ansT (readT s) = (t, 0)) := fun t h1 h2 => by unfold readT; rw [h1]; simp [h2, ansT]
  have HNO : Hid ((∀ t, rdS 8 s = some (t, []) → t.rightB = false) → ansT (readT s) = (.node 0 0 0 [], 40)) := fun h => by
    unfold readT
    cases h8 : rdS 8 s with
    | none => rfl
    | some x =>
      obtain ⟨t, r⟩ := x
      cases r with
      | nil => simp [h t h8, ansT]
      | cons c r => rfl
  generalize ansT (readT s) = o at *
  have HB2 := Lib_hid (And.intro hbw s2)
  have HBADEND : Hid (∀ W : World, W.heap[w.heap.size]? = some (.cells #[.int .i64 0, .int .u64 0, .int .u64 0, .slice none 0 0] 25 (0, 0)) → Below w.heap.size w W → (∀ t, rdS 8 s = some (t, []) → t.rightB = false) →
      AnsEnd 25 o w (.returned (.tuple #[.agg #[.int .i64 0, .int .u64 0, .int .u64 0, .slice none 0 0], .int .i64 40])) (put4 W w.heap.size (.int .i64 0) (.int .u64 0) (.int .u64 0) (.slice none 0 0)) ∧
      (put4 W w.heap.size (.int .i64 0) (.int .u64 0) (.int .u64 0) (.slice none 0 0)).heap[w.heap.size]? = some (.cells #[.int .i64 0, .int .u64 0, .int .u64 0, .slice none 0 0] 25 (0, 0))) := by
    intro W h1 h2 h3
    rw [HNO.out h3]
    exact ⟨⟨.node 0 0 0 none 0 [], rfl, by simp [V.abs, V.absL], zero_lies _ _ _, zero_shp _ _ _, put4_below h2 (Nat.le_refl _) _ _ _ _⟩, put4_row h1 _ _ _ _⟩
  subst hw2 hw1
  clear b1 b2 q1 g2 hE hbw
  go_enter Tryz.func37, Tryz.ntmps37
  go_upto_region 2 with (fail)
  generalize (w.alloc _).alloc (.cells #[.int .i64 0, .string ⟨s.toArray⟩, .bool false] 82) = w2 at *
  go_wp2_with fail
  refine ND.mono ?_
  rintro e w3 ⟨k, a, b, n, c, m', A, s', bad', rfl, hgr3, hg3, hR⟩
  have hb3 : Below w.heap.size w w3 := HB2.out.1.trans (⟨hgr3.os, hgr3.tape, hgr3.output, hgr3.size, fun i hi => hgr3.block i (by have := HB2.out.2; omega) (fun e => by injection e with e; omega)⟩ : Below w.heap.size w2 w3)
  have q3 := (hgr3.block w.heap.size (by have := HB2.out.2; omega) (fun e => by injection e with e; omega)).trans q2
  have s3 := hgr3.size
  have b4 := below_new w3 (.cells #[.int .i64 k, .int .u64 (a : Int), .int .u64 (b : Int), .slice A n c] 25)
  have r4 := heap_alloc_new w3 (.cells #[.int .i64 k, .int .u64 (a : Int), .int .u64 (b : Int), .slice A n c] 25)
  have q4 := (b4.block w.heap.size (by have := HB2.out.2; omega)).trans q3
  have g4 := (b4.block (w.heap.size + 1) (by have := HB2.out.2; omega)).trans hg3
  have hb4 := hb3.trans (b4.mono (by have := HB2.out.2; omega))
  have s4 : (w3.alloc (.cells #[.int .i64 k, .int .u64 (a : Int), .int .u64 (b : Int), .slice A n c] 25)).heap.size = w3.heap.size + 1 := by simp
  obtain ⟨hm, hok⟩ := hR.ok rfl
  have HB4B := Lib_hid b4
  have HL4 : Hid (bad' = false → ∃ t us, rdS 8 s = some (t, s') ∧ (V.node k a b A c us).abs = t ∧ us.length = n ∧ Lies w3 w2.heap.size w3.heap.size (.node k a b A c us) ∧ Shp 25 w3 w2.heap.size (.node k a b A c us) ∧ t.count ≤ 32) := by
    intro hb
    rcases hok with ⟨t, us, e1, e2, e3, e4, e5, e6, e7, e8⟩ | ⟨_, h⟩
    · exact ⟨t, us, e1, e5, e6, e7, e8, by omega⟩
    · rw [h] at hb; cases hb
  have HBB : Hid (bad' = true → ∀ t, rdS 8 s = some (t, []) → t.rightB = false) := by
    intro hb t ht
    rcases hok with ⟨t', us, e1, e2, e3, e4, e5, e6, e7, e8⟩ | ⟨h, _⟩
    · rw [hb] at e3; cases e3
    · have := h t [] ht
      cases hr : t.rightB with
      | false => rfl
      | true => have := (right_all hr).2; omega
  clear ND hR hok hm hb3 q3 hg3 b4 q2 hgr3
  go_upto_region 3 with (fail)
  generalize w3.alloc (.cells #[.int .i64 k, .int .u64 (a : Int), .int .u64 (b : Int), .slice A n c] 25) = w4 at *
  have c1 := cell_of_row w4 _ 1 _ _ _ g4
  have c2 := cell_of_row w4 _ 2 _ _ _ g4
  simp at c1 c2
  cases bad' with
  | true =>
    have e0 := cell_of_row w4 _ 0 _ _ _ q4
    have e1 := cell_of_row w4 _ 1 _ _ _ q4
    have e2 := cell_of_row w4 _ 2 _ _ _ q4
    have e3 := cell_of_row w4 _ 3 _ _ _ q4
    have y0 := frozen_of_row w4 w.heap.size 0 _ _ q4
    have y1 := frozen_of_row w4 w.heap.size 1 _ _ q4
    have y2 := frozen_of_row w4 w.heap.size 2 _ _ q4
    have y3 := frozen_of_row w4 w.heap.size 3 _ _ q4
    simp at e0 e1 e2 e3
    have HX := Lib_hid (HBADEND.out w4 q4 hb4 (HBB.out rfl))
    clear q4 hb4
    go_wp2_with fail
    show bodyPost _ _ _ _ _ (put4 w4 w.heap.size (.int .i64 0) (.int .u64 0) (.int .u64 0) (.slice none 0 0))
    have HX2 := HX.out
    clear HX HBADEND e0 e1 e2 e3 y0 y1 y2 y3
    generalize put4 w4 w.heap.size (.int .i64 0) (.int .u64 0) (.int .u64 0) (.slice none 0 0) = W2 at *
    exact read_ret (z := 40) HX2.2 HX2.1 _ rfl rfl
  | false =>
    by_cases hs' : s' = []
    · subst hs'
      obtain ⟨t, us, e1, e2, rfl, hL, hS, hct⟩ := HL4.out rfl
      have hL4 := hL.under (HB4B.out.mono (Nat.le_refl _))
      have RR := pright_any (.node k a b A c us) w4 _ _ hL4 (by omega)
      rw [e2] at RR
      simp only [V.val, V.kind, V.a, V.b, V.sl, V.addr, V.parts, V.cap] at RR
      have d0 := cell_of_row w4 _ 0 _ _ _ r4
      have d1 := cell_of_row w4 _ 1 _ _ _ r4
      have d2 := cell_of_row w4 _ 2 _ _ _ r4
      have d3 := cell_of_row w4 _ 3 _ _ _ r4
      simp at d0 d1 d2 d3
      have HLS := Lib_hid (And.intro e1 (And.intro e2 (And.intro hL4 (hS.under HB4B.out))))
      clear e1 e2 hL hS hL4 HL4 hct HBB
      generalize hn : us.length = n at *
      have HUS := Lib_hid hn
      clear hn
      go_wp2_with fail
      refine RR.mono ?_
      rintro e w5 ⟨rfl, hb5⟩
      have q5 := (hb5.block w.heap.size (by omega)).trans q4
      have r5 := (hb5.block w3.heap.size (by omega)).trans r4
      have hbw5 := hb4.trans (hb5.mono hb4.size)
      have HB5 := Lib_hid hb5
      clear RR d0 d1 d2 d3 c1 c2 q4 r4 hb4 hb5 g4
      cases hr : t.rightB with
      | true =>
        obtain ⟨e1, e2, hL4, hS4⟩ := HLS.out
        have HX : Hid (AnsEnd 25 o w (.returned (.tuple #[.agg #[.int .i64 k, .int .u64 (a : Int), .int .u64 (b : Int), .slice A n c], .int .i64 0])) (put4 w5 w.heap.size (.int .i64 k) (.int .u64 (a : Int)) (.int .u64 (b : Int)) (.slice A n c)) ∧
            (put4 w5 w.heap.size (.int .i64 k) (.int .u64 (a : Int)) (.int .u64 (b : Int)) (.slice A n c)).heap[w.heap.size]? = some (.cells #[.int .i64 k, .int .u64 (a : Int), .int .u64 (b : Int), .slice A n c] 25 (0, 0))) := by
          have h2s := HB2.out.2
          have h5s := HB5.out.size
          rw [HOK.out t e1 hr]
          refine ⟨⟨.node k a b A c us, by rw [← HUS.out]; rfl, e2, ?_, ?_, put4_below hbw5 (Nat.le_refl _) _ _ _ _⟩, put4_row q5 _ _ _ _⟩
          · rw [put4_size]
            exact ((hL4.under (HB5.out.mono (by omega))).keep fun p h1 _ => World.cell?_of_block (put4_else w5 (by omega) _ _ _ _)).more (by omega) (by omega)
          · exact (Shp.keepL _ (hL4.under (HB5.out.mono (by omega))) (hS4.under HB5.out) fun g' h1 _ => put4_else w5 (by omega) _ _ _ _).more (by omega)
        have e0 := cell_of_row w5 _ 0 _ _ _ q5
        have e1 := cell_of_row w5 _ 1 _ _ _ q5
        have e2 := cell_of_row w5 _ 2 _ _ _ q5
        have e3 := cell_of_row w5 _ 3 _ _ _ q5
        have y0 := frozen_of_row w5 w.heap.size 0 _ _ q5
        have y1 := frozen_of_row w5 w.heap.size 1 _ _ q5
        have y2 := frozen_of_row w5 w.heap.size 2 _ _ q5
        have y3 := frozen_of_row w5 w.heap.size 3 _ _ q5
        have f0 := cell_of_row w5 _ 0 _ _ _ r5
        have f1 := cell_of_row w5 _ 1 _ _ _ r5
        have f2 := cell_of_row w5 _ 2 _ _ _ r5
        have f3 := cell_of_row w5 _ 3 _ _ _ r5
        simp at e0 e1 e2 e3 f0 f1 f2 f3
        clear q5 r5 hbw5 hL4 hS4 HLS
        go_wp2_with fail
        show bodyPost _ _ _ _ _ (put4 w5 w.heap.size (.int .i64 k) (.int .u64 (a : Int)) (.int .u64 (b : Int)) (.slice A n c))
        have HX2 := HX.out
        clear HX HBADEND e0 e1 e2 e3 y0 y1 y2 y3 f0 f1 f2 f3
        generalize put4 w5 w.heap.size (.int .i64 k) (.int .u64 (a : Int)) (.int .u64 (b : Int)) (.slice A n c) = W2 at *
        exact read_ret (z := 0) HX2.2 HX2.1 _ rfl rfl
      | false =>
        have hno : ∀ t', rdS 8 s = some (t', []) → t'.rightB = false := fun t' h => by
          have := HLS.out.1
          rw [h] at this
          injection this with this
          injection this with this _
          rw [this]; exact hr
        have e0 := cell_of_row w5 _ 0 _ _ _ q5
        have e1 := cell_of_row w5 _ 1 _ _ _ q5
        have e2 := cell_of_row w5 _ 2 _ _ _ q5
        have e3 := cell_of_row w5 _ 3 _ _ _ q5
        have y0 := frozen_of_row w5 w.heap.size 0 _ _ q5
        have y1 := frozen_of_row w5 w.heap.size 1 _ _ q5
        have y2 := frozen_of_row w5 w.heap.size 2 _ _ q5
        have y3 := frozen_of_row w5 w.heap.size 3 _ _ q5
        simp at e0 e1 e2 e3
        have HX := Lib_hid (HBADEND.out w5 q5 hbw5 hno)
        clear q5 hbw5
        go_wp2_with fail
        show bodyPost _ _ _ _ _ (put4 w5 w.heap.size (.int .i64 0) (.int .u64 0) (.int .u64 0) (.slice none 0 0))
        have HX2 := HX.out
        clear HX HBADEND e0 e1 e2 e3 y0 y1 y2 y3
        generalize put4 w5 w.heap.size (.int .i64 0) (.int .u64 0) (.int .u64 0) (.slice none 0 0) = W2 at *
        exact read_ret (z := 40) HX2.2 HX2.1 _ rfl rfl
    · have hsb : (s' == []) = false := by cases s' with | nil => exact absurd rfl hs' | cons x y => rfl
      have hno : ∀ t', rdS 8 s = some (t', []) → t'.rightB = false := fun t' h => by
        obtain ⟨t, us, e1, _⟩ := HL4.out rfl
        rw [e1] at h
        injection h with h
        injection h with _ h
        exact absurd h hs'
      have HS' := Lib_hid hs'
      clear hs'
      have e0 := cell_of_row w4 _ 0 _ _ _ q4
      have e1 := cell_of_row w4 _ 1 _ _ _ q4
      have e2 := cell_of_row w4 _ 2 _ _ _ q4
      have e3 := cell_of_row w4 _ 3 _ _ _ q4
      have y0 := frozen_of_row w4 w.heap.size 0 _ _ q4
      have y1 := frozen_of_row w4 w.heap.size 1 _ _ q4
      have y2 := frozen_of_row w4 w.heap.size 2 _ _ q4
      have y3 := frozen_of_row w4 w.heap.size 3 _ _ q4
      simp at e0 e1 e2 e3
      have HX := Lib_hid (HBADEND.out w4 q4 hb4 hno)
      clear q4 hb4
      go_wp2_with fail
      show bodyPost _ _ _ _ _ (put4 w4 w.heap.size (.int .i64 0) (.int .u64 0) (.int .u64 0) (.slice none 0 0))
      have HX2 := HX.out
      clear HX HBADEND e0 e1 e2 e3 y0 y1 y2 y3
      generalize put4 w4 w.heap.size (.int .i64 0) (.int .u64 0) (.int .u64 0) (.slice none 0 0) = W2 at *
      exact read_ret (z := 40) HX2.2 HX2.1 _ rfl rfl

end Go.Proofs.YtiijdacnfhiagaaGreatDoor

namespace Go.Proofs.YtiijdacnfhiagaaGreatDoor
open Go Go.RowKit
set_option linter.unusedVariables false

set_option maxRecDepth 100000 in
theorem rRead_ret {Q : Ending → World → Prop} {W : World} {h0 z : Nat} {x0 x1 x2 x3 : Value} (HR2 : W.heap[h0]? = some (.cells #[x0, x1, x2, x3] 30 (0, 0))) (HF2 : Q (.returned (.tuple #[.agg #[x0, x1, x2, x3], .int .i64 z])) W)
    (tmps : Array Value) (h2 : tmps.getD 2 undef = .pointer (some ⟨h0, 0, none⟩)) (h3 : tmps.getD 3 undef = .int .i64 z) : bodyPost Tryz.prog Tryz.f38 Q .ret { tmps := tmps, defers := [] } W := by
  rw [Array.getD_eq_getD_getElem?] at h2 h3
  have d0 := cell_of_row W _ 0 _ _ _ HR2
  have d1 := cell_of_row W _ 1 _ _ _ HR2
  have d2 := cell_of_row W _ 2 _ _ _ HR2
  have d3 := cell_of_row W _ 3 _ _ _ HR2
  simp at d0 d1 d2 d3
  exact bodyPost_ret (v := .tuple #[.agg #[x0, x1, x2, x3], .int .i64 z]) (by simp [results, Tryz.results38, go_sem, h2, h3, d0, d1, d2, d3]) rfl HF2

/-- A text has no more nodes than bytes. -/
theorem moreS_count {f : List UInt8 → Option (T × List UInt8)} (hf : ∀ s t r, f s = some (t, r) → t.count + r.length ≤ s.length) : ∀ (n : Nat) (s : List UInt8) (ts : List T) (r : List UInt8), moreS f n s = some (ts, r) → T.countL ts + r.length ≤ s.length
  | 0, s, ts, r, h => by cases h
  | n + 1, s, ts, r, h => by
    unfold moreS at h
    split at h
    · obtain ⟨⟨t, r'⟩, h1, h⟩ := Option.bind_eq_some_iff.1 h
      obtain ⟨⟨ts', r2⟩, h2, he⟩ := Option.map_eq_some_iff.1 h
      injection he with e1 e2
      subst e1 e2
      have := hf _ _ _ h1
      have := moreS_count hf n r' ts' r2 h2
      have := trim_le s [44]
      simp only [T.countL] at *
      omega
    · split at h
      · injection h with h
        injection h with e1 e2
        subst e1 e2
        have := trim_le s [41]
        simp only [T.countL]
        omega
      · cases h
theorem rdS_count : ∀ (d : Nat) (s : List UInt8) (t : T) (r : List UInt8), rdS d s = some (t, r) → t.count + r.length ≤ s.length
  | 0, s, t, r, h => by cases h
  | d + 1, s, t, r, h => by
    unfold rdS at h
    split at h
    · cases h
    · rename_i hk
      obtain ⟨⟨vs, r1⟩, h1, h⟩ := Option.bind_eq_some_iff.1 h
      obtain ⟨⟨ts, r2⟩, h2, he⟩ := Option.map_eq_some_iff.1 h
      injection he with e1 e2
      subst e1 e2
      have h3 := (numsS_len _ _ _ _ h1).2.1
      have h4 := (kindS_le s).2.2 hk
      have h5 : T.countL ts + r2.length ≤ r1.length := by
        unfold partsS at h2
        split at h2
        · obtain ⟨⟨t', r'⟩, h5, he⟩ := Option.map_eq_some_iff.1 h2
          injection he with e1 e2
          subst e1 e2
          have := rdS_count d _ _ _ h5
          simp only [T.countL] at *
          omega
        · split at h2
          · unfold listS at h2
            split at h2
            · have := trim_le r1 [40]
              split at h2
              · injection h2 with h2
                injection h2 with e1 e2
                subst e1 e2
                have := trim_le (Lib.trimPrefix r1 [40]) [41]
                simp only [T.countL]
                omega
              · obtain ⟨⟨t', r'⟩, h6, h2⟩ := Option.bind_eq_some_iff.1 h2
                obtain ⟨⟨ts', r3⟩, h7, he⟩ := Option.map_eq_some_iff.1 h2
                injection he with e1 e2
                subst e1 e2
                have := rdS_count d _ _ _ h6
                have := moreS_count (rdS_count d) _ _ _ _ h7
                simp only [T.countL] at *
                omega
            · cases h2
          · injection h2 with h2
            injection h2 with e1 e2
            subst e1 e2
            simp only [T.countL]
            omega
      rw [T.count]
      simp only at *
      omega

set_option maxRecDepth 100000 in
set_option maxHeartbeats 3200000 in
theorem rRead_any (s : List UInt8) (w : World) (hl : s.length ≤ 900) : Calls Tryz.prog 38 #[.string ⟨s.toArray⟩] w (AnsEnd 30 (ansT (readT s)) w) := by
  obtain ⟨w1, hw1⟩ : ∃ w1, w1 = w.alloc (.cells #[.int .i64 0, .int .u64 0, .int .u64 0, .slice none 0 0] 30) := ⟨_, rfl⟩
  have q1 := heap_alloc_new w (.cells #[.int .i64 0, .int .u64 0, .int .u64 0, .slice none 0 0] 30)
  have b1 := below_new w (.cells #[.int .i64 0, .int .u64 0, .int .u64 0, .slice none 0 0] 30)
  have s1 : w1.heap.size = w.heap.size + 1 := by rw [hw1]; simp
  rw [← hw1] at q1 b1
  have ND := rread4_any 8 (Nat.le_refl _) s w1 (by omega)
  have ND : Calls Tryz.prog 54 #[.string ⟨s.toArray⟩, .int .i64 8] w1 (RdE4 8 s w1) := ND
  have HOK : Hid (∀ t, rdS 8 s = some (t, []) → t.rightB = true → ansT (readT s) = (t, 0)) := fun t h1 h2 => by unfold readT; rw [h1]; simp [h2, ansT]
  have HNO : Hid ((∀ t, rdS 8 s = some (t, []) → t.rightB = false) → ansT (readT s) = (.node 0 0 0 [], 40)) := fun h => by
    unfold readT
    cases h8 : rdS 8 s with
    | none => rfl
    | some x =>
      obtain ⟨t, r⟩ := x
      cases r with
      | nil => simp [h t h8, ansT]
      | cons c r => rfl
  generalize ansT (readT s) = o at *
  have HBADEND : Hid (∀ W : World, W.heap[w.heap.size]? = some (.cells #[.int .i64 0, .int .u64 0, .int .u64 0, .slice none 0 0] 30 (0, 0)) → Below w.heap.size w W → (∀ t, rdS 8 s = some (t, []) → t.rightB = false) →
      AnsEnd 30 o w (.returned (.tuple #[.agg #[.int .i64 0, .int .u64 0, .int .u64 0, .slice none 0 0], .int .i64 40])) (put4 W w.heap.size (.int .i64 0) (.int .u64 0) (.int .u64 0) (.slice none 0 0)) ∧
      (put4 W w.heap.size (.int .i64 0) (.int .u64 0) (.int .u64 0) (.slice none 0 0)).heap[w.heap.size]? = some (.cells #[.int .i64 0, .int .u64 0, .int .u64 0, .slice none 0 0] 30 (0, 0))) := by
    intro W h1 h2 h3
    rw [HNO.out h3]
    exact ⟨⟨.node 0 0 0 none 0 [], rfl, by simp [V.abs, V.absL], zero_lies _ _ _, zero_shp _ _ _, put4_below h2 (Nat.le_refl _) _ _ _ _⟩, put4_row h1 _ _ _ _⟩
  subst hw1
  go_enter Tryz.func38, Tryz.ntmps38
  go_upto_region 1 with (fail)
  generalize w.alloc (.cells #[.int .i64 0, .int .u64 0, .int .u64 0, .slice none 0 0] 30) = w2 at *
  go_wp2_with fail
  refine ND.mono ?_
  rintro e w3 ⟨k, a, b, n, c, A, s', ok, rfl, hb3, hR⟩
  have s3 := hb3.size
  have b4 := below_new w3 (.cells #[.int .i64 k, .int .u64 (a : Int), .int .u64 (b : Int), .slice A n c] 30)
  have r4 := heap_alloc_new w3 (.cells #[.int .i64 k, .int .u64 (a : Int), .int .u64 (b : Int), .slice A n c] 30)
  have q4 := (b4.block w.heap.size (by omega)).trans ((hb3.block w.heap.size (by omega)).trans q1)
  have hb4 := (b1.trans (hb3.mono (by omega))).trans (b4.mono (by omega))
  have s4 : (w3.alloc (.cells #[.int .i64 k, .int .u64 (a : Int), .int .u64 (b : Int), .slice A n c] 30)).heap.size = w3.heap.size + 1 := by simp
  have HB4B := Lib_hid b4
  clear ND q1 b1 hb3 b4
  go_upto_region 2 with (fail)
  generalize w3.alloc (.cells #[.int .i64 k, .int .u64 (a : Int), .int .u64 (b : Int), .slice A n c] 30) = w4 at *
  cases ok with
  | false =>
    have hno : ∀ t', rdS 8 s = some (t', []) → t'.rightB = false := fun t' h => by rw [hR.no rfl] at h; cases h
    have e0 := cell_of_row w4 _ 0 _ _ _ q4
    have e1 := cell_of_row w4 _ 1 _ _ _ q4
    have e2 := cell_of_row w4 _ 2 _ _ _ q4
    have e3 := cell_of_row w4 _ 3 _ _ _ q4
    have y0 := frozen_of_row w4 w.heap.size 0 _ _ q4
    have y1 := frozen_of_row w4 w.heap.size 1 _ _ q4
    have y2 := frozen_of_row w4 w.heap.size 2 _ _ q4
    have y3 := frozen_of_row w4 w.heap.size 3 _ _ q4
    simp at e0 e1 e2 e3
    have HX := Lib_hid (HBADEND.out w4 q4 hb4 hno)
    clear q4 hb4
    go_wp2_with fail
    show bodyPost _ _ _ _ _ (put4 w4 w.heap.size (.int .i64 0) (.int .u64 0) (.int .u64 0) (.slice none 0 0))
    have HX2 := HX.out
    clear HX HBADEND e0 e1 e2 e3 y0 y1 y2 y3
    generalize put4 w4 w.heap.size (.int .i64 0) (.int .u64 0) (.int .u64 0) (.slice none 0 0) = W2 at *
    exact rRead_ret (z := 40) HX2.2 HX2.1 _ rfl rfl
  | true =>
    obtain ⟨t, us, e1, e2, e3, hL, hS⟩ := hR.yes rfl
    by_cases hs' : s' = []
    · subst hs'
      have hct : t.count ≤ 1000 := by
        have := rdS_count 8 _ _ _ e1
        omega
      have hL4 := hL.under (HB4B.out.mono (Nat.le_refl _))
      have RR := rright_any (.node k a b A c us) w4 _ _ hL4 (by omega) (by rw [e2]; exact hct)
      rw [e2] at RR
      simp only [V.val, V.kind, V.a, V.b, V.sl, V.addr, V.parts, V.cap] at RR
      have d0 := cell_of_row w4 _ 0 _ _ _ r4
      have d1 := cell_of_row w4 _ 1 _ _ _ r4
      have d2 := cell_of_row w4 _ 2 _ _ _ r4
      have d3 := cell_of_row w4 _ 3 _ _ _ r4
      simp at d0 d1 d2 d3
      have HLS := Lib_hid (And.intro e1 (And.intro e2 (And.intro hL4 (hS.under HB4B.out))))
      have HUS := Lib_hid e3
      clear e1 e2 hL hS hL4 hct hR
      rw [e3] at RR
      clear e3
      go_wp2_with fail
      refine RR.mono ?_
      rintro e w5 ⟨rfl, hb5⟩
      have q5 := (hb5.block w.heap.size (by omega)).trans q4
      have r5 := (hb5.block w3.heap.size (by omega)).trans r4
      have hbw5 := hb4.trans (hb5.mono hb4.size)
      have HB5 := Lib_hid hb5
      clear RR d0 d1 d2 d3 q4 r4 hb4 hb5
      cases hr : t.rightB with
      | true =>
        obtain ⟨e1, e2, hL4, hS4⟩ := HLS.out
        have HX : Hid (AnsEnd 30 o w (.returned (.tuple #[.agg #[.int .i64 k, .int .u64 (a : Int), .int .u64 (b : Int), .slice A n c], .int .i64 0])) (put4 w5 w.heap.size (.int .i64 k) (.int .u64 (a : Int)) (.int .u64 (b : Int)) (.slice A n c)) ∧
            (put4 w5 w.heap.size (.int .i64 k) (.int .u64 (a : Int)) (.int .u64 (b : Int)) (.slice A n c)).heap[w.heap.size]? = some (.cells #[.int .i64 k, .int .u64 (a : Int), .int .u64 (b : Int), .slice A n c] 30 (0, 0))) := by
          have h5s := HB5.out.size
          rw [HOK.out t e1 hr]
          refine ⟨⟨.node k a b A c us, by rw [← HUS.out]; rfl, e2, ?_, ?_, put4_below hbw5 (Nat.le_refl _) _ _ _ _⟩, put4_row q5 _ _ _ _⟩
          · rw [put4_size]
            exact ((hL4.under (HB5.out.mono (by omega))).keep fun p h1 _ => World.cell?_of_block (put4_else w5 (by omega) _ _ _ _)).more (by omega) (by omega)
          · exact (Shp.keepL _ (hL4.under (HB5.out.mono (by omega))) (hS4.under HB5.out) fun g' h1 _ => put4_else w5 (by omega) _ _ _ _).more (by omega)
        have e0 := cell_of_row w5 _ 0 _ _ _ q5
        have e1 := cell_of_row w5 _ 1 _ _ _ q5
        have e2 := cell_of_row w5 _ 2 _ _ _ q5
        have e3 := cell_of_row w5 _ 3 _ _ _ q5
        have y0 := frozen_of_row w5 w.heap.size 0 _ _ q5
        have y1 := frozen_of_row w5 w.heap.size 1 _ _ q5
        have y2 := frozen_of_row w5 w.heap.size 2 _ _ q5
        have y3 := frozen_of_row w5 w.heap.size 3 _ _ q5
        have f0 := cell_of_row w5 _ 0 _ _ _ r5
        have f1 := cell_of_row w5 _ 1 _ _ _ r5
        have f2 := cell_of_row w5 _ 2 _ _ _ r5
        have f3 := cell_of_row w5 _ 3 _ _ _ r5
        simp at e0 e1 e2 e3 f0 f1 f2 f3
        clear q5 r5 hbw5 hL4 hS4 HLS
        go_wp2_with fail
        show bodyPost _ _ _ _ _ (put4 w5 w.heap.size (.int .i64 k) (.int .u64 (a : Int)) (.int .u64 (b : Int)) (.slice A n c))
        have HX2 := HX.out
        clear HX HBADEND e0 e1 e2 e3 y0 y1 y2 y3 f0 f1 f2 f3
        generalize put4 w5 w.heap.size (.int .i64 k) (.int .u64 (a : Int)) (.int .u64 (b : Int)) (.slice A n c) = W2 at *
        exact rRead_ret (z := 0) HX2.2 HX2.1 _ rfl rfl
      | false =>
        have hno : ∀ t', rdS 8 s = some (t', []) → t'.rightB = false := fun t' h => by
          have := HLS.out.1
          rw [h] at this
          injection this with this
          injection this with this _
          rw [this]; exact hr
        have e0 := cell_of_row w5 _ 0 _ _ _ q5
        have e1 := cell_of_row w5 _ 1 _ _ _ q5
        have e2 := cell_of_row w5 _ 2 _ _ _ q5
        have e3 := cell_of_row w5 _ 3 _ _ _ q5
        have y0 := frozen_of_row w5 w.heap.size 0 _ _ q5
        have y1 := frozen_of_row w5 w.heap.size 1 _ _ q5
        have y2 := frozen_of_row w5 w.heap.size 2 _ _ q5
        have y3 := frozen_of_row w5 w.heap.size 3 _ _ q5
        simp at e0 e1 e2 e3
        have HX := Lib_hid (HBADEND.out w5 q5 hbw5 hno)
        clear q5 hbw5
        go_wp2_with fail
        show bodyPost _ _ _ _ _ (put4 w5 w.heap.size (.int .i64 0) (.int .u64 0) (.int .u64 0) (.slice none 0 0))
        have HX2 := HX.out
        clear HX HBADEND e0 e1 e2 e3 y0 y1 y2 y3
        generalize put4 w5 w.heap.size (.int .i64 0) (.int .u64 0) (.int .u64 0) (.slice none 0 0) = W2 at *
        exact rRead_ret (z := 40) HX2.2 HX2.1 _ rfl rfl
    · have hsb : (s' == []) = false := by cases s' with | nil => exact absurd rfl hs' | cons x y => rfl
      have hno : ∀ t', rdS 8 s = some (t', []) → t'.rightB = false := fun t' h => by
        rw [e1] at h
        injection h with h
        injection h with _ h
        exact absurd h hs'
      have HS' := Lib_hid hs'
      clear hs' e1
      have e0 := cell_of_row w4 _ 0 _ _ _ q4
      have e1 := cell_of_row w4 _ 1 _ _ _ q4
      have e2 := cell_of_row w4 _ 2 _ _ _ q4
      have e3 := cell_of_row w4 _ 3 _ _ _ q4
      have y0 := frozen_of_row w4 w.heap.size 0 _ _ q4
      have y1 := frozen_of_row w4 w.heap.size 1 _ _ q4
      have y2 := frozen_of_row w4 w.heap.size 2 _ _ q4
      have y3 := frozen_of_row w4 w.heap.size 3 _ _ q4
      simp at e0 e1 e2 e3
      have HX := Lib_hid (HBADEND.out w4 q4 hb4 hno)
      clear q4 hb4
      go_wp2_with fail
      show bodyPost _ _ _ _ _ (put4 w4 w.heap.size (.int .i64 0) (.int .u64 0) (.int .u64 0) (.slice none 0 0))
      have HX2 := HX.out
      clear HX HBADEND e0 e1 e2 e3 y0 y1 y2 y3
      generalize put4 w4 w.heap.size (.int .i64 0) (.int .u64 0) (.int .u64 0) (.slice none 0 0) = W2 at *
      exact rRead_ret (z := 40) HX2.2 HX2.1 _ rfl rfl

end Go.Proofs.YtiijdacnfhiagaaGreatDoor

namespace Go.Proofs.YtiijdacnfhiagaaGreatDoor
open Go Go.RowKit
set_option linter.unusedVariables false

theorem dec1 {n : Nat} (h : n < 10) : Lib.decDigits n = [UInt8.ofNat (48 + n)] := by rw [Lib.decDigits, dif_pos h]
theorem num_one {n : Nat} (hn : n < 10) (r : List UInt8) (hr : ∀ c, r[0]? = some c → isDig c = false) : numS (UInt8.ofNat (48 + n) :: r) = some (n, r) := by
  have hd : isDig (UInt8.ofNat (48 + n)) = true := by
    rw [isDig_iff]
    have : (UInt8.ofNat (48 + n)).toNat = 48 + n := by simp; omega
    omega
  have h0 := (DgI.zero (UInt8.ofNat (48 + n) :: r)).step (c := UInt8.ofNat (48 + n)) rfl hd (by have := (UInt8.ofNat (48 + n)).toNat_lt; omega)
  have e : 0 * 10 + ((UInt8.ofNat (48 + n)).toNat - 48) = n := by simp; omega
  rw [e] at h0
  rw [h0.done (by simp) (fun c hc => hr c (by simpa using hc)), if_pos ⟨by omega, by rw [dec1 hn]; rfl⟩]
  rfl

def exT : T := .node 6 0 0 [.node 2 7 0 [], .node 5 0 0 [.node 4 3 1 []]]
theorem ex1 : ansT (readT [38, 40, 120, 60, 61, 55, 44, 33, 118, 37, 51, 61, 49, 41]) = (exT, 0) := by
  have n7 : numS [55, 44, 33, 118, 37, 51, 61, 49, 41] = some (7, [44, 33, 118, 37, 51, 61, 49, 41]) := num_one (n := 7) (by omega) _ (by intro c h; injection h with h; subst h; rfl)
  have n3 : numS [51, 61, 49, 41] = some (3, [61, 49, 41]) := num_one (n := 3) (by omega) _ (by intro c h; injection h with h; subst h; rfl)
  have n1 : numS [49, 41] = some (1, [41]) := num_one (n := 1) (by omega) _ (by intro c h; injection h with h; subst h; rfl)
  have a1 : rdS 7 [120, 60, 61, 55, 44, 33, 118, 37, 51, 61, 49, 41] = some (.node 2 7 0 [], [44, 33, 118, 37, 51, 61, 49, 41]) := by
    rw [rd_x (d := 6) rfl rfl]
    show (numS [55, 44, 33, 118, 37, 51, 61, 49, 41]).map _ = _
    rw [n7]; rfl
  have a2 : rdS 6 [118, 37, 51, 61, 49, 41] = some (.node 4 3 1 [], [41]) := by
    rw [rd_m (d := 5) rfl rfl rfl rfl]
    show (numS [51, 61, 49, 41]).bind _ = _
    rw [n3]
    show (if Lib.hasPrefix [61, 49, 41] [61] then (numS [49, 41]).map _ else none) = _
    rw [n1]; rfl
  have a3 : rdS 7 [33, 118, 37, 51, 61, 49, 41] = some (.node 5 0 0 [.node 4 3 1 []], [41]) := by
    rw [rd_n (d := 6) (fun i q1 q2 => by have : i = 1 ∨ i = 2 ∨ i = 3 ∨ i = 4 := by omega
                                         rcases this with rfl | rfl | rfl | rfl <;> rfl) rfl]
    show (rdS 6 [118, 37, 51, 61, 49, 41]).map _ = _
    rw [a2]; rfl
  have a4 : rdS 8 [38, 40, 120, 60, 61, 55, 44, 33, 118, 37, 51, 61, 49, 41] = some (exT, []) := by
    rw [rd_r (d := 7) 6 38 (by decide) (fun i q1 q2 => by have : i = 1 ∨ i = 2 ∨ i = 3 ∨ i = 4 ∨ i = 5 := by omega
                                                          rcases this with rfl | rfl | rfl | rfl | rfl <;> rfl) rfl]
    show (listB (rdS 7) [120, 60, 61, 55, 44, 33, 118, 37, 51, 61, 49, 41]).map _ = _
    have b1 : listB (rdS 7) [120, 60, 61, 55, 44, 33, 118, 37, 51, 61, 49, 41] = some ([.node 2 7 0 [], .node 5 0 0 [.node 4 3 1 []]], []) := by
      show contS (rdS 7) [120, 60, 61, 55, 44, 33, 118, 37, 51, 61, 49, 41] = _
      rw [cont_more (rdS_len 7) a1, cont_shut a3]
      rfl
    rw [b1]; rfl
  unfold readT
  rw [a4]
  show ansT (if exT.rightB then some exT else none) = _
  rw [show exT.rightB = true by rfl]
  rfl
theorem ex2 : ansT (readT [118, 37, 51, 61, 51]) = (.node 0 0 0 [], 40) := by
  have n3 : numS [51, 61, 51] = some (3, [61, 51]) := num_one (n := 3) (by omega) _ (by intro c h; injection h with h; subst h; rfl)
  have n1 : numS [51] = some (3, []) := num_one (n := 3) (by omega) _ (by intro c h; cases h)
  have a2 : rdS 8 [118, 37, 51, 61, 51] = some (.node 4 3 3 [], []) := by
    rw [rd_m (d := 7) rfl rfl rfl rfl]
    show (numS [51, 61, 51]).bind _ = _
    rw [n3]
    show (if Lib.hasPrefix [61, 51] [61] then (numS [51]).map _ else none) = _
    rw [n1]; rfl
  unfold readT
  rw [a2]
  rfl
theorem ex3 : ansT (readT [120, 60, 61, 48, 55]) = (.node 0 0 0 [], 40) := by
  have n0 : numS [48, 55] = none := by
    have h0 := ((DgI.zero [48, 55]).step (c := 48) rfl rfl (by decide)).step (c := 55) rfl rfl (by decide)
    have h1 := h0.done (by simp) (fun c hc => by simp at hc)
    rw [h1]
    have : Lib.decDigits ((0 * 10 + ((48 : UInt8).toNat - 48)) * 10 + ((55 : UInt8).toNat - 48)) = [55] := by
      rw [show ((0 * 10 + ((48 : UInt8).toNat - 48)) * 10 + ((55 : UInt8).toNat - 48)) = 7 by rfl, dec1 (by omega)]; rfl
    rw [this]
    rfl
  have a2 : rdS 8 [120, 60, 61, 48, 55] = none := by
    rw [rd_x (d := 7) rfl rfl]
    show (numS [48, 55]).map _ = _
    rw [n0]; rfl
  unfold readT
  rw [a2]
  rfl
theorem ex4 : ansT (readT [38, 40, 97, 108, 108, 44, 41]) = (.node 0 0 0 [], 40) := by
  have a1 : rdS 7 [97, 108, 108, 44, 41] = some (.node 1 0 0 [], [44, 41]) := rd_all (d := 6) rfl
  have a3 : rdS 7 [41] = none := rd_0 (d := 6) (fun i q1 q2 => by have : i = 1 ∨ i = 2 ∨ i = 3 ∨ i = 4 ∨ i = 5 := by omega
                                                                  rcases this with rfl | rfl | rfl | rfl | rfl <;> rfl) rfl rfl
  have a4 : rdS 8 [38, 40, 97, 108, 108, 44, 41] = none := by
    rw [rd_r (d := 7) 6 38 (by decide) (fun i q1 q2 => by have : i = 1 ∨ i = 2 ∨ i = 3 ∨ i = 4 ∨ i = 5 := by omega
                                                          rcases this with rfl | rfl | rfl | rfl | rfl <;> rfl) rfl]
    have b1 : listB (rdS 7) [97, 108, 108, 44, 41] = none := by
      show contS (rdS 7) [97, 108, 108, 44, 41] = _
      rw [cont_more (rdS_len 7) a1, cont_none a3]
      rfl
    have b2 : listB (rdS 7) (List.drop 2 [38, 40, 97, 108, 108, 44, 41]) = none := b1
    rw [b2]
    rfl
  unfold readT
  rw [a4]
  rfl
theorem ex_put : exT.put = [6, 2, 2, 7, 5, 4, 3, 1] := by
  have e : ∀ n, n < 128 → enc n = [n] := fun n h => enc_lt h
  have e2 := e 2 (by omega)
  have e7 := e 7 (by omega)
  have e3 := e 3 (by omega)
  have e1 := e 1 (by omega)
  unfold T.put
  rw [show exT.rightB = true by rfl, if_pos rfl]
  unfold exT
  simp [T.stand, T.standL, numsL, numN, e2, e7, e3, e1]

end Go.Proofs.YtiijdacnfhiagaaGreatDoor

namespace Go.Proofs.YtiijdacnfhiagaaGreatDoor
open Go Go.RowKit
set_option linter.unusedVariables false

theorem ans_open {f : FuncId} {args : Array Value} {w : World} {E : TypeId} {t : T} {z : Nat} (h : Calls Tryz.prog f args w (AnsEnd E (t, z) w)) :
    Calls Tryz.prog f args w fun e w' => ∃ u : V, e = .returned (.tuple #[.agg #[.int .i64 u.kind, .int .u64 (u.a : Int), .int .u64 (u.b : Int), .slice u.addr u.parts.length u.cap], .int .i64 (z : Int)]) ∧ u.abs = t ∧ Lies w' w.heap.size w'.heap.size u ∧ Shp E w' w.heap.size u ∧ Below w.heap.size w w' := h
theorem bs8 : bs [6, 2, 2, 7, 5, 4, 3, 1] = [.int .u8 6, .int .u8 2, .int .u8 2, .int .u8 7, .int .u8 5, .int .u8 4, .int .u8 3, .int .u8 1] := rfl

set_option maxRecDepth 100000 in
set_option maxHeartbeats 6400000 in
theorem works4_any (B : Nat) (w : World) (hE : Env B w) (hB : B ≤ w.heap.size) : Calls Tryz.prog 9 #[] w fun e w' => e = .returned (.bool true) ∧ Below w.heap.size w w' := by
  have RD : Hid (∀ (s : List UInt8) (W : World), Below w.heap.size w W → s.length ≤ 1000 → Calls Tryz.prog 37 #[.string ⟨s.toArray⟩] W (AnsEnd 25 (ansT (readT s)) W)) := fun s W h hl => pread_any s B W (hE.under h hB) (by have := h.size; omega) (by omega)
  have R1 := RD.out [38, 40, 120, 60, 61, 55, 44, 33, 118, 37, 51, 61, 49, 41] w (Below.refl _ _) (by decide)
  rw [ex1] at R1
  have R1 := ans_open R1
  clear hE
  go_enter Tryz.func9, Tryz.ntmps9
  go_wp2_with fail
  refine R1.mono ?_
  rintro e w1 ⟨u, rfl, hu, hL, -, hb1⟩
  have s1 := hb1.size
  have bx := below_new w1 (.cells #[.int .i64 u.kind, .int .u64 (u.a : Int), .int .u64 (u.b : Int), .slice u.addr u.parts.length u.cap] 25)
  have rx := heap_alloc_new w1 (.cells #[.int .i64 u.kind, .int .u64 (u.a : Int), .int .u64 (u.b : Int), .slice u.addr u.parts.length u.cap] 25)
  have sx : (w1.alloc (.cells #[.int .i64 u.kind, .int .u64 (u.a : Int), .int .u64 (u.b : Int), .slice u.addr u.parts.length u.cap] 25)).heap.size = w1.heap.size + 1 := by simp
  clear R1
  go_upto_region 2 with (fail)
  generalize w1.alloc (.cells #[.int .i64 u.kind, .int .u64 (u.a : Int), .int .u64 (u.b : Int), .slice u.addr u.parts.length u.cap] 25) = w2 at *
  have hLW : Hid (∀ W, Below w2.heap.size w2 W → Lies W w.heap.size w1.heap.size u) := fun W hW => (hL.under bx).under (hW.mono bx.size)
  have hct : u.abs.count ≤ 1000 := by rw [hu]; decide
  have HC : Hid (∀ W, Below w2.heap.size w2 W → W.cell? ⟨w1.heap.size, 0, none⟩ = some (.int .i64 u.kind) ∧ W.cell? ⟨w1.heap.size, 1, none⟩ = some (.int .u64 (u.a : Int)) ∧ W.cell? ⟨w1.heap.size, 2, none⟩ = some (.int .u64 (u.b : Int)) ∧ W.cell? ⟨w1.heap.size, 3, none⟩ = some (.slice u.addr u.parts.length u.cap)) := fun W hW => by
    have hx := (hW.block w1.heap.size (by omega)).trans rx
    exact ⟨(cell_of_row W _ 0 _ _ _ hx).trans rfl, (cell_of_row W _ 1 _ _ _ hx).trans rfl, (cell_of_row W _ 2 _ _ _ hx).trans rfl, (cell_of_row W _ 3 _ _ _ hx).trans rfl⟩
  have PU : Hid (∀ W, Below w2.heap.size w2 W → Calls Tryz.prog 11 #[.agg #[.int .i64 u.kind, .int .u64 (u.a : Int), .int .u64 (u.b : Int), .slice u.addr u.parts.length u.cap]] W (Made 5 [6, 2, 2, 7, 5, 4, 3, 1] W)) := fun W hW => by
    have := pput_any u W _ _ (hLW.out W hW) (by have := hW.size; omega)
    rw [hu, ex_put] at this
    exact this
  have HO : Hid (∀ (x y : Nat) (r : Bool) (W : World), Below w2.heap.size w2 W → x < 100 → y < 100 → (exT.rightB && exT.askB x y) = r → Calls Tryz.prog 26 #[.agg #[.int .i64 u.kind, .int .u64 (u.a : Int), .int .u64 (u.b : Int), .slice u.addr u.parts.length u.cap], .int .u64 (x : Int), .int .u64 (y : Int)] W fun e w' => e = .returned (.bool r) ∧ Below W.heap.size W w') := fun x y r W hW hx hy hr => by
    have := pholds_any x y (by omega) (by omega) u W _ _ (hLW.out W hW) (by have := hW.size; omega) hct
    rw [hu, hr] at this
    exact this
  have DP : Hid (∀ W, Below w2.heap.size w2 W → Calls Tryz.prog 22 #[.agg #[.int .i64 u.kind, .int .u64 (u.a : Int), .int .u64 (u.b : Int), .slice u.addr u.parts.length u.cap]] W fun e w' => e = .returned (.int .i64 3) ∧ Below W.heap.size W w') := fun W hW => by
    have := pdepth_any u W _ _ (hLW.out W hW) (by have := hW.size; omega) hct
    rw [hu] at this
    exact this
  have ND : Hid (∀ W, Below w2.heap.size w2 W → Calls Tryz.prog 24 #[.agg #[.int .i64 u.kind, .int .u64 (u.a : Int), .int .u64 (u.b : Int), .slice u.addr u.parts.length u.cap]] W fun e w' => e = .returned (.int .i64 4) ∧ Below W.heap.size W w') := fun W hW => by
    have := pnodes_any u W _ _ (hLW.out W hW) (by have := hW.size; omega) hct
    rw [hu] at this
    exact this
  have bw2 := hb1.trans (bx.mono s1)
  clear hL hLW hu hct bx rx
  have cw1 := Below.refl w2.heap.size w2
  have R2 := RD.out [118, 37, 51, 61, 51] w2 bw2 (by decide)
  rw [ex2] at R2
  have R2 := ans_open R2
  go_wp2_with fail
  refine R2.mono ?_
  rintro e v2 ⟨u2, rfl, -, -, -, hv2⟩
  have bv2 := below_new v2 (.cells #[.int .i64 u2.kind, .int .u64 (u2.a : Int), .int .u64 (u2.b : Int), .slice u2.addr u2.parts.length u2.cap] 25)
  have c2 := cw1.trans (hv2.mono cw1.size)
  have cw2 := c2.trans (bv2.mono c2.size)
  clear R2 hv2 bv2 c2 cw1
  go_upto_region 3 with (fail)
  generalize v2.alloc (.cells #[.int .i64 u2.kind, .int .u64 (u2.a : Int), .int .u64 (u2.b : Int), .slice u2.addr u2.parts.length u2.cap] 25) = w3 at *
  have R3 := RD.out [120, 60, 61, 48, 55] w3 (bw2.trans (cw2.mono bw2.size)) (by decide)
  rw [ex3] at R3
  have R3 := ans_open R3
  go_wp2_with fail
  refine R3.mono ?_
  rintro e v3 ⟨u3, rfl, -, -, -, hv3⟩
  have bv3 := below_new v3 (.cells #[.int .i64 u3.kind, .int .u64 (u3.a : Int), .int .u64 (u3.b : Int), .slice u3.addr u3.parts.length u3.cap] 25)
  have c3 := cw2.trans (hv3.mono cw2.size)
  have cw3 := c3.trans (bv3.mono c3.size)
  clear R3 hv3 bv3 c3 cw2
  go_upto_region 4 with (fail)
  generalize v3.alloc (.cells #[.int .i64 u3.kind, .int .u64 (u3.a : Int), .int .u64 (u3.b : Int), .slice u3.addr u3.parts.length u3.cap] 25) = w4 at *
  have R4 := RD.out [38, 40, 97, 108, 108, 44, 41] w4 (bw2.trans (cw3.mono bw2.size)) (by decide)
  rw [ex4] at R4
  have R4 := ans_open R4
  go_wp2_with fail
  refine R4.mono ?_
  rintro e v4 ⟨u4, rfl, -, -, -, hv4⟩
  have bv4 := below_new v4 (.cells #[.int .i64 u4.kind, .int .u64 (u4.a : Int), .int .u64 (u4.b : Int), .slice u4.addr u4.parts.length u4.cap] 25)
  have c4 := cw3.trans (hv4.mono cw3.size)
  have cw4 := c4.trans (bv4.mono c4.size)
  clear R4 hv4 bv4 c4 cw3
  go_upto_region 5 with (fail)
  generalize v4.alloc (.cells #[.int .i64 u4.kind, .int .u64 (u4.a : Int), .int .u64 (u4.b : Int), .slice u4.addr u4.parts.length u4.cap] 25) = w5 at *
  have P5 := PU.out w5 cw4
  obtain ⟨d0, d1, d2, d3⟩ := HC.out w5 cw4
  clear RD
  go_wp2_with fail
  refine P5.mono ?_
  rintro e w6 ⟨A6, c6, rfl, ho6, hb6⟩
  have cw6 := cw4.trans (hb6.mono cw4.size)
  have hnew := below_new w6 (.cells #[.int .u8 6, .int .u8 2, .int .u8 2, .int .u8 7, .int .u8 5, .int .u8 4, .int .u8 3, .int .u8 1] 5)
  have hlit := World.ownsRow_lit (base := w6.heap.size) (e := 5) (size := 1) w6 #[.int .u8 6, .int .u8 2, .int .u8 2, .int .u8 7, .int .u8 5, .int .u8 4, .int .u8 3, .int .u8 1] 8 (Nat.le_refl _) (by decide) rfl
  have SB := same_any _ _ A6 (some ⟨w6.heap.size, 0, none⟩) 8 8 c6 8 [6, 2, 2, 7, 5, 4, 3, 1] [6, 2, 2, 7, 5, 4, 3, 1] _ (Rd.own (own_below ho6 hnew (own_lt ho6))) (Rd.own hlit) (by omega)
  rw [eqB_self] at SB
  have cw7 := cw6.trans (hnew.mono cw6.size)
  clear P5 d0 d1 d2 d3 ho6 hb6 cw4 hnew hlit
  go_wp2_with fail
  refine SB.mono ?_
  rintro e w7 ⟨rfl, q, rfl⟩
  have cw8 := below_drew_ cw7 (n := q)
  generalize (w6.alloc (.cells #[.int .u8 6, .int .u8 2, .int .u8 2, .int .u8 7, .int .u8 5, .int .u8 4, .int .u8 3, .int .u8 1] 5)).drewN q = w8 at *
  clear SB cw7 cw6
  have H0 : Calls Tryz.prog 26 #[.agg #[.int .i64 u.kind, .int .u64 (u.a : Int), .int .u64 (u.b : Int), .slice u.addr u.parts.length u.cap], .int .u64 7, .int .u64 5] w8 fun e w' => e = .returned (.bool true) ∧ Below w8.heap.size w8 w' := HO.out 7 5 true w8 cw8 (by omega) (by omega) (by rfl)
  obtain ⟨d0, d1, d2, d3⟩ := HC.out w8 cw8
  go_wp2_with fail
  refine H0.mono ?_
  rintro e w9 ⟨rfl, hb9⟩
  have cw9 := cw8.trans (hb9.mono cw8.size)
  clear H0 hb9 d0 d1 d2 d3
  have H1 : Calls Tryz.prog 26 #[.agg #[.int .i64 u.kind, .int .u64 (u.a : Int), .int .u64 (u.b : Int), .slice u.addr u.parts.length u.cap], .int .u64 7, .int .u64 4] w9 fun e w' => e = .returned (.bool false) ∧ Below w9.heap.size w9 w' := HO.out 7 4 false w9 cw9 (by omega) (by omega) (by rfl)
  obtain ⟨d0, d1, d2, d3⟩ := HC.out w9 cw9
  go_wp2_with fail
  refine H1.mono ?_
  rintro e w10 ⟨rfl, hb10⟩
  have cw10 := cw9.trans (hb10.mono cw9.size)
  clear H1 hb10 d0 d1 d2 d3
  have H2 : Calls Tryz.prog 26 #[.agg #[.int .i64 u.kind, .int .u64 (u.a : Int), .int .u64 (u.b : Int), .slice u.addr u.parts.length u.cap], .int .u64 8, .int .u64 5] w10 fun e w' => e = .returned (.bool false) ∧ Below w10.heap.size w10 w' := HO.out 8 5 false w10 cw10 (by omega) (by omega) (by rfl)
  obtain ⟨d0, d1, d2, d3⟩ := HC.out w10 cw10
  go_wp2_with fail
  refine H2.mono ?_
  rintro e w11 ⟨rfl, hb11⟩
  have cw11 := cw10.trans (hb11.mono cw10.size)
  clear H2 hb11 d0 d1 d2 d3
  have D0 := DP.out w11 cw11
  obtain ⟨d0, d1, d2, d3⟩ := HC.out w11 cw11
  go_wp2_with fail
  refine D0.mono ?_
  rintro e w12 ⟨rfl, hb12⟩
  have cw12 := cw11.trans (hb12.mono cw11.size)
  clear D0 hb12 d0 d1 d2 d3
  have N0 := ND.out w12 cw12
  obtain ⟨d0, d1, d2, d3⟩ := HC.out w12 cw12
  go_wp2_with fail
  refine N0.mono ?_
  rintro e w13 ⟨rfl, hb13⟩
  have cw13 := cw12.trans (hb13.mono cw12.size)
  clear N0 hb13 d0 d1 d2 d3
  have HF := bw2.trans (cw13.mono bw2.size)
  go_wp2_with fail
  go_ret
  exact ⟨rfl, HF⟩

end Go.Proofs.YtiijdacnfhiagaaGreatDoor
