/-
  Layer 4: the document's Digits, begins, value.
-/
import Derived.Test.YtiijdacnfhiagaaGreatDoorTpu
import Derived.Test.YtiijdacnfhiagaaGreatDoorTre
import Derived.Deep.RegionHeld3
namespace Go.Proofs.YtiijdacnfhiagaaGreatDoor
open Go Go.RowKit
set_option linter.unusedVariables false

theorem sl_take (s : List UInt8) (k : Nat) (hk : k ≤ s.length) (W : World) : (Instr.slice 9 (.string ⟨s.toArray⟩) none (some (.int .i64 (k : Int))) none).run Tryz.prog W = .ok (.string ⟨(s.take k).toArray⟩) W := by
  rw [run_slice_string_h W 9 ⟨s.toArray⟩ Tryz.underlying9 .i64 (k : Int) (by omega) (by simp [ByteArray.size]; omega)]
  congr 2
  apply ByteArray.ext
  rw [Int.toNat_natCast]
  simp [ByteArray.data_extract]
theorem sl_drop (s : List UInt8) (k : Nat) (hk : k ≤ s.length) (W : World) : (Instr.slice 9 (.string ⟨s.toArray⟩) (some (.int .i64 (k : Int))) none none).run Tryz.prog W = .ok (.string ⟨(s.drop k).toArray⟩) W := by
  rw [run_slice_string_l W 9 ⟨s.toArray⟩ Tryz.underlying9 .i64 (k : Int) (by omega) (by simp [ByteArray.size]; omega)]
  congr 2
  apply ByteArray.ext
  rw [Int.toNat_natCast]
  simp [ByteArray.data_extract, ByteArray.size]
  rw [List.take_of_length_le (by simp)]
theorem ix_str (s : List UInt8) (k : Nat) (hk : k < s.length) (W : World) : (Instr.index 9 (.string ⟨s.toArray⟩) (.int .i64 (k : Int))).run Tryz.prog W = .ok (.int .u8 ((s[k].toNat : Nat) : Int)) W := by
  rw [run_index_string W 9 ⟨s.toArray⟩ .i64 (k : Int) Tryz.underlying9, dif_pos (by simp [ByteArray.size]; omega)]
  simp
  rfl

theorem digit_sl (r : Nat) (hr : r < 10) (W : World) : (Instr.slice 9 (.string ⟨#[48, 49, 50, 51, 52, 53, 54, 55, 56, 57]⟩) (some (.int .u64 (r : Int))) (some (.int .u64 ((r : Int) + 1))) none).run Tryz.prog W = .ok (.string ⟨#[UInt8.ofNat (48 + r)]⟩) W := by
  rw [run_slice_string W 9 ⟨#[48, 49, 50, 51, 52, 53, 54, 55, 56, 57]⟩ .u64 .u64 (r : Int) ((r : Int) + 1) Tryz.underlying9 (by omega) (by omega) (by simp [ByteArray.size]; omega)]
  have : r = 0 ∨ r = 1 ∨ r = 2 ∨ r = 3 ∨ r = 4 ∨ r = 5 ∨ r = 6 ∨ r = 7 ∨ r = 8 ∨ r = 9 := by omega
  rcases this with rfl | rfl | rfl | rfl | rfl | rfl | rfl | rfl | rfl | rfl <;> rfl

set_option maxRecDepth 100000 in
theorem rdigits_any (n : Nat) : ∀ (w : World), n < 18446744073709551616 → Calls Tryz.prog 63 #[.int .u64 n] w fun e w' => e = .returned (.string ⟨(Lib.decDigits n).toArray⟩) ∧ w' = w := by
  induction n using Nat.strongRecOn with
  | _ n ih =>
  intro w hn
  have hr : n % 10 < 10 := Nat.mod_lt _ (by omega)
  have hsl := digit_sl (n % 10) hr
  rw [show ((n % 10 : Nat) : Int) = (n : Int) % 10 by omega] at hsl
  by_cases hs : n < 10
  · have hd : Lib.decDigits n = [UInt8.ofNat (48 + n % 10)] := by rw [Lib.decDigits, dif_pos hs, Nat.mod_eq_of_lt hs]
    have HF : Hid (Ending.returned (.string ⟨#[UInt8.ofNat (48 + n % 10)]⟩) = .returned (.string ⟨(Lib.decDigits n).toArray⟩) ∧ w = w) := ⟨by rw [hd], rfl⟩
    clear ih hd
    generalize UInt8.ofNat (48 + n % 10) = c at *
    go_enter Tryz.func63, Tryz.ntmps63
    go_wp2_with fail
    go_ret
    exact ⟨HF.out.1, rfl⟩
  · have hd : Lib.decDigits n = Lib.decDigits (n / 10) ++ [UInt8.ofNat (48 + n % 10)] := by rw [Lib.decDigits, dif_neg hs]
    have IH := ih (n / 10) (by omega) w (by omega)
    rw [show ((n / 10 : Nat) : Int) = (n : Int) / 10 by omega] at IH
    have HD := Lib_hid hd
    have HX : Hid (⟨(Lib.decDigits (n / 10)).toArray⟩ ++ ⟨#[UInt8.ofNat (48 + n % 10)]⟩ = (⟨(Lib.decDigits n).toArray⟩ : ByteArray)) := by
      unfold Hid
      apply ByteArray.ext
      rw [hd]
      simp
    have hdl : ¬ 9223372036854775807 < (Lib.decDigits (n / 10)).length + 1 := by
      have h1 := Lib.decDigits_length (n / 10)
      have h2 := Lib.numDigits_eq (n / 10) (by omega) (by omega)
      have : Lib.nDigits (n / 10) ≤ 20 := by split at h2 <;> omega
      omega
    clear ih hd
    generalize UInt8.ofNat (48 + n % 10) = c at *
    generalize Lib.decDigits (n / 10) = dd at *
    generalize Lib.decDigits n = dn at *
    go_enter Tryz.func63, Tryz.ntmps63
    go_wp2_with fail
    refine IH.mono ?_
    rintro e w1 ⟨rfl, rfl⟩
    go_wp2_with fail
    go_ret
    exact ⟨congrArg (fun x => Ending.returned (Value.string x)) HX.out, rfl⟩

theorem pre_iff (s x : List UInt8) : Lib.hasPrefix s x = (decide (x.length ≤ s.length) && (s.take x.length == x)) := by
  unfold Lib.hasPrefix
  rw [Bool.eq_iff_iff, List.isPrefixOf_iff_prefix]
  simp only [Bool.and_eq_true, decide_eq_true_eq, beq_iff_eq]
  constructor
  · intro h
    exact ⟨h.length_le, (List.prefix_iff_eq_take.1 h).symm⟩
  · rintro ⟨_, h⟩
    rw [← h]
    exact List.take_prefix _ _

set_option maxRecDepth 100000 in
theorem rbegins_any (s x : List UInt8) (w : World) : Calls Tryz.prog 72 #[.string ⟨s.toArray⟩, .string ⟨x.toArray⟩] w fun e w' => e = .returned (.bool (Lib.hasPrefix s x)) ∧ w = w' := by
  rw [pre_iff]
  by_cases h : x.length ≤ s.length
  · have hsl := sl_take s x.length h
    rw [decide_eq_true h, Bool.true_and]
    have hi : (x.length : Int) ≤ (s.length : Int) := by omega
    have HX : Hid ((s.take x.length == x) = decide (s.take x.length = x)) := by unfold Hid; rw [Bool.eq_iff_iff]; simp
    clear h
    generalize s.take x.length = tx at *
    go_enter Tryz.func72, Tryz.ntmps72
    go_wp2_with fail
    go_ret
    exact ⟨rfl, rfl⟩
  · rw [decide_eq_false h, Bool.false_and]
    have hi : ¬ (x.length : Int) ≤ (s.length : Int) := by omega
    clear h
    go_enter Tryz.func72, Tryz.ntmps72
    go_wp2_with fail
    go_ret
    exact ⟨rfl, rfl⟩


/-! ### What value says -/
def isDig (c : UInt8) : Bool := digsL.contains c
theorem isDig_iff (c : UInt8) : isDig c = true ↔ 48 ≤ c.toNat ∧ c.toNat ≤ 57 := by
  unfold isDig digsL
  simp only [List.contains_eq_mem, decide_eq_true_eq, List.mem_cons, List.not_mem_nil, or_false]
  constructor
  · rintro (rfl | rfl | rfl | rfl | rfl | rfl | rfl | rfl | rfl | rfl) <;> decide
  · rintro ⟨h1, h2⟩
    have : c = UInt8.ofNat c.toNat := by simp
    have h3 : c.toNat = 48 ∨ c.toNat = 49 ∨ c.toNat = 50 ∨ c.toNat = 51 ∨ c.toNat = 52 ∨ c.toNat = 53 ∨ c.toNat = 54 ∨ c.toNat = 55 ∨ c.toNat = 56 ∨ c.toNat = 57 := by omega
    rw [this]
    rcases h3 with h | h | h | h | h | h | h | h | h | h <;> rw [h] <;> decide
theorem digS_take (s : List UInt8) : digS s = s.takeWhile isDig ∧ restS s = s.dropWhile isDig := by
  have h : restS s = s.dropWhile isDig := rfl
  refine ⟨?_, h⟩
  unfold digS
  rw [h]
  have hlen : s.length = (s.takeWhile isDig).length + (s.dropWhile isDig).length := by rw [← List.length_append, List.takeWhile_append_dropWhile]
  have h2 := List.take_left' (l₁ := s.takeWhile isDig) (l₂ := s.dropWhile isDig) rfl
  rw [List.takeWhile_append_dropWhile] at h2
  rw [show s.length - (s.dropWhile isDig).length = (s.takeWhile isDig).length by omega]
  exact h2
theorem dig_stop {s : List UInt8} {i : Nat} (hi : i ≤ s.length) (h1 : ∀ c ∈ s.take i, isDig c = true) (h2 : ∀ c, s[i]? = some c → isDig c = false) : digS s = s.take i ∧ restS s = s.drop i := by
  obtain ⟨e1, e2⟩ := digS_take s
  rw [e1, e2]
  have hs : s = s.take i ++ s.drop i := (List.take_append_drop i s).symm
  have h3 : (s.drop i).takeWhile isDig = [] ∧ (s.drop i).dropWhile isDig = s.drop i := by
    cases hd : s.drop i with
    | nil => simp
    | cons c t =>
      have : s[i]? = some c := by
        have := congrArg (·[0]?) hd
        simpa [List.getElem?_drop] using this
      have hc := h2 c this
      simp [hc]
  have h4 := List.takeWhile_append_of_pos (p := isDig) (l₂ := s.drop i) h1
  have h5 := List.dropWhile_append_of_pos (p := isDig) (l₂ := s.drop i) h1
  rw [List.take_append_drop] at h4 h5
  rw [h4, h5, h3.1, h3.2, List.append_nil]
  exact ⟨rfl, rfl⟩
theorem dig_more {s : List UInt8} {i : Nat} {c : UInt8} (h1 : ∀ c ∈ s.take i, isDig c = true) (hc : s[i]? = some c) (hd : isDig c = true) : ∃ t, digS s = s.take i ++ c :: t := by
  obtain ⟨e1, _⟩ := digS_take s
  have hi := (List.getElem?_eq_some_iff.1 hc).1
  have h2 : s.take (i + 1) = s.take i ++ [c] := take_one hc
  have h4 := List.takeWhile_append_of_pos (p := isDig) (l₁ := s.take (i + 1)) (l₂ := s.drop (i + 1)) (by
    intro x hx
    rw [h2] at hx
    rcases List.mem_append.1 hx with hx | hx
    · exact h1 x hx
    · obtain rfl : x = c := by simpa using hx
      exact hd)
  rw [List.take_append_drop] at h4
  exact ⟨(s.drop (i + 1)).takeWhile isDig, by rw [e1, h4, h2]; simp⟩
theorem parse_append (M : Nat) : ∀ (xs ys : List UInt8) (acc : Nat), Lib.parseUintM M acc (xs ++ ys) = match Lib.parseUintM M acc xs with | .ok n => Lib.parseUintM M n ys | Lib.NumEnd.syntax => Lib.NumEnd.syntax | .range => .range
  | [], ys, acc => by simp [Lib.parseUintM]
  | c :: r, ys, acc => by
    rw [List.cons_append, Lib.parseUintM, Lib.parseUintM]
    split
    · split
      · rfl
      · split
        · rfl
        · exact parse_append M r ys _
    · rfl
theorem parse_one {n : Nat} {c : UInt8} (hd : isDig c = true) : Lib.parseUintM 18446744073709551615 n [c] = if 18446744073709551615 < n * 10 + (c.toNat - 48) then .range else .ok (n * 10 + (c.toNat - 48)) := by
  obtain ⟨h1, h2⟩ := (isDig_iff c).1 hd
  rw [Lib.parseUintM, if_pos ⟨h1, h2⟩]
  by_cases h : 1844674407370955162 ≤ n
  · rw [if_pos h, if_pos (by omega)]
  · rw [if_neg h]
    rfl

/-- The first i bytes are digits, and tell n. -/
def DgI (s : List UInt8) (i n : Nat) : Prop := (∀ c ∈ s.take i, isDig c = true) ∧ Lib.parseUintM 18446744073709551615 0 (s.take i) = .ok n
theorem DgI.zero (s : List UInt8) : DgI s 0 0 := ⟨by simp, by simp [Lib.parseUintM]⟩
theorem DgI.step {s : List UInt8} {i n : Nat} {c : UInt8} (h : DgI s i n) (hc : s[i]? = some c) (hd : isDig c = true) (hn : n * 10 + (c.toNat - 48) ≤ 18446744073709551615) : DgI s (i + 1) (n * 10 + (c.toNat - 48)) := by
  rw [DgI, take_one hc]
  refine ⟨fun x hx => ?_, ?_⟩
  · rcases List.mem_append.1 hx with hx | hx
    · exact h.1 x hx
    · obtain rfl : x = c := by simpa using hx
      exact hd
  · rw [parse_append, h.2]
    simp only
    rw [parse_one hd, if_neg (by omega)]
theorem DgI.over {s : List UInt8} {i n : Nat} {c : UInt8} (h : DgI s i n) (hc : s[i]? = some c) (hd : isDig c = true) (hn : 18446744073709551615 < n * 10 + (c.toNat - 48)) : numS s = none := by
  obtain ⟨t, ht⟩ := dig_more h.1 hc hd
  apply numS_bad
  intro u hu
  rw [ht] at hu
  unfold Lib.parseUintB at hu
  rw [if_neg (by simp), show s.take i ++ c :: t = s.take i ++ ([c] ++ t) by simp, show (2 ^ 64 - 1) = 18446744073709551615 by decide, parse_append, h.2] at hu
  simp only at hu
  rw [parse_append, parse_one hd, if_pos hn] at hu
  cases hu
theorem DgI.done {s : List UInt8} {i n : Nat} (h : DgI s i n) (hi : i ≤ s.length) (h2 : ∀ c, s[i]? = some c → isDig c = false) : numS s = if 0 < i ∧ Lib.decDigits n = s.take i then some (n, s.drop i) else none := by
  obtain ⟨e1, e2⟩ := dig_stop hi h.1 h2
  by_cases h0 : 0 < i
  · have hp : Lib.parseUintB 64 (digS s) = .ok n := by
      unfold Lib.parseUintB
      rw [e1, if_neg (by intro e; have h3 : (s.take i).length = 0 := (by rw [e]; rfl); rw [List.length_take] at h3; omega), show (2 ^ 64 - 1) = 18446744073709551615 by decide]
      exact h.2
    rw [numS_ok hp, e1, e2]
    by_cases hq : Lib.decDigits n = s.take i
    · rw [if_pos hq, if_pos ⟨h0, hq⟩]
    · rw [if_neg hq, if_neg (fun h => hq h.2)]
  · obtain rfl : i = 0 := by omega
    rw [if_neg (by omega)]
    apply numS_bad
    intro u hu
    rw [e1] at hu
    unfold Lib.parseUintB at hu
    simp at hu
theorem DgI.lt {s : List UInt8} {i n : Nat} (h : DgI s i n) : n ≤ 18446744073709551615 := Lib.parseUintM_le 18446744073709551615 _ 0 n (by omega) h.2

end Go.Proofs.YtiijdacnfhiagaaGreatDoor
