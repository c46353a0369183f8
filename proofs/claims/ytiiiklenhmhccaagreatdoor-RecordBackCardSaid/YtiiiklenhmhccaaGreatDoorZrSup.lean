/-
  What the law behind names, of earlier texts.
-/
import Derived.Test.YtiiiklenhmhccaaGreatDoorZpTkd
import Derived.WalkSpells
import Derived.Deep.QuietTactic
import Derived.BigQuiet
import Derived.Test.YtiiiklenhmhccaaGreatDoorZpTdg
import Derived.Test.YtiiiklenhmhccaaGreatDoorZpTrw
import GoSem.Claim
import Derived.Test.YtiiiklenhmhccaaGreatDoorZpVfd
import Derived.Handy
import Derived.Laws.BitsAllLaws
import Derived.Laws.Bits64b
import Derived.Test.YtiiiklenhmhccaaGreatDoorZpVpl
import Derived.Lib.IndexMore
import Derived.Test.YtiiiklenhmhccaaGreatDoorZpVpm
import Derived.Laws.IdiomStrings
import Derived.Laws.BytesString
import Derived.Lib.Strings
import Derived.Test.YtiiiklenhmhccaaGreatDoorZpVcv
import Derived.Test.YtiiiklenhmhccaaGreatDoorZpVhd
import Derived.SevenTiedAt
import Derived.WalkKit
import Derived.ProofKit
import Derived.OpenShut
import Derived.ShutString
import Derived.ChangeOld
import Derived.Below
import Derived.Lay
import Derived.Shelf.Vars
import Derived.Handed

namespace Go.Proofs.YtiiiklenhmhccaaGreatDoor
open Go Go.RowKit
set_option linter.unusedVariables false
theorem int_bne (a b : Nat) : ((a : Int) != (b : Int)) = (a != b) := by simp only [bne, int_beq]
end Go.Proofs.YtiiiklenhmhccaaGreatDoor

namespace Go.Proofs.YtiiiklenhmhccaaGreatDoor
open Go Go.RowKit
set_option linter.unusedVariables false
theorem lies_ok {w : World} {lo hi : Nat} : ∀ v : V, Lies w lo hi v → v.abs.okN := by
  refine V.ind fun k a b A c ps ih hL => ?_
  obtain ⟨hlen, hcap', hk, ha, hb⟩ := hL.caps
  rw [V.abs, T.okN]
  refine ⟨ha, hb, by rw [absL_length]; omega, (okL_iff _).2 fun p hp => ?_⟩
  rw [absL_map, List.mem_map] at hp
  obtain ⟨v, hv, rfl⟩ := hp
  exact ih v hv (hL.part hv)
end Go.Proofs.YtiiiklenhmhccaaGreatDoor

namespace Go.Proofs.YtiiiklenhmhccaaGreatDoor
theorem val_enc (v : Nat) : val (enc v) = v := by
  induction v using Nat.strongRecOn with
  | ind v ih =>
    by_cases h : v < 128
    · rw [enc_lt h]; simp [val]; omega
    · rw [enc_ge (by omega)]; simp only [val]; rw [ih (v / 128) (by omega)]; omega
def ans (a : Nat) : Got → Nat × Nat × Nat
  | .num v k => (v, a + k, 0)
  | .err e => (0, 0, e)
def getS (l : List Nat) (at_ : Int) : Nat × Nat × Nat :=
  if at_ < 0 ∨ (l.length : Int) < at_ then (0, 0, 2) else
    ans at_.toNat (got (l.drop at_.toNat))
theorem ScanAt.last {r : List Nat} {k v : Nat} (h : ScanAt r k v) (hk : k < 10) (hl : k < r.length) (hc : r.getD k 0 < 128) :
    got r = if mayEnd (r.getD k 0) k then .num (v + r.getD k 0 * 128 ^ k) (k + 1) else .err 10 := by
  have e : r.drop k = r[k] :: r.drop (k + 1) := List.drop_eq_getElem_cons hl
  have e2 : r.getD k 0 = r[k] := by rw [List.getD_eq_getElem?_getD, List.getElem?_eq_getElem hl]; rfl
  rw [e2] at hc ⊢
  unfold ScanAt at h
  rw [h, e]
  obtain ⟨m, hm⟩ : ∃ m, 10 - k = m + 1 := ⟨9 - k, by omega⟩
  rw [hm]
  simp only [scan]
  rw [if_neg (by omega)]
theorem ScanAt.end_ {r : List Nat} {k v : Nat} (h : ScanAt r k v) (hk : k ≤ 10) (hl : k = min r.length 10) : got r = .err (if 10 ≤ r.length then 10 else 4) := by
  unfold ScanAt at h
  by_cases h10 : 10 ≤ r.length
  · obtain rfl : k = 10 := by omega
    rw [h, if_pos h10]; rfl
  · rw [h, if_neg h10, List.drop_eq_nil_of_le (by omega)]
    obtain ⟨m, hm⟩ : ∃ m, 10 - k = m + 1 := ⟨9 - k, by omega⟩
    rw [hm]; rfl
theorem val_lt (t : List Nat) : val t < 128 ^ t.length := by
  induction t with
  | nil => simp [val]
  | cons c t ih => simp only [val, List.length_cons, Nat.pow_succ]; omega
theorem val_snoc (t : List Nat) (c : Nat) : val (t ++ [c]) = val t + c % 128 * 128 ^ t.length := by
  induction t with
  | nil => simp [val]
  | cons x t ih =>
    simp only [List.cons_append, val, List.length_cons]
    rw [ih, Nat.pow_succ, Nat.mul_add, Nat.add_assoc]
    congr 2
    rw [Nat.mul_comm 128, Nat.mul_assoc]
theorem enc_form (c : Nat) (hc : c < 128) (t : List Nat) : (∀ x ∈ t, 128 ≤ x ∧ x < 256) → (c ≠ 0 ∨ t = []) → enc (val (t ++ [c])) = t ++ [c] := by
  induction t with
  | nil => intro _ _; simp only [List.nil_append, val]; rw [show c % 128 + 128 * 0 = c by omega, enc_lt hc]
  | cons x t ih =>
    intro h h0
    have hc0 : c ≠ 0 := by rcases h0 with h | h; exact h; cases h
    have e := ih (fun y hy => h y (List.mem_cons_of_mem _ hy)) (.inl hc0)
    have hx := h x (List.mem_cons_self ..)
    have hv : 1 ≤ val (t ++ [c]) := by
      rcases Nat.eq_zero_or_pos (val (t ++ [c])) with hz | hz
      · rw [hz, enc_lt (by omega)] at e
        cases t with
        | nil => simp at e; omega
        | cons y t => simp at e
      · exact hz
    simp only [List.cons_append, val]
    rw [enc_ge (by omega), show (x % 128 + 128 * val (t ++ [c])) % 128 + 128 = x by omega, show (x % 128 + 128 * val (t ++ [c])) / 128 = val (t ++ [c]) by omega, e]
theorem enc_last (c : Nat) (t : List Nat) : ∀ v, enc v = t ++ [c] → (c ≠ 0 ∨ t = []) := by
  induction t with
  | nil => intro v h; exact .inr rfl
  | cons x t ih =>
    intro v h
    by_cases hv : v < 128
    · rw [enc_lt hv] at h; simp at h
    · rw [enc_ge (by omega)] at h
      simp only [List.cons_append, List.cons.injEq] at h
      rcases ih _ h.2 with h1 | h1
      · exact .inl h1
      · subst h1
        have h2 := h.2
        by_cases hw : v / 128 < 128
        · rw [enc_lt hw] at h2; simp at h2; left; omega
        · rw [enc_ge (by omega)] at h2; have := enc_pos (v / 128 / 128); simp at h2
          rw [h2.2] at this; simp at this
theorem form_iff (t : List Nat) (c : Nat) (ht : ∀ x ∈ t, 128 ≤ x ∧ x < 256) (hc : c < 128) (hl : t.length ≤ 9) :
    (mayEnd c t.length = true → val (t ++ [c]) < 18446744073709551616 ∧ enc (val (t ++ [c])) = t ++ [c]) ∧
    (∀ v, v < 18446744073709551616 → enc v = t ++ [c] → mayEnd c t.length = true) := by
  have hs := val_snoc t c
  have hlt := val_lt t
  rw [Nat.mod_eq_of_lt hc] at hs
  constructor
  · intro h
    by_cases h9 : t.length = 9
    · have hc1 : c = 1 := by simpa [mayEnd, h9] using h
      subst hc1
      rw [h9] at hs hlt
      have e9 : 128 ^ 9 = 9223372036854775808 := by decide
      rw [e9] at hs hlt
      exact ⟨by omega, enc_form 1 (by omega) t ht (.inl (by omega))⟩
    · have h0 : c ≠ 0 ∨ t = [] := by
        rcases t with _ | ⟨x, t⟩
        · exact .inr rfl
        · left; intro hz; subst hz; exact absurd h (by unfold mayEnd; rw [if_neg h9]; simp)
      refine ⟨?_, enc_form c hc t ht h0⟩
      have h1 := val_lt (t ++ [c])
      have h2 : 128 ^ (t ++ [c]).length ≤ 128 ^ 9 := Nat.pow_le_pow_right (by decide) (by simp; omega)
      have e9 : 128 ^ 9 = 9223372036854775808 := by decide
      omega
  · intro v hv he
    have h0 := enc_last c t v he
    by_cases h9 : t.length = 9
    · have hval := val_enc v
      rw [he, hs, h9] at hval
      have e9 : 128 ^ 9 = 9223372036854775808 := by decide
      rw [e9] at hval
      have hc0 : c ≠ 0 := by
        rcases h0 with h0 | h0
        · exact h0
        · subst h0; simp at h9
      have : c = 1 := by omega
      subst this
      simp [mayEnd, h9]
    · unfold mayEnd
      rw [if_neg h9]
      rcases h0 with h0 | h0
      · simp [h0]
      · subst h0; simp
theorem got_by {r : List Nat} {k : Nat} (hb : ∀ x ∈ r, x < 256) (h : AllMore r k) (hk : k < 10) (hl : k < r.length) (hc : r.getD k 0 < 128) :
    ∀ v, v = val (r.take (k + 1)) % 18446744073709551616 → got r = if enc v = r.take (k + 1) then .num v (k + 1) else .err 10 := by
  intro v hv
  have e : r.take (k + 1) = r.take k ++ [r.getD k 0] := by
    rw [List.take_succ_eq_append_getElem hl, List.getD_eq_getElem?_getD, List.getElem?_eq_getElem hl]; rfl
  have hlt : (r.take k).length = k := by rw [List.length_take]; omega
  have ht : ∀ x ∈ r.take k, 128 ≤ x ∧ x < 256 := by
    intro x hx
    refine ⟨?_, hb x (List.mem_of_mem_take hx)⟩
    obtain ⟨j, hj, rfl⟩ := List.mem_iff_getElem.1 hx
    have := h j (by omega)
    rw [List.getD_eq_getElem?_getD, List.getElem?_eq_getElem (by omega)] at this
    simpa using this
  have F := form_iff (r.take k) (r.getD k 0) ht hc (by omega)
  rw [hlt] at F
  have L := (h.scan k (by omega) (by omega)).last hk hl hc
  have hs := val_snoc (r.take k) (r.getD k 0)
  rw [hlt, Nat.mod_eq_of_lt hc] at hs
  rw [L, ← hs, e]
  cases hm : mayEnd (r.getD k 0) k with
  | true =>
    obtain ⟨h1, h2⟩ := F.1 hm
    rw [e, Nat.mod_eq_of_lt h1] at hv
    subst hv
    rw [if_pos rfl, if_pos h2]
  | false =>
    rw [if_neg (by simp), if_neg]
    intro he
    have := F.2 v (by rw [hv]; exact Nat.mod_lt _ (by decide)) he
    rw [hm] at this
    cases this
theorem got_ten {r : List Nat} (h : AllMore r 10) (hl : 10 ≤ r.length) : got r = .err 10 := by
  rw [(h.scan 10 (by omega) (by omega)).end_ (by omega) (by omega), if_pos hl]
theorem got_short {r : List Nat} {k : Nat} (h : AllMore r k) (hk : k < 10) (hl : k = r.length) : got r = .err 4 := by
  rw [(h.scan k (by omega) (by omega)).end_ (by omega) (by omega), if_neg (by omega)]
end Go.Proofs.YtiiiklenhmhccaaGreatDoor

namespace Go.Proofs.YtiiiklenhmhccaaGreatDoor
open Go Go.RowKit
set_option linter.unusedVariables false
theorem ends_any (c i : Nat) (w : World) (hc : c < 256) (hi : i < 100) :
    Calls Tryz.prog 194 #[.int .u8 c, .int .i64 i] w fun e w' => e = .returned (.bool (mayEnd c i)) ∧ w = w' := by
  have b9 := int_beq i 9
  have b1 := int_beq c 1
  have b0 := int_bne c 0
  have bi := int_beq i 0
  by_cases h9 : i = 9
  · subst h9
    go_enter Tryz.func194, Tryz.ntmps194
    go_wp2
    go_ret
    exact ⟨by simp only [mayEnd, if_true]; rw [← b1]; rfl, rfl⟩
  · have f9 : ((i : Int) == 9) = false := by rw [show (9 : Int) = ((9 : Nat) : Int) from rfl, b9]; simpa using h9
    by_cases h0 : c = 0
    · subst h0
      go_enter Tryz.func194, Tryz.ntmps194
      go_wp2
      go_ret
      exact ⟨by simp only [mayEnd, if_neg h9]; rw [← bi]; rfl, rfl⟩
    · have f0 : ((c : Int) != 0) = true := by rw [show (0 : Int) = ((0 : Nat) : Int) from rfl, b0]; simpa using h0
      clear b9 b1 b0 bi
      go_enter Tryz.func194, Tryz.ntmps194
      go_wp2
      go_ret
      exact ⟨by simp [mayEnd, h9, h0], rfl⟩
end Go.Proofs.YtiiiklenhmhccaaGreatDoor

namespace Go.Proofs.YtiiiklenhmhccaaGreatDoor
open Go Go.RowKit
set_option linter.unusedVariables false
def tup (x : Nat × Nat × Nat) : Value := .tuple #[.int .u64 (x.1 : Int), .int .i64 (x.2.1 : Int), .int .i64 (x.2.2 : Int)]
def orS (z x k : Nat) : Nat := z ||| (x % 128 * 2 ^ (7 * k)) % 18446744073709551616
set_option maxRecDepth 100000 in
theorem or_any (z x k : Nat) (hz : z < 18446744073709551616) : bits .or .u64 (z : Int) (IntKind.u64.wrap ((x : Int) % 128 * 2 ^ (7 * k))) = ((orS z x k : Nat) : Int) := by
  have e : IntKind.u64.wrap ((x : Int) % 128 * 2 ^ (7 * k)) = (((x % 128 * 2 ^ (7 * k)) % 18446744073709551616 : Nat) : Int) := by
    have h1 : ((x : Int) % 128 * 2 ^ (7 * k)) = ((x % 128 * 2 ^ (7 * k) : Nat) : Int) := by rw [Int.natCast_mul, Int.natCast_pow]; rfl
    rw [IntKind.wrap_u64, h1]
    generalize x % 128 * 2 ^ (7 * k) = y
    omega
  rw [e, bits_or_u64_nat z _ hz (Nat.mod_lt _ (by decide))]
  rfl
theorem pow128 (k : Nat) : 2 ^ (7 * k) = 128 ^ k := by rw [Nat.pow_mul]
theorem orS_fit {z x k : Nat} (hz : z < 128 ^ k) (hx : x % 128 * 128 ^ k < 18446744073709551616) : orS z x k = z + x % 128 * 128 ^ k := by
  unfold orS
  rw [pow128, Nat.mod_eq_of_lt hx, Nat.or_comm, nat_join (7 * k) _ z (by rw [pow128]; exact Nat.mul_mod_left _ _) (by rw [pow128]; exact hz), Nat.add_comm]
theorem pow_le9 {k : Nat} (h : k ≤ 9) : 128 ^ k ≤ 9223372036854775808 := Nat.le_trans (Nat.pow_le_pow_right (by decide) h) (by decide)
theorem pow_le8 {k : Nat} (h : k ≤ 8) : 128 ^ k ≤ 72057594037927936 := Nat.le_trans (Nat.pow_le_pow_right (by decide) h) (by decide)
theorem orS_step {z x k : Nat} (hz : z < 128 ^ k) (hk : k < 9) : orS z x k = z + x % 128 * 128 ^ k ∧ orS z x k < 128 ^ (k + 1) := by
  have h8 := pow_le8 (k := k) (by omega)
  have hx : x % 128 ≤ 127 := by omega
  have hm := Nat.mul_le_mul_right (128 ^ k) hx
  have e := orS_fit (x := x) hz (by omega)
  refine ⟨e, ?_⟩
  rw [e, Nat.pow_succ]
  omega
theorem orS_last {z x k : Nat} (hz : z < 128 ^ k) (hk : k ≤ 9) (hx : x < 128) (he : mayEnd x k = true) : orS z x k = z + x * 128 ^ k := by
  have e : x % 128 = x := Nat.mod_eq_of_lt hx
  have h9 := pow_le9 hk
  by_cases hk9 : k = 9
  · subst hk9
    have hx1 : x = 1 := by simpa [mayEnd] using he
    subst hx1
    exact orS_fit hz (by decide)
  · rw [(orS_step (x := x) hz (by omega)).1, e]
set_option maxRecDepth 100000 in
theorem get_out (A : Option Addr) (n c : Nat) (a : Int) (w : World) (h : a < 0 ∨ (n : Int) < a) :
    Calls Tryz.prog 168 #[.slice A n c, .int .i64 a] w fun e w' => e = .returned (tup (0, 0, 2)) ∧ w = w' := by
  by_cases h0 : a < 0
  · go_enter Tryz.func168, Tryz.ntmps168
    go_wp2
    go_ret3
    exact ⟨rfl, rfl⟩
  · have h1 : (n : Int) < a := by omega
    go_enter Tryz.func168, Tryz.ntmps168
    go_wp2
    go_ret3
    exact ⟨rfl, rfl⟩
set_option maxRecDepth 100000 in
theorem get_in (B : Nat) (A : Option Addr) (n c : Nat) (l : List Nat) (a : Nat) (w : World) (h : Rd w B 1 A n (bs l)) (hb : ∀ x ∈ l, x < 256) (hn : n ≤ c) (hc : c ≤ 9223372036854775807) (ha : a ≤ n) :
    Calls Tryz.prog 168 #[.slice A n c, .int .i64 (a : Int)] w fun e w' => e = .returned (tup (getS l a)) ∧ w = w' := by
  have hcut := h.cut ha hn
  simp only [Nat.mul_one] at hcut
  obtain ⟨A2, hA2⟩ : ∃ A2, A2 = (if c = a then A else A.map (·.add a)) := ⟨_, rfl⟩
  rw [← hA2] at hcut
  obtain ⟨m, hm⟩ : ∃ m, m = n - a := ⟨_, rfl⟩
  rw [← hm] at hcut
  have hsl : ∀ wx, (Instr.slice 46 (.slice A n c) (some (.int .i64 (a : Int))) none none).run Tryz.prog wx = .ok (.slice A2 m (c - a)) wx := by
    intro wx
    rw [hA2, hm]
    have hu := Tryz.underlying46
    have he : Tryz.prog.elem 46 = 5 := by kernel_rfl
    rw [run_slice_l wx 46 A n c (by rw [he]; exact hu) .i64 a (by omega) (by omega)]
    rw [he]
    have hs5 : ((sizeOf 5).run Tryz.prog wx) = .ok 1 wx := by
      obtain ⟨i0, hi, hz0, hz1, hz2⟩ := info_parts Tryz.info5
      simp [sizeOf, typeInfo, hi, hz1]
    rw [hs5]
    simp [sliced, Result.andThen]
  have hl := h.count
  obtain ⟨r, hr⟩ : ∃ r, r = l.drop a := ⟨_, rfl⟩
  have hcut' : Rd w B 1 A2 m (bs r) := by rw [hr]; unfold bs at *; rw [List.map_drop]; exact hcut
  have hbr : ∀ k, r.getD k 0 < 256 := by
    intro k
    rw [List.getD_eq_getElem?_getD]
    cases hk : r[k]? with
    | none => simp
    | some x => simp only [Option.getD_some]; exact hb x (by have := List.mem_of_getElem? hk; rw [hr] at this; exact List.mem_of_mem_drop this)
  have hrl : r.length = m := by rw [hr, List.length_drop, hl, hm]
  have HR : Hid (getS l a = ans a (got r)) := by
    unfold Hid getS
    rw [if_neg (by omega), Int.toNat_natCast, hr]
  have HL : Hid (r.length = m) := hrl
  have hmc : m ≤ 9223372036854775807 := by omega
  have ham : a + m ≤ 9223372036854775807 := by omega
  have HB := Lib_hid hbr
  clear hA2 hm hl hr hcut hrl hbr hb h
  rcases Nat.lt_or_ge 10 m with hm10 | hm10
  all_goals
    go_enter Tryz.func168, Tryz.ntmps168
    go_wp2
    go_loop [4, 24] (fun x i => ∃ k z : Nat, x = .int .u64 z ∧ i = .int .i64 k ∧ k ≤ m ∧ k ≤ 10 ∧ (k < 10 → z < 128 ^ k) ∧ ScanAt r k z) (fun _ i => 10 - (intOf i).toNat)
    case atStart => exact ⟨0, 0, rfl, rfl, by omega, by omega, by omega, ScanAt.zero r⟩
    case round =>
      obtain ⟨k, z, rfl, rfl, hkm, hk10, hz, hS⟩ := hrel
      by_cases hlt : k < m ∧ k < 10
      · obtain ⟨hlm, hl10⟩ := hlt
        obtain ⟨ad, rfl, _, hcell⟩ := hcut'.byte hlm
        have hz' := Lib_hid (hz hl10)
        have hx := HB.out k
        obtain ⟨x, hX⟩ : ∃ x, x = r.getD k 0 := ⟨_, rfl⟩
        rw [← hX] at hcell hx
        have HX := Lib_hid hX
        clear hX hz
        have hz64 : z < 18446744073709551616 := Nat.lt_of_lt_of_le hz'.out (Nat.le_trans (pow_le9 (by omega)) (by decide))
        have hor := or_any z x k hz64
        obtain ⟨Z, hZ⟩ : ∃ Z, Z = orS z x k := ⟨_, rfl⟩
        rw [← hZ] at hor
        have HZ := Lib_hid hZ
        clear hZ hz64
        by_cases hc : x < 128
        · have E := ends_any x k w (by omega) (by omega)
          cases hme : mayEnd x k with
          | true =>
            rw [hme] at E
            have hfin : got r = .num Z (k + 1) := by
              have := hS.last hl10 (by rw [HL.out]; exact hlm) (by rw [← HX.out]; exact hc)
              rw [← HX.out, hme, if_pos rfl, ← orS_last hz'.out (by omega) hc hme, ← HZ.out] at this
              exact this
            have HF : Hid (getS l a = (Z, a + (k + 1), 0)) := by unfold Hid; rw [HR.out, hfin]; rfl
            clear hfin hme hS
            go_wp2_with (go_at_call 194; refine E.mono ?_; rintro e w' ⟨rfl, rfl⟩)
            go_ret3
            rw [HF.out]
            exact ⟨by unfold tup; simp [go_sem]; omega, rfl⟩
          | false =>
            rw [hme] at E
            have hfin : got r = .err 10 := by
              have := hS.last hl10 (by rw [HL.out]; exact hlm) (by rw [← HX.out]; exact hc)
              rw [← HX.out, hme] at this
              exact this
            have HF : Hid (getS l a = (0, 0, 10)) := by unfold Hid; rw [HR.out, hfin]; rfl
            clear hfin hme hS
            go_wp2_with (go_at_call 194; refine E.mono ?_; rintro e w' ⟨rfl, rfl⟩)
            go_ret3
            rw [HF.out]
            exact ⟨rfl, rfl⟩
        · have hS' := hS.more (v' := Z) hl10 (by rw [HL.out]; exact hlm) (by rw [← HX.out]; omega) (fun hk9 => by rw [HZ.out, ← HX.out]; exact (orS_step hz'.out hk9).1)
          have hZ' : Hid (k + 1 < 10 → Z < 128 ^ (k + 1)) := fun hk9 => by rw [HZ.out]; exact (orS_step hz'.out (by omega)).2
          clear hS
          go_wp2
          go_round
          case rel => exact ⟨k + 1, Z, rfl, by go_num, by omega, by omega, hZ'.out, hS'⟩
          case measure => simp [intOf]; omega
      · have hkk : k = min r.length 10 := by rw [HL.out]; omega
        have hfin := hS.end_ hk10 hkk
        rw [HL.out] at hfin
        have HF := Lib_hid hfin
        clear hkk hfin hS hz
        by_cases h10 : 10 ≤ m
        · have HG : Hid (getS l a = (0, 0, 10)) := by unfold Hid; rw [HR.out, HF.out, if_pos h10]; rfl
          obtain rfl : k = 10 := by omega
          go_wp2
          go_ret3
          rw [HG.out]
          exact ⟨rfl, rfl⟩
        · have HG : Hid (getS l a = (0, 0, 4)) := by unfold Hid; rw [HR.out, HF.out, if_neg h10]; rfl
          first
          | (exfalso; omega)
          | (obtain rfl : k = m := by omega
             go_wp2
             go_ret3
             rw [HG.out]
             exact ⟨rfl, rfl⟩)
theorem get_any (B : Nat) (A : Option Addr) (n c : Nat) (l : List Nat) (a : Int) (w : World) (h : Rd w B 1 A n (bs l)) (hb : ∀ x ∈ l, x < 256) (hn : n ≤ c) (hc : c ≤ 9223372036854775807) :
    Calls Tryz.prog 168 #[.slice A n c, .int .i64 a] w fun e w' => e = .returned (tup (getS l a)) ∧ w = w' := by
  have hl := h.count
  by_cases ho : a < 0 ∨ (n : Int) < a
  · have e : getS l a = (0, 0, 2) := by unfold getS; rw [hl, if_pos ho]
    rw [e]
    exact get_out A n c a w ho
  · obtain ⟨k, rfl⟩ : ∃ k : Nat, a = k := ⟨a.toNat, by omega⟩
    exact get_in B A n c l k w h hb hn hc (by omega)
end Go.Proofs.YtiiiklenhmhccaaGreatDoor

namespace Go.Proofs.YtiiiklenhmhccaaGreatDoor
open Go Go.RowKit
set_option linter.unusedVariables false
theorem size_byte (wx : World) : ((sizeOf 5).run Tryz.prog wx) = .ok 1 wx := by
  obtain ⟨i0, hi, hz0, hz1, hz2⟩ := info_parts Tryz.info5
  simp [sizeOf, typeInfo, hi, hz1]
theorem elem_bytes : Tryz.prog.elem 46 = 5 := by kernel_rfl
theorem bs_take (l : List Nat) (k : Nat) : bs (l.take k) = (bs l).take k := by simp [bs, List.map_take]
theorem bs_drop (l : List Nat) (k : Nat) : bs (l.drop k) = (bs l).drop k := by simp [bs, List.map_drop]
theorem slice_lh {w : World} {B n c j k : Nat} {A : Option Addr} {xs : List Value} (h : Rd w B 1 A n xs) (hj : j ≤ k) (hk : k ≤ n) (hn : n ≤ c) :
    ∃ A2, (∀ wx, (Instr.slice 46 (.slice A n c) (some (.int .i64 (j : Int))) (some (.int .i64 (k : Int))) none).run Tryz.prog wx = .ok (.slice A2 (k - j) (c - j)) wx) ∧ Rd w B 1 A2 (k - j) ((xs.take k).drop j) := by
  have r := (h.take hk).cut (cap := c) (k := j) hj (by omega)
  simp only [Nat.mul_one] at r
  refine ⟨_, ?_, r⟩
  intro wx
  rw [run_slice_lh wx 46 A n c (by rw [elem_bytes]; exact Tryz.underlying46) .i64 .i64 j k (by omega) (by omega) (by omega), elem_bytes, size_byte]
  simp [sliced, Result.andThen]
end Go.Proofs.YtiiiklenhmhccaaGreatDoor

namespace Go.Proofs.YtiiiklenhmhccaaGreatDoor
open Go Go.RowKit
set_option linter.unusedVariables false
theorem enc_more (v : Nat) : ∀ j, j + 1 < (enc v).length → 128 ≤ (enc v).getD j 0 := by
  induction v using Nat.strongRecOn with
  | ind v ih =>
    intro j hj
    by_cases h : v < 128
    · rw [enc_lt h] at hj; simp at hj
    · rw [enc_ge (by omega)] at hj ⊢
      cases j with
      | zero => simp;
      | succ j => rw [List.getD_cons_succ]; exact ih (v / 128) (by omega) j (by simpa using hj)
theorem enc_end (v : Nat) : ∀ j, j + 1 = (enc v).length → (enc v).getD j 0 < 128 := by
  induction v using Nat.strongRecOn with
  | ind v ih =>
    intro j hj
    by_cases h : v < 128
    · rw [enc_lt h] at hj ⊢; simp at hj; subst hj; simpa using h
    · rw [enc_ge (by omega)] at hj ⊢
      cases j with
      | zero => have := enc_pos (v / 128); simp at hj; rw [hj] at this; simp at this
      | succ j => rw [List.getD_cons_succ]; exact ih (v / 128) (by omega) j (by simpa using hj)
theorem got_enc (v : Nat) (r : List Nat) (hv : v < 18446744073709551616) (hr : ∀ x ∈ r, x < 256) : got (enc v ++ r) = .num v (enc v).length := by
  have hp := enc_pos v
  have ht := enc_ten hv
  obtain ⟨k, hk⟩ : ∃ k, (enc v).length = k + 1 := ⟨(enc v).length - 1, by omega⟩
  have hg : ∀ j, j ≤ k → (enc v ++ r).getD j 0 = (enc v).getD j 0 := by
    intro j hj
    simp only [List.getD_eq_getElem?_getD]
    rw [List.getElem?_append_left (by omega)]
  have hM : AllMore (enc v ++ r) k := fun j hj => by rw [hg j (by omega)]; exact enc_more v j (by omega)
  have htk : (enc v ++ r).take (k + 1) = enc v := by rw [← hk, List.take_left]
  have := got_by (r := enc v ++ r) (k := k) (by
      intro x hx; rcases List.mem_append.1 hx with h | h
      · exact enc_byte v x h
      · exact hr x h) hM (by omega) (by rw [List.length_append]; omega) (by rw [hg k (by omega)]; exact enc_end v k (by omega)) v (by rw [htk, val_enc, Nat.mod_eq_of_lt hv])
  rw [this, htk, if_pos rfl, hk]
theorem got_put {r : List Nat} {v k : Nat} (hb : ∀ x ∈ r, x < 256) (h : got r = .num v k) : k ≤ r.length ∧ enc v = r.take k ∧ v < 18446744073709551616 := by
  have find : ∀ m, m ≤ 10 → m ≤ r.length → AllMore r m ∨ ∃ k, k < m ∧ AllMore r k ∧ r.getD k 0 < 128 := by
    intro m
    induction m with
    | zero => intro _ _; exact .inl (AllMore.zero r)
    | succ m ih =>
      intro h1 h2
      rcases ih (by omega) (by omega) with h | ⟨k, hk, hM, hc⟩
      · by_cases hc : 128 ≤ r.getD m 0
        · exact .inl (h.succ hc)
        · exact .inr ⟨m, by omega, h, by omega⟩
      · exact .inr ⟨k, by omega, hM, hc⟩
  by_cases h10 : 10 ≤ r.length
  · rcases find 10 (by omega) h10 with hM | ⟨j, hj, hM, hc⟩
    · rw [got_ten hM h10] at h; cases h
    · have G := got_by hb hM hj (by omega) hc _ rfl
      rw [G] at h
      split at h
      · rename_i he
        injection h with h1 h2
        subst h1 h2
        exact ⟨by omega, he, Nat.mod_lt _ (by decide)⟩
      · cases h
  · rcases find r.length (by omega) (Nat.le_refl _) with hM | ⟨j, hj, hM, hc⟩
    · rw [got_short hM (by omega) rfl] at h; cases h
    · have G := got_by hb hM (by omega) (by omega) hc _ rfl
      rw [G] at h
      split at h
      · rename_i he
        injection h with h1 h2
        subst h1 h2
        exact ⟨by omega, he, Nat.mod_lt _ (by decide)⟩
      · cases h
end Go.Proofs.YtiiiklenhmhccaaGreatDoor

namespace Go.Proofs.YtiiiklenhmhccaaGreatDoor
open Go Go.RowKit
set_option linter.unusedVariables false
theorem verW_some {s : List UInt8} {a b : Nat} (h : verW s = some (a, b)) : a < 18446744073709551616 ∧ b < 18446744073709551616 ∧ s = verL a b := by
  unfold verW at h
  split at h
  · rename_i x y h1 h2
    injection h with h
    injection h with e1 e2
    subst e1 e2
    obtain ⟨l1, e1⟩ := numW_lt h1
    obtain ⟨l2, e2⟩ := numW_lt h2
    refine ⟨l1, l2, ?_⟩
    have hm : (46 : UInt8) ∈ s := Classical.byContradiction fun hn => by rw [(ahead_none hn).2, numW_nil] at h2; cases h2
    rw [ahead_some hm, e1, e2]
    simp [verL]
  · cases h
theorem enW_some {s : List UInt8} {e : En} (h : enW s = some e) : e.ok ∧ s = e.tell := by
  unfold enW at h
  split at h
  · rename_i x a b h1 h2
    obtain ⟨l1, e1⟩ := numW_lt h1
    obtain ⟨l2, l3, e2⟩ := verW_some h2
    have hm1 : (58 : UInt8) ∈ s := Classical.byContradiction fun hn => by
      rw [(ahead_none hn).2] at h2
      have : verW (ahead 58 []) = none := by unfold verW ahead; simp [numW_nil]
      rw [this] at h2; cases h2
    have e3 := ahead_some hm1
    have hm2 : ∀ c, behind 58 (behind 58 s) = [c] → behind 58 s = verL a b ++ [58, c] := fun c hc => by
      have hm : (58 : UInt8) ∈ behind 58 s := Classical.byContradiction fun hn => by rw [(ahead_none hn).2] at hc; cases hc
      have := ahead_some hm
      rw [e2, hc] at this
      simpa using this
    split at h
    · rename_i hc
      injection h with h
      subst h
      refine ⟨⟨by show (x : Int) ≤ _; omega, by show (a : Int) ≤ _; omega, by show (b : Int) ≤ _; omega⟩, ?_⟩
      rw [en_tell, e3, e1, hm2 _ hc]
      simp
    · split at h
      · rename_i hc
        injection h with h
        subst h
        refine ⟨⟨by show (x : Int) ≤ _; omega, by show (a : Int) ≤ _; omega, by show (b : Int) ≤ _; omega⟩, ?_⟩
        rw [en_tell, e3, e1, hm2 _ hc]
        simp
      · cases h
  · cases h
end Go.Proofs.YtiiiklenhmhccaaGreatDoor

namespace Go.Proofs.YtiiiklenhmhccaaGreatDoor
open Go Go.RowKit
set_option linter.unusedVariables false
theorem enW_nil : enW [] = none := by
  unfold enW ahead
  simp [numW_nil]
theorem wordW_nil : wordW [] = [] := rfl
theorem word_of {l : List UInt8} (hb : Blank l) (h : wordW l ≠ []) : l = 32 :: (wordW l ++ leftW l) ∧ Blank (leftW l) := by
  rcases hb with rfl | ⟨r, rfl⟩
  · exact absurd wordW_nil h
  · obtain ⟨h1, h2⟩ := leftW_blank (32 :: r)
    rw [restW_eq] at h2
    exact ⟨by rw [← h2], h1⟩
theorem ens_some : ∀ (f : Nat) (l : List UInt8) (es : List En), Blank l → ensW f l = some es → (∀ e ∈ es, e.ok) ∧ l = ensL es
  | 0, l, es, hb, h => by
    unfold ensW at h
    split at h
    · injection h with h
      subst h
      exact ⟨by simp, by assumption⟩
    · cases h
  | f + 1, l, es, hb, h => by
    unfold ensW at h
    split at h
    · injection h with h
      subst h
      exact ⟨by simp, by assumption⟩
    · split at h
      · rename_i e he
        have hw : wordW l ≠ [] := fun e2 => by rw [e2, enW_nil] at he; cases he
        obtain ⟨h1, h2⟩ := word_of hb hw
        obtain ⟨ok, e3⟩ := enW_some he
        cases hr : ensW f (leftW l) with
        | none => rw [hr] at h; cases h
        | some es' =>
          rw [hr] at h
          injection h with h
          subst h
          obtain ⟨k1, k2⟩ := ens_some f (leftW l) es' h2 hr
          refine ⟨fun x hx => ?_, ?_⟩
          · rcases List.mem_cons.1 hx with rfl | hx
            · exact ok
            · exact k1 x hx
          · rw [h1, e3, k2]
            rfl
      · cases h
end Go.Proofs.YtiiiklenhmhccaaGreatDoor

namespace Go.Proofs.YtiiiklenhmhccaaGreatDoor
open Go Go.RowKit
set_option linter.unusedVariables false
theorem trim_app {s x : List UInt8} (h : Lib.hasPrefix s x = true) : s = x ++ Lib.trimPrefix s x := by
  rw [trim_yes h]
  obtain ⟨t, ht⟩ := List.isPrefixOf_iff_prefix.1 h
  rw [← ht, List.drop_left' rfl]
theorem kindS_app {s r : List UInt8} {k : Nat} (h : kindS s = (k, r)) (h0 : k ≠ 0) : s = wordL k ++ r ∧ 1 ≤ k ∧ k ≤ 7 := by
  unfold kindS at h
  split at h
  · rename_i j hj
    injection h with h1 h2
    subst h1 h2
    have hm := List.mem_of_find?_eq_some hj
    have hp := List.find?_some hj
    refine ⟨trim_app hp, ?_⟩
    simp only [List.mem_cons, List.not_mem_nil, or_false] at hm
    omega
  · injection h with h1 h2
    exact absurd h1.symm h0
theorem numS_app {s r : List UInt8} {v : Nat} (h : numS s = some (v, r)) : s = Lib.decDigits v ++ r ∧ v < 18446744073709551616 := by
  refine ⟨?_, (numS_lt h).1⟩
  unfold numS at h
  split at h
  · split at h
    · rename_i u hu he
      injection h with h
      injection h with h1 h2
      subst h1 h2
      rw [he]
      obtain ⟨t, ht⟩ : restS s <:+ s := by unfold restS Lib.trimLeftS; exact List.dropWhile_suffix _
      have hl := congrArg List.length ht
      rw [List.length_append] at hl
      unfold digS
      conv => lhs; rw [← ht]
      congr 1
      rw [show s.length - (restS s).length = t.length by omega]
      conv => rhs; rw [← ht]
      rw [List.take_left' rfl]
    · cases h
  · cases h
theorem numsS_app {k : Int} {s r : List UInt8} {vs : List Nat} (h : numsS (numN k) s = some (vs, r)) :
    s = Lib.join ((numsL k (vs.getD 0 0) (vs.getD 1 0)).map Lib.decDigits) [61] ++ r ∧ vs.getD 0 0 < 18446744073709551616 ∧ vs.getD 1 0 < 18446744073709551616 := by
  have hn : numN k = 0 ∨ numN k = 1 ∨ numN k = 2 := by
    unfold numN
    split
    · simp
    · split <;> simp
  unfold numsL
  rcases hn with hn | hn | hn <;> rw [hn] at h ⊢
  · unfold numsS at h
    injection h with h
    injection h with h1 h2
    subst h1 h2
    simp [Lib.join_nil]
  · have h' : ((numS s).map fun (x : Nat × List UInt8) => (([] : List Nat) ++ [x.1], x.2)) = some (vs, r) := h
    obtain ⟨⟨v, r1⟩, e1, e2⟩ := Option.map_eq_some_iff.1 h'
    injection e2 with e2 e3
    subst e2 e3
    obtain ⟨a1, a2⟩ := numS_app e1
    simp [Lib.join_one, a2]
    exact a1
  · have h' : (((numS s).map fun (x : Nat × List UInt8) => (([] : List Nat) ++ [x.1], x.2)).bind fun (x : List Nat × List UInt8) => if Lib.hasPrefix x.2 [61] then (numS (Lib.trimPrefix x.2 [61])).map fun (y : Nat × List UInt8) => (x.1 ++ [y.1], y.2) else none) = some (vs, r) := h
    obtain ⟨⟨v0, r0⟩, e1, e2⟩ := Option.bind_eq_some_iff.1 h'
    obtain ⟨⟨v, r1⟩, e3, e4⟩ := Option.map_eq_some_iff.1 e1
    injection e4 with e4 e5
    subst e4 e5
    split at e2
    · rename_i hp
      obtain ⟨⟨v2, r2⟩, e6, e7⟩ := Option.map_eq_some_iff.1 e2
      injection e7 with e7 e8
      subst e7 e8
      obtain ⟨a1, a2⟩ := numS_app e3
      obtain ⟨b1, b2⟩ := numS_app e6
      have hp2 := trim_app hp
      simp only at hp2 b1 a1
      simp [Lib.join_cons, Lib.joinTail, a2, b2]
      rw [a1, hp2, b1]
      simp
    · cases e2
section
variable {f : List UInt8 → Option (T × List UInt8)} (hf : ∀ s t r, f s = some (t, r) → s = t.tell ++ r ∧ (t.count ≤ 1000 → t.okN))
include hf
theorem more_app : ∀ (n : Nat) (r : List UInt8) (ts : List T) (r2 : List UInt8), moreS f n r = some (ts, r2) → r = (T.tellL ts).flatMap ([44] ++ ·) ++ [41] ++ r2 ∧ ∀ t ∈ ts, t.count ≤ 1000 → t.okN
  | 0, r, ts, r2, h => by unfold moreS at h; cases h
  | n + 1, r, ts, r2, h => by
    unfold moreS at h
    split at h
    · rename_i hp
      obtain ⟨⟨t, r'⟩, e1, e2⟩ := Option.bind_eq_some_iff.1 h
      obtain ⟨⟨us, r3⟩, e3, e4⟩ := Option.map_eq_some_iff.1 e2
      injection e4 with e4 e5
      subst e4 e5
      obtain ⟨a1, a2⟩ := hf _ _ _ e1
      obtain ⟨b1, b2⟩ := more_app n r' us r3 e3
      refine ⟨?_, fun x hx => ?_⟩
      · rw [T.tellL, List.flatMap_cons]
        have := trim_app hp
        rw [this, a1]
        conv => lhs; rw [b1]
        simp [List.append_assoc]
      · rcases List.mem_cons.1 hx with rfl | hx
        · exact a2
        · exact b2 x hx
    · split at h
      · rename_i hp
        injection h with h
        injection h with h1 h2
        subst h1 h2
        refine ⟨?_, by simp⟩
        have := trim_app hp
        simpa [T.tellL] using this
      · cases h
theorem list_app {s r2 : List UInt8} {ts : List T} (h : listS f s = some (ts, r2)) : s = [40] ++ Lib.join (T.tellL ts) [44] ++ [41] ++ r2 ∧ ∀ t ∈ ts, t.count ≤ 1000 → t.okN := by
  unfold listS at h
  split at h
  · rename_i h40
    have e40 := trim_app h40
    split at h
    · rename_i h41
      have e41 := trim_app h41
      injection h with h
      injection h with h1 h2
      subst h1 h2
      refine ⟨?_, by simp⟩
      rw [T.tellL, Lib.join_nil]
      conv => lhs; rw [e40, e41]
      simp
    · obtain ⟨⟨t, r'⟩, e1, e2⟩ := Option.bind_eq_some_iff.1 h
      obtain ⟨⟨us, r3⟩, e3, e4⟩ := Option.map_eq_some_iff.1 e2
      injection e4 with e4 e5
      subst e4 e5
      obtain ⟨a1, a2⟩ := hf _ _ _ e1
      obtain ⟨b1, b2⟩ := more_app hf _ r' us r3 e3
      refine ⟨?_, fun x hx => ?_⟩
      · rw [T.tellL, join_flat]
        conv => lhs; rw [e40, a1, b1]
        simp [List.append_assoc]
      · rcases List.mem_cons.1 hx with rfl | hx
        · exact a2
        · exact b2 x hx
  · cases h
end
theorem count_mem : ∀ {ps : List T} {t : T}, t ∈ ps → t.count ≤ T.countL ps
  | [], t, h => by cases h
  | p :: ps, t, h => by
    rw [T.countL]
    rcases List.mem_cons.1 h with rfl | h
    · omega
    · have := count_mem h; omega
theorem rd_app : ∀ (d : Nat) (s : List UInt8) (t : T) (r : List UInt8), rdS d s = some (t, r) → s = t.tell ++ r ∧ (t.count ≤ 1000 → t.okN)
  | 0, s, t, r, h => by unfold rdS at h; cases h
  | d + 1, s, t, r, h => by
    have IH := rd_app d
    cases hk : kindS s with
    | mk k r0 =>
    by_cases h0 : k = 0
    · unfold rdS at h
      rw [hk, if_pos h0] at h
      cases h
    · rw [rdS_succ hk h0] at h
      obtain ⟨⟨vs, r1⟩, e1, e2⟩ := Option.bind_eq_some_iff.1 h
      obtain ⟨⟨ts, r2⟩, e3, e4⟩ := Option.map_eq_some_iff.1 e2
      injection e4 with e4 e5
      subst e4 e5
      obtain ⟨a1, l1, l2⟩ := kindS_app hk h0
      obtain ⟨b1, b2, b3⟩ := numsS_app e1
      simp only at e3 b2 b3 b1 ⊢
      have key : (r1 = (if (6 : Int) ≤ (k : Int) then [40] ++ Lib.join (T.tellL ts) [44] ++ [41] else Lib.join (T.tellL ts) []) ++ r2 ∧ ∀ t ∈ ts, t.count ≤ 1000 → t.okN) → s = (T.node k (vs.getD 0 0) (vs.getD 1 0) ts).tell ++ r2 ∧ ((T.node k (vs.getD 0 0) (vs.getD 1 0) ts).count ≤ 1000 → (T.node k (vs.getD 0 0) (vs.getD 1 0) ts).okN) := by
        rintro ⟨e6, ok⟩
        refine ⟨?_, fun hc => ?_⟩
        · rw [T.tell, Int.toNat_natCast, a1]
          conv => lhs; rw [b1, e6]
          simp only [List.append_assoc]
        · rw [T.count] at hc
          rw [T.okN]
          have := length_le_countL ts
          exact ⟨b2, b3, by omega, (okL_iff _).2 fun t ht => ok t ht (by have := count_mem ht; omega)⟩
      refine key ?_
      unfold partsS at e3
      split at e3
      · rename_i h5
        obtain ⟨⟨t1, r3⟩, e6, e7⟩ := Option.map_eq_some_iff.1 e3
        injection e7 with e7 e8
        subst e7 e8
        obtain ⟨c1, c2⟩ := IH _ _ _ e6
        rw [if_neg (by omega), T.tellL, T.tellL, Lib.join_one]
        exact ⟨c1, fun t ht => by obtain rfl : t = t1 := by simpa using ht
                                  exact c2⟩
      · split at e3
        · obtain ⟨c1, c2⟩ := list_app IH e3
          rw [if_pos (by omega)]
          exact ⟨c1, c2⟩
        · injection e3 with e3
          injection e3 with e3 e6
          subst e3 e6
          rw [if_neg (by omega), T.tellL, Lib.join_nil]
          exact ⟨rfl, by simp⟩
theorem read_some {s : List UInt8} {t : T} (h : readT s = some t) : t.rightB = true ∧ t.okN ∧ s = t.tell := by
  unfold readT at h
  split at h
  · rename_i u hu
    split at h
    · rename_i hr
      injection h with h
      subst h
      obtain ⟨a1, a2⟩ := rd_app _ _ _ _ hu
      exact ⟨hr, a2 (by have := (right_all hr).2; omega), by simpa using a1⟩
    · cases h
  · cases h
end Go.Proofs.YtiiiklenhmhccaaGreatDoor

namespace Go.Proofs.YtiiiklenhmhccaaGreatDoor
open Go Go.RowKit
set_option linter.unusedVariables false
theorem kindL_name {s : List UInt8} (h : kindL s ≠ 0) : s = nameL (kindL s) := by
  unfold kindL at h ⊢
  repeat' split
  all_goals first | assumption | skip
  simp_all
theorem right_of {r : Rc} (hk : 1 ≤ r.kind ∧ r.kind ≤ 7) (he : ∀ j, j < 6 → ofB j r.kind = false → r.emptyB j = true) (hp : r.kind = 5 → r.p.rightB = true) : r.rightB = true := by
  obtain ⟨h1, h2, h3⟩ := rightB_parts r
  have h := h3 (by unfold Rc.knownB; exact decide_eq_true hk) (fun i hi => by
    unfold Rc.bareB
    cases ho : ofB i r.kind with
    | true => rfl
    | false => rw [he i hi ho]; rfl)
  by_cases h5 : r.kind = 5
  · rw [h.2 h5]; exact hp h5
  · exact h.1 h5
theorem setP_some {q q' : Rc} {i : Nat} {l l' : List UInt8} (hi : i < 6) (hb : Blank l) (h : q.setP i l = some (q', l')) : l = (q'.wordsP i).flatMap ([32] ++ ·) ++ l' ∧ Blank l' ∧
    ((i = 0 ∧ ∃ n, n < 18446744073709551616 ∧ q' = { q with t := n }) ∨ (i = 1 ∧ ∃ n, n < 18446744073709551616 ∧ q' = { q with x := n }) ∨ (i = 2 ∧ ∃ a b, a < 18446744073709551616 ∧ b < 18446744073709551616 ∧ q' = { q with w := a, n := b }) ∨
      (i = 3 ∧ ∃ n, n < 18446744073709551616 ∧ q' = { q with v := n }) ∨ (i = 4 ∧ ∃ t : T, t.rightB = true ∧ t.okN ∧ q' = { q with p := t }) ∨ (i = 5 ∧ l' = [] ∧ ∃ es : List En, (∀ e ∈ es, e.ok) ∧ q' = { q with es := es })) := by
  have hw : ∀ {x : List UInt8}, wordW l = x → x ≠ [] → l = 32 :: (x ++ leftW l) ∧ Blank (leftW l) := fun {x} e hx => by subst e; exact word_of hb hx
  have hi' : i = 0 ∨ i = 1 ∨ i = 2 ∨ i = 3 ∨ i = 4 ∨ i = 5 := by omega
  have dn : ∀ n, Lib.decDigits n ≠ [] := fun n e => by have := dec_pos n; rw [e] at this; exact absurd this (by simp)
  rcases hi' with rfl | rfl | rfl | rfl | rfl | rfl
  · obtain ⟨n, e1, e2⟩ := Option.map_eq_some_iff.1 (show (numW (wordW l)).map _ = some (q', l') from h)
    injection e2 with e2 e3
    subst e2 e3
    obtain ⟨a1, a2⟩ := numW_lt e1
    obtain ⟨b1, b2⟩ := hw a2 (dn n)
    refine ⟨?_, b2, .inl ⟨rfl, n, a1, rfl⟩⟩
    show l = [32] ++ Lib.decDigits n ++ [] ++ leftW l
    conv => lhs; rw [b1]
    simp
  · obtain ⟨n, e1, e2⟩ := Option.map_eq_some_iff.1 (show (numW (wordW l)).map _ = some (q', l') from h)
    injection e2 with e2 e3
    subst e2 e3
    obtain ⟨a1, a2⟩ := numW_lt e1
    obtain ⟨b1, b2⟩ := hw a2 (dn n)
    refine ⟨?_, b2, .inr (.inl ⟨rfl, n, a1, rfl⟩)⟩
    show l = [32] ++ Lib.decDigits n ++ [] ++ leftW l
    conv => lhs; rw [b1]
    simp
  · obtain ⟨⟨a, b⟩, e1, e2⟩ := Option.map_eq_some_iff.1 (show (verW (wordW l)).map _ = some (q', l') from h)
    injection e2 with e2 e3
    subst e2 e3
    obtain ⟨a1, a2, a3⟩ := verW_some e1
    obtain ⟨b1, b2⟩ := hw a3 (by unfold verL; simp)
    refine ⟨?_, b2, .inr (.inr (.inl ⟨rfl, a, b, a1, a2, rfl⟩))⟩
    show l = [32] ++ verL a b ++ [] ++ leftW l
    conv => lhs; rw [b1]
    simp
  · obtain ⟨n, e1, e2⟩ := Option.map_eq_some_iff.1 (show (numW (wordW l)).map _ = some (q', l') from h)
    injection e2 with e2 e3
    subst e2 e3
    obtain ⟨a1, a2⟩ := numW_lt e1
    obtain ⟨b1, b2⟩ := hw a2 (dn n)
    refine ⟨?_, b2, .inr (.inr (.inr (.inl ⟨rfl, n, a1, rfl⟩)))⟩
    show l = [32] ++ Lib.decDigits n ++ [] ++ leftW l
    conv => lhs; rw [b1]
    simp
  · obtain ⟨t, e1, e2⟩ := Option.map_eq_some_iff.1 (show (readT (wordW l)).map _ = some (q', l') from h)
    injection e2 with e2 e3
    subst e2 e3
    obtain ⟨a1, a2, a3⟩ := read_some e1
    obtain ⟨c, m, e4, _⟩ := tell_head (right_all a1).1
    obtain ⟨b1, b2⟩ := hw a3 (by rw [e4]; simp)
    refine ⟨?_, b2, .inr (.inr (.inr (.inr (.inl ⟨rfl, t, a1, a2, rfl⟩))))⟩
    show l = [32] ++ t.text ++ [] ++ leftW l
    rw [show t.text = t.tell by unfold T.text; rw [if_pos a1]]
    conv => lhs; rw [b1]
    simp
  · obtain ⟨es, e1, e2⟩ := Option.map_eq_some_iff.1 (show (ensW l.length l).map _ = some (q', l') from h)
    injection e2 with e2 e3
    subst e2 e3
    obtain ⟨a1, a2⟩ := ens_some _ _ _ hb e1
    refine ⟨?_, .inl rfl, .inr (.inr (.inr (.inr (.inr ⟨rfl, rfl, es, a1, rfl⟩))))⟩
    show l = (es.map En.tell).flatMap ([32] ++ ·) ++ []
    rw [ens_ws, List.append_nil]
    exact a2
theorem drop_blank (s : List UInt8) : s = ahead 32 s ++ s.drop (ahead 32 s).length ∧ Blank (s.drop (ahead 32 s).length) := by
  by_cases h : (32 : UInt8) ∈ s
  · have e := ahead_some h
    have e2 : s.drop (ahead 32 s).length = 32 :: behind 32 s := by
      have k : ∀ x y : List UInt8, s = x ++ y → s.drop x.length = y := fun x y h => by rw [h, List.drop_left' rfl]
      exact k _ _ e
    rw [e2]
    exact ⟨e, .inr ⟨_, rfl⟩⟩
  · rw [(ahead_none h).1, List.drop_length, List.append_nil]
    exact ⟨rfl, .inl rfl⟩
theorem ofz (kk : Int) (h : kk = 1 ∨ kk = 6 ∨ kk = 7) (j : Nat) (h1 : 0 < j) (h2 : j < 6) : ofB j kk = false := by
  have : j = 1 ∨ j = 2 ∨ j = 3 ∨ j = 4 ∨ j = 5 := by omega
  rcases h with rfl | rfl | rfl <;> rcases this with rfl | rfl | rfl | rfl | rfl <;> rfl
theorem line_some {s : List UInt8} {r : Rc} (h : lineB s = some r) : r.rightB = true ∧ r.okR ∧ s = r.tell := by
  unfold lineB at h
  split at h
  · cases h
  · rename_i h0
    obtain ⟨e1, hb⟩ := drop_blank s
    have hn := kindL_name h0
    have hk7 := kindL_le (ahead 32 s)
    generalize kindL (ahead 32 s) = k at *
    generalize s.drop (ahead 32 s).length = l at *
    rw [hn] at e1
    have hG : goP (Rc.zero k) l (partsN k 6) = some (r, []) := by
      revert h
      generalize goP (Rc.zero k) l (partsN k 6) = g
      intro h
      match g, h with
      | some (r', []), h => injection h with h; rw [h]
    clear h
    have BND : ∀ {q q' : Rc} {i : Nat} {is : List Nat} {l l' : List UInt8}, goP q l (i :: is) = some (q', l') → ∃ q1 l1, q.setP i l = some (q1, l1) ∧ goP q1 l1 is = some (q', l') := fun {q q' i is l l'} h => by
      obtain ⟨⟨q1, l1⟩, h1, h2⟩ := Option.bind_eq_some_iff.1 (show (q.setP i l).bind _ = some (q', l') from h)
      exact ⟨q1, l1, h1, h2⟩
    have NIL : ∀ {q q' : Rc} {l l' : List UInt8}, goP q l [] = some (q', l') → q = q' ∧ l = l' := fun {q q' l l'} h => by injection h with h; injection h with h1 h2; exact ⟨h1, h2⟩
    have fin : l = wsL r (partsN r.kind 6) → r.kind = k → s = r.tell := fun h1 h2 => by rw [tell_ws, e1, h2, ← h2, ← h1]
    have W0 : wsL r [] = [] := rfl
    have hk7' : k = 1 ∨ k = 2 ∨ k = 3 ∨ k = 4 ∨ k = 5 ∨ k = 6 ∨ k = 7 := by omega
    have z8 : (0 : Nat) < 18446744073709551616 := by omega
    have one : ∀ kk : Int, (1 ≤ kk ∧ kk ≤ 7) → partsN kk 6 = [0] → (∀ j, 0 < j → j < 6 → ofB j kk = false) → goP (Rc.zero kk) l [0] = some (r, []) → r.rightB = true ∧ r.okR ∧ l = wsL r (partsN r.kind 6) ∧ r.kind = kk := fun kk h17 hpp ho hG => by
      obtain ⟨q1, l1, h1, h2⟩ := BND hG
      obtain ⟨rfl, rfl⟩ := NIL h2
      obtain ⟨a1, a2, a3⟩ := setP_some (by omega) hb h1
      rcases a3 with ⟨_, n, hn1, rfl⟩ | ⟨h, _⟩ | ⟨h, _⟩ | ⟨h, _⟩ | ⟨h, _⟩ | ⟨h, _⟩
      · refine ⟨right_of h17 (fun j hj hoj => ?_) (fun h5 => ?_), ⟨hn1, z8, z8, z8, z8, okN_zero, by intro e he; cases he⟩, ?_, rfl⟩
        · have : j = 0 ∨ j = 1 ∨ j = 2 ∨ j = 3 ∨ j = 4 ∨ j = 5 := by omega
          rcases this with rfl | rfl | rfl | rfl | rfl | rfl
          · cases hoj
          · rfl
          · rfl
          · rfl
          · exact (sameB_iff _ _).2 rfl
          · rfl
        · exfalso
          have := ho 4 (by omega) (by omega)
          rw [show kk = 5 from h5] at this
          cases this
        · show l = wsL _ (partsN kk 6)
          rw [hpp, wsL_cons]
          exact a1
      all_goals omega
    rcases hk7' with rfl | rfl | rfl | rfl | rfl | rfl | rfl
    · obtain ⟨x1, x2, x3, x4⟩ := one 1 (by omega) (by rw [partsN_of]; rfl) (ofz _ (by omega)) (by rw [partsN_of] at hG; exact hG)
      exact ⟨x1, x2, fin x3 x4⟩
    · rw [partsN_of] at hG
      obtain ⟨q1, l1, h1, hG⟩ := BND (i := 0) (is := [1, 2]) hG
      obtain ⟨q2, l2, h2, hG⟩ := BND hG
      obtain ⟨q3, l3, h3, hG⟩ := BND hG
      obtain ⟨rfl, rfl⟩ := NIL hG
      obtain ⟨a1, a2, a3⟩ := setP_some (by omega) hb h1
      obtain ⟨b1, b2, b3⟩ := setP_some (by omega) a2 h2
      obtain ⟨c1, c2, c3⟩ := setP_some (by omega) b2 h3
      obtain ⟨n1, hn1, rfl⟩ : ∃ n, n < 18446744073709551616 ∧ q1 = { Rc.zero (2 : Nat) with t := n } := by rcases a3 with ⟨_, h⟩ | ⟨h, _⟩ | ⟨h, _⟩ | ⟨h, _⟩ | ⟨h, _⟩ | ⟨h, _⟩ <;> first | exact h | omega
      obtain ⟨n2, hn2, rfl⟩ : ∃ n, n < 18446744073709551616 ∧ q2 = { ({ Rc.zero (2 : Nat) with t := n1 } : Rc) with x := n } := by rcases b3 with ⟨h, _⟩ | ⟨_, h⟩ | ⟨h, _⟩ | ⟨h, _⟩ | ⟨h, _⟩ | ⟨h, _⟩ <;> first | exact h | omega
      rcases c3 with ⟨h, _⟩ | ⟨h, _⟩ | ⟨_, a, b, ha, hbb, rfl⟩ | ⟨h, _⟩ | ⟨h, _⟩ | ⟨h, _⟩
      · omega
      · omega
      · refine ⟨right_of (by show (1 : Int) ≤ 2 ∧ (2 : Int) ≤ 7; omega) (fun j hj hoj => ?_) (fun h5 => absurd h5 (by show ¬ (2 : Int) = 5; omega)), ⟨hn1, hn2, ha, hbb, z8, okN_zero, by intro e he; cases he⟩, fin ?_ rfl⟩
        · have : j = 0 ∨ j = 1 ∨ j = 2 ∨ j = 3 ∨ j = 4 ∨ j = 5 := by omega
          rcases this with rfl | rfl | rfl | rfl | rfl | rfl
          · cases hoj
          · cases hoj
          · cases hoj
          · rfl
          · exact (sameB_iff _ _).2 rfl
          · rfl
        · rw [partsN_of]
          show l = wsL _ [0, 1, 2]
          rw [wsL_cons, wsL_cons, wsL_cons]
          conv => lhs; rw [a1, b1, c1]
          rfl
      all_goals omega
    · rw [partsN_of] at hG
      obtain ⟨q1, l1, h1, hG⟩ := BND (i := 0) (is := [1, 3]) hG
      obtain ⟨q2, l2, h2, hG⟩ := BND hG
      obtain ⟨q3, l3, h3, hG⟩ := BND hG
      obtain ⟨rfl, rfl⟩ := NIL hG
      obtain ⟨a1, a2, a3⟩ := setP_some (by omega) hb h1
      obtain ⟨b1, b2, b3⟩ := setP_some (by omega) a2 h2
      obtain ⟨c1, c2, c3⟩ := setP_some (by omega) b2 h3
      obtain ⟨n1, hn1, rfl⟩ : ∃ n, n < 18446744073709551616 ∧ q1 = { Rc.zero (3 : Nat) with t := n } := by rcases a3 with ⟨_, h⟩ | ⟨h, _⟩ | ⟨h, _⟩ | ⟨h, _⟩ | ⟨h, _⟩ | ⟨h, _⟩ <;> first | exact h | omega
      obtain ⟨n2, hn2, rfl⟩ : ∃ n, n < 18446744073709551616 ∧ q2 = { ({ Rc.zero (3 : Nat) with t := n1 } : Rc) with x := n } := by rcases b3 with ⟨h, _⟩ | ⟨_, h⟩ | ⟨h, _⟩ | ⟨h, _⟩ | ⟨h, _⟩ | ⟨h, _⟩ <;> first | exact h | omega
      obtain ⟨n3, hn3, rfl⟩ : ∃ n, n < 18446744073709551616 ∧ q3 = { ({ ({ Rc.zero (3 : Nat) with t := n1 } : Rc) with x := n2 } : Rc) with v := n } := by rcases c3 with ⟨h, _⟩ | ⟨h, _⟩ | ⟨h, _⟩ | ⟨_, h⟩ | ⟨h, _⟩ | ⟨h, _⟩ <;> first | exact h | omega
      refine ⟨right_of (by show (1 : Int) ≤ 3 ∧ (3 : Int) ≤ 7; omega) (fun j hj hoj => ?_) (fun h5 => absurd h5 (by show ¬ (3 : Int) = 5; omega)), ⟨hn1, hn2, z8, z8, hn3, okN_zero, by intro e he; cases he⟩, fin ?_ rfl⟩
      · have : j = 0 ∨ j = 1 ∨ j = 2 ∨ j = 3 ∨ j = 4 ∨ j = 5 := by omega
        rcases this with rfl | rfl | rfl | rfl | rfl | rfl
        · cases hoj
        · cases hoj
        · rfl
        · cases hoj
        · exact (sameB_iff _ _).2 rfl
        · rfl
      · rw [partsN_of]
        show l = wsL _ [0, 1, 3]
        rw [wsL_cons, wsL_cons, wsL_cons]
        conv => lhs; rw [a1, b1, c1]
        rfl
    · rw [partsN_of] at hG
      obtain ⟨q1, l1, h1, hG⟩ := BND (i := 0) (is := [1]) hG
      obtain ⟨q2, l2, h2, hG⟩ := BND hG
      obtain ⟨rfl, rfl⟩ := NIL hG
      obtain ⟨a1, a2, a3⟩ := setP_some (by omega) hb h1
      obtain ⟨b1, b2, b3⟩ := setP_some (by omega) a2 h2
      obtain ⟨n1, hn1, rfl⟩ : ∃ n, n < 18446744073709551616 ∧ q1 = { Rc.zero (4 : Nat) with t := n } := by rcases a3 with ⟨_, h⟩ | ⟨h, _⟩ | ⟨h, _⟩ | ⟨h, _⟩ | ⟨h, _⟩ | ⟨h, _⟩ <;> first | exact h | omega
      obtain ⟨n2, hn2, rfl⟩ : ∃ n, n < 18446744073709551616 ∧ q2 = { ({ Rc.zero (4 : Nat) with t := n1 } : Rc) with x := n } := by rcases b3 with ⟨h, _⟩ | ⟨_, h⟩ | ⟨h, _⟩ | ⟨h, _⟩ | ⟨h, _⟩ | ⟨h, _⟩ <;> first | exact h | omega
      refine ⟨right_of (by show (1 : Int) ≤ 4 ∧ (4 : Int) ≤ 7; omega) (fun j hj hoj => ?_) (fun h5 => absurd h5 (by show ¬ (4 : Int) = 5; omega)), ⟨hn1, hn2, z8, z8, z8, okN_zero, by intro e he; cases he⟩, fin ?_ rfl⟩
      · have : j = 0 ∨ j = 1 ∨ j = 2 ∨ j = 3 ∨ j = 4 ∨ j = 5 := by omega
        rcases this with rfl | rfl | rfl | rfl | rfl | rfl
        · cases hoj
        · cases hoj
        · rfl
        · rfl
        · exact (sameB_iff _ _).2 rfl
        · rfl
      · rw [partsN_of]
        show l = wsL _ [0, 1]
        rw [wsL_cons, wsL_cons]
        conv => lhs; rw [a1, b1]
        rfl
    · rw [partsN_of] at hG
      obtain ⟨q1, l1, h1, hG⟩ := BND (i := 0) (is := [4, 5]) hG
      obtain ⟨q2, l2, h2, hG⟩ := BND hG
      obtain ⟨q3, l3, h3, hG⟩ := BND hG
      obtain ⟨rfl, rfl⟩ := NIL hG
      obtain ⟨a1, a2, a3⟩ := setP_some (by omega) hb h1
      obtain ⟨b1, b2, b3⟩ := setP_some (by omega) a2 h2
      obtain ⟨c1, c2, c3⟩ := setP_some (by omega) b2 h3
      obtain ⟨n1, hn1, rfl⟩ : ∃ n, n < 18446744073709551616 ∧ q1 = { Rc.zero (5 : Nat) with t := n } := by rcases a3 with ⟨_, h⟩ | ⟨h, _⟩ | ⟨h, _⟩ | ⟨h, _⟩ | ⟨h, _⟩ | ⟨h, _⟩ <;> first | exact h | omega
      obtain ⟨t, ht1, ht2, rfl⟩ : ∃ t : T, t.rightB = true ∧ t.okN ∧ q2 = { ({ Rc.zero (5 : Nat) with t := n1 } : Rc) with p := t } := by rcases b3 with ⟨h, _⟩ | ⟨h, _⟩ | ⟨h, _⟩ | ⟨h, _⟩ | ⟨_, h⟩ | ⟨h, _⟩ <;> first | exact h | omega
      obtain ⟨es, hes, rfl⟩ : ∃ es : List En, (∀ e ∈ es, e.ok) ∧ q3 = { ({ ({ Rc.zero (5 : Nat) with t := n1 } : Rc) with p := t } : Rc) with es := es } := by rcases c3 with ⟨h, _⟩ | ⟨h, _⟩ | ⟨h, _⟩ | ⟨h, _⟩ | ⟨h, _⟩ | ⟨_, _, h⟩ <;> first | exact h | omega
      refine ⟨right_of (by show (1 : Int) ≤ 5 ∧ (5 : Int) ≤ 7; omega) (fun j hj hoj => ?_) (fun h5 => ht1), ⟨hn1, z8, z8, z8, z8, ht2, hes⟩, fin ?_ rfl⟩
      · have : j = 0 ∨ j = 1 ∨ j = 2 ∨ j = 3 ∨ j = 4 ∨ j = 5 := by omega
        rcases this with rfl | rfl | rfl | rfl | rfl | rfl
        · cases hoj
        · rfl
        · rfl
        · rfl
        · cases hoj
        · cases hoj
      · rw [partsN_of]
        show l = wsL _ [0, 4, 5]
        rw [wsL_cons, wsL_cons, wsL_cons]
        conv => lhs; rw [a1, b1, c1]
        rfl
    · obtain ⟨x1, x2, x3, x4⟩ := one 6 (by omega) (by rw [partsN_of]; rfl) (ofz _ (by omega)) (by rw [partsN_of] at hG; exact hG)
      exact ⟨x1, x2, fin x3 x4⟩
    · obtain ⟨x1, x2, x3, x4⟩ := one 7 (by omega) (by rw [partsN_of]; rfl) (ofz _ (by omega)) (by rw [partsN_of] at hG; exact hG)
      exact ⟨x1, x2, fin x3 x4⟩
end Go.Proofs.YtiiiklenhmhccaaGreatDoor

namespace Go.Proofs.YtiiiklenhmhccaaGreatDoor
open Go Go.RowKit
set_option linter.unusedVariables false
theorem Rd.drewNn {w : World} {B size n : Nat} {A : Option Addr} {xs : List Value} (h : Rd w B size A n xs) (k : Nat) : Rd (w.drewN k) B size A n xs := h.keep fun _ _ => rfl
theorem get_tupl {B : Nat} {A : Option Addr} {n c : Nat} {l : List Nat} {a : Int} (w : World) (x y z : Nat) (hx : getS l a = (x, y, z)) (h : Rd w B 1 A n (bs l)) (hb : ∀ x ∈ l, x < 256) (hn : n ≤ c) (hc : c ≤ 9223372036854775807) :
    Calls Tryz.prog 168 #[.slice A n c, .int .i64 a] w fun e w' => e = .returned (.tuple #[.int .u64 x, .int .i64 y, .int .i64 z]) ∧ w = w' := by
  have G := get_any B A n c l a w h hb hn hc
  rw [hx] at G
  exact G
end Go.Proofs.YtiiiklenhmhccaaGreatDoor

namespace Go.Proofs.YtiiiklenhmhccaaGreatDoor
open Go Go.RowKit
set_option linter.unusedVariables false
def numR (l : List Nat) (a e : Nat) : Nat × Nat × Nat :=
  if e ≠ 0 then (a, e, 0) else if (getS l a).2.2 ≠ 0 then (a, (getS l a).2.2, 0) else ((getS l a).2.1, 0, (getS l a).1)
theorem blk3 {w : World} {b : Nat} {x y z : Value} {T : TypeId} (h : w.heap[b]? = some (.cells #[x, y, z] T (0, 0))) :
    w.cell? ⟨b, 0, none⟩ = some x ∧ w.cell? ⟨b, 1, none⟩ = some y ∧ w.cell? ⟨b, 2, none⟩ = some z ∧ w.frozen? ⟨b, 0, none⟩ = false ∧ w.frozen? ⟨b, 1, none⟩ = false ∧ w.frozen? ⟨b, 2, none⟩ = false :=
  ⟨cell_of_row w b 0 _ T (0, 0) h, cell_of_row w b 1 _ T (0, 0) h, cell_of_row w b 2 _ T (0, 0) h, frozen_of_row w b 0 _ T h, frozen_of_row w b 1 _ T h, frozen_of_row w b 2 _ T h⟩
def rawS (l : List Nat) (a e : Nat) (n : Int) : Nat × Nat × List Nat :=
  if e ≠ 0 then (a, e, []) else if n < 0 then (a, 2, []) else if (l.length : Int) - a < n then (a, 4, []) else (a + n.toNat, 0, (l.drop a).take n.toNat)
def textS (l : List Nat) (a e : Nat) : Nat × Nat × List Nat :=
  if (numR l a e).2.1 ≠ 0 then (a, (numR l a e).2.1, []) else if (l.length : Int) - (numR l a e).1 < (numR l a e).2.2 then (a, 4, []) else
    ((numR l a e).1 + (numR l a e).2.2, 0, (l.drop (numR l a e).1).take (numR l a e).2.2)
theorem getS_le {l : List Nat} {a : Nat} {x y z : Nat} (hb : ∀ x ∈ l, x < 256) (ha : a ≤ l.length) (h : getS l a = (x, y, z)) : y ≤ l.length ∧ (x : Int) ≤ 18446744073709551615 ∧ z < 1000 := by
  unfold getS at h
  rw [if_neg (by omega), Int.toNat_natCast] at h
  cases hg : got (l.drop a) with
  | num v k =>
    rw [hg] at h
    simp only [ans, Prod.mk.injEq] at h
    obtain ⟨rfl, rfl, rfl⟩ := h
    have := got_put (fun x hx => hb x (List.mem_of_mem_drop hx)) hg
    rw [List.length_drop] at this
    omega
  | err e =>
    rw [hg] at h
    simp only [ans, Prod.mk.injEq] at h
    obtain ⟨rfl, rfl, rfl⟩ := h
    have key : ∀ k i v (r : List Nat) (e : Nat), scan k i v r = .err e → e < 1000 := by
      intro k
      induction k with
      | zero => intro i v r e hh; simp [scan] at hh; omega
      | succ k ih =>
        intro i v r e hh
        cases r with
        | nil => simp [scan] at hh; omega
        | cons c r =>
          simp only [scan] at hh
          split at hh
          · exact ih _ _ _ _ hh
          · split at hh
            · cases hh
            · injection hh with hh; omega
    have := key _ _ _ _ _ hg
    omega
theorem numR_le {l : List Nat} {a e a' e' v : Nat} (hb : ∀ x ∈ l, x < 256) (ha : a ≤ l.length) (he : e < 1000) (h : numR l a e = (a', e', v)) : a' ≤ l.length ∧ e' < 1000 ∧ (v : Int) ≤ 18446744073709551615 := by
  unfold numR at h
  obtain ⟨⟨x, y, z⟩, hx⟩ : ∃ x, getS l a = x := ⟨_, rfl⟩
  have hle := getS_le hb ha hx
  rw [hx] at h
  split at h
  · simp only [Prod.mk.injEq] at h; omega
  · split at h <;> (simp only [Prod.mk.injEq] at h; omega)
end Go.Proofs.YtiiiklenhmhccaaGreatDoor

namespace Go.Proofs.YtiiiklenhmhccaaGreatDoor
open Go Go.RowKit
set_option linter.unusedVariables false
def cutStep (c : UInt8) (out : List (List UInt8)) (b : UInt8) : List (List UInt8) := if b = c then out ++ [[]] else out.dropLast ++ [out.getLastD [] ++ [b]]
def cutsL (c : UInt8) (s : List UInt8) : List (List UInt8) := s.foldl (cutStep c) [[]]
theorem cutStep_ne (c b : UInt8) (out : List (List UInt8)) : cutStep c out b ≠ [] := by unfold cutStep; split <;> simp
theorem cut_fold (c : UInt8) (a : List (List UInt8)) : ∀ (s : List UInt8) (b : List (List UInt8)), b ≠ [] → s.foldl (cutStep c) (a ++ b) = a ++ s.foldl (cutStep c) b
  | [], b, _ => rfl
  | x :: s, b, hb => by
    have e : cutStep c (a ++ b) x = a ++ cutStep c b x := by
      unfold cutStep
      split
      · rw [List.append_assoc]
      · rw [List.dropLast_append_of_ne_nil hb, List.append_assoc]
        congr 3
        rw [List.getLastD_eq_getLast?, List.getLastD_eq_getLast?, List.getLast?_append]
        cases hl : b.getLast? with
        | none => exact absurd (List.getLast?_eq_none_iff.1 hl) hb
        | some y => rfl
    rw [List.foldl_cons, List.foldl_cons, e]
    exact cut_fold c a s _ (cutStep_ne _ _ _)
theorem cut_word (c : UInt8) : ∀ (x a : List UInt8), c ∉ x → x.foldl (cutStep c) [a] = [a ++ x]
  | [], a, _ => by simp
  | b :: x, a, h => by
    have hb : b ≠ c := fun e => h (by rw [e]; simp)
    have e : cutStep c [a] b = [a ++ [b]] := by unfold cutStep; rw [if_neg hb]; rfl
    rw [List.foldl_cons, e, cut_word c x _ (fun e => h (by simp [e]))]
    simp
theorem cutsL_none {c : UInt8} {x : List UInt8} (h : c ∉ x) : cutsL c x = [x] := by
  unfold cutsL
  rw [cut_word c x [] h]; rfl
theorem cutsL_app {c : UInt8} {x : List UInt8} (h : c ∉ x) (y : List UInt8) : cutsL c (x ++ c :: y) = x :: cutsL c y := by
  unfold cutsL
  rw [List.foldl_append, List.foldl_cons, cut_word c x [] h]
  have e : cutStep c [[] ++ x] c = [x] ++ [[]] := by unfold cutStep; rw [if_pos rfl]; rfl
  rw [e, cut_fold c [x] y [[]] (by simp)]
  rfl
theorem cutsL_words {c : UInt8} : ∀ (l : List (List UInt8)) (x : List UInt8), c ∉ x → (∀ y ∈ l, c ∉ y) → cutsL c (x ++ l.flatMap ([c] ++ ·)) = x :: l
  | [], x, hx, _ => by rw [List.flatMap_nil, List.append_nil]; exact cutsL_none hx
  | y :: l, x, hx, h => by
    rw [List.flatMap_cons, show x ++ ([c] ++ y ++ l.flatMap ([c] ++ ·)) = x ++ c :: (y ++ l.flatMap ([c] ++ ·)) by simp, cutsL_app hx, cutsL_words l y (h y (by simp)) (fun z hz => h z (by simp [hz]))]
theorem cutsL_len (c : UInt8) : ∀ s : List UInt8, (cutsL c s).length ≤ s.length + 1 := by
  have key : ∀ (s : List UInt8) (out : List (List UInt8)), (s.foldl (cutStep c) out).length ≤ s.length + max out.length 1 := by
    intro s
    induction s with
    | nil => intro out; simp; omega
    | cons b s ih =>
      intro out
      rw [List.foldl_cons]
      have h1 := ih (cutStep c out b)
      have h2 : (cutStep c out b).length ≤ max out.length 1 + 1 := by
        unfold cutStep
        split
        · simp only [List.length_append, List.length_cons, List.length_nil]; omega
        · simp only [List.length_append, List.length_dropLast, List.length_cons, List.length_nil]; omega
      simp only [List.length_cons]
      omega
  intro s
  have := key s [[]]
  simpa [cutsL] using this
def valStep (n : Nat) (b : UInt8) : Nat := (n * 10 + (b.toNat + 208) % 256) % 18446744073709551616
def valW (s : List UInt8) : Nat := s.foldl valStep 0
theorem valW_lt (s : List UInt8) : valW s < 18446744073709551616 := by
  rcases List.eq_nil_or_concat s with rfl | ⟨l, b, rfl⟩
  · decide
  · unfold valW
    rw [List.concat_eq_append, List.foldl_append]
    exact Nat.mod_lt _ (by decide)
theorem valW_dec (n : Nat) : n < 18446744073709551616 → valW (Lib.decDigits n) = n := by
  induction n using Nat.strongRecOn with
  | _ n ih =>
  intro hn
  have hd : ∀ m : Nat, m < 10 → ((UInt8.ofNat (48 + m)).toNat + 208) % 256 = m := fun m hm => by
    have : (UInt8.ofNat (48 + m)).toNat = 48 + m := by simp; omega
    omega
  by_cases h : n < 10
  · rw [dec1 h]
    show valStep 0 _ = n
    unfold valStep
    rw [hd n h]
    omega
  · have e : Lib.decDigits n = Lib.decDigits (n / 10) ++ [UInt8.ofNat (48 + n % 10)] := by
      conv => lhs; rw [Lib.decDigits, dif_neg h]
    have e2 : valW (Lib.decDigits n) = valStep (valW (Lib.decDigits (n / 10))) (UInt8.ofNat (48 + n % 10)) := by
      unfold valW
      rw [e, List.foldl_append]
      rfl
    rw [e2, ih (n / 10) (by omega) (by omega)]
    unfold valStep
    rw [hd _ (Nat.mod_lt _ (by omega))]
    omega
def lverL (s : List UInt8) : Nat × Nat := if (cutsL 46 s).length = 2 then (valW ((cutsL 46 s).getD 0 []), valW ((cutsL 46 s).getD 1 [])) else (0, 0)
theorem lverL_lt (s : List UInt8) : (lverL s).1 < 18446744073709551616 ∧ (lverL s).2 < 18446744073709551616 := by
  unfold lverL
  split
  · exact ⟨valW_lt _, valW_lt _⟩
  · exact ⟨by decide, by decide⟩
theorem lverL_tell {a b : Nat} (ha : a < 18446744073709551616) (hb : b < 18446744073709551616) : lverL (verL a b) = (a, b) := by
  have e : cutsL 46 (verL a b) = [Lib.decDigits a, Lib.decDigits b] := by
    rw [show verL a b = Lib.decDigits a ++ 46 :: Lib.decDigits b by simp [verL], cutsL_app (dec_no (by decide)), cutsL_none (dec_no (by decide))]
  unfold lverL
  rw [e, if_pos (by rfl)]
  show (valW (Lib.decDigits a), valW (Lib.decDigits b)) = _
  rw [valW_dec a ha, valW_dec b hb]
def lentL (s : List UInt8) : Option En := if (cutsL 58 s).length = 3 then some ⟨valW ((cutsL 58 s).getD 0 []), (lverL ((cutsL 58 s).getD 1 [])).1, (lverL ((cutsL 58 s).getD 1 [])).2, decide ((cutsL 58 s).getD 2 [] = [49])⟩ else none
theorem lentL_ok {s : List UInt8} {e : En} (h : lentL s = some e) : e.ok := by
  unfold lentL at h
  split at h
  · injection h with h
    subst h
    have h1 := valW_lt ((cutsL 58 s).getD 0 [])
    have h2 := lverL_lt ((cutsL 58 s).getD 1 [])
    refine ⟨?_, ?_, ?_⟩
    · show ((valW _ : Nat) : Int) ≤ _; omega
    · show (((lverL _).1 : Nat) : Int) ≤ _; omega
    · show (((lverL _).2 : Nat) : Int) ≤ _; omega
  · cases h
theorem lentL_tell {e : En} (h : e.ok) : lentL e.tell = some e := by
  obtain ⟨h1, h2, h3⟩ := h
  obtain ⟨x, a, b, m⟩ := e
  simp only at h1 h2 h3
  have hc : cutsL 58 (En.tell ⟨x, a, b, m⟩) = [Lib.decDigits x, verL a b, [if m then 49 else 48]] := by
    rw [en_tell]
    show cutsL 58 (Lib.decDigits x ++ 58 :: (verL a b ++ 58 :: [if m then 49 else 48])) = _
    rw [cutsL_app (dec_no (by decide)), cutsL_app (ver_no (by decide) (by decide)), cutsL_none (by cases m <;> decide)]
  unfold lentL
  rw [hc, if_pos (by rfl)]
  show some (En.mk (valW (Lib.decDigits x)) (lverL (verL a b)).1 (lverL (verL a b)).2 (decide ([if m then (49 : UInt8) else 48] = [49]))) = _
  rw [valW_dec x (by omega), lverL_tell (by omega) (by omega)]
  cases m <;> simp
def lentsL : List (List UInt8) → Option (List En)
  | [] => some []
  | s :: l => match lentL s with
    | some e => (lentsL l).map (e :: ·)
    | none => none
theorem lentsL_ok : ∀ {l : List (List UInt8)} {es : List En}, lentsL l = some es → ∀ e ∈ es, e.ok
  | [], es, h, e, he => by injection h with h; subst h; cases he
  | s :: l, es, h, e, he => by
    unfold lentsL at h
    split at h
    · rename_i e1 h1
      obtain ⟨es', h2, rfl⟩ := Option.map_eq_some_iff.1 h
      rcases List.mem_cons.1 he with rfl | he
      · exact lentL_ok h1
      · exact lentsL_ok h2 e he
    · cases h
theorem lentsL_tell : ∀ {es : List En}, (∀ e ∈ es, e.ok) → lentsL (es.map En.tell) = some es
  | [], _ => rfl
  | e :: es, h => by
    show (match lentL e.tell with | some e => (lentsL (es.map En.tell)).map (e :: ·) | none => none) = _
    rw [lentL_tell (h e (by simp)), lentsL_tell fun x hx => h x (by simp [hx])]
    rfl
theorem lentsL_len : ∀ {l : List (List UInt8)} {es : List En}, lentsL l = some es → es.length = l.length
  | [], es, h => by injection h with h; subst h; rfl
  | s :: l, es, h => by
    unfold lentsL at h
    split at h
    · obtain ⟨es', h2, rfl⟩ := Option.map_eq_some_iff.1 h
      rw [List.length_cons, List.length_cons, lentsL_len h2]
    · cases h
def manyN (k : Nat) : Nat := if k = 0 then 0 else if k = 2 ∨ k = 3 then 4 else if k = 4 ∨ k = 5 then 3 else 2
def looseL (k : Nat) (l : List (List UInt8)) : Option Rc :=
  if k = 2 then some { Rc.zero 2 with t := valW (l.getD 1 []), x := valW (l.getD 2 []), w := (lverL (l.getD 3 [])).1, n := (lverL (l.getD 3 [])).2 }
  else if k = 3 then some { Rc.zero 3 with t := valW (l.getD 1 []), x := valW (l.getD 2 []), v := valW (l.getD 3 []) }
  else if k = 4 then some { Rc.zero 4 with t := valW (l.getD 1 []), x := valW (l.getD 2 []) }
  else if k = 5 then (readT (l.getD 2 [])).bind fun p => (lentsL (l.drop 3)).map fun es => { Rc.zero 5 with t := valW (l.getD 1 []), p := p, es := es }
  else some { Rc.zero k with t := valW (l.getD 1 []) }
def lineD (s : List UInt8) : Option Rc :=
  if kindL ((cutsL 32 s).getD 0 []) = 0 ∨ (cutsL 32 s).length < manyN (kindL ((cutsL 32 s).getD 0 [])) ∨ (kindL ((cutsL 32 s).getD 0 []) ≠ 5 ∧ manyN (kindL ((cutsL 32 s).getD 0 [])) < (cutsL 32 s).length) then none
  else (looseL (kindL ((cutsL 32 s).getD 0 [])) (cutsL 32 s)).bind fun r => if r.text = s then some r else none
theorem looseL_ok {k : Nat} {l : List (List UInt8)} {r : Rc} (h : looseL k l = some r) : r.okR := by
  have z8 : (0 : Nat) < 18446744073709551616 := by omega
  unfold looseL at h
  repeat' split at h
  · injection h with h; subst h
    exact ⟨valW_lt _, valW_lt _, (lverL_lt _).1, (lverL_lt _).2, z8, okN_zero, by intro e he; cases he⟩
  · injection h with h; subst h
    exact ⟨valW_lt _, valW_lt _, z8, z8, valW_lt _, okN_zero, by intro e he; cases he⟩
  · injection h with h; subst h
    exact ⟨valW_lt _, valW_lt _, z8, z8, z8, okN_zero, by intro e he; cases he⟩
  · obtain ⟨p, h1, h2⟩ := Option.bind_eq_some_iff.1 h
    obtain ⟨es, h3, rfl⟩ := Option.map_eq_some_iff.1 h2
    exact ⟨valW_lt _, z8, z8, z8, z8, (read_some h1).2.1, lentsL_ok h3⟩
  · injection h with h; subst h
    exact ⟨valW_lt _, z8, z8, z8, z8, okN_zero, by intro e he; cases he⟩
theorem wordsP_no {r : Rc} (i : Nat) : ∀ x ∈ r.wordsP i, (32 : UInt8) ∉ x := by
  intro x hx
  unfold Rc.wordsP at hx
  repeat' split at hx
  · obtain rfl : x = _ := by simpa using hx
    exact dec_no (by decide)
  · obtain rfl : x = _ := by simpa using hx
    exact dec_no (by decide)
  · obtain rfl : x = _ := by simpa using hx
    exact ver_no' _ _
  · obtain rfl : x = _ := by simpa using hx
    exact dec_no (by decide)
  · obtain rfl : x = _ := by simpa using hx
    unfold T.text
    split
    · exact tell_no _
    · simp
  · obtain ⟨e, _, rfl⟩ := List.mem_map.1 hx
    exact en_no e
theorem cuts_tell (r : Rc) : cutsL 32 r.tell = nameL r.kind :: r.wordsN (partsN r.kind 6) := by
  rw [tell_ws]
  unfold wsL
  refine cutsL_words _ _ (nameL_no _) fun x hx => ?_
  unfold Rc.wordsN at hx
  obtain ⟨i, _, hx⟩ := List.mem_flatMap.1 hx
  exact wordsP_no i x hx
set_option maxRecDepth 100000 in
theorem lineD_tell {r : Rc} (h : r.rightB = true) (ok : r.okR) : lineD r.tell = some r := by
  obtain ⟨hk, he, hp⟩ := right_shape h
  obtain ⟨k, hkk⟩ : ∃ k : Nat, r.kind = k := ⟨r.kind.toNat, by omega⟩
  have hc := cuts_tell r
  have ht : r.text = r.tell := by unfold Rc.text; rw [if_pos h]
  have key : looseL k (cutsL 32 r.tell) = some r ∧ (cutsL 32 r.tell).length = (if k = 5 then manyN k + r.es.length else manyN k) := by
    rw [hc]
    have E1 : ofB 1 r.kind = false → r.x = 0 := fun h => of_decide_eq_true (he 1 (by omega) h)
    have E2 : ofB 2 r.kind = false → r.w = 0 ∧ r.n = 0 := fun h => of_decide_eq_true (he 2 (by omega) h)
    have E3 : ofB 3 r.kind = false → r.v = 0 := fun h => of_decide_eq_true (he 3 (by omega) h)
    have E4 : ofB 4 r.kind = false → r.p = .node 0 0 0 [] := fun h => (sameB_iff _ _).1 (he 4 (by omega) h)
    have E5 : ofB 5 r.kind = false → r.es = [] := fun h => of_decide_eq_true (he 5 (by omega) h)
    have hk7 : k = 1 ∨ k = 2 ∨ k = 3 ∨ k = 4 ∨ k = 5 ∨ k = 6 ∨ k = 7 := by omega
    obtain ⟨o1, o2, o3, o4, o5, o6, o7⟩ := ok
    obtain ⟨k', t, x, wn, n, v, p, es⟩ := r
    simp only at hkk E1 E2 E3 E4 E5 o1 o2 o3 o4 o5 o6 o7 hp
    clear hc ht he h
    rcases hk7 with rfl | rfl | rfl | rfl | rfl | rfl | rfl <;> subst hkk
    · obtain ⟨rfl, ⟨rfl, rfl⟩, rfl, rfl, rfl⟩ : x = 0 ∧ (wn = 0 ∧ n = 0) ∧ v = 0 ∧ p = .node 0 0 0 [] ∧ es = [] := ⟨E1 rfl, E2 rfl, E3 rfl, E4 rfl, E5 rfl⟩
      rw [partsN_of]
      refine ⟨?_, rfl⟩
      show some ({ Rc.zero (1 : Nat) with t := valW (Lib.decDigits t) } : Rc) = _
      rw [valW_dec t o1]
      rfl
    · obtain ⟨rfl, rfl, rfl⟩ : v = 0 ∧ p = .node 0 0 0 [] ∧ es = [] := ⟨E3 rfl, E4 rfl, E5 rfl⟩
      rw [partsN_of]
      refine ⟨?_, rfl⟩
      show some ({ Rc.zero 2 with t := valW (Lib.decDigits t), x := valW (Lib.decDigits x), w := (lverL (verL wn n)).1, n := (lverL (verL wn n)).2 } : Rc) = _
      rw [valW_dec t o1, valW_dec x o2, lverL_tell o3 o4]
      rfl
    · obtain ⟨⟨rfl, rfl⟩, rfl, rfl⟩ : (wn = 0 ∧ n = 0) ∧ p = .node 0 0 0 [] ∧ es = [] := ⟨E2 rfl, E4 rfl, E5 rfl⟩
      rw [partsN_of]
      refine ⟨?_, rfl⟩
      show some ({ Rc.zero 3 with t := valW (Lib.decDigits t), x := valW (Lib.decDigits x), v := valW (Lib.decDigits v) } : Rc) = _
      rw [valW_dec t o1, valW_dec x o2, valW_dec v o5]
      rfl
    · obtain ⟨⟨rfl, rfl⟩, rfl, rfl, rfl⟩ : (wn = 0 ∧ n = 0) ∧ v = 0 ∧ p = .node 0 0 0 [] ∧ es = [] := ⟨E2 rfl, E3 rfl, E4 rfl, E5 rfl⟩
      rw [partsN_of]
      refine ⟨?_, rfl⟩
      show some ({ Rc.zero 4 with t := valW (Lib.decDigits t), x := valW (Lib.decDigits x) } : Rc) = _
      rw [valW_dec t o1, valW_dec x o2]
      rfl
    · obtain ⟨rfl, ⟨rfl, rfl⟩, rfl⟩ : x = 0 ∧ (wn = 0 ∧ n = 0) ∧ v = 0 := ⟨E1 rfl, E2 rfl, E3 rfl⟩
      rw [partsN_of]
      have hr : p.rightB = true := hp rfl
      have hw : (nameL 5 :: Rc.wordsN (Rc.mk 5 t 0 0 0 0 p es) [0, 4, 5]) = nameL 5 :: Lib.decDigits t :: p.text :: es.map En.tell := by
        show nameL 5 :: ([Lib.decDigits t] ++ ([p.text] ++ (es.map En.tell ++ []))) = _
        simp
      have e5 : (if (5 : Int) = 2 then [0, 1, 2] else if (5 : Int) = 3 then [0, 1, 3] else if (5 : Int) = 4 then [0, 1] else if (5 : Int) = 5 then [0, 4, 5] else [0]) = [0, 4, 5] := rfl
      rw [show (((5 : Nat) : Int)) = 5 from rfl, e5, hw]
      refine ⟨?_, ?_⟩
      · show (readT p.text).bind (fun p => (lentsL (es.map En.tell)).map fun es => ({ Rc.zero 5 with t := valW (Lib.decDigits t), p := p, es := es } : Rc)) = _
        rw [show p.text = p.tell by unfold T.text; rw [if_pos hr], read_tell hr o6, lentsL_tell o7, valW_dec t o1]
        rfl
      · simp [manyN]; omega
    · obtain ⟨rfl, ⟨rfl, rfl⟩, rfl, rfl, rfl⟩ : x = 0 ∧ (wn = 0 ∧ n = 0) ∧ v = 0 ∧ p = .node 0 0 0 [] ∧ es = [] := ⟨E1 rfl, E2 rfl, E3 rfl, E4 rfl, E5 rfl⟩
      rw [partsN_of]
      refine ⟨?_, rfl⟩
      show some ({ Rc.zero (6 : Nat) with t := valW (Lib.decDigits t) } : Rc) = _
      rw [valW_dec t o1]
      rfl
    · obtain ⟨rfl, ⟨rfl, rfl⟩, rfl, rfl, rfl⟩ : x = 0 ∧ (wn = 0 ∧ n = 0) ∧ v = 0 ∧ p = .node 0 0 0 [] ∧ es = [] := ⟨E1 rfl, E2 rfl, E3 rfl, E4 rfl, E5 rfl⟩
      rw [partsN_of]
      refine ⟨?_, rfl⟩
      show some ({ Rc.zero (7 : Nat) with t := valW (Lib.decDigits t) } : Rc) = _
      rw [valW_dec t o1]
      rfl
  have hd : (cutsL 32 r.tell).getD 0 [] = nameL k := by rw [hc, hkk]; rfl
  unfold lineD
  rw [hd, kindL_of (by omega) (by omega), key.1, Option.bind_some, ht, if_pos rfl, if_neg]
  rw [key.2]
  rintro (h0 | h0 | ⟨h0, h1⟩)
  · omega
  · split at h0 <;> omega
  · rw [if_neg h0] at h1; omega
theorem lineD_eq (s : List UInt8) : lineD s = lineB s := by
  cases h : lineB s with
  | some r =>
    obtain ⟨h1, h2, rfl⟩ := line_some h
    exact lineD_tell h1 h2
  | none =>
    cases h2 : lineD s with
    | none => rfl
    | some r =>
      unfold lineD at h2
      split at h2
      · cases h2
      · rename_i hn
        obtain ⟨r', h3, h4⟩ := Option.bind_eq_some_iff.1 h2
        split at h4
        · rename_i ht
          injection h4 with h4
          subst h4
          have ok := looseL_ok h3
          cases hr : r'.rightB with
          | true =>
            unfold Rc.text at ht
            rw [hr, if_pos rfl] at ht
            rw [← ht, line_tell hr ok] at h
            cases h
          | false =>
            unfold Rc.text at ht
            rw [hr, if_neg (by decide)] at ht
            subst ht
            exact absurd (.inl rfl) hn
        · cases h4
end Go.Proofs.YtiiiklenhmhccaaGreatDoor

namespace Go.Proofs.YtiiiklenhmhccaaGreatDoor
open Go Go.RowKit Go.Deep Go.ChangeShapes Go.WideShapes Go.ChangeAt
open Go.ChangeMaps (open_string shut_string)
set_option linter.unusedVariables false
section
variable {H : Type} {enc : TypeId × Value → H} {w : World} {base : Nat} {held : Bool}
set_option maxRecDepth 100000 in
theorem frame_read {fuel : Nat} {cs : List Value} {x : DataW H × List MemPlace} (h : DataW.trod enc Tryz.prog w base (fun _ => true) held fuel 48 cs = some x) :
    ∃ (k : Nat) (A : Option Addr) (n c : Nat) (l : List Nat), cs = [.int .u8 (k : Int), .slice A n c] ∧ k < 256 ∧ Rd w w.heap.size 1 A n (bs l) ∧ (∀ x ∈ l, x < 256) ∧ n ≤ c ∧ c ≤ 9223372036854775807 := by
  obtain ⟨y0, y1, n, -, hl, h0, h1⟩ := trod_struct2 Tryz.underlying48 h
  have hc : Tryz.prog.cellsOf 48 = 2 := by kernel_rfl
  have hu : Tryz.prog.cellsOf 5 = 1 := by kernel_rfl
  have hs : Tryz.prog.cellsOf 46 = 1 := by kernel_rfl
  rw [hc] at hl
  match cs, hl with
  | [c0, c1], _ =>
    obtain ⟨d, e0, w0⟩ := int_read Tryz.underlying5 h0
    simp only [hu] at e0
    simp at e0
    subst e0
    simp only [hs] at h1
    have h1 : DataW.trod enc Tryz.prog w base (fun _ => true) held n 46 [c1] = some y1 := h1
    have hv := bounds_u8 w0
    obtain ⟨d, rfl⟩ : ∃ u : Nat, d = u := ⟨d.toNat, by omega⟩
    rcases open_ints Tryz.underlying46 Tryz.underlying5 (by kernel_rfl) h1 with ⟨hcs, _⟩ | ⟨a, len, cap, zs, hcs, _, hl2, hm, hz, _, hcell, hw⟩
    · obtain rfl : c1 = .slice none 0 0 := by injection (show [c1] = [.slice none 0 0] from hcs)
      exact ⟨d, none, 0, 0, [], rfl, by omega, Rd.zero, by simp, Nat.le_refl _, by omega⟩
    · obtain rfl : c1 = .slice (some a) len cap := by injection (show [c1] = [.slice (some a) len cap] from hcs)
      obtain ⟨l, r1, r2, r3⟩ := IsRow.rd (.inr ⟨a, rfl, hl2, hm, by simpa using hz, hcell, hw⟩ : IsRow .u8 w (some a) len cap zs)
      exact ⟨d, some a, len, cap, l, rfl, by omega, r1, r2, r3⟩
end
end Go.Proofs.YtiiiklenhmhccaaGreatDoor
