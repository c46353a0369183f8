/-
  Plain arithmetic of numbers in base 128, for every natural number: the bytes as which a number stands, and what follows of them. No program is named here.
  Contracts of the program's varint.ends, varint.Size, varint.stand and varint.Put, for every input.
  The contract of the document's Put, for every input.
  Contracts of the program's Writer and of slices.Clone, for every input.
  Layer 4: the shape of a tree in new memory: what a writer over it needs, and keeps. No program is named here, but the element's type.
  Layer 4: a row of trees of the call's own, that grows. No program is named here, but the element's type.
-/
import GoSem.Claim
import Derived.Test.YtdmoknnnlfkfoaaGreatDoorZpTko
import Derived.Test.YtdmoknnnlfkfoaaGreatDoorZpUsl
import Derived.Handy
import Derived.Laws.OwnMore
import Derived.Lib.SmallJoins

namespace Go.Proofs.YtdmoknnnlfkfoaaGreatDoor
def enc (v : Nat) : List Nat := if v < 128 then [v] else (v % 128 + 128) :: enc (v / 128)
termination_by v
decreasing_by omega
theorem enc_lt {v : Nat} (h : v < 128) : enc v = [v] := by rw [enc, if_pos h]
theorem enc_ge {v : Nat} (h : 128 ≤ v) : enc v = (v % 128 + 128) :: enc (v / 128) := by rw [enc, if_neg (by omega)]
theorem enc_pos (v : Nat) : 1 ≤ (enc v).length := by
  by_cases h : v < 128
  · rw [enc_lt h]; simp
  · rw [enc_ge (by omega)]; simp
theorem enc_le (k : Nat) : ∀ v, v < 128 ^ (k + 1) → (enc v).length ≤ k + 1 := by
  induction k with
  | zero => intro v h; rw [enc_lt (by simpa using h)]; simp
  | succ k ih =>
    intro v h
    by_cases h1 : v < 128
    · rw [enc_lt h1]; simp
    · rw [enc_ge (by omega)]
      have := ih (v / 128) (by rw [Nat.pow_succ] at h; exact Nat.div_lt_of_lt_mul (by omega))
      simp only [List.length_cons]; omega
theorem enc_ten {v : Nat} (h : v < 18446744073709551616) : (enc v).length ≤ 10 := enc_le 9 v (Nat.lt_of_lt_of_le h (by decide))
def val : List Nat → Nat
  | [] => 0
  | c :: r => c % 128 + 128 * val r
theorem val_enc (v : Nat) : val (enc v) = v := by
  induction v using Nat.strongRecOn with
  | ind v ih =>
    by_cases h : v < 128
    · rw [enc_lt h]; simp [val]; omega
    · rw [enc_ge (by omega)]; simp only [val]; rw [ih (v / 128) (by omega)]; omega
inductive Got | num (v n : Nat) | err (e : Nat)
def mayEnd (c i : Nat) : Bool := if i = 9 then c == 1 else (c != 0 || i == 0)
def scan : Nat → Nat → Nat → List Nat → Got
  | 0, _, _, _ => .err 10
  | _ + 1, _, _, [] => .err 4
  | k + 1, i, v, c :: r => if 128 ≤ c then scan k (i + 1) (v + c % 128 * 128 ^ i) r else if mayEnd c i then .num (v + c * 128 ^ i) (i + 1) else .err 10
def got (l : List Nat) : Got := scan 10 0 0 l
def ans (a : Nat) : Got → Nat × Nat × Nat
  | .num v k => (v, a + k, 0)
  | .err e => (0, 0, e)
def getS (l : List Nat) (at_ : Int) : Nat × Nat × Nat :=
  if at_ < 0 ∨ (l.length : Int) < at_ then (0, 0, 2) else
    ans at_.toNat (got (l.drop at_.toNat))
def ScanAt (r : List Nat) (k v : Nat) : Prop := got r = scan (10 - k) k v (r.drop k)
theorem ScanAt.zero (r : List Nat) : ScanAt r 0 0 := rfl
theorem ScanAt.more {r : List Nat} {k v v' : Nat} (h : ScanAt r k v) (hk : k < 10) (hl : k < r.length) (hc : 128 ≤ r.getD k 0) (hv : k < 9 → v' = v + r.getD k 0 % 128 * 128 ^ k) : ScanAt r (k + 1) v' := by
  unfold ScanAt at *
  rw [h]
  have e : r.drop k = r[k] :: r.drop (k + 1) := List.drop_eq_getElem_cons hl
  have e2 : r.getD k 0 = r[k] := by rw [List.getD_eq_getElem?_getD, List.getElem?_eq_getElem hl]; rfl
  rw [e2] at hc hv
  rw [e]
  obtain ⟨m, hm⟩ : ∃ m, 10 - k = m + 1 := ⟨9 - k, by omega⟩
  rw [hm, show 10 - (k + 1) = m by omega]
  simp only [scan, if_pos hc]
  by_cases h9 : k < 9
  · rw [hv h9]
  · obtain rfl : m = 0 := by omega
    rfl
theorem ScanAt.last {r : List Nat} {k v : Nat} (h : ScanAt r k v) (hk : k < 10) (hl : k < r.length) (hc : r.getD k 0 < 128) :
    got r = if mayEnd (r.getD k 0) k then .num (v + r.getD k 0 * 128 ^ k) (k + 1) else .err 10 := by
  have e : r.drop k = r[k] :: r.drop (k + 1) := List.drop_eq_getElem_cons hl
  have e2 : r.getD k 0 = r[k] := by rw [List.getD_eq_getElem?_getD, List.getElem?_eq_getElem hl]; rfl
  rw [e2] at hc ⊢
  unfold ScanAt at h
  rw [h, e]
  obtain ⟨m, hm⟩ : ∃ m, 10 - k = m + 1 := ⟨9 - k, by omega⟩
  rw [hm]
  simp only [scan]
  rw [if_neg (by omega)]
theorem ScanAt.end_ {r : List Nat} {k v : Nat} (h : ScanAt r k v) (hk : k ≤ 10) (hl : k = min r.length 10) : got r = .err (if 10 ≤ r.length then 10 else 4) := by
  unfold ScanAt at h
  by_cases h10 : 10 ≤ r.length
  · obtain rfl : k = 10 := by omega
    rw [h, if_pos h10]; rfl
  · rw [h, if_neg h10, List.drop_eq_nil_of_le (by omega)]
    obtain ⟨m, hm⟩ : ∃ m, 10 - k = m + 1 := ⟨9 - k, by omega⟩
    rw [hm]; rfl
theorem val_take_succ (r : List Nat) : ∀ k, k < r.length → val (r.take (k + 1)) = val (r.take k) + r.getD k 0 % 128 * 128 ^ k := by
  induction r with
  | nil => intro k h; simp at h
  | cons c r ih =>
    intro k h
    cases k with
    | zero => simp [val]
    | succ k =>
      simp only [List.take_succ_cons, val]
      rw [ih k (by simpa using h), Nat.pow_succ]
      simp only [List.getD_cons_succ]
      rw [Nat.mul_add, Nat.add_assoc]
      congr 2
      rw [Nat.mul_comm 128, Nat.mul_assoc]
def AllMore (r : List Nat) (k : Nat) : Prop := ∀ j, j < k → 128 ≤ r.getD j 0
theorem AllMore.zero (r : List Nat) : AllMore r 0 := fun j h => by omega
theorem AllMore.succ {r : List Nat} {k : Nat} (h : AllMore r k) (e : 128 ≤ r.getD k 0) : AllMore r (k + 1) := fun j hj => by
  rcases Nat.lt_or_ge j k with h1 | h1
  · exact h j h1
  · obtain rfl : j = k := by omega
    exact e
theorem AllMore.scan {r : List Nat} (k : Nat) (h : AllMore r k) (hk : k ≤ 10) (hl : k ≤ r.length) : ScanAt r k (val (r.take k)) := by
  induction k with
  | zero => exact ScanAt.zero r
  | succ k ih => exact (ih (fun j hj => h j (by omega)) (by omega) (by omega)).more (by omega) (by omega) (h k (by omega)) (fun _ => val_take_succ r k (by omega))
theorem val_lt (t : List Nat) : val t < 128 ^ t.length := by
  induction t with
  | nil => simp [val]
  | cons c t ih => simp only [val, List.length_cons, Nat.pow_succ]; omega
theorem val_snoc (t : List Nat) (c : Nat) : val (t ++ [c]) = val t + c % 128 * 128 ^ t.length := by
  induction t with
  | nil => simp [val]
  | cons x t ih =>
    simp only [List.cons_append, val, List.length_cons]
    rw [ih, Nat.pow_succ, Nat.mul_add, Nat.add_assoc]
    congr 2
    rw [Nat.mul_comm 128, Nat.mul_assoc]
theorem enc_form (c : Nat) (hc : c < 128) (t : List Nat) : (∀ x ∈ t, 128 ≤ x ∧ x < 256) → (c ≠ 0 ∨ t = []) → enc (val (t ++ [c])) = t ++ [c] := by
  induction t with
  | nil => intro _ _; simp only [List.nil_append, val]; rw [show c % 128 + 128 * 0 = c by omega, enc_lt hc]
  | cons x t ih =>
    intro h h0
    have hc0 : c ≠ 0 := by rcases h0 with h | h; exact h; cases h
    have e := ih (fun y hy => h y (List.mem_cons_of_mem _ hy)) (.inl hc0)
    have hx := h x (List.mem_cons_self ..)
    have hv : 1 ≤ val (t ++ [c]) := by
      rcases Nat.eq_zero_or_pos (val (t ++ [c])) with hz | hz
      · rw [hz, enc_lt (by omega)] at e
        cases t with
        | nil => simp at e; omega
        | cons y t => simp at e
      · exact hz
    simp only [List.cons_append, val]
    rw [enc_ge (by omega), show (x % 128 + 128 * val (t ++ [c])) % 128 + 128 = x by omega, show (x % 128 + 128 * val (t ++ [c])) / 128 = val (t ++ [c]) by omega, e]
theorem enc_last (c : Nat) (t : List Nat) : ∀ v, enc v = t ++ [c] → (c ≠ 0 ∨ t = []) := by
  induction t with
  | nil => intro v h; exact .inr rfl
  | cons x t ih =>
    intro v h
    by_cases hv : v < 128
    · rw [enc_lt hv] at h; simp at h
    · rw [enc_ge (by omega)] at h
      simp only [List.cons_append, List.cons.injEq] at h
      rcases ih _ h.2 with h1 | h1
      · exact .inl h1
      · subst h1
        have h2 := h.2
        by_cases hw : v / 128 < 128
        · rw [enc_lt hw] at h2; simp at h2; left; omega
        · rw [enc_ge (by omega)] at h2; have := enc_pos (v / 128 / 128); simp at h2
          rw [h2.2] at this; simp at this
theorem form_iff (t : List Nat) (c : Nat) (ht : ∀ x ∈ t, 128 ≤ x ∧ x < 256) (hc : c < 128) (hl : t.length ≤ 9) :
    (mayEnd c t.length = true → val (t ++ [c]) < 18446744073709551616 ∧ enc (val (t ++ [c])) = t ++ [c]) ∧
    (∀ v, v < 18446744073709551616 → enc v = t ++ [c] → mayEnd c t.length = true) := by
  have hs := val_snoc t c
  have hlt := val_lt t
  rw [Nat.mod_eq_of_lt hc] at hs
  constructor
  · intro h
    by_cases h9 : t.length = 9
    · have hc1 : c = 1 := by simpa [mayEnd, h9] using h
      subst hc1
      rw [h9] at hs hlt
      have e9 : 128 ^ 9 = 9223372036854775808 := by decide
      rw [e9] at hs hlt
      exact ⟨by omega, enc_form 1 (by omega) t ht (.inl (by omega))⟩
    · have h0 : c ≠ 0 ∨ t = [] := by
        rcases t with _ | ⟨x, t⟩
        · exact .inr rfl
        · left; intro hz; subst hz; exact absurd h (by unfold mayEnd; rw [if_neg h9]; simp)
      refine ⟨?_, enc_form c hc t ht h0⟩
      have h1 := val_lt (t ++ [c])
      have h2 : 128 ^ (t ++ [c]).length ≤ 128 ^ 9 := Nat.pow_le_pow_right (by decide) (by simp; omega)
      have e9 : 128 ^ 9 = 9223372036854775808 := by decide
      omega
  · intro v hv he
    have h0 := enc_last c t v he
    by_cases h9 : t.length = 9
    · have hval := val_enc v
      rw [he, hs, h9] at hval
      have e9 : 128 ^ 9 = 9223372036854775808 := by decide
      rw [e9] at hval
      have hc0 : c ≠ 0 := by
        rcases h0 with h0 | h0
        · exact h0
        · subst h0; simp at h9
      have : c = 1 := by omega
      subst this
      simp [mayEnd, h9]
    · unfold mayEnd
      rw [if_neg h9]
      rcases h0 with h0 | h0
      · simp [h0]
      · subst h0; simp
theorem got_by {r : List Nat} {k : Nat} (hb : ∀ x ∈ r, x < 256) (h : AllMore r k) (hk : k < 10) (hl : k < r.length) (hc : r.getD k 0 < 128) :
    ∀ v, v = val (r.take (k + 1)) % 18446744073709551616 → got r = if enc v = r.take (k + 1) then .num v (k + 1) else .err 10 := by
  intro v hv
  have e : r.take (k + 1) = r.take k ++ [r.getD k 0] := by
    rw [List.take_succ_eq_append_getElem hl, List.getD_eq_getElem?_getD, List.getElem?_eq_getElem hl]; rfl
  have hlt : (r.take k).length = k := by rw [List.length_take]; omega
  have ht : ∀ x ∈ r.take k, 128 ≤ x ∧ x < 256 := by
    intro x hx
    refine ⟨?_, hb x (List.mem_of_mem_take hx)⟩
    obtain ⟨j, hj, rfl⟩ := List.mem_iff_getElem.1 hx
    have := h j (by omega)
    rw [List.getD_eq_getElem?_getD, List.getElem?_eq_getElem (by omega)] at this
    simpa using this
  have F := form_iff (r.take k) (r.getD k 0) ht hc (by omega)
  rw [hlt] at F
  have L := (h.scan k (by omega) (by omega)).last hk hl hc
  have hs := val_snoc (r.take k) (r.getD k 0)
  rw [hlt, Nat.mod_eq_of_lt hc] at hs
  rw [L, ← hs, e]
  cases hm : mayEnd (r.getD k 0) k with
  | true =>
    obtain ⟨h1, h2⟩ := F.1 hm
    rw [e, Nat.mod_eq_of_lt h1] at hv
    subst hv
    rw [if_pos rfl, if_pos h2]
  | false =>
    rw [if_neg (by simp), if_neg]
    intro he
    have := F.2 v (by rw [hv]; exact Nat.mod_lt _ (by decide)) he
    rw [hm] at this
    cases this
theorem got_ten {r : List Nat} (h : AllMore r 10) (hl : 10 ≤ r.length) : got r = .err 10 := by
  rw [(h.scan 10 (by omega) (by omega)).end_ (by omega) (by omega), if_pos hl]
theorem got_short {r : List Nat} {k : Nat} (h : AllMore r k) (hk : k < 10) (hl : k = r.length) : got r = .err 4 := by
  rw [(h.scan k (by omega) (by omega)).end_ (by omega) (by omega), if_neg (by omega)]
def horn (r : List Nat) (k j : Nat) : Nat := val ((r.take (k + 1)).drop j) % 18446744073709551616
theorem horn_top {r : List Nat} {k : Nat} (h : k < r.length) : horn r k (k + 1) = 0 := by
  unfold horn
  rw [List.drop_eq_nil_of_le (by simp; omega)]
  rfl
theorem horn_step {r : List Nat} {k j : Nat} (h : k < r.length) (hj : j ≤ k) : horn r k j = (horn r k (j + 1) * 128 + r.getD j 0 % 128) % 18446744073709551616 := by
  unfold horn
  have hl : j < (r.take (k + 1)).length := by rw [List.length_take]; omega
  rw [List.drop_eq_getElem_cons hl, List.getElem_take]
  have e2 : r.getD j 0 = r[j] := by rw [List.getD_eq_getElem?_getD, List.getElem?_eq_getElem (by omega)]; rfl
  rw [e2]
  simp only [val]
  omega
end Go.Proofs.YtdmoknnnlfkfoaaGreatDoor

namespace Go.Proofs.YtdmoknnnlfkfoaaGreatDoor
open Go Go.RowKit
set_option linter.unusedVariables false
theorem ends_any (c i : Nat) (w : World) (hc : c < 256) (hi : i < 100) :
    Calls Tryz.prog 195 #[.int .u8 c, .int .i64 i] w fun e w' => e = .returned (.bool (mayEnd c i)) ∧ w = w' := by
  have b9 := int_beq i 9
  have b1 := int_beq c 1
  have b0 := int_bne c 0
  have bi := int_beq i 0
  by_cases h9 : i = 9
  · subst h9
    go_enter Tryz.func195, Tryz.ntmps195
    go_wp2
    go_ret
    exact ⟨by simp only [mayEnd, if_true]; rw [← b1]; rfl, rfl⟩
  · have f9 : ((i : Int) == 9) = false := by rw [show (9 : Int) = ((9 : Nat) : Int) from rfl, b9]; simpa using h9
    by_cases h0 : c = 0
    · subst h0
      go_enter Tryz.func195, Tryz.ntmps195
      go_wp2
      go_ret
      exact ⟨by simp only [mayEnd, if_neg h9]; rw [← bi]; rfl, rfl⟩
    · have f0 : ((c : Int) != 0) = true := by rw [show (0 : Int) = ((0 : Nat) : Int) from rfl, b0]; simpa using h0
      clear b9 b1 b0 bi
      go_enter Tryz.func195, Tryz.ntmps195
      go_wp2
      go_ret
      exact ⟨by simp [mayEnd, h9, h0], rfl⟩
set_option maxRecDepth 100000 in
theorem stand_any (B : Nat) (A : Option Addr) (n c : Nat) (xs : List Value) (v : Nat) (w : World) (hv : (v : Int) ≤ 18446744073709551615)
    (hown : w.ownsRow B 5 1 (.slice A n c) n xs) (hB : B ≤ w.heap.size) (hn : n ≤ 140737488355300) :
    Calls Tryz.prog 172 #[.slice A n c, .int .u64 v] w (Grew 5 B (.slice A n c) (xs ++ bs (enc v)) w) := by
  have hten := enc_ten (v := v) (by omega)
  obtain ⟨i0, hi, hz0, hz1, hz2⟩ := info_parts Tryz.info5
  go_enter Tryz.func172, Tryz.ntmps172
  go_wp2
  go_loopw [0, 1] (fun b x wr => ∃ (y : Nat) (l : List Nat) (A' : Option Addr) (n' c' : Nat), x = .int .u64 y ∧ b = .slice A' n' c' ∧ (y : Int) ≤ 18446744073709551615 ∧ enc v = l ++ enc y ∧ n' = n + l.length ∧
      wr.ownsRow B 5 1 (.slice A' n' c') n' (xs ++ bs l) ∧ Stp w wr (.slice A n c) (.slice A' n' c')) (fun _ x _ => (intOf x).toNat)
  case atStart => exact ⟨v, [], A, n, c, rfl, rfl, hv, rfl, rfl, by simpa [bs] using hown, Stp.refl _ _⟩
  case round =>
    obtain ⟨y, l, A', n', c', rfl, rfl, h3, h4, h5, h6, h7⟩ := hrel
    have hl : l.length + (enc y).length ≤ 10 := by rw [h4] at hten; simpa using hten
    have hpos := enc_pos y
    have hsz := h7.grow.size
    have hb' : n' ≤ 140737488355309 := by omega
    have H5 : Hid (n' = n + l.length) := h5
    have H4 : Hid (enc v = l ++ enc y) := h4
    have hm1 : n' + 1 ≤ maxLen := by unfold maxLen; omega
    have hm2 : (n' + 1) * 1 ≤ 140737488355328 := by omega
    have hsB : ∀ o, B ≤ (wr.alloc o).heap.size := by intro o; simp; omega
    clear h5 h4
    by_cases hy : y < 128
    · go_wp2_with (at_builtin; (refine wpList_app rfl _ _ 22 rfl B 5 i0 (.int .u8 0) 1 1 Tryz.underlying22 hi hz0 hz1 hz2 rfl (by decide) _ n' _ rfl (h6.alloc _) (wr.heap.size + 1) (some ⟨wr.heap.size, 0, none⟩) 1 1 (bs [y]) rfl (Rd.new1 wr y 5) (bs_one _) hm1 hm2 (hsB _) ?_); intro v' w1 hown' hst)
      obtain ⟨A2, c2, rfl, _⟩ := own_form hown'
      go_wp2
      go_ret
      refine ⟨A2, n' + 1, c2, rfl, ?_, h7.trans ((Stp.alloc _ _ _).trans hst)⟩
      rw [H4.out, enc_lt hy, bs_append, ← List.append_assoc]
      exact hown'
    · have he := enc_ge (v := y) (by omega)
      have hc : (y : Int) % 128 + 128 = ((y % 128 + 128 : Nat) : Int) := by omega
      have HC : Hid ((y : Int) % 128 + 128 = ((y % 128 + 128 : Nat) : Int)) := hc
      have HE : Hid (enc y = (y % 128 + 128) :: enc (y / 128)) := he
      clear hc he
      go_wp2_with (at_builtin; (refine wpList_app rfl _ _ 22 rfl B 5 i0 (.int .u8 0) 1 1 Tryz.underlying22 hi hz0 hz1 hz2 rfl (by decide) _ n' _ rfl (h6.alloc _) (wr.heap.size + 1) (some ⟨wr.heap.size, 0, none⟩) 1 1 (bs [y % 128 + 128]) rfl (Rd.newi wr _ _ HC.out 5) (bs_one _) hm1 hm2 (hsB _) ?_); intro v' w1 hown' hst)
      obtain ⟨A2, c2, rfl, _⟩ := own_form hown'
      have hst2 := h7.trans ((Stp.alloc _ _ _).trans hst)
      clear hst h7
      go_wp2
      go_roundw
      case rel => exact ⟨y / 128, l ++ [y % 128 + 128], A2, n' + 1, c2, by go_num, rfl, by omega, by rw [H4.out, HE.out]; simp, by rw [H5.out]; simp; omega, by rw [bs_append, ← List.append_assoc]; exact hown', hst2⟩
      case measure => simp [intOf]; omega
theorem put_any (v : Nat) (w : World) (hv : (v : Int) ≤ 18446744073709551615) :
    Calls Tryz.prog 199 #[.int .u64 v] w (Made 5 (enc v) w) := by
  go_enter Tryz.func199, Tryz.ntmps199
  go_wp2_with (go_at_call 172; refine (stand_any w.heap.size none 0 0 [] v w hv (own_none _ _ _) (Nat.le_refl _) (by omega)).mono ?_; rintro e w' ⟨A, n, c, rfl, ho, hs⟩)
  go_ret
  exact made_of_grew ⟨A, n, c, rfl, ho, hs⟩
end Go.Proofs.YtdmoknnnlfkfoaaGreatDoor

namespace Go.Proofs.YtdmoknnnlfkfoaaGreatDoor
open Go Go.RowKit
set_option linter.unusedVariables false
set_option maxRecDepth 100000 in
theorem rput_any (k : Nat) : ∀ (v : Nat) (w : World), (enc v).length ≤ k → k ≤ 10 → (v : Int) ≤ 18446744073709551615 →
    Calls Tryz.prog 62 #[.int .u64 v] w (Made 5 (enc v) w) := by
  induction k with
  | zero => intro v w h; have := enc_pos v; omega
  | succ k ih =>
    intro v w h hk hv
    by_cases hs : v < 128
    · have hx : Calls Tryz.prog 62 #[.int .u64 v] w fun e w' => e = .returned (.slice (some ⟨w.heap.size, 0, none⟩) 1 1) ∧ w' = w.alloc (.cells #[.int .u8 (v : Int)] 5) := by
        go_enter Tryz.func62, Tryz.ntmps62
        go_wp2_with fail
        go_ret
        exact ⟨rfl, rfl⟩
      refine hx.mono ?_
      rintro e w' ⟨rfl, rfl⟩
      rw [enc_lt hs]
      exact ⟨_, 1, rfl, own_new1 w _ v rfl _, (Below.refl _ _).alloc (Nat.le_refl _) _⟩
    · have he := enc_ge (v := v) (by omega)
      have hc : (v : Int) % 128 + 128 = ((v % 128 + 128 : Nat) : Int) := by omega
      have hlen : (enc (v / 128)).length ≤ k := by rw [he] at h; simpa using h
      have hpos := enc_pos (v / 128)
      have hq : ((v / 128 : Nat) : Int) ≤ 18446744073709551615 := by omega
      have IH := ih (v / 128) (w.alloc (.cells #[.int .u8 ((v : Int) % 128 + 128)] 5)) hlen (by omega) hq
      have hO := own_new1 w _ _ hc 5
      obtain ⟨i0, hi, hz0, hz1, hz2⟩ := info_parts Tryz.info5
      have HE : Hid (enc v = (v % 128 + 128) :: enc (v / 128)) := he
      have hm1 : 1 + (enc (v / 128)).length ≤ maxLen := by unfold maxLen; omega
      have hm2 : (1 + (enc (v / 128)).length) * 1 ≤ 140737488355328 := by omega
      clear ih hc he h
      go_enter Tryz.func62, Tryz.ntmps62
      go_wp2_with (first | (go_at_call 62; refine IH.mono ?_; rintro e w1 ⟨A1, c1, rfl, ho1, hb1⟩) | (at_builtin; (refine wpList_app rfl _ _ 22 rfl w.heap.size 5 i0 (.int .u8 0) 1 1 Tryz.underlying22 hi hz0 hz1 hz2 rfl (by decide) _ 1 _ rfl (own_below hO hb1 (own_lt hO)) w1.heap.size A1 (enc (v / 128)).length c1 (bs (enc (v / 128))) rfl (Rd.own ho1) (bs_one _) hm1 hm2 (alloc_le hb1) ?_); intro v2 w2 hown' hst; obtain ⟨A2, c2, rfl, _⟩ := own_form hown'))
      go_ret
      rw [HE.out, show ((v % 128 + 128) :: enc (v / 128)) = [v % 128 + 128] ++ enc (v / 128) from rfl, made_iff]
      refine ⟨A2, _, c2, rfl, by rw [bs_append]; exact hown', ?_⟩
      exact ((Below.refl _ _).alloc (Nat.le_refl _) _).trans ((hb1.mono (by simp)).trans (hst.below (alloc_le hb1) (fun k hk => by have h9 : w.heap.size = k := (by injection hk); omega)))
end Go.Proofs.YtdmoknnnlfkfoaaGreatDoor

namespace Go.Proofs.YtdmoknnnlfkfoaaGreatDoor
open Go Go.RowKit
set_option linter.unusedVariables false
theorem own_empty (w : World) (t : TypeId) : (w.alloc (.cells #[] t)).ownsRow w.heap.size t 1 (.slice (some ⟨w.heap.size, 0, none⟩) 0 0) 0 [] :=
  World.ownsRow_lit w #[] 0 (Nat.le_refl _) (by decide) rfl
set_option maxRecDepth 100000 in
theorem clone_any (B : Nat) (A : Option Addr) (n c : Nat) (l : List Nat) (w : World) (h : Rd w B 1 A n (bs l)) (hn : n ≤ 140737488355300) (hB : B ≤ w.heap.size) :
    Calls Tryz.prog 58 #[.slice A n c] w (Made 5 l w) := by
  have hc := h.count
  subst hc
  obtain ⟨i0, hi, hz0, hz1, hz2⟩ := info_parts Tryz.info5
  have hm1 : 0 + l.length ≤ maxLen := by unfold maxLen; omega
  have hm2 : (0 + l.length) * 1 ≤ 140737488355328 := by omega
  have hs1 : w.heap.size ≤ (w.alloc (.cells #[] 5)).heap.size := by simp
  have hO := own_empty w 5
  have hr := h.alloc hB (.cells #[] 5)
  rcases A with _ | ad
  · have hl : l.length = 0 := by
      rcases Nat.eq_zero_or_pos l.length with h0 | h0
      · exact h0
      · obtain ⟨ad, hA, _⟩ := h.lies h0; cases hA
    have hl0 : l = [] := List.eq_nil_of_length_eq_zero hl
    subst hl0
    have heq : ∀ wx : World, (binOp .eql 22 (.slice none 0 c) (.slice none 0 0)).run Tryz.prog wx = .ok (.bool true) wx := fun wx => Lib.run_eql_slice_nil wx _ _ _ _ _ _ _ Tryz.underlying22
    go_enter Tryz.func58, Tryz.ntmps58
    go_wp2
    go_ret
    exact ⟨none, 0, rfl, own_none _ _ _, Below.refl _ _⟩
  · have heq : ∀ wx : World, (binOp .eql 22 (.slice (some ad) l.length c) (.slice none 0 0)).run Tryz.prog wx = .ok (.bool false) wx := fun wx => Lib.run_eql_slice_nil wx _ _ _ _ _ _ _ Tryz.underlying22
    go_enter Tryz.func58, Tryz.ntmps58
    go_wp2_with (at_builtin; (refine wpList_app rfl _ _ 22 rfl w.heap.size 5 i0 (.int .u8 0) 1 1 Tryz.underlying22 hi hz0 hz1 hz2 rfl (by decide) (.slice (some ⟨w.heap.size, 0, none⟩) 0 0) 0 [] rfl hO B (some ad) l.length c (bs l) rfl hr (bs_one _) hm1 hm2 hs1 ?_); intro v' w1 hown' hst; simp only [Nat.zero_add, List.nil_append] at hown'; obtain ⟨A2, c2, rfl, _⟩ := own_form hown')
    go_ret
    refine ⟨A2, c2, rfl, hown', ((Below.refl _ _).alloc (Nat.le_refl _) _).trans (hst.below hs1 (fun k hk => ?_))⟩
    have : w.heap.size = k := by injection hk
    omega
structure Wr (T E : TypeId) (w : World) (g : Nat) (A : Option Addr) (n c : Nat) (ys : List Nat) : Prop where
  blk : w.heap[g]? = some (.cells #[.slice A n c] T (0, 0))
  own : w.ownsRow (g + 1) E 1 (.slice A n c) n (bs ys)
structure WStp (w w' : World) (g : Nat) (v v' : Value) : Prop where
  os : w'.os = w.os
  tape : w'.tape = w.tape
  output : w'.output = w.output
  size : w.heap.size ≤ w'.heap.size
  block : ∀ k, k < w.heap.size → k ≠ g → some k ≠ v.ownBlock → w'.heap[k]? = w.heap[k]?
  row : v'.ownBlock = v.ownBlock ∨ ∃ k, v'.ownBlock = some k ∧ w.heap.size ≤ k
theorem WStp.refl (w : World) (g : Nat) (v : Value) : WStp w w g v v := ⟨rfl, rfl, rfl, Nat.le_refl _, fun _ _ _ _ => rfl, .inl rfl⟩
theorem WStp.of {w w' : World} {v v' : Value} (g : Nat) (h : Stp w w' v v') : WStp w w' g v v' := ⟨h.grow.os, h.grow.tape, h.grow.output, h.grow.size, fun k hk _ hv => h.grow.block k hk hv, h.row⟩
theorem WStp.store (w : World) (g o : Nat) (u v : Value) : WStp w (w.setCell ⟨g, o, none⟩ u) g v v := ⟨rfl, rfl, rfl, by simp, fun k _ hg _ => Below.heap_setCell w _ _ _ hg, .inl rfl⟩
theorem WStp.trans {a b c : World} {g : Nat} {u v x : Value} (h : WStp a b g u v) (k : WStp b c g v x) : WStp a c g u x := by
  refine ⟨k.os.trans h.os, k.tape.trans h.tape, k.output.trans h.output, Nat.le_trans h.size k.size, fun i hi hg hne => ?_, ?_⟩
  · refine (k.block i (Nat.lt_of_lt_of_le hi h.size) hg ?_).trans (h.block i hi hg hne)
    rcases h.row with e | ⟨j, e, hj⟩
    · rw [e]; exact hne
    · rw [e]; intro e2; have : i = j := by injection e2
      omega
  · have := h.size
    rcases k.row with e | ⟨j, e, hj⟩
    · rw [e]; rcases h.row with e1 | ⟨j, e1, hj⟩
      · exact .inl e1
      · exact .inr ⟨j, e1, hj⟩
    · exact .inr ⟨j, e, by omega⟩
theorem WStp.below {w w' : World} {g : Nat} {v v' : Value} (h : WStp w w' g v v') {B : Nat} (hB : B ≤ w.heap.size) (hg : B ≤ g) (hv : ∀ k, v.ownBlock = some k → B ≤ k) : Below B w w' :=
  ⟨h.os, h.tape, h.output, h.size, fun k hk => h.block k (by omega) (by omega) (fun e => by have := hv k e.symm; omega)⟩
def Away (g : Nat) (v : Value) (A : Option Addr) (n : Nat) : Prop := 0 < n → ∀ ad, A = some ad → ad.block ≠ g ∧ some ad.block ≠ v.ownBlock
theorem Rd.wstp {w w' : World} {B size n g : Nat} {A : Option Addr} {xs : List Value} {v v' : Value} (h : Rd w B size A n xs) (hB : B ≤ w.heap.size) (ha : Away g v A n) (hs : WStp w w' g v v') : Rd w' B size A n xs :=
  ⟨h.len, fun hn => by
    obtain ⟨ad, e, hb, hc⟩ := h.lies hn
    have := ha hn ad e
    exact ⟨ad, e, hb, fun j u hu => (World.cell?_of_block (by rw [add_block]; exact hs.block _ (by omega) this.1 this.2)).trans (hc j u hu)⟩⟩
theorem Away.wstp {w w' : World} {B size n g : Nat} {A : Option Addr} {xs : List Value} {v v' : Value} (ha : Away g v A n) (h : Rd w B size A n xs) (hB : B ≤ w.heap.size) (hs : WStp w w' g v v') : Away g v' A n := fun hn ad e => by
  have h1 := ha hn ad e
  refine ⟨h1.1, ?_⟩
  obtain ⟨ad', e', hb, _⟩ := h.lies hn
  obtain rfl : ad = ad' := by rw [e] at e'; injection e'
  rcases hs.row with e2 | ⟨k, e2, hk⟩
  · rw [e2]; exact h1.2
  · rw [e2]; intro e3; have : ad.block = k := by injection e3
    omega
theorem Wr.lt {T E : TypeId} {w : World} {g n c : Nat} {A : Option Addr} {ys : List Nat} (h : Wr T E w g A n c ys) : g < w.heap.size := lt_of_block h.blk
theorem Wr.stored {T E : TypeId} {w w1 : World} {g n c n' c' : Nat} {A A' : Option Addr} {ys zs : List Nat} (h : Wr T E w g A n c ys) (hs : Stp w w1 (.slice A n c) (.slice A' n' c')) (ho : w1.ownsRow (g + 1) E 1 (.slice A' n' c') n' (bs zs)) :
    Wr T E (w1.setCell ⟨g, 0, none⟩ (.slice A' n' c')) g A' n' c' zs ∧ WStp w (w1.setCell ⟨g, 0, none⟩ (.slice A' n' c')) g (.slice A n c) (.slice A' n' c') := by
  have hb : w1.heap[g]? = some (.cells #[.slice A n c] T (0, 0)) := (hs.grow.block g h.lt (fun e => by have := own_ge h.own g e.symm; omega)).trans h.blk
  exact ⟨⟨one_setCell hb, ownsRow_setCell_below ho (by simp) _⟩, (WStp.of g hs).trans (WStp.store _ _ _ _ _)⟩
theorem Wr.kept {T E : TypeId} {w w1 : World} {g n c : Nat} {A : Option Addr} {ys : List Nat} (h : Wr T E w g A n c ys) (hb : Below w.heap.size w w1) : Wr T E w1 g A n c ys :=
  ⟨(hb.block g h.lt).trans h.blk, own_below h.own hb (own_lt h.own)⟩
def WPost (T E : TypeId) (g : Nat) (v : Value) (ys : List Nat) (w : World) (e : Ending) (w' : World) : Prop :=
  ∃ A n c, e = .returned (.int .i64 0) ∧ Wr T E w' g A n c ys ∧ WStp w w' g v (.slice A n c)
set_option maxRecDepth 100000 in
theorem wraw_any (g : Nat) (A : Option Addr) (n c : Nat) (ys : List Nat) (w : World) (h : Wr 115 5 w g A n c ys) (hn : n ≤ 100000)
    (B : Nat) (bA : Option Addr) (bn bc : Nat) (l : List Nat) (hl : Rd w B 1 bA bn (bs l)) (hbn : bn ≤ 100000) :
    Calls Tryz.prog 182 #[.pointer (some ⟨g, 0, none⟩), .slice bA bn bc] w (WPost 115 5 g (.slice A n c) (ys ++ l) w) := by
  have hc := cell_of_one h.blk
  have hg := h.lt
  obtain ⟨i0, hi, hz0, hz1, hz2⟩ := info_parts Tryz.info5
  have hm1 : n + bn ≤ maxLen := by unfold maxLen; omega
  have hm2 : (n + bn) * 1 ≤ 140737488355328 := by omega
  have ho := h.own
  go_enter Tryz.func182, Tryz.ntmps182
  go_wp2_with (at_builtin; (refine wpList_app rfl _ _ 22 rfl (g + 1) 5 i0 (.int .u8 0) 1 1 Tryz.underlying22 hi hz0 hz1 hz2 rfl (by decide) (.slice A n c) n (bs ys) rfl ho B bA bn bc (bs l) rfl hl (bs_one _) hm1 hm2 hg ?_); intro v' w1 hown' hst; rw [← bs_append] at hown'; obtain ⟨A2, c2, rfl, _⟩ := own_form hown'; have hw := h.stored hst hown'; have hb1 := (hst.grow.block g hg (fun e => by have := own_ge ho g e.symm; omega)).trans h.blk; have hf1 := free_of_one hb1; have hc1 := cell_of_one hb1)
  go_ret
  exact ⟨A2, _, c2, rfl, hw.1, hw.2⟩
set_option maxRecDepth 100000 in
theorem wtext_any (g : Nat) (A : Option Addr) (n c : Nat) (ys : List Nat) (w : World) (h : Wr 115 5 w g A n c ys) (hn : n ≤ 100000)
    (B : Nat) (bA : Option Addr) (bn bc : Nat) (l : List Nat) (hl : Rd w B 1 bA bn (bs l)) (hbn : bn ≤ 100000) (hB : B ≤ w.heap.size) (ha : Away g (.slice A n c) bA bn) :
    Calls Tryz.prog 138 #[.pointer (some ⟨g, 0, none⟩), .slice bA bn bc] w (WPost 115 5 g (.slice A n c) (ys ++ enc bn ++ l) w) := by
  have hc := cell_of_one h.blk
  have hg := h.lt
  obtain ⟨i0, hi, hz0, hz1, hz2⟩ := info_parts Tryz.info5
  have ho := h.own
  have ht := enc_ten (v := bn) (by omega)
  have hyl : (bs ys).length = n := by have := ho.1; omega
  have S := stand_any (g + 1) A n c (bs ys) bn w (by omega) ho hg (by omega)
  go_enter Tryz.func138, Tryz.ntmps138
  go_wp2_with fail
  refine S.mono ?_
  rintro e w1 ⟨A1, n1, c1, rfl, ho1, hs1⟩
  rw [← bs_append] at ho1
  have hn1 : n1 = n + (enc bn).length := by have := ho1.1; rw [bs_length, List.length_append] at this; rw [bs_length] at hyl; omega
  have hm1 : n1 + bn ≤ maxLen := by unfold maxLen; omega
  have hm2 : (n1 + bn) * 1 ≤ 140737488355328 := by omega
  have hl1 := hl.wstp hB ha (WStp.of g hs1)
  have hg1 : g + 1 ≤ w1.heap.size := by have := hs1.grow.size; omega
  clear hn1 S
  go_wp2_with (at_builtin; (refine wpList_app rfl _ _ 22 rfl (g + 1) 5 i0 (.int .u8 0) 1 1 Tryz.underlying22 hi hz0 hz1 hz2 rfl (by decide) (.slice A1 n1 c1) n1 (bs (ys ++ enc bn)) rfl ho1 B bA bn bc (bs l) rfl hl1 (bs_one _) hm1 hm2 hg1 ?_); intro v' w2 hown' hst; rw [← bs_append] at hown'; obtain ⟨A2, c2, rfl, _⟩ := own_form hown'; have hw := h.stored (hs1.trans hst) hown'; have hb1 := ((hs1.trans hst).grow.block g hg (fun e => by have := own_ge ho g e.symm; omega)).trans h.blk; have hf1 := free_of_one hb1; have hc1 := cell_of_one hb1)
  go_ret
  exact ⟨A2, _, c2, rfl, hw.1, hw.2⟩
theorem wbytes_any (g : Nat) (A : Option Addr) (n c : Nat) (ys : List Nat) (w : World) (h : Wr 115 5 w g A n c ys) (hn : n ≤ 100000) :
    Calls Tryz.prog 51 #[.pointer (some ⟨g, 0, none⟩)] w (Made 5 ys w) := by
  have hc := cell_of_one h.blk
  have C := clone_any w.heap.size A n c ys w (Rd.own h.own) (by omega) (Nat.le_refl _)
  go_enter Tryz.func51, Tryz.ntmps51
  go_wp2_with (go_at_call 58; refine C.mono ?_; rintro e w1 ⟨A1, c1, rfl, ho1, hb1⟩)
  go_ret
  exact ⟨A1, c1, rfl, ho1, hb1⟩
def encs (l : List Nat) : List Nat := l.flatMap enc
theorem encs_snoc (l : List Nat) (x : Nat) : encs (l ++ [x]) = encs l ++ enc x := by simp [encs]
theorem encs_le (l : List Nat) (h : ∀ x ∈ l, (x : Int) ≤ 18446744073709551615) : (encs l).length ≤ 10 * l.length := by
  induction l with
  | nil => simp [encs]
  | cons x l ih =>
    have h1 := ih (fun y hy => h y (List.mem_cons_of_mem _ hy))
    have h2 := enc_ten (v := x) (by have := h x (List.mem_cons_self ..); omega)
    simp only [encs, List.flatMap_cons, List.length_append, List.length_cons] at *
    omega
theorem Rd.num {w : World} {B n : Nat} {A : Option Addr} {l : List Nat} (h : Rd w B 1 A n (us l)) {k : Nat} (hk : k < n) : ∃ ad x, A = some ad ∧ l[k]? = some x ∧ w.cell? (ad.add k) = some (.int .u64 ((x : Nat) : Int)) := by
  obtain ⟨ad, e, hb, hc⟩ := h.lies (by omega)
  have hl : k < l.length := by have := h.len; rw [us_length] at this; omega
  exact ⟨ad, l[k], e, List.getElem?_eq_getElem hl, hc k _ (by simp [us, List.getElem?_eq_getElem hl])⟩
set_option maxRecDepth 100000 in
set_option maxHeartbeats 800000 in
theorem wnumber_any (g : Nat) (A : Option Addr) (n c : Nat) (ys : List Nat) (w : World) (h : Wr 115 5 w g A n c ys) (hn : n ≤ 100000)
    (B : Nat) (lA : Option Addr) (ln lc : Nat) (l : List Nat) (hl : Rd w B 1 lA ln (us l)) (h64 : ∀ x ∈ l, (x : Int) ≤ 18446744073709551615) (hln : ln ≤ 100000) (hB : B ≤ w.heap.size) (ha : Away g (.slice A n c) lA ln) :
    Calls Tryz.prog 108 #[.pointer (some ⟨g, 0, none⟩), .slice lA ln lc] w (WPost 115 5 g (.slice A n c) (ys ++ encs l) w) := by
  have hll : l.length = ln := by have := hl.len; rw [us_length] at this; omega
  have hyl : ys.length = n := by have := h.own.1; rw [bs_length] at this; omega
  have HLL := Lib_hid hll
  have HYL := Lib_hid hyl
  have H64 := Lib_hid h64
  clear hll hyl h64
  go_enter Tryz.func108, Tryz.ntmps108
  go_wp2
  go_loopw [11] (fun i wr => ∃ (k : Nat) (A' : Option Addr) (n' c' : Nat), i = .int .i64 k ∧ k ≤ ln ∧ Wr 115 5 wr g A' n' c' (ys ++ encs (l.take k)) ∧ WStp w wr g (.slice A n c) (.slice A' n' c')) (fun i _ => ln - (intOf i).toNat)
  case atStart => exact ⟨0, A, n, c, rfl, Nat.zero_le _, by simpa [encs] using h, WStp.refl _ _ _⟩
  case round =>
    obtain ⟨k, A', n', c', rfl, hk, hw, hs⟩ := hrel
    by_cases hlt : k < ln
    · obtain ⟨ad, x, rfl, hx, hcell⟩ := (hl.wstp hB ha hs).num hlt
      have hc := cell_of_one hw.blk
      have hg := hw.lt
      have hx64 := H64.out x (List.mem_of_getElem? hx)
      have hn' : n' ≤ 1100000 := by
        have h1 := hw.own.1
        rw [bs_length, List.length_append] at h1
        have h2 := encs_le (l.take k) (fun y hy => H64.out y (List.mem_of_mem_take hy))
        rw [List.length_take] at h2
        have := HYL.out
        omega
      have S := stand_any (g + 1) A' n' c' (bs (ys ++ encs (l.take k))) x wr hx64 hw.own hg (by omega)
      have htk : Hid (l.take (k + 1) = l.take k ++ [x]) := by unfold Hid; rw [List.take_add_one, hx]; rfl
      clear hx
      go_wp2_with (go_at_call 172; refine S.mono ?_; rintro e w1 ⟨A1, n1, c1, rfl, ho1, hs1⟩; rw [← bs_append] at ho1; have hst := hw.stored hs1 ho1; have hb1 := (hs1.grow.block g hg (fun e => by have := own_ge hw.own g e.symm; omega)).trans hw.blk; have hf1 := free_of_one hb1; have hc1 := cell_of_one hb1)
      go_roundw
      case rel => exact ⟨k + 1, A1, n1, c1, by go_num, by omega, by rw [htk.out, encs_snoc, ← List.append_assoc]; exact hst.1, hs.trans hst.2⟩
      case measure => simp [intOf]; omega
    · obtain rfl : k = ln := by omega
      go_wp2
      go_ret
      rw [List.take_of_length_le (by have := HLL.out; omega)] at hw
      exact ⟨A', n', c', rfl, hw, hs⟩
end Go.Proofs.YtdmoknnnlfkfoaaGreatDoor

namespace Go.Proofs.YtdmoknnnlfkfoaaGreatDoor
open Go Go.RowKit
set_option linter.unusedVariables false
inductive Shp (E : TypeId) (w : World) (lo : Nat) : V → Prop
  | mk (k : Int) (a b : Nat) (A : Option Addr) (c : Nat) (ps : List V) : (0 < ps.length → ∃ (g : Nat) (arr : Array Value), A = some ⟨g, 0, none⟩ ∧ lo ≤ g ∧ w.heap[g]? = some (.cells arr E (0, 0)) ∧
      ∀ (i : Nat) (p : V), ps[i]? = some p → (∃ z, arr[i * 4]? = some (.int .i64 z)) ∧ (∃ z, arr[i * 4 + 1]? = some (.int .u64 z)) ∧ (∃ z, arr[i * 4 + 2]? = some (.int .u64 z)) ∧ arr[i * 4 + 3]? = some p.sl) →
      (∀ p, p ∈ ps → Shp E w lo p) → Shp E w lo (.node k a b A c ps)
section
variable {E : TypeId} {w w' : World} {lo lo' : Nat} {v : V}
theorem Shp.keep (h : Shp E w lo v) (hk : ∀ g, lo ≤ g → g < w.heap.size → w'.heap[g]? = w.heap[g]?) : Shp E w' lo v := by
  induction h with
  | mk k a b A c ps h1 _ ih =>
    refine .mk k a b A c ps (fun hn => ?_) ih
    obtain ⟨g, arr, e, hg, hb, hc⟩ := h1 hn
    exact ⟨g, arr, e, hg, (hk g hg (Array.getElem?_eq_some_iff.1 hb).1).trans hb, hc⟩
theorem Shp.under (h : Shp E w lo v) (hb : Below w.heap.size w w') : Shp E w' lo v := h.keep fun g _ hg => hb.block g hg
theorem Shp.more (h : Shp E w lo v) (hl : lo' ≤ lo) : Shp E w lo' v := by
  induction h with
  | mk k a b A c ps h1 _ ih =>
    refine .mk k a b A c ps (fun hn => ?_) ih
    obtain ⟨g, arr, e, hg, hb, hc⟩ := h1 hn
    exact ⟨g, arr, e, Nat.le_trans hl hg, hb, hc⟩
theorem Shp.aside (h : Shp E w lo v) {g i : Nat} (hg : g < lo) (x : Value) : Shp E (w.setCell ⟨g, i, none⟩ x) lo v :=
  h.keep fun k hk _ => Below.heap_setCell w ⟨g, i, none⟩ x k (by show k ≠ g; omega)
theorem Shp.over (h : Shp E w lo v) {g i : Nat} {x : Value} (hx : (∃ j, i = j * 4 ∧ ∃ z, x = .int .i64 z) ∨ (∃ j, i = j * 4 + 1 ∧ ∃ z, x = .int .u64 z)) : Shp E (w.setCell ⟨g, i, none⟩ x) lo v := by
  induction h with
  | mk k a b A c ps h1 _ ih =>
    refine .mk k a b A c ps (fun hn => ?_) ih
    obtain ⟨g', arr, e, hg, hb, hc⟩ := h1 hn
    by_cases hgg : g' = g
    · subst hgg
      refine ⟨g', arr.setIfInBounds i x, e, hg, Joins.block_setCell hb x, fun j p hp => ?_⟩
      obtain ⟨⟨z0, c0⟩, ⟨z1, c1⟩, ⟨z2, c2⟩, c3⟩ := hc j p hp
      have key : ∀ m u, arr[m]? = some u → i ≠ m → (arr.setIfInBounds i x)[m]? = some u := fun m u hm hne => by
        rw [Array.getElem?_setIfInBounds, if_neg hne]; exact hm
      have same : ∀ u, arr[i]? = some u → (arr.setIfInBounds i x)[i]? = some x := fun u hu => by
        rw [Array.getElem?_setIfInBounds, if_pos rfl, if_pos (Array.getElem?_eq_some_iff.1 hu).1]
      refine ⟨?_, ?_, ?_, ?_⟩
      · by_cases h0 : i = j * 4
        · subst h0
          rcases hx with ⟨j', _, z, rfl⟩ | ⟨j', hj, _⟩
          · exact ⟨z, same _ c0⟩
          · omega
        · exact ⟨z0, key _ _ c0 h0⟩
      · by_cases h0 : i = j * 4 + 1
        · subst h0
          rcases hx with ⟨j', hj, _⟩ | ⟨j', _, z, rfl⟩
          · omega
          · exact ⟨z, same _ c1⟩
        · exact ⟨z1, key _ _ c1 h0⟩
      · exact ⟨z2, key _ _ c2 (by rcases hx with ⟨j', hj, _⟩ | ⟨j', hj, _⟩ <;> omega)⟩
      · exact key _ _ c3 (by rcases hx with ⟨j', hj, _⟩ | ⟨j', hj, _⟩ <;> omega)
    · exact ⟨g', arr, e, hg, (Below.heap_setCell w ⟨g, i, none⟩ x g' hgg).trans hb, hc⟩
theorem Shp.own {A : Option Addr} {c base : Nat} {us : List V} (k : Int) (a b : Nat) (h : w.ownsRow base E 4 (.slice A us.length c) us.length (vCells us)) (hb : lo ≤ base) (hu : ∀ u ∈ us, Shp E w lo u) : Shp E w lo (.node k a b A c us) := by
  refine .mk k a b A c us (fun hn => ?_) hu
  rcases h.2 with ⟨h0, _⟩ | ⟨g, cap, cur, hv, hbg, hh, _⟩
  · exfalso
    injection h0 with _ h0
    omega
  · have hA : A = some ⟨g, 0, none⟩ := by injection hv
    have hcap : c = cap := by injection hv
    subst hA hcap
    refine ⟨g, cur, rfl, Nat.le_trans hb hbg, hh, fun i p hp => ?_⟩
    have hi := (List.getElem?_eq_some_iff.1 hp).1
    have hc : ∀ j u, j < 4 → p.cells[j]? = some u → cur[i * 4 + j]? = some u := fun j u hj hu => by
      have := h.cellAt (g := g) (i * 4 + j) (by omega)
      rw [vCells_get us i j p hp hj, hu] at this
      simpa [World.cell?, hh] using this
    exact ⟨⟨_, hc 0 _ (by omega) rfl⟩, ⟨_, hc 1 _ (by omega) rfl⟩, ⟨_, hc 2 _ (by omega) rfl⟩, hc 3 _ (by omega) rfl⟩
theorem Shp.part {p : V} (h : Shp E w lo v) (hp : p ∈ v.parts) : Shp E w lo p := by
  cases h with
  | mk k a b A c ps h1 h2 => exact h2 p hp
theorem Shp.nth {k : Int} {a b c i : Nat} {A : Option Addr} {ps : List V} {p : V} (h : Shp E w lo (.node k a b A c ps)) (hp : ps[i]? = some p) : ∃ g, A = some ⟨g, 0, none⟩ ∧ lo ≤ g ∧ g < w.heap.size ∧ Shp E w lo p ∧ (∀ j, w.frozen? ⟨g, j, none⟩ = false) ∧
    (∃ z, w.cell? ⟨g, i * 4, none⟩ = some (.int .i64 z)) ∧ (∃ z, w.cell? ⟨g, i * 4 + 1, none⟩ = some (.int .u64 z)) ∧ (∃ z, w.cell? ⟨g, i * 4 + 2, none⟩ = some (.int .u64 z)) ∧ w.cell? ⟨g, i * 4 + 3, none⟩ = some p.sl := by
  cases h with
  | mk k a b A c ps h1 h2 =>
    obtain ⟨g, arr, e, hg, hb, hc⟩ := h1 (by have := (List.getElem?_eq_some_iff.1 hp).1; omega)
    obtain ⟨⟨z0, c0⟩, ⟨z1, c1⟩, ⟨z2, c2⟩, c3⟩ := hc i p hp
    have key : ∀ m u, arr[m]? = some u → w.cell? ⟨g, m, none⟩ = some u := fun m u hm => by simp [World.cell?, hb, hm]
    exact ⟨g, e, hg, (Array.getElem?_eq_some_iff.1 hb).1, h2 p (List.mem_of_getElem? hp), fun j => by simp [World.frozen?, hb], ⟨z0, key _ _ c0⟩, ⟨z1, key _ _ c1⟩, ⟨z2, key _ _ c2⟩, key _ _ c3⟩
end
end Go.Proofs.YtdmoknnnlfkfoaaGreatDoor

namespace Go.Proofs.YtdmoknnnlfkfoaaGreatDoor
open Go Go.RowKit
set_option linter.unusedVariables false
theorem Shp.keepL {E : TypeId} {w w' : World} {lo hi : Nat} : ∀ u : V, Lies w lo hi u → Shp E w lo u → (∀ g, lo ≤ g → g < hi → w'.heap[g]? = w.heap[g]?) → Shp E w' lo u := by
  refine V.ind fun k a b A c ps ih hL hS hk => ?_
  have hrd := hL.top.2.2.2.2.2
  have hps : ∀ p ∈ ps, Shp E w' lo p := fun p hp => ih p hp (hL.part hp) (hS.part hp) hk
  cases hS with
  | mk k a b A c ps h1 h2 =>
    refine .mk k a b A c ps (fun hn => ?_) hps
    obtain ⟨g, arr, e, hg, hb, hc⟩ := h1 hn
    obtain ⟨ad, e2, hlt, _⟩ := hrd.lies hn
    have e3 : A = some ad := e2
    rw [e] at e3
    injection e3 with e3
    subst e3
    exact ⟨g, arr, e, hg, (hk g hg hlt).trans hb, hc⟩
theorem below_like4 {B : Nat} {a b b' : World} (h : Below B a b) (e1 : b'.os = b.os) (e2 : b'.tape = b.tape) (e3 : b'.output = b.output) (e4 : b'.heap = b.heap) : Below B a b' :=
  ⟨e1.trans h.os, e2.trans h.tape, e3.trans h.output, by rw [e4]; exact h.size, fun i hi => by rw [e4]; exact h.block i hi⟩
structure TRow (E : TypeId) (B : Nat) (v : Value) (us : List V) (w : World) : Prop where
  own : w.ownsRow B E 4 v us.length (vCells us)
  el : ∀ u ∈ us, ∃ lo hi, B ≤ lo ∧ hi ≤ w.heap.size ∧ Lies w lo hi u ∧ Shp E w lo u ∧ ∀ g, v.ownBlock = some g → g < lo ∨ hi ≤ g
section
variable {E : TypeId} {B : Nat} {v : Value} {us : List V} {w : World}
theorem TRow.nil (E : TypeId) (B : Nat) (w : World) : TRow E B (.slice none 0 0) [] w := ⟨World.ownsRow_nil _ _ _ _, by simp⟩
theorem TRow.keep {w' : World} (h : TRow E B v us w) (hs : w.heap.size ≤ w'.heap.size) (hk : ∀ g, B ≤ g → g < w.heap.size → w'.heap[g]? = w.heap[g]?) : TRow E B v us w' := by
  refine ⟨own_keep h.own fun k hk' => hk k (own_ge h.own k hk') (own_lt h.own k hk'), fun u hu => ?_⟩
  obtain ⟨lo, hi, h1, h2, h3, h4, h5⟩ := h.el u hu
  exact ⟨lo, hi, h1, Nat.le_trans h2 hs, h3.keep fun p hp hp2 => World.cell?_of_block (hk _ (Nat.le_trans h1 hp) (Nat.lt_of_lt_of_le hp2 h2)), Shp.keepL u h3 h4 fun g hg hg2 => hk g (Nat.le_trans h1 hg) (Nat.lt_of_lt_of_le hg2 h2), h5⟩
theorem TRow.under {w' : World} (h : TRow E B v us w) (hb : Below w.heap.size w w') : TRow E B v us w' := h.keep hb.size fun g _ hg => hb.block g hg
theorem TRow.push {w2 w3 w4 : World} {v' : Value} {u : V} (h : TRow E B v us w) (hB : B ≤ w.heap.size) (hb : Below w.heap.size w w2) (hL : Lies w2 w.heap.size w2.heap.size u) (hS : Shp E w2 w.heap.size u)
    (hb3 : Below w2.heap.size w2 w3) (hst : Stp w3 w4 v v') (ho : w4.ownsRow B E 4 v' (us.length + 1) (vCells us ++ vCells [u])) : TRow E B v' (us ++ [u]) w4 := by
  have hlt := own_lt h.own
  have hs2 := hb.size
  have hs3 := hb3.size
  have hs4 := hst.grow.size
  have hrow : ∀ lo hi, (∀ g, v.ownBlock = some g → g < lo ∨ hi ≤ g) → hi ≤ w3.heap.size → ∀ g, v'.ownBlock = some g → g < lo ∨ hi ≤ g := by
    intro lo hi hv hh g hg
    rcases hst.row with e | ⟨k, e, hk⟩
    · exact hv g (e ▸ hg)
    · rw [e] at hg; injection hg with hg; omega
  have hkeep : ∀ lo hi, (∀ g, v.ownBlock = some g → g < lo ∨ hi ≤ g) → hi ≤ w3.heap.size → ∀ g, lo ≤ g → g < hi → w4.heap[g]? = w3.heap[g]? := by
    intro lo hi hv hh g h1 h2
    refine hst.grow.block g (by omega) fun e => ?_
    rcases hv g e.symm with h | h <;> omega
  refine ⟨by rw [List.length_append, vCells_append]; exact ho, fun x hx => ?_⟩
  rcases List.mem_append.1 hx with hx | hx
  · obtain ⟨lo, hi, h1, h2, h3, h4, h5⟩ := h.el x hx
    have hk : ∀ g, lo ≤ g → g < hi → w4.heap[g]? = w.heap[g]? := fun g g1 g2 => (hkeep lo hi h5 (by omega) g g1 g2).trans ((hb3.block g (by omega)).trans (hb.block g (by omega)))
    exact ⟨lo, hi, h1, by omega, h3.keep fun p hp hp2 => World.cell?_of_block (hk _ hp hp2), Shp.keepL x h3 h4 hk, hrow lo hi h5 (by omega)⟩
  · obtain rfl : x = u := by simpa using hx
    have hv : ∀ g, v.ownBlock = some g → g < w.heap.size ∨ w2.heap.size ≤ g := fun g hg => .inl (hlt g hg)
    have hk : ∀ g, w.heap.size ≤ g → g < w2.heap.size → w4.heap[g]? = w2.heap[g]? := fun g g1 g2 => (hkeep _ _ hv (by omega) g g1 g2).trans (hb3.block g (by omega))
    exact ⟨w.heap.size, w2.heap.size, hB, by omega, hL.keep fun p hp hp2 => World.cell?_of_block (hk _ hp hp2), Shp.keepL x hL hS hk, hrow _ _ hv (by omega)⟩
theorem TRow.tree {A : Option Addr} {n c : Nat} {k : Int} {a b : Nat} (h : TRow E B (.slice A n c) us w) (hk : -9223372036854775808 ≤ k ∧ k ≤ 9223372036854775807) (ha : a < 18446744073709551616) (hb : b < 18446744073709551616) :
    n = us.length ∧ Lies w B w.heap.size (.node k a b A c us) ∧ Shp E w B (.node k a b A c us) := by
  have hn : n = us.length := by
    obtain ⟨A2, c2, e, _⟩ := own_form h.own
    injection e
  subst hn
  refine ⟨rfl, .mk k a b A c us hk ha hb (Rd.own h.own) (own_cap h.own) (fun ad e hn => ?_) fun p hp => ?_, Shp.own k a b h.own (Nat.le_refl _) fun u hu => ?_⟩
  · subst e
    obtain ⟨g, cap, hv, _, _⟩ := h.own.form hn
    have e : ad = ⟨g, 0, none⟩ := by injection hv with e; injection e
    subst e
    exact own_ge h.own g rfl
  · obtain ⟨lo, hi, h1, h2, h3, _⟩ := h.el p hp
    exact h3.more h1 h2
  · obtain ⟨lo, hi, h1, h2, _, h4, _⟩ := h.el u hu
    exact h4.more h1
end
def MadeT (E : TypeId) (t : T) (w : World) (e : Ending) (w' : World) : Prop :=
  ∃ u : V, e = .returned u.val ∧ u.abs = t ∧ Lies w' w.heap.size w'.heap.size u ∧ Shp E w' w.heap.size u ∧ Below w.heap.size w w'
end Go.Proofs.YtdmoknnnlfkfoaaGreatDoor
