/-
  Plain arithmetic of numbers in base 128, for every natural number: the bytes as which a number stands, and what follows of them. No program is named here.
-/
import GoSem.Claim
namespace Go.Proofs.YtbcadnkdehknoaaGreatDoor

/-- The bytes as which a number stands. -/
def enc (v : Nat) : List Nat := if v < 128 then [v] else (v % 128 + 128) :: enc (v / 128)
termination_by v
decreasing_by omega

theorem enc_lt {v : Nat} (h : v < 128) : enc v = [v] := by rw [enc, if_pos h]
theorem enc_ge {v : Nat} (h : 128 ≤ v) : enc v = (v % 128 + 128) :: enc (v / 128) := by rw [enc, if_neg (by omega)]

theorem enc_pos (v : Nat) : 1 ≤ (enc v).length := by
  by_cases h : v < 128
  · rw [enc_lt h]; simp
  · rw [enc_ge (by omega)]; simp

theorem enc_byte (v : Nat) : ∀ c ∈ enc v, c < 256 := by
  induction v using Nat.strongRecOn with
  | ind v ih =>
    intro c hc
    by_cases h : v < 128
    · rw [enc_lt h] at hc; simp at hc; omega
    · rw [enc_ge (by omega)] at hc
      rcases List.mem_cons.1 hc with h1 | h1
      · omega
      · exact ih (v / 128) (by omega) c h1

/-- A number below 128 to the k has at most k bytes. -/
theorem enc_le (k : Nat) : ∀ v, v < 128 ^ (k + 1) → (enc v).length ≤ k + 1 := by
  induction k with
  | zero => intro v h; rw [enc_lt (by simpa using h)]; simp
  | succ k ih =>
    intro v h
    by_cases h1 : v < 128
    · rw [enc_lt h1]; simp
    · rw [enc_ge (by omega)]
      have := ih (v / 128) (by rw [Nat.pow_succ] at h; exact Nat.div_lt_of_lt_mul (by omega))
      simp only [List.length_cons]; omega

theorem enc_ten {v : Nat} (h : v < 18446744073709551616) : (enc v).length ≤ 10 := enc_le 9 v (Nat.lt_of_lt_of_le h (by decide))

theorem enc_mono (v : Nat) : ∀ w, v ≤ w → (enc v).length ≤ (enc w).length := by
  induction v using Nat.strongRecOn with
  | ind v ih =>
    intro w h
    by_cases h1 : v < 128
    · rw [enc_lt h1]; exact enc_pos w
    · rw [enc_ge (v := v) (by omega), enc_ge (v := w) (by omega)]
      have := ih (v / 128) (by omega) (w / 128) (Nat.div_le_div_right h)
      simp only [List.length_cons]; omega

/-- No number's bytes begin with another one's. -/
theorem enc_prefix (v : Nat) : ∀ w n, n = min (enc v).length (enc w).length → ((enc v).take n = (enc w).take n ↔ v = w) := by
  induction v using Nat.strongRecOn with
  | ind v ih =>
    intro w n hn
    have p := enc_pos v
    have q := enc_pos w
    by_cases h1 : v < 128
    · by_cases h2 : w < 128
      · rw [enc_lt h1, enc_lt h2] at *
        simp at hn; subst hn; simp
      · rw [enc_lt h1, enc_ge (v := w) (by omega)] at *
        obtain ⟨m, rfl⟩ : ∃ m, n = m + 1 := ⟨n - 1, by omega⟩
        simp; omega
    · by_cases h2 : w < 128
      · rw [enc_lt h2, enc_ge (v := v) (by omega)] at *
        obtain ⟨m, rfl⟩ : ∃ m, n = m + 1 := ⟨n - 1, by omega⟩
        simp; omega
      · rw [enc_ge (v := v) (by omega), enc_ge (v := w) (by omega)] at *
        obtain ⟨m, rfl⟩ : ∃ m, n = m + 1 := ⟨n - 1, by omega⟩
        have := ih (v / 128) (by omega) (w / 128) m (by simp at hn; omega)
        simp only [List.take_succ_cons, List.cons.injEq]
        rw [this]
        omega

/-- How many of the first bytes, from a list's head on, are 128 or more, at most k. -/
def lead : Nat → List Nat → Nat
  | 0, _ => 0
  | _, [] => 0
  | k + 1, c :: r => if 128 ≤ c then lead k r + 1 else 0

/-- The number that the first bytes make, the lowest first. -/
def val : List Nat → Nat
  | [] => 0
  | c :: r => c % 128 + 128 * val r

theorem val_enc (v : Nat) : val (enc v) = v := by
  induction v using Nat.strongRecOn with
  | ind v ih =>
    by_cases h : v < 128
    · rw [enc_lt h]; simp [val]; omega
    · rw [enc_ge (by omega)]; simp only [val]; rw [ih (v / 128) (by omega)]; omega

/-- The answer of Get to the bytes l from a place on: the number and how many bytes it has, or the error's number (4: short; 10: none's). -/
inductive Got | num (v n : Nat) | err (e : Nat)

/-- May c be the last byte, with i bytes ahead of it? -/
def mayEnd (c i : Nat) : Bool := if i = 9 then c == 1 else (c != 0 || i == 0)

/-- From the i-th byte on, with the number v gathered so far. -/
def scan : Nat → Nat → Nat → List Nat → Got
  | 0, _, _, _ => .err 10
  | _ + 1, _, _, [] => .err 4
  | k + 1, i, v, c :: r => if 128 ≤ c then scan k (i + 1) (v + c % 128 * 128 ^ i) r else if mayEnd c i then .num (v + c * 128 ^ i) (i + 1) else .err 10

def got (l : List Nat) : Got := scan 10 0 0 l

/-- The three answers, of what was found from place a on. -/
def ans (a : Nat) : Got → Nat × Nat × Nat
  | .num v k => (v, a + k, 0)
  | .err e => (0, 0, e)

/-- What Get answers of the bytes l from a place on: number, place behind, error. -/
def getS (l : List Nat) (at_ : Int) : Nat × Nat × Nat :=
  if at_ < 0 ∨ (l.length : Int) < at_ then (0, 0, 2) else
    ans at_.toNat (got (l.drop at_.toNat))

/-- So far: what is left to scan gives what all gives. -/
def ScanAt (r : List Nat) (k v : Nat) : Prop := got r = scan (10 - k) k v (r.drop k)
theorem ScanAt.zero (r : List Nat) : ScanAt r 0 0 := rfl
theorem ScanAt.more {r : List Nat} {k v v' : Nat} (h : ScanAt r k v) (hk : k < 10) (hl : k < r.length) (hc : 128 ≤ r.getD k 0) (hv : k < 9 → v' = v + r.getD k 0 % 128 * 128 ^ k) : ScanAt r (k + 1) v' := by
  unfold ScanAt at *
  rw [h]
  have e : r.drop k = r[k] :: r.drop (k + 1) := List.drop_eq_getElem_cons hl
  have e2 : r.getD k 0 = r[k] := by rw [List.getD_eq_getElem?_getD, List.getElem?_eq_getElem hl]; rfl
  rw [e2] at hc hv
  rw [e]
  obtain ⟨m, hm⟩ : ∃ m, 10 - k = m + 1 := ⟨9 - k, by omega⟩
  rw [hm, show 10 - (k + 1) = m by omega]
  simp only [scan, if_pos hc]
  by_cases h9 : k < 9
  · rw [hv h9]
  · obtain rfl : m = 0 := by omega
    rfl
theorem ScanAt.last {r : List Nat} {k v : Nat} (h : ScanAt r k v) (hk : k < 10) (hl : k < r.length) (hc : r.getD k 0 < 128) :
    got r = if mayEnd (r.getD k 0) k then .num (v + r.getD k 0 * 128 ^ k) (k + 1) else .err 10 := by
  have e : r.drop k = r[k] :: r.drop (k + 1) := List.drop_eq_getElem_cons hl
  have e2 : r.getD k 0 = r[k] := by rw [List.getD_eq_getElem?_getD, List.getElem?_eq_getElem hl]; rfl
  rw [e2] at hc ⊢
  unfold ScanAt at h
  rw [h, e]
  obtain ⟨m, hm⟩ : ∃ m, 10 - k = m + 1 := ⟨9 - k, by omega⟩
  rw [hm]
  simp only [scan]
  rw [if_neg (by omega)]
theorem ScanAt.end_ {r : List Nat} {k v : Nat} (h : ScanAt r k v) (hk : k ≤ 10) (hl : k = min r.length 10) : got r = .err (if 10 ≤ r.length then 10 else 4) := by
  unfold ScanAt at h
  by_cases h10 : 10 ≤ r.length
  · obtain rfl : k = 10 := by omega
    rw [h, if_pos h10]; rfl
  · rw [h, if_neg h10, List.drop_eq_nil_of_le (by omega)]
    obtain ⟨m, hm⟩ : ∃ m, 10 - k = m + 1 := ⟨9 - k, by omega⟩
    rw [hm]; rfl

theorem val_take_succ (r : List Nat) : ∀ k, k < r.length → val (r.take (k + 1)) = val (r.take k) + r.getD k 0 % 128 * 128 ^ k := by
  induction r with
  | nil => intro k h; simp at h
  | cons c r ih =>
    intro k h
    cases k with
    | zero => simp [val]
    | succ k =>
      simp only [List.take_succ_cons, val]
      rw [ih k (by simpa using h), Nat.pow_succ]
      simp only [List.getD_cons_succ]
      rw [Nat.mul_add, Nat.add_assoc]
      congr 2
      rw [Nat.mul_comm 128, Nat.mul_assoc]

def AllMore (r : List Nat) (k : Nat) : Prop := ∀ j, j < k → 128 ≤ r.getD j 0
theorem AllMore.zero (r : List Nat) : AllMore r 0 := fun j h => by omega
theorem AllMore.succ {r : List Nat} {k : Nat} (h : AllMore r k) (e : 128 ≤ r.getD k 0) : AllMore r (k + 1) := fun j hj => by
  rcases Nat.lt_or_ge j k with h1 | h1
  · exact h j h1
  · obtain rfl : j = k := by omega
    exact e
theorem AllMore.scan {r : List Nat} (k : Nat) (h : AllMore r k) (hk : k ≤ 10) (hl : k ≤ r.length) : ScanAt r k (val (r.take k)) := by
  induction k with
  | zero => exact ScanAt.zero r
  | succ k ih => exact (ih (fun j hj => h j (by omega)) (by omega) (by omega)).more (by omega) (by omega) (h k (by omega)) (fun _ => val_take_succ r k (by omega))

theorem val_lt (t : List Nat) : val t < 128 ^ t.length := by
  induction t with
  | nil => simp [val]
  | cons c t ih => simp only [val, List.length_cons, Nat.pow_succ]; omega

theorem val_snoc (t : List Nat) (c : Nat) : val (t ++ [c]) = val t + c % 128 * 128 ^ t.length := by
  induction t with
  | nil => simp [val]
  | cons x t ih =>
    simp only [List.cons_append, val, List.length_cons]
    rw [ih, Nat.pow_succ, Nat.mul_add, Nat.add_assoc]
    congr 2
    rw [Nat.mul_comm 128, Nat.mul_assoc]

theorem enc_form (c : Nat) (hc : c < 128) (t : List Nat) : (∀ x ∈ t, 128 ≤ x ∧ x < 256) → (c ≠ 0 ∨ t = []) → enc (val (t ++ [c])) = t ++ [c] := by
  induction t with
  | nil => intro _ _; simp only [List.nil_append, val]; rw [show c % 128 + 128 * 0 = c by omega, enc_lt hc]
  | cons x t ih =>
    intro h h0
    have hc0 : c ≠ 0 := by rcases h0 with h | h; exact h; cases h
    have e := ih (fun y hy => h y (List.mem_cons_of_mem _ hy)) (.inl hc0)
    have hx := h x (List.mem_cons_self ..)
    have hv : 1 ≤ val (t ++ [c]) := by
      rcases Nat.eq_zero_or_pos (val (t ++ [c])) with hz | hz
      · rw [hz, enc_lt (by omega)] at e
        cases t with
        | nil => simp at e; omega
        | cons y t => simp at e
      · exact hz
    simp only [List.cons_append, val]
    rw [enc_ge (by omega), show (x % 128 + 128 * val (t ++ [c])) % 128 + 128 = x by omega, show (x % 128 + 128 * val (t ++ [c])) / 128 = val (t ++ [c]) by omega, e]

theorem enc_last (c : Nat) (t : List Nat) : ∀ v, enc v = t ++ [c] → (c ≠ 0 ∨ t = []) := by
  induction t with
  | nil => intro v h; exact .inr rfl
  | cons x t ih =>
    intro v h
    by_cases hv : v < 128
    · rw [enc_lt hv] at h; simp at h
    · rw [enc_ge (by omega)] at h
      simp only [List.cons_append, List.cons.injEq] at h
      rcases ih _ h.2 with h1 | h1
      · exact .inl h1
      · subst h1
        have h2 := h.2
        by_cases hw : v / 128 < 128
        · rw [enc_lt hw] at h2; simp at h2; left; omega
        · rw [enc_ge (by omega)] at h2; have := enc_pos (v / 128 / 128); simp at h2
          rw [h2.2] at this; simp at this

/-- Bytes that have the form of a number's are a number's just if the last one may be so. -/
theorem form_iff (t : List Nat) (c : Nat) (ht : ∀ x ∈ t, 128 ≤ x ∧ x < 256) (hc : c < 128) (hl : t.length ≤ 9) :
    (mayEnd c t.length = true → val (t ++ [c]) < 18446744073709551616 ∧ enc (val (t ++ [c])) = t ++ [c]) ∧
    (∀ v, v < 18446744073709551616 → enc v = t ++ [c] → mayEnd c t.length = true) := by
  have hs := val_snoc t c
  have hlt := val_lt t
  rw [Nat.mod_eq_of_lt hc] at hs
  constructor
  · intro h
    by_cases h9 : t.length = 9
    · have hc1 : c = 1 := by simpa [mayEnd, h9] using h
      subst hc1
      rw [h9] at hs hlt
      have e9 : 128 ^ 9 = 9223372036854775808 := by decide
      rw [e9] at hs hlt
      exact ⟨by omega, enc_form 1 (by omega) t ht (.inl (by omega))⟩
    · have h0 : c ≠ 0 ∨ t = [] := by
        rcases t with _ | ⟨x, t⟩
        · exact .inr rfl
        · left; intro hz; subst hz; exact absurd h (by unfold mayEnd; rw [if_neg h9]; simp)
      refine ⟨?_, enc_form c hc t ht h0⟩
      have h1 := val_lt (t ++ [c])
      have h2 : 128 ^ (t ++ [c]).length ≤ 128 ^ 9 := Nat.pow_le_pow_right (by decide) (by simp; omega)
      have e9 : 128 ^ 9 = 9223372036854775808 := by decide
      omega
  · intro v hv he
    have h0 := enc_last c t v he
    by_cases h9 : t.length = 9
    · have hval := val_enc v
      rw [he, hs, h9] at hval
      have e9 : 128 ^ 9 = 9223372036854775808 := by decide
      rw [e9] at hval
      have hc0 : c ≠ 0 := by
        rcases h0 with h0 | h0
        · exact h0
        · subst h0; simp at h9
      have : c = 1 := by omega
      subst this
      simp [mayEnd, h9]
    · unfold mayEnd
      rw [if_neg h9]
      rcases h0 with h0 | h0
      · simp [h0]
      · subst h0; simp

/-- What Get answers, by the number of bytes ahead of the last one. -/
theorem got_by {r : List Nat} {k : Nat} (hb : ∀ x ∈ r, x < 256) (h : AllMore r k) (hk : k < 10) (hl : k < r.length) (hc : r.getD k 0 < 128) :
    ∀ v, v = val (r.take (k + 1)) % 18446744073709551616 → got r = if enc v = r.take (k + 1) then .num v (k + 1) else .err 10 := by
  intro v hv
  have e : r.take (k + 1) = r.take k ++ [r.getD k 0] := by
    rw [List.take_succ_eq_append_getElem hl, List.getD_eq_getElem?_getD, List.getElem?_eq_getElem hl]; rfl
  have hlt : (r.take k).length = k := by rw [List.length_take]; omega
  have ht : ∀ x ∈ r.take k, 128 ≤ x ∧ x < 256 := by
    intro x hx
    refine ⟨?_, hb x (List.mem_of_mem_take hx)⟩
    obtain ⟨j, hj, rfl⟩ := List.mem_iff_getElem.1 hx
    have := h j (by omega)
    rw [List.getD_eq_getElem?_getD, List.getElem?_eq_getElem (by omega)] at this
    simpa using this
  have F := form_iff (r.take k) (r.getD k 0) ht hc (by omega)
  rw [hlt] at F
  have L := (h.scan k (by omega) (by omega)).last hk hl hc
  have hs := val_snoc (r.take k) (r.getD k 0)
  rw [hlt, Nat.mod_eq_of_lt hc] at hs
  rw [L, ← hs, e]
  cases hm : mayEnd (r.getD k 0) k with
  | true =>
    obtain ⟨h1, h2⟩ := F.1 hm
    rw [e, Nat.mod_eq_of_lt h1] at hv
    subst hv
    rw [if_pos rfl, if_pos h2]
  | false =>
    rw [if_neg (by simp), if_neg]
    intro he
    have := F.2 v (by rw [hv]; exact Nat.mod_lt _ (by decide)) he
    rw [hm] at this
    cases this
theorem got_ten {r : List Nat} (h : AllMore r 10) (hl : 10 ≤ r.length) : got r = .err 10 := by
  rw [(h.scan 10 (by omega) (by omega)).end_ (by omega) (by omega), if_pos hl]
theorem got_short {r : List Nat} {k : Nat} (h : AllMore r k) (hk : k < 10) (hl : k = r.length) : got r = .err 4 := by
  rw [(h.scan k (by omega) (by omega)).end_ (by omega) (by omega), if_neg (by omega)]

/-- The number from the bytes, the highest first, as the document's Get gathers it. -/
def horn (r : List Nat) (k j : Nat) : Nat := val ((r.take (k + 1)).drop j) % 18446744073709551616
theorem horn_top {r : List Nat} {k : Nat} (h : k < r.length) : horn r k (k + 1) = 0 := by
  unfold horn
  rw [List.drop_eq_nil_of_le (by simp; omega)]
  rfl
theorem horn_step {r : List Nat} {k j : Nat} (h : k < r.length) (hj : j ≤ k) : horn r k j = (horn r k (j + 1) * 128 + r.getD j 0 % 128) % 18446744073709551616 := by
  unfold horn
  have hl : j < (r.take (k + 1)).length := by rw [List.length_take]; omega
  rw [List.drop_eq_getElem_cons hl, List.getElem_take]
  have e2 : r.getD j 0 = r[j] := by rw [List.getD_eq_getElem?_getD, List.getElem?_eq_getElem (by omega)]; rfl
  rw [e2]
  simp only [val]
  omega

end Go.Proofs.YtbcadnkdehknoaaGreatDoor
