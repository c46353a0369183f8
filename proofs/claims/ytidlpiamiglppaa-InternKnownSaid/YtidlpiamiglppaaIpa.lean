/-
  Plain facts of layer 7: names in the order in which they came, their numbers, their order. No program is named here.
-/
import GoSem.Claim
namespace Go.Proofs.Ytidlpiamiglppaa

abbrev PP := Nat × Nat

def addP (l : List PP) (p : PP) : List PP := if p ∈ l then l else l ++ [p]
def addL (l xs : List PP) : List PP := xs.foldl addP l
/-- The last one's number. -/
def lastP (l xs : List PP) : Int := match xs.getLast? with
  | none => -1
  | some p => ((addL l xs).idxOf p : Int)
/-- A name's number, and whether it has one. -/
def numP (l : List PP) (p : PP) : Nat := if p ∈ l then l.idxOf p else 0
def hasP (l : List PP) (p : PP) : Bool := decide (p ∈ l)
def at0 (l : List PP) (k : Nat) : PP := l.getD k (0, 0)

theorem at0_lt {l : List PP} {k : Nat} (h : k < l.length) : at0 l k = l[k] := by unfold at0; rw [List.getD_eq_getElem?_getD, List.getElem?_eq_getElem h]; rfl
theorem at0_mem {l : List PP} {k : Nat} (h : k < l.length) : at0 l k ∈ l := by rw [at0_lt h]; exact List.getElem_mem h
theorem addP_old {l : List PP} {p : PP} (h : p ∈ l) : addP l p = l := if_pos h
theorem addP_new {l : List PP} {p : PP} (h : p ∉ l) : addP l p = l ++ [p] := if_neg h
theorem addL_nil (l : List PP) : addL l [] = l := rfl
theorem addL_snoc (l xs : List PP) (p : PP) : addL l (xs ++ [p]) = addP (addL l xs) p := by simp [addL, List.foldl_append]
theorem take_snoc {l : List PP} {k : Nat} (h : k < l.length) : l.take (k + 1) = l.take k ++ [at0 l k] := by
  rw [List.take_add_one, List.getElem?_eq_getElem h, at0_lt h]; rfl
theorem addL_take (l : List PP) {xs : List PP} {k : Nat} (h : k < xs.length) : addL l (xs.take (k + 1)) = addP (addL l (xs.take k)) (at0 xs k) := by
  rw [take_snoc h, addL_snoc]
theorem addP_mem (l : List PP) (p : PP) : p ∈ addP l p := by
  unfold addP; split
  · assumption
  · simp
theorem addP_sub {l : List PP} {p q : PP} (h : q ∈ l) : q ∈ addP l p := by
  unfold addP; split
  · assumption
  · simp [h]
theorem addP_pre (l : List PP) (p : PP) : l <+: addP l p := by
  unfold addP; split
  · exact List.prefix_refl _
  · exact List.prefix_append _ _
theorem addL_pre (l : List PP) : ∀ xs : List PP, l <+: addL l xs := by
  intro xs
  induction xs generalizing l with
  | nil => exact List.prefix_refl _
  | cons a r ih => exact (addP_pre l a).trans (ih (addP l a))
theorem addP_nodup {l : List PP} (h : l.Nodup) (p : PP) : (addP l p).Nodup := by
  unfold addP; split
  · exact h
  · rename_i hp
    rw [List.nodup_append]
    refine ⟨h, by simp, fun a ha b hb => ?_⟩
    simp only [List.mem_singleton] at hb
    rintro rfl
    exact hp (hb ▸ ha)
theorem addL_nodup {l : List PP} (h : l.Nodup) : ∀ xs : List PP, (addL l xs).Nodup := by
  intro xs
  induction xs generalizing l with
  | nil => exact h
  | cons a r ih => exact ih (addP_nodup h a)
theorem addP_all {Q : PP → Prop} {l : List PP} {p : PP} (h : ∀ q ∈ l, Q q) (hp : Q p) : ∀ q ∈ addP l p, Q q := by
  intro q hq
  unfold addP at hq
  split at hq
  · exact h q hq
  · rcases List.mem_append.1 hq with h1 | h1
    · exact h q h1
    · simp only [List.mem_singleton] at h1; rw [h1]; exact hp
theorem addL_all {Q : PP → Prop} {l : List PP} (h : ∀ q ∈ l, Q q) : ∀ {xs : List PP}, (∀ q ∈ xs, Q q) → ∀ q ∈ addL l xs, Q q := by
  intro xs hx
  induction xs generalizing l with
  | nil => exact h
  | cons a r ih => exact ih (addP_all h (hx a (by simp))) fun q hq => hx q (by simp [hq])
theorem addP_len (l : List PP) (p : PP) : (addP l p).length ≤ l.length + 1 := by unfold addP; split <;> simp
theorem addL_len (l : List PP) : ∀ xs : List PP, (addL l xs).length ≤ l.length + xs.length := by
  intro xs
  induction xs generalizing l with
  | nil => simp [addL]
  | cons a r ih =>
    have := ih (addP l a); have := addP_len l a
    show (addL (addP l a) r).length ≤ _
    simp only [List.length_cons]; omega
theorem lastP_nil (l : List PP) : lastP l [] = -1 := rfl
theorem lastP_snoc (l xs : List PP) (p : PP) : lastP l (xs ++ [p]) = ((addP (addL l xs) p).idxOf p : Int) := by
  unfold lastP; rw [List.getLast?_append, addL_snoc]; rfl
theorem lastP_take (l : List PP) {xs : List PP} {k : Nat} (h : k < xs.length) : lastP l (xs.take (k + 1)) = ((addP (addL l (xs.take k)) (at0 xs k)).idxOf (at0 xs k) : Int) := by
  rw [take_snoc h, lastP_snoc]
theorem idx_new {l : List PP} {p : PP} (h : p ∉ l) : (l ++ [p]).idxOf p = l.length := by rw [List.idxOf_append, if_neg h]; simp
theorem idx_at {l : List PP} (h : l.Nodup) {k : Nat} (hk : k < l.length) : l.idxOf (at0 l k) = k := by
  rw [at0_lt hk]
  have h1 : l.idxOf l[k] < l.length := List.idxOf_lt_length_iff.2 (List.getElem_mem hk)
  have h2 : l[l.idxOf l[k]] = l[k] := List.getElem_idxOf h1
  exact (List.getElem_inj h).1 h2
theorem numP_old {l : List PP} {p : PP} (h : p ∈ l) : numP l p = l.idxOf p := if_pos h
theorem numP_new {l : List PP} {p : PP} (h : p ∉ l) : numP l p = 0 := if_neg h
theorem idx_lt {l : List PP} {p : PP} (h : p ∈ l) : l.idxOf p < l.length := List.idxOf_lt_length_iff.2 h
theorem at_idx {l : List PP} {p : PP} (h : p ∈ l) : at0 l (l.idxOf p) = p := by rw [at0_lt (idx_lt h)]; exact List.getElem_idxOf (idx_lt h)
/-- A search that has met p at k, and not ahead of it. -/
theorem idx_first {l : List PP} {p : PP} {k : Nat} (hk : k < l.length) (he : at0 l k = p) (hn : ∀ j, j < k → at0 l j ≠ p) : p ∈ l ∧ l.idxOf p = k := by
  have hm : p ∈ l := he ▸ at0_mem hk
  refine ⟨hm, ?_⟩
  rcases Nat.lt_trichotomy (l.idxOf p) k with h | h | h
  · exact absurd (at_idx hm) (hn _ h)
  · exact h
  · exfalso
    have := List.not_of_lt_findIdx (p := (· == p)) (xs := l) h
    rw [at0_lt hk] at he
    simp [he] at this
theorem not_mem_at {l : List PP} {p : PP} (hn : ∀ j, j < l.length → at0 l j ≠ p) : p ∉ l := fun h => hn _ (idx_lt h) (at_idx h)

/-! ### The order -/
def lessP (a b : PP) : Bool := decide (a.1 < b.1 ∨ a.1 = b.1 ∧ a.2 < b.2)
theorem lessP_iff {a b : PP} : lessP a b = true ↔ (a.1 < b.1 ∨ a.1 = b.1 ∧ a.2 < b.2) := by unfold lessP; simp
theorem lessP_irrefl (a : PP) : lessP a a = false := by unfold lessP; simp
theorem lessP_trans {a b c : PP} (h : lessP a b = true) (k : lessP b c = true) : lessP a c = true := by rw [lessP_iff] at *; omega
theorem lessP_total {a b : PP} (h : lessP a b = false) (k : lessP b a = false) : a = b := by
  have h' : ¬ (lessP a b = true) := by simp [h]
  have k' : ¬ (lessP b a = true) := by simp [k]
  rw [lessP_iff] at h' k'
  exact Prod.ext (by omega) (by omega)
theorem lessP_asymm {a b : PP} (h : lessP a b = true) : lessP b a = false := by
  cases hb : lessP b a with
  | false => rfl
  | true => have := lessP_trans h hb; rw [lessP_irrefl] at this; cases this

/-- How many are ahead of p. -/
def aheadP (l : List PP) (p : PP) : Nat := l.countP (fun q => lessP q p)
/-- The numbers s, by their names, rising. -/
def IsRising (l : List PP) (s : List Nat) : Prop := s.Perm (List.range l.length) ∧ s.Pairwise (fun i j => lessP (at0 l i) (at0 l j) = true)
/-- Each number stands at the place that the count of those ahead of it tells. -/
def Ranks (l : List PP) (s : List Nat) (m : Nat) : Prop := s.length = l.length ∧ ∀ i, i < m → s[aheadP l (at0 l i)]? = some i

theorem countP_range (l : List PP) (f : PP → Bool) : l.countP f = (List.range l.length).countP (fun j => f (at0 l j)) := by
  have e : l = (List.range l.length).map (at0 l) := by
    apply List.ext_getElem
    · simp
    · intro i h1 h2; simp [at0_lt h1]
  conv => lhs; rw [e]
  rw [List.countP_map]; rfl

theorem aheadP_rising {l : List PP} {s : List Nat} (h : IsRising l s) {k : Nat} (hk : k < s.length) : aheadP l (at0 l s[k]) = k := by
  unfold aheadP
  rw [countP_range, ← List.Perm.countP_eq _ h.1]
  have e : s = s.take k ++ s[k] :: s.drop (k + 1) := by rw [List.getElem_cons_drop, List.take_append_drop]
  have hp := h.2
  generalize s[k] = i at *
  rw [e] at hp ⊢
  rw [List.pairwise_append] at hp
  obtain ⟨_, h2, h3⟩ := hp
  rw [List.pairwise_cons] at h2
  rw [List.countP_append, List.countP_cons]
  have e1 : (s.take k).countP (fun j => lessP (at0 l j) (at0 l i)) = (s.take k).length := List.countP_eq_length.2 fun j hj => h3 j hj i (by simp)
  have e2 : (s.drop (k + 1)).countP (fun j => lessP (at0 l j) (at0 l i)) = 0 := List.countP_eq_zero.2 fun j hj => by rw [lessP_asymm (h2.1 j hj)]; simp
  rw [e1, e2, lessP_irrefl, List.length_take]
  simp; omega

theorem rising_len {l : List PP} {s : List Nat} (h : IsRising l s) : s.length = l.length := by rw [h.1.length_eq, List.length_range]
theorem rising_eq {l : List PP} {s t : List Nat} (h : IsRising l s) (k : Ranks l t l.length) : s = t := by
  apply List.ext_getElem?
  intro j
  by_cases hj : j < s.length
  · have hm : s[j] < l.length := by
      have := h.1.mem_iff.1 (List.getElem_mem hj)
      simpa using this
    have h1 := k.2 _ hm
    rw [aheadP_rising h hj] at h1
    rw [h1, List.getElem?_eq_getElem hj]
  · rw [List.getElem?_eq_none (by omega), List.getElem?_eq_none (by have := rising_len h; have := k.1; omega)]

/-- Some rising row: so the counts are different places. -/
theorem aheadP_lt {l : List PP} {k : Nat} (hk : k < l.length) : aheadP l (at0 l k) < l.length := by
  unfold aheadP
  rcases Nat.lt_or_ge (l.countP (fun q => lessP q (at0 l k))) l.length with h | h
  · exact h
  · have h1 : l.countP (fun q => lessP q (at0 l k)) = l.length := Nat.le_antisymm List.countP_le_length h
    have := List.countP_eq_length.1 h1 _ (at0_mem hk)
    rw [lessP_irrefl] at this; cases this
theorem aheadP_mono {l : List PP} {p q : PP} (h : lessP p q = true) (hp : p ∈ l) : aheadP l p < aheadP l q := by
  unfold aheadP
  obtain ⟨a, b, rfl⟩ := List.append_of_mem hp
  rw [List.countP_append, List.countP_cons, List.countP_append, List.countP_cons, lessP_irrefl, h]
  have h1 : a.countP (fun x => lessP x p) ≤ a.countP (fun x => lessP x q) := List.countP_mono_left fun x _ hx => lessP_trans hx h
  have h2 : b.countP (fun x => lessP x p) ≤ b.countP (fun x => lessP x q) := List.countP_mono_left fun x _ hx => lessP_trans hx h
  simp; omega
theorem aheadP_inj {l : List PP} (hd : l.Nodup) {i j : Nat} (hi : i < l.length) (hj : j < l.length) (h : aheadP l (at0 l i) = aheadP l (at0 l j)) : i = j := by
  have e : at0 l i = at0 l j := by
    cases h1 : lessP (at0 l i) (at0 l j) with
    | true => have := aheadP_mono h1 (at0_mem hi); omega
    | false => cases h2 : lessP (at0 l j) (at0 l i) with
      | true => have := aheadP_mono h2 (at0_mem hj); omega
      | false => exact lessP_total h1 h2
  rw [at0_lt hi, at0_lt hj] at e
  exact (List.getElem_inj hd).1 e
theorem ranks_start (l : List PP) {s : List Nat} (h : s.length = l.length) : Ranks l s 0 := ⟨h, fun i hi => by omega⟩
theorem ranks_step {l : List PP} (hd : l.Nodup) {s : List Nat} {k : Nat} (hk : k < l.length) (h : Ranks l s k) : Ranks l (s.set (aheadP l (at0 l k)) k) (k + 1) := by
  refine ⟨by simp [h.1], fun i hi => ?_⟩
  rw [List.getElem?_set]
  split
  · rename_i e
    have : k = i := aheadP_inj hd hk (by omega) e
    subst this
    rw [if_pos (by have := aheadP_lt hk; have := h.1; omega)]
  · rename_i e
    exact h.2 i (by
      rcases Nat.lt_or_ge i k with h1 | h1
      · exact h1
      · exfalso; apply e; congr 2; omega)
/-- The count, step by step. -/
def aheadK (l : List PP) (p : PP) (k : Nat) : Nat := (l.take k).countP (fun q => lessP q p)
theorem aheadK_zero (l : List PP) (p : PP) : aheadK l p 0 = 0 := rfl
theorem aheadK_all (l : List PP) (p : PP) : aheadK l p l.length = aheadP l p := by unfold aheadK aheadP; rw [List.take_length]
theorem aheadK_yes {l : List PP} {p : PP} {k : Nat} (hk : k < l.length) (h : lessP (at0 l k) p = true) : aheadK l p (k + 1) = aheadK l p k + 1 := by
  unfold aheadK; rw [take_snoc hk, List.countP_append]; simp [h]
theorem aheadK_no {l : List PP} {p : PP} {k : Nat} (hk : k < l.length) (h : lessP (at0 l k) p = false) : aheadK l p (k + 1) = aheadK l p k := by
  unfold aheadK; rw [take_snoc hk, List.countP_append]; simp [h]
theorem aheadK_le (l : List PP) (p : PP) (k : Nat) : aheadK l p k ≤ k := by
  unfold aheadK; exact Nat.le_trans List.countP_le_length (by simp; omega)

end Go.Proofs.Ytidlpiamiglppaa
