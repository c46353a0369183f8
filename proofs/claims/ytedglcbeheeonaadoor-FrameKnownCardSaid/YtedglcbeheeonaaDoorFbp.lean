/-
  What FrameBack rests on: frames that were put are told; bytes that are frames are what Put makes of them; a frame that is spoilt is refused. No program is named here.
-/
import Derived.Test.YtedglcbeheeonaaDoorFsp
namespace Go.Proofs.YtedglcbeheeonaaDoor
open Go Go.RowKit

/-! ### A few bytes side by side -/
theorem digs_inj {c d : Nat} (hc : c < 256) (hd : d < 256) (h : digs c = digs d) : c = d := by
  apply Nat.eq_of_testBit_eq
  intro i
  by_cases hi : i < 8
  · have h1 := digs_get c i
    have h2 := digs_get d i
    rw [h] at h1
    simp only [hi, decide_true, Bool.true_and] at h1 h2
    exact h1.symm.trans h2
  · rw [Nat.testBit_lt_two_pow (x := c) (i := i) (Nat.lt_of_lt_of_le hc (Nat.le_trans (by decide : 256 ≤ 2 ^ 8) (Nat.pow_le_pow_right (by decide) (by omega)))), Nat.testBit_lt_two_pow (x := d) (i := i) (Nat.lt_of_lt_of_le hd (Nat.le_trans (by decide : 256 ≤ 2 ^ 8) (Nat.pow_le_pow_right (by decide) (by omega))))]
theorem digits_inj : ∀ {x y : List Nat}, x.length = y.length → (∀ c ∈ x, c < 256) → (∀ c ∈ y, c < 256) → digits x = digits y → x = y
  | [], [], _, _, _, _ => rfl
  | a :: x, b :: y, hl, hx, hy, h => by
    rw [digits_cons, digits_cons] at h
    obtain ⟨h1, h2⟩ := List.append_inj h (by rw [digs_length, digs_length])
    rw [digs_inj (hx a (by simp)) (hy b (by simp)) h1, digits_inj (by simpa using hl) (fun c hc => hx c (by simp [hc])) (fun c hc => hy c (by simp [hc])) h2]
theorem zip_self (l : List Bool) : List.zipWith (· ^^ ·) l l = List.replicate l.length false := by
  induction l with
  | nil => rfl
  | cons a l ih => rw [List.zipWith_cons_cons, ih]; simp [List.replicate_succ]
theorem zip_true : ∀ {x y : List Bool}, x.length = y.length → x ≠ y → true ∈ List.zipWith (· ^^ ·) x y
  | [], [], _, h => absurd rfl h
  | a :: x, b :: y, hl, h => by
    rw [List.zipWith_cons_cons, List.mem_cons]
    by_cases hab : a = b
    · right
      exact zip_true (by simpa using hl) (fun e => h (by rw [hab, e]))
    · left
      cases a <;> cases b <;> simp_all
theorem burst4 {u x y v : List Nat} (hu : ∀ c ∈ u, c < 256) (hx : ∀ c ∈ x, c < 256) (hy : ∀ c ∈ y, c < 256) (hv : ∀ c ∈ v, c < 256) (hl : x.length = y.length) (h4 : x.length ≤ 4) (hne : x ≠ y) : crcN (u ++ x ++ v) ≠ crcN (u ++ y ++ v) := by
  have b1 : ∀ c ∈ u ++ x ++ v, c < 256 := by
    intro c hc; simp only [List.mem_append] at hc; rcases hc with (hc | hc) | hc
    · exact hu c hc
    · exact hx c hc
    · exact hv c hc
  have b2 : ∀ c ∈ u ++ y ++ v, c < 256 := by
    intro c hc; simp only [List.mem_append] at hc; rcases hc with (hc | hc) | hc
    · exact hu c hc
    · exact hy c hc
    · exact hv c hc
  refine crcN_ne b1 b2 (ccheck_ne (p := (digits u).length) (q := (digits v).length) (d := List.zipWith (· ^^ ·) (digits x) (digits y)) ?_ ?_ ?_ ?_)
  · simp only [digits_length, List.length_append]; omega
  · rw [digits_append, digits_append, digits_append, digits_append, List.zipWith_append (by simp only [List.length_append, digits_length]; omega), List.zipWith_append (by rfl), zip_self, zip_self]
  · rw [List.length_zipWith, digits_length, digits_length]; omega
  · exact zip_true (by rw [digits_length, digits_length, hl]) (fun e => hne (digits_inj hl hx hy e))

/-! ### Frames that were put -/
def plOf : Nat → List (Nat × List Nat) → List (Nat × List Nat × Nat × Nat)
  | _, [] => []
  | a, d :: ds => (d.1, d.2, a, a + (frS d.1 d.2).length) :: plOf (a + (frS d.1 d.2).length) ds
theorem plOf_append : ∀ (l m : List (Nat × List Nat)) (a : Nat), plOf a (l ++ m) = plOf a l ++ plOf (a + (frAll l).length) m
  | [], m, a => by simp [plOf, frAll]
  | d :: l, m, a => by
    rw [List.cons_append, plOf, plOf, plOf_append l m]
    simp [frAll, Nat.add_assoc]
theorem plOf_length : ∀ (l : List (Nat × List Nat)) (a : Nat), (plOf a l).length = l.length
  | [], a => rfl
  | d :: l, a => by rw [plOf, List.length_cons, plOf_length l, List.length_cons]
theorem plOf_get {ds : List (Nat × List Nat)} {i : Nat} {d : Nat × List Nat} (h : ds[i]? = some d) : (plOf 0 ds)[i]? = some (d.1, d.2, (frAll (ds.take i)).length, (frAll (ds.take i)).length + (frS d.1 d.2).length) := by
  have hi := (List.getElem?_eq_some_iff.1 h).1
  have e : ds = ds.take i ++ d :: ds.drop (i + 1) := by
    have e1 : ds[i] = d := (List.getElem?_eq_some_iff.1 h).2
    rw [← e1, ← List.drop_eq_getElem_cons hi, List.take_append_drop]
  have : plOf 0 ds = plOf 0 (ds.take i) ++ plOf (0 + (frAll (ds.take i)).length) (d :: ds.drop (i + 1)) := by rw [← plOf_append, ← e]
  rw [this, List.getElem?_append_right (by rw [plOf_length, List.length_take]; omega), plOf_length, List.length_take, show i - min i ds.length = 0 by omega, Nat.zero_add, plOf]
  rfl

def BytesD (ds : List (Nat × List Nat)) : Prop := ∀ d ∈ ds, d.1 < 256 ∧ (∀ x ∈ d.2, x < 256) ∧ d.2.length ≤ 1000000
theorem at_all (ds : List (Nat × List Nat)) (r : List Nat) (hd : BytesD ds) (hr : ∀ x ∈ r, x < 256) : ∀ i, i ≤ ds.length → At (frAll ds ++ r) (plOf 0 (ds.take i)) (frAll (ds.take i)).length := by
  have hb : ∀ x ∈ frAll ds ++ r, x < 256 := by
    intro x hx
    rcases List.mem_append.1 hx with hx | hx
    · exact frAll_byte (fun d h => ⟨(hd d h).1, (hd d h).2.1⟩) x hx
    · exact hr x hx
  intro i
  induction i with
  | zero => intro _; simp [plOf, frAll]; exact At.zero _
  | succ i ih =>
    intro hi
    have hget : ds[i]? = some (ds[i]'(by omega)) := List.getElem?_eq_getElem (by omega)
    have hA := ih (by omega)
    have ht := frAll_take hget
    have hmem := hd _ (List.mem_of_getElem? hget)
    have hdrop : (frAll ds ++ r).drop (frAll (ds.take i)).length = frS (ds[i]'(by omega)).1 (ds[i]'(by omega)).2 ++ (frAll (ds.drop (i + 1)) ++ r) := by
      have e : frAll ds = frAll (ds.take i) ++ (frS (ds[i]'(by omega)).1 (ds[i]'(by omega)).2 ++ frAll (ds.drop (i + 1))) := by
        rw [← List.append_assoc, ← ht, ← frAll_append, List.take_append_drop]
      rw [e, List.append_assoc, List.drop_left, List.append_assoc]
    have hlen : (frAll (ds.take i)).length < (frAll ds ++ r).length := by
      have := congrArg List.length hdrop
      simp only [List.length_drop, List.length_append, frS_length] at this ⊢
      omega
    have hN := frN_of hb (by have := hmem.2.2; omega) hdrop (by omega)
    have := (hA.step hb hlen hN).1
    rw [ht, List.length_append, List.take_succ_eq_append_getElem (by omega), plOf_append, Nat.zero_add]
    exact this
theorem split_all (ds : List (Nat × List Nat)) (hd : BytesD ds) : splitS (frAll ds) = (plOf 0 ds, (frAll ds).length, 0) := by
  have := at_all ds [] hd (by simp) ds.length (Nat.le_refl _)
  rw [List.append_nil, List.take_length] at this
  exact this.fin

/-! ### Bytes that are frames all through -/
def two (x : Nat × List Nat × Nat × Nat) : Nat × List Nat := (x.1, x.2.1)
theorem evs_back {l : List Nat} (hb : ∀ x ∈ l, x < 256) : ∀ f a, a ≤ l.length → l.length < a + f → (evs l f a).2.2 = 0 → frAll ((evs l f a).1.map two) = l.drop a ∧ (evs l f a).2.1 = l.length := by
  intro f
  induction f with
  | zero => intro a h1 h2; omega
  | succ f ih =>
    intro a h1 h2 h3
    by_cases ha : l.length ≤ a
    · rw [evs_end ha, List.drop_eq_nil_of_le ha]
      exact ⟨rfl, by show a = _; omega⟩
    · cases hf : frN l a with
      | bad r =>
        rw [evs_bad (by omega) hf] at h3
        have h3 : r = 0 := h3
        have : r = 1 ∨ r = 2 ∨ r = 3 := by
          unfold frN at hf
          split at hf
          · injection hf with hf; omega
          · split at hf
            · injection hf with hf; omega
            · split at hf
              · cases hf
              · injection hf with hf; omega
        omega
      | good k p nx =>
        obtain ⟨e1, e2, e3, _⟩ := frN_stands hb (by omega) hf
        have e4 := e1
        rw [frS_length] at e4
        rw [evs_good (by omega) hf] at h3 ⊢
        obtain ⟨i1, i2⟩ := ih nx e2 (by omega) h3
        refine ⟨?_, i2⟩
        rw [List.map_cons, frAll, List.flatMap_cons]
        rw [frAll] at i1
        rw [i1]
        show frS k p ++ l.drop nx = l.drop a
        have := List.take_append_drop (nx - a) (l.drop a)
        rw [List.drop_drop, show a + (nx - a) = nx by omega, e3] at this
        exact this
theorem split_back {l : List Nat} {ds : List (Nat × List Nat × Nat × Nat)} {e : Nat} (hb : ∀ x ∈ l, x < 256) (h : splitS l = (ds, e, 0)) : frAll (ds.map two) = l ∧ e = l.length := by
  have := evs_back hb (l.length + 1) 0 (Nat.zero_le _) (by omega) (by rw [show evs l (l.length + 1) 0 = splitS l from rfl, h])
  rw [show evs l (l.length + 1) 0 = splitS l from rfl, h] at this
  simpa using this

/-! ### A frame that is spoilt -/
theorem ext_getD {l m : List Nat} (hl : l.length = m.length) (h : ∀ j, j < l.length → l.getD j 0 = m.getD j 0) : l = m := by
  apply List.ext_getElem hl
  intro i h1 h2
  have := h i h1
  rw [List.getD_eq_getElem?_getD, List.getD_eq_getElem?_getD, List.getElem?_eq_getElem h1, List.getElem?_eq_getElem h2] at this
  exact this
theorem getD_take_drop (l : List Nat) (a n j : Nat) (hj : j < n) : ((l.drop a).take n).getD j 0 = l.getD (a + j) 0 := by
  rw [List.getD_eq_getElem?_getD, List.getD_eq_getElem?_getD, List.getElem?_take_of_lt hj, List.getElem?_drop]
theorem eqB_false {l m : List Nat} (h : l ≠ m) : eqB l m = false := by unfold eqB; simpa using h

/-- The frame that stands at a, with other bytes in its payload or its check. -/
theorem frN_spoilt {m : List Nat} {k o : Nat} {P P' C' R : List Nat} (hm : ∀ x ∈ m, x < 256) (hP : (P.length : Int) < 1000000000) (hl : P'.length = P.length) (hC : C'.length = 4) (ho : o ≤ m.length) (h : m.drop o = (k :: enc P.length) ++ P' ++ C' ++ R)
    (hne : C' ≠ le4 (crcN (frB k P'))) : frN m o = .bad 3 := by
  have e0 : m.drop o = k :: (enc P.length ++ (P' ++ (C' ++ R))) := by rw [h]; simp
  have hlen := congrArg List.length e0
  simp only [List.length_drop, List.length_cons, List.length_append, hl, hC] at hlen
  have hal : o < m.length := by omega
  have e1 : m.getD o 0 = k := by
    have := List.drop_eq_getElem_cons hal
    rw [e0] at this
    injection this with h1 _
    rw [List.getD_eq_getElem?_getD, List.getElem?_eq_getElem hal, h1]; rfl
  have e2 : m.drop (o + 1) = enc P.length ++ (P' ++ (C' ++ R)) := by
    have := List.drop_eq_getElem_cons hal
    rw [e0] at this
    injection this with _ h1
    exact h1.symm
  have hg : getS m ((o + 1 : Nat) : Int) = (P.length, o + 1 + (enc P.length).length, 0) := by
    unfold getS
    rw [if_neg (by omega), Int.toNat_natCast, e2, got_enc _ _ (by omega)]
    · rfl
    · intro x hx
      refine hm x (List.mem_of_mem_drop (i := o + 1) ?_)
      rw [e2]
      exact List.mem_append_right _ hx
  have e3 : m.drop (o + 1 + (enc P.length).length) = P' ++ (C' ++ R) := by
    rw [← List.drop_drop, e2, List.drop_left]
  have e4 : (m.drop (o + 1 + (enc P.length).length)).take P.length = P' := by rw [e3, ← hl, List.take_left]
  have e5 : m.drop (o + 1 + (enc P.length).length + P.length) = C' ++ R := by
    rw [← List.drop_drop, e3, ← hl, List.drop_left]
  exact frN_bad hg (by omega) (by rw [e5, e1, e4, ← hC, List.take_left]; exact eqB_false hne)

/-- P3.5's last sentence, on lists. -/
theorem turned_bad {ds : List (Nat × List Nat)} {i k : Nat} {P m : List Nat} (hd : BytesD ds) (hi : ds[i]? = some (k, P)) (place : Nat) (by_ : Nat → Nat) (hml : m.length = (frAll ds).length) (hm : ∀ x ∈ m, x < 256)
    (h1 : (frAll (ds.take i)).length + 1 + (enc P.length).length ≤ place) (h2 : place < (frAll (ds.take i)).length + (frS k P).length)
    (hmg : ∀ j, j < m.length → m.getD j 0 = if place ≤ j ∧ j < place + 4 ∧ j < (frAll (ds.take i)).length + (frS k P).length then (frAll ds).getD j 0 ^^^ by_ (j - place) else (frAll ds).getD j 0)
    (hch : ∃ q, q < 4 ∧ place + q < (frAll (ds.take i)).length + (frS k P).length ∧ by_ q ≠ 0)
    (hns : place + 3 < (frAll (ds.take i)).length + (frS k P).length - 4 ∨ (frAll (ds.take i)).length + (frS k P).length - 4 ≤ place) :
    splitS m = (plOf 0 (ds.take i), (frAll (ds.take i)).length, 3) := by
  obtain ⟨q, hq4, hqt, hq0⟩ := hch
  have hmem := hd _ (List.mem_of_getElem? hi)
  have hid := (List.getElem?_eq_some_iff.1 hi).1
  have ht := frAll_take hi
  have hfl := frS_length k P
  simp only at ht hmem
  have hl : frAll ds = frAll (ds.take i) ++ (frS k P ++ frAll (ds.drop (i + 1))) := by
    rw [← List.append_assoc, ← ht, ← frAll_append, List.take_append_drop]
  have hsplit : frAll ds = frAll (ds.take i) ++ ((k :: enc P.length) ++ (P ++ (le4 (crcN (frB k P)) ++ frAll (ds.drop (i + 1))))) := by rw [hl]; simp [frS, frB]
  generalize hAe : frAll (ds.take i) = A at *
  generalize hRe : frAll (ds.drop (i + 1)) = R at *
  have hAll := congrArg List.length hsplit
  simp only [List.length_append, List.length_cons, le4_length] at hAll
  -- the pieces of m
  have mA : m.take A.length = A := by
    refine ext_getD (by rw [List.length_take]; omega) fun j hj => ?_
    rw [List.length_take] at hj
    have := getD_take_drop m 0 A.length j (by omega)
    rw [List.drop_zero, Nat.zero_add] at this
    rw [this, hmg j (by omega), if_neg (by omega), hsplit, List.getD_eq_getElem?_getD, List.getD_eq_getElem?_getD, List.getElem?_append_left (by omega)]
  have mH : (m.drop A.length).take (1 + (enc P.length).length) = k :: enc P.length := by
    refine ext_getD (by rw [List.length_take, List.length_drop, List.length_cons]; omega) fun j hj => ?_
    rw [List.length_take, List.length_drop] at hj
    rw [getD_take_drop _ _ _ _ (by omega), hmg _ (by omega), if_neg (by omega), hsplit, List.getD_eq_getElem?_getD, List.getD_eq_getElem?_getD, List.getElem?_append_right (by omega), List.getElem?_append_left (by simp; omega), show A.length + j - A.length = j by omega]
  have oP : ∀ j, j < P.length → (frAll ds).getD (A.length + (1 + (enc P.length).length) + j) 0 = P.getD j 0 := by
    intro j hj
    rw [hsplit, List.getD_eq_getElem?_getD, List.getD_eq_getElem?_getD, List.getElem?_append_right (by omega), List.getElem?_append_right (by simp; omega), List.getElem?_append_left (by simp; omega)]
    congr 2; simp; omega
  have oC : ∀ j, j < 4 → (frAll ds).getD (A.length + (1 + (enc P.length).length) + P.length + j) 0 = (le4 (crcN (frB k P))).getD j 0 := by
    intro j hj
    rw [hsplit, List.getD_eq_getElem?_getD, List.getD_eq_getElem?_getD, List.getElem?_append_right (by omega), List.getElem?_append_right (by simp; omega), List.getElem?_append_right (by simp; omega), List.getElem?_append_left (by rw [le4_length]; simp; omega)]
    congr 2; simp; omega
  generalize hPe : (m.drop (A.length + (1 + (enc P.length).length))).take P.length = P'
  generalize hCe : (m.drop (A.length + (1 + (enc P.length).length) + P.length)).take 4 = C'
  have lP : P'.length = P.length := by rw [← hPe, List.length_take, List.length_drop]; omega
  have lC : C'.length = 4 := by rw [← hCe, List.length_take, List.length_drop]; omega
  have gP : ∀ j, j < P.length → P'.getD j 0 = m.getD (A.length + (1 + (enc P.length).length) + j) 0 := fun j hj => by rw [← hPe, getD_take_drop _ _ _ _ hj]
  have gC : ∀ j, j < 4 → C'.getD j 0 = m.getD (A.length + (1 + (enc P.length).length) + P.length + j) 0 := fun j hj => by rw [← hCe, getD_take_drop _ _ _ _ hj]
  have mdec : m.drop A.length = (k :: enc P.length) ++ P' ++ C' ++ m.drop (A.length + (1 + (enc P.length).length) + P.length + 4) := by
    have a1 := List.take_append_drop (1 + (enc P.length).length) (m.drop A.length)
    have a2 := List.take_append_drop P.length (m.drop (A.length + (1 + (enc P.length).length)))
    have a3 := List.take_append_drop 4 (m.drop (A.length + (1 + (enc P.length).length) + P.length))
    rw [List.drop_drop] at a1 a2 a3
    rw [hCe] at a3
    rw [hPe, ← a3] at a2
    rw [mH, ← a2] at a1
    rw [← a1]; simp
  have bP' : ∀ x ∈ P', x < 256 := fun x hx => hm x (List.mem_of_mem_drop (List.mem_of_mem_take (by rw [hPe]; exact hx)))
  have xne : ∀ a b : Nat, b ≠ 0 → a ^^^ b ≠ a := by
    intro a b hb e
    have : a ^^^ (a ^^^ b) = a ^^^ a := by rw [e]
    rw [← Nat.xor_assoc, Nat.xor_self, Nat.zero_xor] at this
    exact hb this
  have hne : C' ≠ le4 (crcN (frB k P')) := by
    rcases hns with hin | hin
    · -- in the payload alone
      have eC : C' = le4 (crcN (frB k P)) := by
        refine ext_getD (by rw [lC, le4_length]) fun j hj => ?_
        rw [lC] at hj
        rw [gC j hj, hmg _ (by omega), if_neg (by omega), oC j hj]
      intro e
      rw [eC] at e
      have e' := le4_inj (crcN_lt _) (crcN_lt _) e
      let s := place - (A.length + (1 + (enc P.length).length))
      have hs : s = place - (A.length + (1 + (enc P.length).length)) := rfl
      have dP : P = P.take s ++ (P.drop s).take 4 ++ P.drop (s + 4) := by
        rw [List.append_assoc, ← List.drop_drop, List.take_append_drop, List.take_append_drop]
      have dP' : P' = P.take s ++ (P'.drop s).take 4 ++ P.drop (s + 4) := by
        refine ext_getD (by simp only [List.length_append, List.length_take, List.length_drop, lP]; omega) fun j hj => ?_
        rw [lP] at hj
        rw [List.getD_eq_getElem?_getD, List.getD_eq_getElem?_getD]
        rcases Nat.lt_or_ge j s with h3 | h3
        · rw [List.append_assoc, List.getElem?_append_left (by simp; omega), List.getElem?_take_of_lt h3]
          have := gP j hj
          rw [hmg _ (by omega), if_neg (by omega), oP j hj, List.getD_eq_getElem?_getD, List.getD_eq_getElem?_getD] at this
          exact this
        · rcases Nat.lt_or_ge j (s + 4) with h4 | h4
          · rw [List.getElem?_append_left (by simp [lP]; omega), List.getElem?_append_right (by simp; omega), List.length_take, show j - min s P.length = j - s by omega, List.getElem?_take_of_lt (by omega), List.getElem?_drop, show s + (j - s) = j by omega]
          · rw [List.getElem?_append_right (by simp [lP]; omega)]
            simp only [List.length_append, List.length_take, List.length_drop, lP, List.getElem?_drop]
            rw [show s + 4 + (j - (min s P.length + min 4 (P.length - s))) = j by omega]
            have := gP j hj
            rw [hmg _ (by omega), if_neg (by omega), oP j hj, List.getD_eq_getElem?_getD, List.getD_eq_getElem?_getD] at this
            exact this
      have xx : (P.drop s).take 4 ≠ (P'.drop s).take 4 := by
        intro e2
        have e3 := congrArg (fun z => z.getD q 0) e2
        rw [getD_take_drop _ _ _ _ hq4, getD_take_drop _ _ _ _ hq4, gP _ (by omega), hmg _ (by omega), if_pos (by omega), oP _ (by omega), show A.length + (1 + (enc P.length).length) + (s + q) - place = q by omega] at e3
        exact xne _ _ hq0 e3.symm
      have hb4 : ∀ (z : List Nat), (∀ c ∈ z, c < 256) → ∀ a n, ∀ c ∈ (z.drop a).take n, c < 256 := fun z hz a n c hc => hz c (List.mem_of_mem_drop (List.mem_of_mem_take hc))
      have hu : ∀ c ∈ (k :: enc P.length) ++ P.take s, c < 256 := by
        intro c hc
        simp only [List.mem_append, List.mem_cons] at hc
        rcases hc with (rfl | hc) | hc
        · exact hmem.1
        · exact enc_byte _ c hc
        · exact hmem.2.1 c (List.mem_of_mem_take hc)
      have B := burst4 (v := P.drop (s + 4)) hu (hb4 P hmem.2.1 s 4) (hb4 P' bP' s 4) (fun c hc => hmem.2.1 c (List.mem_of_mem_drop hc)) (by simp only [List.length_take, List.length_drop, lP]) (by simp; omega) xx
      apply B
      have f1 : frB k P = (k :: enc P.length) ++ P.take s ++ (P.drop s).take 4 ++ P.drop (s + 4) := by
        unfold frB
        conv => lhs; rw [dP]
        simp [← dP]
      have f2 : frB k P' = (k :: enc P.length) ++ P.take s ++ (P'.drop s).take 4 ++ P.drop (s + 4) := by
        unfold frB
        rw [lP]
        conv => lhs; rw [dP']
        simp
      rw [← f1, ← f2, e']
    · -- in the check alone
      have eP : P' = P := by
        refine ext_getD lP fun j hj => ?_
        rw [lP] at hj
        rw [gP j hj, hmg _ (by omega), if_neg (by omega), oP j hj]
      rw [eP]
      intro e
      have e3 := congrArg (fun z => z.getD (place + q - (A.length + (1 + (enc P.length).length) + P.length)) 0) e
      rw [gC _ (by omega), hmg _ (by omega), if_pos (by omega), oC _ (by omega), show A.length + (1 + (enc P.length).length) + P.length + (place + q - (A.length + (1 + (enc P.length).length) + P.length)) - place = q by omega] at e3
      exact xne _ _ hq0 e3
  have hbad := frN_spoilt (o := A.length) hm (by have := hmem.2.2; omega) lP lC (by omega) mdec hne
  have hm2 : m = frAll (ds.take i) ++ m.drop A.length := by
    rw [hAe]
    conv => lhs; rw [← List.take_append_drop A.length m, mA]
  have hat := at_all (ds.take i) (m.drop A.length) (fun d h => hd d (List.mem_of_mem_take h)) (fun x hx => hm x (List.mem_of_mem_drop hx)) (ds.take i).length (Nat.le_refl _)
  rw [List.take_length, ← hm2, hAe] at hat
  exact hat.bad (by omega) hbad

end Go.Proofs.YtedglcbeheeonaaDoor
