/-
  Layer 5: the document's reading of a text, plainly: loosely, and held against the text.
  Layer 5: the document's Cuts, Value, version, Told, words.
  Layer 5: the document's Value, version, Told, words.
-/
import Derived.Test.YtbcadnkdehknoaaGreatDoorZlVpm
import Derived.Test.YtbcadnkdehknoaaGreatDoorTqb
import Derived.Test.YtbcadnkdehknoaaGreatDoorZlTvl
import Derived.StillTailTactics
import Derived.Test.YtbcadnkdehknoaaGreatDoorZlVpw

namespace Go.Proofs.YtbcadnkdehknoaaGreatDoor
open Go Go.RowKit
set_option linter.unusedVariables false

/-! ### A text, cut at a byte -/
def cutStep (c : UInt8) (out : List (List UInt8)) (b : UInt8) : List (List UInt8) := if b = c then out ++ [[]] else out.dropLast ++ [out.getLastD [] ++ [b]]
def cutsL (c : UInt8) (s : List UInt8) : List (List UInt8) := s.foldl (cutStep c) [[]]
theorem cutsL_snoc (c b : UInt8) (s : List UInt8) : cutsL c (s ++ [b]) = cutStep c (cutsL c s) b := by simp [cutsL]
theorem cutStep_ne (c b : UInt8) (out : List (List UInt8)) : cutStep c out b ≠ [] := by unfold cutStep; split <;> simp
theorem cut_fold (c : UInt8) (a : List (List UInt8)) : ∀ (s : List UInt8) (b : List (List UInt8)), b ≠ [] → s.foldl (cutStep c) (a ++ b) = a ++ s.foldl (cutStep c) b
  | [], b, _ => rfl
  | x :: s, b, hb => by
    have e : cutStep c (a ++ b) x = a ++ cutStep c b x := by
      unfold cutStep
      split
      · rw [List.append_assoc]
      · rw [List.dropLast_append_of_ne_nil hb, List.append_assoc]
        congr 3
        rw [List.getLastD_eq_getLast?, List.getLastD_eq_getLast?, List.getLast?_append]
        cases hl : b.getLast? with
        | none => exact absurd (List.getLast?_eq_none_iff.1 hl) hb
        | some y => rfl
    rw [List.foldl_cons, List.foldl_cons, e]
    exact cut_fold c a s _ (cutStep_ne _ _ _)
theorem cut_word (c : UInt8) : ∀ (x a : List UInt8), c ∉ x → x.foldl (cutStep c) [a] = [a ++ x]
  | [], a, _ => by simp
  | b :: x, a, h => by
    have hb : b ≠ c := fun e => h (by rw [e]; simp)
    have e : cutStep c [a] b = [a ++ [b]] := by unfold cutStep; rw [if_neg hb]; rfl
    rw [List.foldl_cons, e, cut_word c x _ (fun e => h (by simp [e]))]
    simp
theorem cutsL_none {c : UInt8} {x : List UInt8} (h : c ∉ x) : cutsL c x = [x] := by
  unfold cutsL
  rw [cut_word c x [] h]; rfl
theorem cutsL_app {c : UInt8} {x : List UInt8} (h : c ∉ x) (y : List UInt8) : cutsL c (x ++ c :: y) = x :: cutsL c y := by
  unfold cutsL
  rw [List.foldl_append, List.foldl_cons, cut_word c x [] h]
  have e : cutStep c [[] ++ x] c = [x] ++ [[]] := by unfold cutStep; rw [if_pos rfl]; rfl
  rw [e, cut_fold c [x] y [[]] (by simp)]
  rfl
theorem cutsL_words {c : UInt8} : ∀ (l : List (List UInt8)) (x : List UInt8), c ∉ x → (∀ y ∈ l, c ∉ y) → cutsL c (x ++ l.flatMap ([c] ++ ·)) = x :: l
  | [], x, hx, _ => by rw [List.flatMap_nil, List.append_nil]; exact cutsL_none hx
  | y :: l, x, hx, h => by
    rw [List.flatMap_cons, show x ++ ([c] ++ y ++ l.flatMap ([c] ++ ·)) = x ++ c :: (y ++ l.flatMap ([c] ++ ·)) by simp, cutsL_app hx, cutsL_words l y (h y (by simp)) (fun z hz => h z (by simp [hz]))]
theorem cutsL_ne (c : UInt8) (s : List UInt8) : cutsL c s ≠ [] := by
  rcases List.eq_nil_or_concat s with rfl | ⟨l, b, rfl⟩
  · simp [cutsL]
  · rw [List.concat_eq_append, cutsL_snoc]; exact cutStep_ne _ _ _
theorem cutsL_len (c : UInt8) : ∀ s : List UInt8, (cutsL c s).length ≤ s.length + 1 := by
  have key : ∀ (s : List UInt8) (out : List (List UInt8)), (s.foldl (cutStep c) out).length ≤ s.length + max out.length 1 := by
    intro s
    induction s with
    | nil => intro out; simp; omega
    | cons b s ih =>
      intro out
      rw [List.foldl_cons]
      have h1 := ih (cutStep c out b)
      have h2 : (cutStep c out b).length ≤ max out.length 1 + 1 := by
        unfold cutStep
        split
        · simp only [List.length_append, List.length_cons, List.length_nil]; omega
        · simp only [List.length_append, List.length_dropLast, List.length_cons, List.length_nil]; omega
      simp only [List.length_cons]
      omega
  intro s
  have := key s [[]]
  simpa [cutsL] using this
/-- No word is longer than the text. -/
theorem cutsL_mem (c : UInt8) : ∀ (s x : List UInt8), x ∈ cutsL c s → x.length ≤ s.length := by
  have key : ∀ (s : List UInt8) (out : List (List UInt8)) (n : Nat), (∀ x ∈ out, x.length ≤ n) → ∀ x ∈ s.foldl (cutStep c) out, x.length ≤ s.length + n := by
    intro s
    induction s with
    | nil => intro out n h x hx; have := h x hx; simp; omega
    | cons b s ih =>
      intro out n h x hx
      rw [List.foldl_cons] at hx
      have := ih (cutStep c out b) (n + 1) (by
        intro y hy
        unfold cutStep at hy
        split at hy
        · rcases List.mem_append.1 hy with hy | hy
          · have := h y hy; omega
          · obtain rfl : y = [] := by simpa using hy
            simp
        · rcases List.mem_append.1 hy with hy | hy
          · have := h y (List.dropLast_subset _ hy); omega
          · obtain rfl : y = out.getLastD [] ++ [b] := by simpa using hy
            have hg : (out.getLastD []).length ≤ n := by
              rw [List.getLastD_eq_getLast?]
              cases hl : out.getLast? with
              | none => simp
              | some z => exact h z (List.mem_of_getLast? hl)
            rw [List.length_append]
            simp only [List.length_cons, List.length_nil]
            omega) x hx
      simp only [List.length_cons]
      omega
  intro s x hx
  have := key s [[]] 0 (by simp) x hx
  omega

/-! ### Numbers, versions, entries, loosely -/
def valStep (n : Nat) (b : UInt8) : Nat := (n * 10 + (b.toNat + 208) % 256) % 18446744073709551616
def valW (s : List UInt8) : Nat := s.foldl valStep 0
theorem valW_lt (s : List UInt8) : valW s < 18446744073709551616 := by
  rcases List.eq_nil_or_concat s with rfl | ⟨l, b, rfl⟩
  · decide
  · unfold valW
    rw [List.concat_eq_append, List.foldl_append]
    exact Nat.mod_lt _ (by decide)
theorem valW_dec (n : Nat) : n < 18446744073709551616 → valW (Lib.decDigits n) = n := by
  induction n using Nat.strongRecOn with
  | _ n ih =>
  intro hn
  have hd : ∀ m : Nat, m < 10 → ((UInt8.ofNat (48 + m)).toNat + 208) % 256 = m := fun m hm => by
    have : (UInt8.ofNat (48 + m)).toNat = 48 + m := by simp; omega
    omega
  by_cases h : n < 10
  · rw [dec1 h]
    show valStep 0 _ = n
    unfold valStep
    rw [hd n h]
    omega
  · have e : Lib.decDigits n = Lib.decDigits (n / 10) ++ [UInt8.ofNat (48 + n % 10)] := by
      conv => lhs; rw [Lib.decDigits, dif_neg h]
    have e2 : valW (Lib.decDigits n) = valStep (valW (Lib.decDigits (n / 10))) (UInt8.ofNat (48 + n % 10)) := by
      unfold valW
      rw [e, List.foldl_append]
      rfl
    rw [e2, ih (n / 10) (by omega) (by omega)]
    unfold valStep
    rw [hd _ (Nat.mod_lt _ (by omega))]
    omega
def lverL (s : List UInt8) : Nat × Nat := if (cutsL 46 s).length = 2 then (valW ((cutsL 46 s).getD 0 []), valW ((cutsL 46 s).getD 1 [])) else (0, 0)
theorem lverL_lt (s : List UInt8) : (lverL s).1 < 18446744073709551616 ∧ (lverL s).2 < 18446744073709551616 := by
  unfold lverL
  split
  · exact ⟨valW_lt _, valW_lt _⟩
  · exact ⟨by decide, by decide⟩
theorem lverL_tell {a b : Nat} (ha : a < 18446744073709551616) (hb : b < 18446744073709551616) : lverL (verL a b) = (a, b) := by
  have e : cutsL 46 (verL a b) = [Lib.decDigits a, Lib.decDigits b] := by
    rw [show verL a b = Lib.decDigits a ++ 46 :: Lib.decDigits b by simp [verL], cutsL_app (dec_no (by decide)), cutsL_none (dec_no (by decide))]
  unfold lverL
  rw [e, if_pos (by rfl)]
  show (valW (Lib.decDigits a), valW (Lib.decDigits b)) = _
  rw [valW_dec a ha, valW_dec b hb]
def lentL (s : List UInt8) : Option En := if (cutsL 58 s).length = 3 then some ⟨valW ((cutsL 58 s).getD 0 []), (lverL ((cutsL 58 s).getD 1 [])).1, (lverL ((cutsL 58 s).getD 1 [])).2, decide ((cutsL 58 s).getD 2 [] = [49])⟩ else none
theorem lentL_ok {s : List UInt8} {e : En} (h : lentL s = some e) : e.ok := by
  unfold lentL at h
  split at h
  · injection h with h
    subst h
    have h1 := valW_lt ((cutsL 58 s).getD 0 [])
    have h2 := lverL_lt ((cutsL 58 s).getD 1 [])
    refine ⟨?_, ?_, ?_⟩
    · show ((valW _ : Nat) : Int) ≤ _; omega
    · show (((lverL _).1 : Nat) : Int) ≤ _; omega
    · show (((lverL _).2 : Nat) : Int) ≤ _; omega
  · cases h
theorem lentL_tell {e : En} (h : e.ok) : lentL e.tell = some e := by
  obtain ⟨h1, h2, h3⟩ := h
  obtain ⟨x, a, b, m⟩ := e
  simp only at h1 h2 h3
  have hc : cutsL 58 (En.tell ⟨x, a, b, m⟩) = [Lib.decDigits x, verL a b, [if m then 49 else 48]] := by
    rw [en_tell]
    show cutsL 58 (Lib.decDigits x ++ 58 :: (verL a b ++ 58 :: [if m then 49 else 48])) = _
    rw [cutsL_app (dec_no (by decide)), cutsL_app (ver_no (by decide) (by decide)), cutsL_none (by cases m <;> decide)]
  unfold lentL
  rw [hc, if_pos (by rfl)]
  show some (En.mk (valW (Lib.decDigits x)) (lverL (verL a b)).1 (lverL (verL a b)).2 (decide ([if m then (49 : UInt8) else 48] = [49]))) = _
  rw [valW_dec x (by omega), lverL_tell (by omega) (by omega)]
  cases m <;> simp
def lentsL : List (List UInt8) → Option (List En)
  | [] => some []
  | s :: l => match lentL s with
    | some e => (lentsL l).map (e :: ·)
    | none => none
theorem lentsL_ok : ∀ {l : List (List UInt8)} {es : List En}, lentsL l = some es → ∀ e ∈ es, e.ok
  | [], es, h, e, he => by injection h with h; subst h; cases he
  | s :: l, es, h, e, he => by
    unfold lentsL at h
    split at h
    · rename_i e1 h1
      obtain ⟨es', h2, rfl⟩ := Option.map_eq_some_iff.1 h
      rcases List.mem_cons.1 he with rfl | he
      · exact lentL_ok h1
      · exact lentsL_ok h2 e he
    · cases h
theorem lentsL_tell : ∀ {es : List En}, (∀ e ∈ es, e.ok) → lentsL (es.map En.tell) = some es
  | [], _ => rfl
  | e :: es, h => by
    show (match lentL e.tell with | some e => (lentsL (es.map En.tell)).map (e :: ·) | none => none) = _
    rw [lentL_tell (h e (by simp)), lentsL_tell fun x hx => h x (by simp [hx])]
    rfl
theorem lentsL_snoc (s : List UInt8) : ∀ l : List (List UInt8), lentsL (l ++ [s]) = (lentsL l).bind fun es => (lentL s).map fun e => es ++ [e]
  | [] => by
    show (match lentL s with | some e => (some []).map (e :: ·) | none => none) = _
    cases lentL s <;> rfl
  | x :: l => by
    show (match lentL x with | some e => (lentsL (l ++ [s])).map (e :: ·) | none => none) = (match lentL x with | some e => (lentsL l).map (e :: ·) | none => none).bind _
    cases lentL x with
    | none => rfl
    | some e =>
      rw [lentsL_snoc s l]
      show ((lentsL l).bind _).map _ = ((lentsL l).map _).bind _
      cases lentsL l with
      | none => rfl
      | some es => cases lentL s <;> rfl
theorem lentsL_take {l : List (List UInt8)} (i : Nat) (h : lentsL (l.take i) = none) : lentsL l = none := by
  have key : ∀ a b : List (List UInt8), lentsL a = none → lentsL (a ++ b) = none := by
    intro a
    induction a with
    | nil => intro b h; cases h
    | cons x a ih =>
      intro b h
      show (match lentL x with | some e => (lentsL (a ++ b)).map (e :: ·) | none => none) = none
      have h' : (match lentL x with | some e => (lentsL a).map (e :: ·) | none => none) = none := h
      cases hx : lentL x with
      | none => rfl
      | some e =>
        rw [hx] at h'
        simp only at h' ⊢
        cases ha : lentsL a with
        | none => rw [ih b ha]; rfl
        | some es => rw [ha] at h'; cases h'
  have := key (l.take i) (l.drop i) h
  rwa [List.take_append_drop] at this
theorem lentsL_len : ∀ {l : List (List UInt8)} {es : List En}, lentsL l = some es → es.length = l.length
  | [], es, h => by injection h with h; subst h; rfl
  | s :: l, es, h => by
    unfold lentsL at h
    split at h
    · obtain ⟨es', h2, rfl⟩ := Option.map_eq_some_iff.1 h
      rw [List.length_cons, List.length_cons, lentsL_len h2]
    · cases h

/-! ### Lines -/
def manyN (k : Nat) : Nat := if k = 0 then 0 else if k = 2 ∨ k = 3 then 4 else if k = 4 ∨ k = 5 then 3 else 2
def looseL (k : Nat) (l : List (List UInt8)) : Option Rc :=
  if k = 2 then some { Rc.zero 2 with t := valW (l.getD 1 []), x := valW (l.getD 2 []), w := (lverL (l.getD 3 [])).1, n := (lverL (l.getD 3 [])).2 }
  else if k = 3 then some { Rc.zero 3 with t := valW (l.getD 1 []), x := valW (l.getD 2 []), v := valW (l.getD 3 []) }
  else if k = 4 then some { Rc.zero 4 with t := valW (l.getD 1 []), x := valW (l.getD 2 []) }
  else if k = 5 then (readT (l.getD 2 [])).bind fun p => (lentsL (l.drop 3)).map fun es => { Rc.zero 5 with t := valW (l.getD 1 []), p := p, es := es }
  else some { Rc.zero k with t := valW (l.getD 1 []) }
def lineD (s : List UInt8) : Option Rc :=
  if kindL ((cutsL 32 s).getD 0 []) = 0 ∨ (cutsL 32 s).length < manyN (kindL ((cutsL 32 s).getD 0 [])) ∨ (kindL ((cutsL 32 s).getD 0 []) ≠ 5 ∧ manyN (kindL ((cutsL 32 s).getD 0 [])) < (cutsL 32 s).length) then none
  else (looseL (kindL ((cutsL 32 s).getD 0 [])) (cutsL 32 s)).bind fun r => if r.text = s then some r else none
theorem looseL_ok {k : Nat} {l : List (List UInt8)} {r : Rc} (h : looseL k l = some r) : r.okR := by
  have z8 : (0 : Nat) < 18446744073709551616 := by omega
  unfold looseL at h
  repeat' split at h
  · injection h with h; subst h
    exact ⟨valW_lt _, valW_lt _, (lverL_lt _).1, (lverL_lt _).2, z8, okN_zero, by intro e he; cases he⟩
  · injection h with h; subst h
    exact ⟨valW_lt _, valW_lt _, z8, z8, valW_lt _, okN_zero, by intro e he; cases he⟩
  · injection h with h; subst h
    exact ⟨valW_lt _, valW_lt _, z8, z8, z8, okN_zero, by intro e he; cases he⟩
  · obtain ⟨p, h1, h2⟩ := Option.bind_eq_some_iff.1 h
    obtain ⟨es, h3, rfl⟩ := Option.map_eq_some_iff.1 h2
    exact ⟨valW_lt _, z8, z8, z8, z8, (read_some h1).2.1, lentsL_ok h3⟩
  · injection h with h; subst h
    exact ⟨valW_lt _, z8, z8, z8, z8, okN_zero, by intro e he; cases he⟩
theorem wordsP_no {r : Rc} (i : Nat) : ∀ x ∈ r.wordsP i, (32 : UInt8) ∉ x := by
  intro x hx
  unfold Rc.wordsP at hx
  repeat' split at hx
  · obtain rfl : x = _ := by simpa using hx
    exact dec_no (by decide)
  · obtain rfl : x = _ := by simpa using hx
    exact dec_no (by decide)
  · obtain rfl : x = _ := by simpa using hx
    exact ver_no' _ _
  · obtain rfl : x = _ := by simpa using hx
    exact dec_no (by decide)
  · obtain rfl : x = _ := by simpa using hx
    unfold T.text
    split
    · exact tell_no _
    · simp
  · obtain ⟨e, _, rfl⟩ := List.mem_map.1 hx
    exact en_no e
theorem cuts_tell (r : Rc) : cutsL 32 r.tell = nameL r.kind :: r.wordsN (partsN r.kind 6) := by
  rw [tell_ws]
  unfold wsL
  refine cutsL_words _ _ (nameL_no _) fun x hx => ?_
  unfold Rc.wordsN at hx
  obtain ⟨i, _, hx⟩ := List.mem_flatMap.1 hx
  exact wordsP_no i x hx
set_option maxRecDepth 100000 in
theorem lineD_tell {r : Rc} (h : r.rightB = true) (ok : r.okR) : lineD r.tell = some r := by
  obtain ⟨hk, he, hp⟩ := right_shape h
  obtain ⟨k, hkk⟩ : ∃ k : Nat, r.kind = k := ⟨r.kind.toNat, by omega⟩
  have hc := cuts_tell r
  have ht : r.text = r.tell := by unfold Rc.text; rw [if_pos h]
  have key : looseL k (cutsL 32 r.tell) = some r ∧ (cutsL 32 r.tell).length = (if k = 5 then manyN k + r.es.length else manyN k) := by
    rw [hc]
    have E1 : ofB 1 r.kind = false → r.x = 0 := fun h => of_decide_eq_true (he 1 (by omega) h)
    have E2 : ofB 2 r.kind = false → r.w = 0 ∧ r.n = 0 := fun h => of_decide_eq_true (he 2 (by omega) h)
    have E3 : ofB 3 r.kind = false → r.v = 0 := fun h => of_decide_eq_true (he 3 (by omega) h)
    have E4 : ofB 4 r.kind = false → r.p = .node 0 0 0 [] := fun h => (sameB_iff _ _).1 (he 4 (by omega) h)
    have E5 : ofB 5 r.kind = false → r.es = [] := fun h => of_decide_eq_true (he 5 (by omega) h)
    have hk7 : k = 1 ∨ k = 2 ∨ k = 3 ∨ k = 4 ∨ k = 5 ∨ k = 6 ∨ k = 7 := by omega
    obtain ⟨o1, o2, o3, o4, o5, o6, o7⟩ := ok
    obtain ⟨k', t, x, wn, n, v, p, es⟩ := r
    simp only at hkk E1 E2 E3 E4 E5 o1 o2 o3 o4 o5 o6 o7 hp
    clear hc ht he h
    rcases hk7 with rfl | rfl | rfl | rfl | rfl | rfl | rfl <;> subst hkk
    · obtain ⟨rfl, ⟨rfl, rfl⟩, rfl, rfl, rfl⟩ : x = 0 ∧ (wn = 0 ∧ n = 0) ∧ v = 0 ∧ p = .node 0 0 0 [] ∧ es = [] := ⟨E1 rfl, E2 rfl, E3 rfl, E4 rfl, E5 rfl⟩
      rw [partsN_of]
      refine ⟨?_, rfl⟩
      show some ({ Rc.zero (1 : Nat) with t := valW (Lib.decDigits t) } : Rc) = _
      rw [valW_dec t o1]
      rfl
    · obtain ⟨rfl, rfl, rfl⟩ : v = 0 ∧ p = .node 0 0 0 [] ∧ es = [] := ⟨E3 rfl, E4 rfl, E5 rfl⟩
      rw [partsN_of]
      refine ⟨?_, rfl⟩
      show some ({ Rc.zero 2 with t := valW (Lib.decDigits t), x := valW (Lib.decDigits x), w := (lverL (verL wn n)).1, n := (lverL (verL wn n)).2 } : Rc) = _
      rw [valW_dec t o1, valW_dec x o2, lverL_tell o3 o4]
      rfl
    · obtain ⟨⟨rfl, rfl⟩, rfl, rfl⟩ : (wn = 0 ∧ n = 0) ∧ p = .node 0 0 0 [] ∧ es = [] := ⟨E2 rfl, E4 rfl, E5 rfl⟩
      rw [partsN_of]
      refine ⟨?_, rfl⟩
      show some ({ Rc.zero 3 with t := valW (Lib.decDigits t), x := valW (Lib.decDigits x), v := valW (Lib.decDigits v) } : Rc) = _
      rw [valW_dec t o1, valW_dec x o2, valW_dec v o5]
      rfl
    · obtain ⟨⟨rfl, rfl⟩, rfl, rfl, rfl⟩ : (wn = 0 ∧ n = 0) ∧ v = 0 ∧ p = .node 0 0 0 [] ∧ es = [] := ⟨E2 rfl, E3 rfl, E4 rfl, E5 rfl⟩
      rw [partsN_of]
      refine ⟨?_, rfl⟩
      show some ({ Rc.zero 4 with t := valW (Lib.decDigits t), x := valW (Lib.decDigits x) } : Rc) = _
      rw [valW_dec t o1, valW_dec x o2]
      rfl
    · obtain ⟨rfl, ⟨rfl, rfl⟩, rfl⟩ : x = 0 ∧ (wn = 0 ∧ n = 0) ∧ v = 0 := ⟨E1 rfl, E2 rfl, E3 rfl⟩
      rw [partsN_of]
      have hr : p.rightB = true := hp rfl
      have hw : (nameL 5 :: Rc.wordsN (Rc.mk 5 t 0 0 0 0 p es) [0, 4, 5]) = nameL 5 :: Lib.decDigits t :: p.text :: es.map En.tell := by
        show nameL 5 :: ([Lib.decDigits t] ++ ([p.text] ++ (es.map En.tell ++ []))) = _
        simp
      have e5 : (if (5 : Int) = 2 then [0, 1, 2] else if (5 : Int) = 3 then [0, 1, 3] else if (5 : Int) = 4 then [0, 1] else if (5 : Int) = 5 then [0, 4, 5] else [0]) = [0, 4, 5] := rfl
      rw [show (((5 : Nat) : Int)) = 5 from rfl, e5, hw]
      refine ⟨?_, ?_⟩
      · show (readT p.text).bind (fun p => (lentsL (es.map En.tell)).map fun es => ({ Rc.zero 5 with t := valW (Lib.decDigits t), p := p, es := es } : Rc)) = _
        rw [show p.text = p.tell by unfold T.text; rw [if_pos hr], read_tell hr o6, lentsL_tell o7, valW_dec t o1]
        rfl
      · simp [manyN]; omega
    · obtain ⟨rfl, ⟨rfl, rfl⟩, rfl, rfl, rfl⟩ : x = 0 ∧ (wn = 0 ∧ n = 0) ∧ v = 0 ∧ p = .node 0 0 0 [] ∧ es = [] := ⟨E1 rfl, E2 rfl, E3 rfl, E4 rfl, E5 rfl⟩
      rw [partsN_of]
      refine ⟨?_, rfl⟩
      show some ({ Rc.zero (6 : Nat) with t := valW (Lib.decDigits t) } : Rc) = _
      rw [valW_dec t o1]
      rfl
    · obtain ⟨rfl, ⟨rfl, rfl⟩, rfl, rfl, rfl⟩ : x = 0 ∧ (wn = 0 ∧ n = 0) ∧ v = 0 ∧ p = .node 0 0 0 [] ∧ es = [] := ⟨E1 rfl, E2 rfl, E3 rfl, E4 rfl, E5 rfl⟩
      rw [partsN_of]
      refine ⟨?_, rfl⟩
      show some ({ Rc.zero (7 : Nat) with t := valW (Lib.decDigits t) } : Rc) = _
      rw [valW_dec t o1]
      rfl
  have hd : (cutsL 32 r.tell).getD 0 [] = nameL k := by rw [hc, hkk]; rfl
  unfold lineD
  rw [hd, kindL_of (by omega) (by omega), key.1, Option.bind_some, ht, if_pos rfl, if_neg]
  rw [key.2]
  rintro (h0 | h0 | ⟨h0, h1⟩)
  · omega
  · split at h0 <;> omega
  · rw [if_neg h0] at h1; omega
/-- The document's answer is the program's. -/
theorem lineD_eq (s : List UInt8) : lineD s = lineB s := by
  cases h : lineB s with
  | some r =>
    obtain ⟨h1, h2, rfl⟩ := line_some h
    exact lineD_tell h1 h2
  | none =>
    cases h2 : lineD s with
    | none => rfl
    | some r =>
      unfold lineD at h2
      split at h2
      · cases h2
      · rename_i hn
        obtain ⟨r', h3, h4⟩ := Option.bind_eq_some_iff.1 h2
        split at h4
        · rename_i ht
          injection h4 with h4
          subst h4
          have ok := looseL_ok h3
          cases hr : r'.rightB with
          | true =>
            unfold Rc.text at ht
            rw [hr, if_pos rfl] at ht
            rw [← ht, line_tell hr ok] at h
            cases h
          | false =>
            unfold Rc.text at ht
            rw [hr, if_neg (by decide)] at ht
            subst ht
            exact absurd (.inl rfl) hn
        · cases h4

end Go.Proofs.YtbcadnkdehknoaaGreatDoor

namespace Go.Proofs.YtbcadnkdehknoaaGreatDoor
open Go Go.RowKit
set_option linter.unusedVariables false


/-- A cell of a row of the call's own is written. -/
theorem own_store {w : World} {base n c g i : Nat} {e : TypeId} {xs : List Value} {u : Value} (h : w.ownsRow base e 1 (.slice (some ⟨g, 0, none⟩) n c) n xs) (hi : i < n) :
    (w.setCell ⟨g, i, none⟩ u).ownsRow base e 1 (.slice (some ⟨g, 0, none⟩) n c) n (xs.set i u) ∧ w.frozen? ⟨g, i, none⟩ = false := by
  obtain ⟨h1, h2⟩ := h
  rcases h2 with ⟨_, h2⟩ | ⟨g', cap, cur, hv, hg, hh, hnc, hcm, hcs, htk⟩
  · omega
  · injection hv with hv1 hv2 hv3
    injection hv1 with hv1
    injection hv1 with hv1
    subst hv1 hv3
    refine ⟨⟨by rw [List.length_set]; exact h1, .inr ⟨g, c, cur.setIfInBounds i u, rfl, hg, Joins.block_setCell (i := i) hh u, hnc, hcm, by simpa using hcs, ?_⟩⟩, frozen_of_row w g i cur e hh⟩
    rw [Array.toList_setIfInBounds, List.take_set, htk]
theorem sl_one (s : List UInt8) (k : Nat) (hk : k < s.length) (W : World) : (Instr.slice 9 (.string ⟨s.toArray⟩) (some (.int .i64 (k : Int))) (some (.int .i64 ((k : Int) + 1))) none).run Tryz.prog W = .ok (.string ⟨[s[k]].toArray⟩) W := by
  rw [run_slice_string W 9 ⟨s.toArray⟩ .i64 .i64 (k : Int) ((k : Int) + 1) Tryz.underlying9 (by omega) (by omega) (by simp [ByteArray.size]; omega)]
  congr 2
  apply ByteArray.ext
  rw [Int.toNat_natCast, show ((k : Int) + 1).toNat = k + 1 by omega]
  simp only [ByteArray.data_extract]
  apply Array.ext'
  simp
  rw [List.take_one, List.head?_drop, List.getElem?_eq_getElem hk]
  rfl
theorem strs_last {L : List (List UInt8)} (hne : L ≠ []) (x : List UInt8) (m : Nat) (hm : L.length = m + 1) : strs (L.dropLast ++ [x]) = (strs L).set m (.string ⟨x.toArray⟩) := by
  obtain ⟨D, y, rfl⟩ : ∃ D y, L = D ++ [y] := ⟨L.dropLast, L.getLast hne, (List.dropLast_concat_getLast hne).symm⟩
  rw [List.dropLast_concat]
  have hd : (strs D).length = m := by
    rw [strs_length]
    rw [List.length_append] at hm
    simp only [List.length_cons, List.length_nil] at hm
    omega
  rw [strs_append, strs_append, List.set_append_right _ _ (by omega), hd, Nat.sub_self]
  rfl
theorem take_snoc {s : List UInt8} {i : Nat} (h : i < s.length) : s.take (i + 1) = s.take i ++ [s[i]] := by rw [List.take_add_one, List.getElem?_eq_getElem h]; rfl

set_option maxRecDepth 100000 in
set_option maxHeartbeats 3200000 in
theorem rcuts_any (s : List UInt8) (c : UInt8) (w : World) (hl : s.length ≤ 100000) :
    Calls Tryz.prog 67 #[.string ⟨s.toArray⟩, .int .u8 ((c.toNat : Nat) : Int)] w fun e w' => ∃ A cap, e = .returned (.slice A (cutsL c s).length cap) ∧ w'.ownsRow w.heap.size 9 1 (.slice A (cutsL c s).length cap) (cutsL c s).length (strs (cutsL c s)) ∧ Below w.heap.size w w' := by
  obtain ⟨i0, hi, hz0, hz1, hz2⟩ := info_parts Tryz.infoS
  have hn1 := below_new w (.cells #[.string ⟨#[]⟩] 9)
  have ho1 := World.ownsRow_lit (base := w.heap.size) (e := 9) (size := 1) w #[.string ⟨#[]⟩] 1 (Nat.le_refl _) (by decide) rfl
  have HLM : Hid (∀ i, ∀ x ∈ cutsL c (s.take i), x.length ≤ 100000) := fun i x hx => by have := cutsL_mem c _ x hx; rw [List.length_take] at this; omega
  have HLN : Hid (∀ i, i ≤ s.length → (cutsL c (s.take i)).length ≤ i + 1) := fun i hi => by have := cutsL_len c (s.take i); rw [List.length_take] at this; omega
  have FIN : Hid (∀ (W : World) (A : Option Addr) (n cap : Nat), n = (cutsL c (s.take s.length)).length → W.ownsRow w.heap.size 9 1 (.slice A n cap) n (strs (cutsL c (s.take s.length))) → Below w.heap.size w W → ∃ A' cap', (Ending.returned (.slice A n cap) = .returned (.slice A' (cutsL c s).length cap')) ∧ W.ownsRow w.heap.size 9 1 (.slice A' (cutsL c s).length cap') (cutsL c s).length (strs (cutsL c s)) ∧ Below w.heap.size w W) := fun W A n cap h1 h2 h3 => by
    rw [List.take_length] at h1 h2
    subst h1
    exact ⟨A, cap, rfl, h2, h3⟩
  go_enter Tryz.func67, Tryz.ntmps67
  go_wp2
  go_loopw [5, 6] (fun v z wr => ∃ (n cap i : Nat) (A : Option Addr), v = .slice A n cap ∧ z = .int .i64 i ∧ i ≤ s.length ∧ Hid (n = (cutsL c (s.take i)).length) ∧ wr.ownsRow w.heap.size 9 1 (.slice A n cap) n (strs (cutsL c (s.take i))) ∧ Hid (Below w.heap.size w wr)) (fun _ z _ => s.length - (intOf z).toNat)
  case atStart => exact ⟨1, 1, 0, _, rfl, rfl, Nat.zero_le _, rfl, ho1, hn1⟩
  case round =>
    clear ho1 hn1
    obtain ⟨n, cap, i, A, rfl, rfl, hi1, hn, hown, hbw⟩ := hrel
    have hni := HLN.out i hi1
    rw [← hn.out] at hni
    by_cases hlt : i < s.length
    · have hil : (i : Int) < (s.length : Int) := by omega
      have hix := ix_str s i hlt
      have hsl1 := sl_one s i hlt
      have HTK := Lib_hid (take_snoc hlt)
      generalize s[i] = cb at *
      have hcut : cutsL c (s.take (i + 1)) = cutStep c (cutsL c (s.take i)) cb := by rw [HTK.out, cutsL_snoc]
      have hcb := cb.toNat_lt
      have hcc := c.toNat_lt
      by_cases hb : cb = c
      · have hb2 : cb.toNat = c.toNat := by rw [hb]
        have HC : Hid (cutsL c (s.take (i + 1)) = cutsL c (s.take i) ++ [[]]) := by unfold Hid; rw [hcut]; unfold cutStep; rw [if_pos hb]
        clear hsl1 hcut
        have hm1 : n + 1 ≤ maxLen := by unfold maxLen; omega
        have hm2 : (n + 1) * 16 ≤ 140737488355328 := by omega
        have hn2 := below_new wr (.cells #[.string ⟨#[]⟩] 9)
        have ho2 := own_below hown hn2 (own_lt hown)
        have hr2 := new_str wr 9 []
        have hs2 := (hbw.out.trans (hn2.mono hbw.out.size)).size
        have h1c := strs_one [[]]
        have HB2 := Lib_hid (hbw.out.trans (hn2.mono hbw.out.size))
        rw [hb2] at hix
        generalize c.toNat = cn at *
        go_wp2_with (at_builtin; (refine wpList_app rfl _ _ 81 rfl w.heap.size 9 i0 (.string ⟨#[]⟩) 1 16 Tryz.underlying81 hi hz0 hz1 hz2 rfl (by decide) (.slice A n cap) n _ rfl ho2 _ _ 1 1 _ rfl hr2 h1c hm1 hm2 hs2 ?_); intro v' w5 hown' hst; obtain ⟨A', c', rfl, _⟩ := own_form hown')
        go_roundw
        case rel => exact ⟨n + 1, c', i + 1, A', rfl, by go_num, by omega, Lib_hid (by rw [HC.out, List.length_append, ← hn.out]; rfl), by rw [HC.out, strs_append]; exact hown', Lib_hid (HB2.out.trans ((hst.below HB2.out.size fun g hg => own_ge ho2 g hg).mono (Nat.le_refl _)))⟩
        case measure => simp [intOf]; omega
      · have hb2 : ((cb.toNat : Int) == (c.toNat : Int)) = false := by
          have : cb.toNat ≠ c.toNat := fun e => hb (UInt8.toNat_inj.1 e)
          simp; omega
        have HC : Hid (cutsL c (s.take (i + 1)) = (cutsL c (s.take i)).dropLast ++ [(cutsL c (s.take i)).getLastD [] ++ [cb]]) := by unfold Hid; rw [hcut]; unfold cutStep; rw [if_neg hb]
        have hne := cutsL_ne c (s.take i)
        have hml := HLM.out i
        have hwi : IntKind.i64.wrap ((i : Int) + 1) = (i : Int) + 1 := IntWalk.i64_in _ (by omega)
        have hnn := hn.out
        clear hcut hcb hcc
        generalize cutsL c (s.take i) = L at *
        obtain ⟨m, hm⟩ : ∃ m, n = m + 1 := ⟨n - 1, by have : 0 < L.length := List.length_pos_iff.2 hne; omega⟩
        have hlast : L[m]? = some (L.getLastD []) := by
          rw [List.getLastD_eq_getLast?, List.getLast?_eq_getElem?, show L.length - 1 = m by omega]
          cases h : L[m]? with
          | none => have := List.getElem?_eq_none_iff.1 h; omega
          | some y => rfl
        have hll := hml _ (List.mem_of_getElem? hlast)
        have hset := strs_last hne (L.getLastD [] ++ [cb]) m (by omega)
        have hlen : (L.dropLast ++ [L.getLastD [] ++ [cb]]).length = n := by simp; omega
        obtain ⟨g, cap', hv, hgg, hgl⟩ := hown.form (by omega)
        injection hv with hv1 hv2 hv3
        subst hv1 hv3
        have hst : strs L = (strs L) := rfl
        have d0 : wr.cell? ⟨g, m, none⟩ = some (.string ⟨(L.getLastD []).toArray⟩) := by
          have := hown.cells (g := g) rfl m (.string ⟨(L.getLastD []).toArray⟩) (by unfold strs; rw [List.getElem?_map, hlast]; rfl)
          rw [show (⟨g, 0, none⟩ : Addr).add m = ⟨g, m, none⟩ by unfold Addr.add; split <;> simp_all] at this
          exact this
        obtain ⟨hown2, hfz⟩ := own_store (u := .string ⟨(L.getLastD [] ++ [cb]).toArray⟩) hown (show m < n by omega)
        rw [← hset] at hown2
        have HB2 : Hid (Below w.heap.size w (wr.setCell ⟨g, m, none⟩ (.string ⟨(L.getLastD [] ++ [cb]).toArray⟩))) := hbw.out.setCell (p := ⟨g, m, none⟩) hgg _
        have HO2 := Lib_hid hown2
        have hwm : IntKind.i64.wrap ((n : Int) - 1) = (m : Int) := by rw [show (n : Int) - 1 = (m : Int) by omega]; exact IntWalk.i64_in _ (by omega)
        have hmn : (m : Int) < (n : Int) := by omega
        have hm0 : (0 : Int) ≤ (m : Int) := by omega
        have hz : ¬ 9223372036854775807 < (L.getLastD []).length + 1 := by omega
        have HCAT : Hid ((⟨(L.getLastD []).toArray⟩ : ByteArray) ++ ⟨#[cb]⟩ = ⟨(L.getLastD [] ++ [cb]).toArray⟩) := by unfold Hid; rw [show (⟨#[cb]⟩ : ByteArray) = ⟨[cb].toArray⟩ from rfl, bcat]
        have HN2 : Hid (n = (L.dropLast ++ [L.getLastD [] ++ [cb]]).length) := hlen.symm
        have HM := Lib_hid hm
        clear hset hst hlast hown2 hown hll hml hne hn hnn hv2 hlen hm HLM HLN FIN hni
        generalize L.getLastD [] = la at *
        generalize cb.toNat = bn at *
        generalize c.toNat = cn at *
        go_wp2
        go_still_tail 17, (by kernel_rfl)
        go_wp2
        rw [HCAT.out]
        go_roundw
        case rel => exact ⟨n, cap, i + 1, _, rfl, by go_num, by omega, Lib_hid (by rw [HC.out]; exact HN2.out), by rw [HC.out]; exact own_keep HO2.out fun _ _ => rfl, Lib_hid (below_drew_ HB2.out (n := 1))⟩
        case measure => simp [intOf]; omega
    · obtain rfl : i = s.length := by omega
      have HF := Lib_hid (FIN.out wr A n cap hn.out hown hbw.out)
      go_wp2
      go_ret
      exact HF.out

end Go.Proofs.YtbcadnkdehknoaaGreatDoor

namespace Go.Proofs.YtbcadnkdehknoaaGreatDoor
open Go Go.RowKit
set_option linter.unusedVariables false

theorem valW_snoc (s : List UInt8) (b : UInt8) : valW (s ++ [b]) = valStep (valW s) b := by unfold valW; rw [List.foldl_append]; rfl
set_option maxRecDepth 100000 in
theorem rvalue5_any (s : List UInt8) (w : World) (hl : s.length ≤ 100000) : Calls Tryz.prog 68 #[.string ⟨s.toArray⟩] w fun e w' => e = .returned (.int .u64 ((valW s : Nat) : Int)) ∧ w' = w := by
  have HV : Hid (valW (s.take 0) = 0) := rfl
  go_enter Tryz.func68, Tryz.ntmps68
  go_wp2
  go_loop [3, 4] (fun v z => ∃ n i : Nat, v = .int .u64 (n : Int) ∧ z = .int .i64 i ∧ i ≤ s.length ∧ Hid (n = valW (s.take i))) (fun _ z => s.length - (intOf z).toNat)
  case atStart => exact ⟨0, 0, rfl, rfl, Nat.zero_le _, HV.out.symm⟩
  case round =>
    obtain ⟨n, i, rfl, rfl, hi1, hn⟩ := hrel
    by_cases hlt : i < s.length
    · have hil : (i : Int) < (s.length : Int) := by omega
      have hix := ix_str s i hlt
      have HTK := Lib_hid (take_snoc hlt)
      generalize s[i] = cb at *
      have HS : Hid (valW (s.take (i + 1)) = (n * 10 + (cb.toNat + 208) % 256) % 18446744073709551616) := by
        unfold Hid
        rw [HTK.out, valW_snoc, ← hn.out]
        rfl
      have hcb := cb.toNat_lt
      generalize cb.toNat = bn at *
      have hw : IntKind.u64.wrap (IntKind.u64.wrap ((n : Int) * 10) + ((bn : Int) - 48) % 256) = (((n * 10 + (bn + 208) % 256) % 18446744073709551616 : Nat) : Int) := by
        rw [IntKind.wrap_u64, IntKind.wrap_u64]
        omega
      have HW := Lib_hid hw
      clear hw
      go_wp2
      go_round
      case rel => exact ⟨(n * 10 + (bn + 208) % 256) % 18446744073709551616, i + 1, by rw [← HW.out], by go_num, by omega, HS.out.symm⟩
      case measure => simp [intOf]; omega
    · obtain rfl : i = s.length := by omega
      rw [List.take_length] at hn
      have HN := Lib_hid hn.out
      go_wp2
      go_ret
      exact ⟨by rw [← HN.out]; rfl, rfl⟩

theorem rtold5_any (a b : Nat) (w : World) (ha : a < 18446744073709551616) (hb : b < 18446744073709551616) : Calls Tryz.prog 27 #[.agg #[.int .u64 (a : Int), .int .u64 (b : Int)]] w fun e w' => e = .returned (.string ⟨(verL a b).toArray⟩) ∧ Below w.heap.size w w' := by
  have b1 := below_new w (.cells #[.int .u64 (a : Int), .int .u64 (b : Int)] 33)
  have h1 := heap_alloc_new w (.cells #[.int .u64 (a : Int), .int .u64 (b : Int)] 33)
  have HC : Hid ((⟨(Lib.decDigits a).toArray⟩ : ByteArray) ++ ⟨#[46]⟩ ++ ⟨(Lib.decDigits b).toArray⟩ = ⟨(verL a b).toArray⟩) := by unfold Hid; rw [show (⟨#[46]⟩ : ByteArray) = ⟨[(46 : UInt8)].toArray⟩ from rfl, bcat, bcat]; rfl
  have hda := dec_len (x := a) (by omega)
  have hdb := dec_len (x := b) (by omega)
  have hz1 : ¬ 9223372036854775807 < (Lib.decDigits a).length + 1 := by omega
  have hz2 : ¬ 9223372036854775807 < (Lib.decDigits a).length + 1 + (Lib.decDigits b).length := by omega
  go_enter Tryz.func27, Tryz.ntmps27
  go_upto_region 1 with (fail)
  generalize w.alloc (.cells #[.int .u64 (a : Int), .int .u64 (b : Int)] 33) = w1 at *
  have c0 := cell_of_row w1 _ 0 _ _ _ h1
  have c1 := cell_of_row w1 _ 1 _ _ _ h1
  simp at c0 c1
  have DD : Hid (∀ n : Nat, n < 18446744073709551616 → ∀ k, Calls Tryz.prog 46 #[.int .u64 (n : Int)] (w1.drewN k) fun e w' => e = .returned (.string ⟨(Lib.decDigits n).toArray⟩) ∧ ∃ q, w' = w1.drewN q) := fun n hn k => (rdigits_any n _ hn).mono fun e w' h => ⟨h.1, k, h.2⟩
  go_quiet ((go_at_call 46; exact DD.out _ (by assumption) _))
  go_wp2_with fail
  go_ret
  exact ⟨by rw [← HC.out]; rfl, below_drew_ b1⟩

def wordsV : Array Value := #[.string ⟨#[]⟩, .string ⟨(nameL 1).toArray⟩, .string ⟨(nameL 2).toArray⟩, .string ⟨(nameL 3).toArray⟩, .string ⟨(nameL 4).toArray⟩, .string ⟨(nameL 5).toArray⟩, .string ⟨(nameL 6).toArray⟩, .string ⟨(nameL 7).toArray⟩]
theorem rwords5_any (w : World) : Calls Tryz.prog 45 #[] w fun e w' => e = .returned (.slice (some ⟨w.heap.size, 0, none⟩) 8 8) ∧ w'.heap[w.heap.size]? = some (.cells wordsV 9 (0, 0)) ∧ Below w.heap.size w w' ∧ w'.heap.size = w.heap.size + 1 := by
  go_enter Tryz.func45, Tryz.ntmps45
  go_wp2
  go_ret
  exact ⟨rfl, heap_alloc_new w _, below_new w _, by simp⟩
theorem wordsV_at {i : Nat} (hi : i < 8) : wordsV[i]? = some (.string ⟨(nameL (i : Int)).toArray⟩) := by
  have : i = 0 ∨ i = 1 ∨ i = 2 ∨ i = 3 ∨ i = 4 ∨ i = 5 ∨ i = 6 ∨ i = 7 := by omega
  rcases this with rfl | rfl | rfl | rfl | rfl | rfl | rfl | rfl <;> rfl

set_option maxRecDepth 100000 in
set_option maxHeartbeats 1600000 in
theorem rver5_any (s : List UInt8) (w : World) (hl : s.length ≤ 100000) : Calls Tryz.prog 69 #[.string ⟨s.toArray⟩] w fun e w' => e = .returned (.agg #[.int .u64 (((lverL s).1 : Nat) : Int), .int .u64 (((lverL s).2 : Nat) : Int)]) ∧ Below w.heap.size w w' := by
  have hsz : (Tryz.prog.info? 33).map (·.size) = some 2 := by kernel_rfl
  have b1 := below_new w (.cells #[.int .u64 0, .int .u64 0] 33)
  have h1 := heap_alloc_new w (.cells #[.int .u64 0, .int .u64 0] 33)
  have CU := rcuts_any s 46 (w.alloc (.cells #[.int .u64 0, .int .u64 0] 33)) hl
  have HLV : Hid (lverL s = if (cutsL 46 s).length = 2 then (valW ((cutsL 46 s).getD 0 []), valW ((cutsL 46 s).getD 1 [])) else (0, 0)) := rfl
  have HLM : Hid (∀ x ∈ cutsL 46 s, x.length ≤ 100000) := fun x hx => by have := cutsL_mem 46 s x hx; omega
  generalize lverL s = lv at *
  generalize cutsL 46 s = L at *
  obtain ⟨va, vb⟩ := lv
  go_enter Tryz.func69, Tryz.ntmps69
  go_upto_region 1 with (fail)
  generalize w.alloc (.cells #[.int .u64 0, .int .u64 0] 33) = w1 at *
  go_wp2_with fail
  refine CU.mono ?_
  rintro e w2 ⟨A, cap, rfl, hown, hb2⟩
  have hr2 := (hb2.block _ (lt_of_block h1)).trans h1
  have hb2' := b1.trans (hb2.mono b1.size)
  have e0 := cell_of_row w2 _ 0 _ _ _ hr2
  have e1 := cell_of_row w2 _ 1 _ _ _ hr2
  have y0 := frozen_of_row w2 w.heap.size 0 _ _ hr2
  have y1 := frozen_of_row w2 w.heap.size 1 _ _ hr2
  simp at e0 e1
  have FIN : Hid (∀ (x y : Nat) (W : World), (x, y) = (va, vb) → (∃ q, W = w2.drewN q) → ((W.setCell ⟨w.heap.size, 0, none⟩ (.int .u64 (x : Int))).setCell ⟨w.heap.size, 1, none⟩ (.int .u64 (y : Int))).heap[w.heap.size]? = some (.cells #[.int .u64 (x : Int), .int .u64 (y : Int)] 33 (0, 0)) ∧
      (Ending.returned (.agg #[.int .u64 (x : Int), .int .u64 (y : Int)]) = .returned (.agg #[.int .u64 (va : Int), .int .u64 (vb : Int)]) ∧ Below w.heap.size w ((W.setCell ⟨w.heap.size, 0, none⟩ (.int .u64 (x : Int))).setCell ⟨w.heap.size, 1, none⟩ (.int .u64 (y : Int))))) := fun x y W h hq => by
    obtain ⟨q, rfl⟩ := hq
    injection h with h1 h2
    subst h1 h2
    exact ⟨set2_block hr2, rfl, below_set2 (below_drew_ hb2') (Nat.le_refl _)⟩
  clear h1 b1 CU hb2
  by_cases h2 : L.length = 2
  · have q2 : ((L.length : Int) != 2) = false := by simp; omega
    obtain ⟨x, y, rfl⟩ : ∃ x y, L = [x, y] := by
      match L, h2 with
      | [x, y], _ => exact ⟨x, y, rfl⟩
    have HV2 : Hid ((valW x, valW y) = (va, vb)) := by unfold Hid; rw [HLV.out]; rfl
    have hxl := HLM.out x (by simp)
    have hyl := HLM.out y (by simp)
    obtain ⟨g, cap', hv, hgg, hgl⟩ := hown.form (by simp)
    injection hv with hv1 hv2 hv3
    subst hv1 hv3
    have d0 : w2.cell? ⟨g, 0, none⟩ = some (.string ⟨x.toArray⟩) := hown.cells (g := g) rfl 0 _ rfl
    have d1 : w2.cell? ⟨g, 1, none⟩ = some (.string ⟨y.toArray⟩) := hown.cells (g := g) rfl 1 _ rfl
    have V1 : Hid (∀ q, Calls Tryz.prog 68 #[.string ⟨x.toArray⟩] (w2.drewN q) fun e w' => e = .returned (.int .u64 ((valW x : Nat) : Int)) ∧ w' = w2.drewN q) := fun q => rvalue5_any x _ hxl
    have V2 : Hid (∀ q, Calls Tryz.prog 68 #[.string ⟨y.toArray⟩] (w2.drewN q) fun e w' => e = .returned (.int .u64 ((valW y : Nat) : Int)) ∧ w' = w2.drewN q) := fun q => rvalue5_any y _ hyl
    have hn2 : ([x, y] : List (List UInt8)).length = 2 := rfl
    rw [hn2] at *
    have FF := Lib_hid (fun q => FIN.out (valW x) (valW y) (w2.drewN q) HV2.out ⟨q, rfl⟩)
    clear FIN HLV HLM hown hv2 HV2 h2 hxl hyl
    generalize valW x = vx at *
    generalize valW y = vy at *
    go_wp2
    go_still_tail 9, (by kernel_rfl)
    still_call (V1.out 1)
    repeat still_step
    still_call (V2.out 1)
    repeat still_step
    try refine wpStill_nil ?_
    obtain ⟨F1, F2⟩ := FF.out 1
    replace F1 := Lib_hid F1
    replace F2 := Lib_hid F2
    go_wp2
    exact bodyPost_ret (results_cell_row (p := 2) (ty := 33) rfl _ _ w.heap.size 33 #[.int .u64 (vx : Int), .int .u64 (vy : Int)] (0, 0) _ rfl F1.out Tryz.underlying33 rfl hsz) rfl F2.out
  · have q2 : ((L.length : Int) != 2) = true := by simp; omega
    have HV2 : Hid ((0, 0) = (va, vb)) := by unfold Hid; rw [HLV.out, if_neg h2]
    obtain ⟨F1, F2⟩ := FIN.out 0 0 w2 HV2.out ⟨0, rfl⟩
    replace F1 := Lib_hid F1
    replace F2 := Lib_hid F2
    clear FIN HLV HLM hown HV2 h2
    generalize L.length = n at *
    go_wp2
    exact bodyPost_ret (results_cell_row (p := 2) (ty := 33) rfl _ _ w.heap.size 33 #[.int .u64 0, .int .u64 0] (0, 0) _ rfl F1.out Tryz.underlying33 rfl hsz) rfl F2.out

end Go.Proofs.YtbcadnkdehknoaaGreatDoor
