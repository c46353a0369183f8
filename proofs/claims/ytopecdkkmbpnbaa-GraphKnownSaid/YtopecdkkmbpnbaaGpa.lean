/-
  Plain facts of layer 13: edges in order, a graph as a row of them, and as rows of its nodes with places. No program is named here.
-/
import GoSem.Claim
namespace Go.Proofs.Ytopecdkkmbpnbaa
set_option linter.unusedVariables false

abbrev Ed := Int × Int × Int

/-- One edge ahead of another one. -/
def ltE (a b : Ed) : Prop := a.1 < b.1 ∨ a.1 = b.1 ∧ (a.2.1 < b.2.1 ∨ a.2.1 = b.2.1 ∧ a.2.2 < b.2.2)
instance (a b : Ed) : Decidable (ltE a b) := by unfold ltE; infer_instance
def cmpE (a b : Ed) : Int := if ltE a b then -1 else if ltE b a then 1 else 0

theorem ed_ext {a b : Ed} (h1 : a.1 = b.1) (h2 : a.2.1 = b.2.1) (h3 : a.2.2 = b.2.2) : a = b := Prod.ext h1 (Prod.ext h2 h3)
theorem ltE_irrefl (a : Ed) : ¬ ltE a a := by unfold ltE; omega
theorem ltE_trans {a b c : Ed} (h : ltE a b) (k : ltE b c) : ltE a c := by unfold ltE at *; omega
theorem ltE_asymm {a b : Ed} (h : ltE a b) : ¬ ltE b a := fun k => ltE_irrefl a (ltE_trans h k)
theorem ltE_total {a b : Ed} (h : ¬ ltE a b) (k : ¬ ltE b a) : a = b := by unfold ltE at *; exact ed_ext (by omega) (by omega) (by omega)
theorem ltE_ne {a b : Ed} (h : ltE a b) : a ≠ b := fun e => ltE_irrefl a (by rw [← e] at h; exact h)
theorem cmpE_neg {a b : Ed} : cmpE a b < 0 ↔ ltE a b := by
  unfold cmpE
  by_cases h : ltE a b
  · simp [h]
  · by_cases k : ltE b a <;> simp [h, k]
theorem cmpE_zero {a b : Ed} : cmpE a b = 0 ↔ a = b := by
  unfold cmpE
  by_cases h : ltE a b
  · simp [h, ltE_ne h]
  · by_cases k : ltE b a
    · simp [h, k, (ltE_ne k).symm]
    · have e := ltE_total h k
      subst e
      simp [ltE_irrefl]

/-- A row in order, no edge twice. -/
def Srt (l : List Ed) : Prop := l.Pairwise ltE
theorem Srt.nil : Srt [] := List.Pairwise.nil
theorem Srt.nodup {l : List Ed} (h : Srt l) : l.Nodup := h.imp fun h => ltE_ne h
theorem Srt.filter {l : List Ed} (h : Srt l) (p : Ed → Bool) : Srt (l.filter p) := List.Pairwise.filter p h
theorem Srt.tail {x : Ed} {l : List Ed} (h : Srt (x :: l)) : Srt l := (List.pairwise_cons.1 h).2

/-- Two rows in order with the same edges are one. -/
theorem Srt.uniq : ∀ {l m : List Ed}, Srt l → Srt m → (∀ e, e ∈ l ↔ e ∈ m) → l = m
  | [], [], _, _, _ => rfl
  | [], y :: m, _, _, h => absurd ((h y).2 (List.mem_cons_self ..)) (by simp)
  | x :: l, [], _, _, h => absurd ((h x).1 (List.mem_cons_self ..)) (by simp)
  | x :: l, y :: m, hl, hm, h => by
    have h1 := List.pairwise_cons.1 hl
    have h2 := List.pairwise_cons.1 hm
    have e : x = y := by
      rcases List.mem_cons.1 ((h x).1 (List.mem_cons_self ..)) with e | hx
      · exact e
      · rcases List.mem_cons.1 ((h y).2 (List.mem_cons_self ..)) with e | hy
        · exact e.symm
        · exact absurd (h1.1 y hy) (ltE_asymm (h2.1 x hx))
    subst e
    rw [Srt.uniq h1.2 h2.2 fun z => ?_]
    constructor
    · intro hz
      rcases List.mem_cons.1 ((h z).1 (List.mem_cons_of_mem _ hz)) with e | hz'
      · exact absurd (h1.1 z hz) (by rw [e]; exact ltE_irrefl _)
      · exact hz'
    · intro hz
      rcases List.mem_cons.1 ((h z).2 (List.mem_cons_of_mem _ hz)) with e | hz'
      · exact absurd (h2.1 z hz) (by rw [e]; exact ltE_irrefl _)
      · exact hz'

/-- A row put in order. -/
def srtE (l : List Ed) : List Ed := l.mergeSort fun x y => !decide (ltE y x)
theorem mem_srtE {l : List Ed} {e : Ed} : e ∈ srtE l ↔ e ∈ l := List.mem_mergeSort
theorem len_srtE (l : List Ed) : (srtE l).length = l.length := List.length_mergeSort _
theorem srt_srtE {l : List Ed} (h : l.Nodup) : Srt (srtE l) := by
  have h1 : (srtE l).Pairwise fun x y => (!decide (ltE y x)) = true := by
    refine List.pairwise_mergeSort (fun a b c h1 h2 => ?_) (fun a b => ?_) l
    · simp only [Bool.not_eq_true', decide_eq_false_iff_not] at *
      intro h3
      by_cases h4 : ltE a b
      · exact h2 (ltE_trans h3 h4)
      · have := ltE_total h4 h1
        subst this
        exact h2 h3
    · by_cases h1 : ltE b a
      · have := ltE_asymm h1
        simp [this]
      · simp [h1]
  have h2 : (srtE l).Nodup := (List.mergeSort_perm l _).nodup_iff.2 h
  have h3 := h1.and h2
  refine h3.imp fun {a b} h4 => ?_
  by_cases h5 : ltE a b
  · exact h5
  · exact absurd (ltE_total h5 (by simpa using h4.1)) h4.2
theorem srtE_eq {l m : List Ed} (h : l.Nodup) (hm : Srt m) (he : ∀ e, e ∈ l ↔ e ∈ m) : srtE l = m :=
  Srt.uniq (srt_srtE h) hm fun e => mem_srtE.trans (he e)

/-- An edge laid into a row in order. -/
def insE (l : List Ed) (e : Ed) : List Ed := match l with
  | [] => [e]
  | x :: l => if ltE e x then e :: x :: l else x :: insE l e
theorem mem_insE {e y : Ed} : ∀ {l : List Ed}, y ∈ insE l e ↔ y = e ∨ y ∈ l
  | [] => by simp [insE]
  | x :: l => by
    unfold insE
    by_cases h : ltE e x
    · simp [h]
    · simp only [h, if_false, List.mem_cons, mem_insE (l := l)]
      constructor
      · rintro (h | h | h) <;> simp [h]
      · rintro (h | h | h) <;> simp [h]
theorem len_insE (e : Ed) : ∀ l : List Ed, (insE l e).length = l.length + 1
  | [] => rfl
  | x :: l => by unfold insE; split <;> simp [len_insE e l]
theorem srt_insE {e : Ed} : ∀ {l : List Ed}, Srt l → e ∉ l → Srt (insE l e)
  | [], _, _ => List.pairwise_singleton ..
  | x :: l, h, hn => by
    have h1 := List.pairwise_cons.1 h
    unfold insE
    by_cases hx : ltE e x
    · rw [if_pos hx]
      refine List.pairwise_cons.2 ⟨fun y hy => ?_, h⟩
      rcases List.mem_cons.1 hy with rfl | hy
      · exact hx
      · exact ltE_trans hx (h1.1 y hy)
    · rw [if_neg hx]
      refine List.pairwise_cons.2 ⟨fun y hy => ?_, srt_insE h1.2 fun hc => hn (List.mem_cons_of_mem _ hc)⟩
      rcases mem_insE.1 hy with rfl | hy
      · by_cases h2 : ltE x y
        · exact h2
        · exact absurd (ltE_total hx h2) (fun e => hn (by rw [e]; exact List.mem_cons_self ..))
      · exact h1.1 y hy
/-- The document's way: all that are not behind it ahead of it. -/
theorem insE_split {e : Ed} : ∀ {l : List Ed}, Srt l → insE l e = l.takeWhile (fun x => !decide (ltE e x)) ++ e :: l.dropWhile (fun x => !decide (ltE e x))
  | [], _ => rfl
  | x :: l, h => by
    unfold insE
    by_cases hx : ltE e x
    · simp [hx]
    · simp [hx, insE_split h.tail]

/-- An edge added, edges added, one taken away. -/
def addE (l : List Ed) (e : Ed) : List Ed := if e ∈ l then l else insE l e
def addEs (l xs : List Ed) : List Ed := xs.foldl addE l
def remE (l : List Ed) (e : Ed) : List Ed := l.filter fun x => decide (x ≠ e)
theorem mem_addE {l : List Ed} {e y : Ed} : y ∈ addE l e ↔ y = e ∨ y ∈ l := by
  unfold addE
  by_cases h : e ∈ l
  · rw [if_pos h]
    constructor
    · exact .inr
    · rintro (rfl | h1)
      · exact h
      · exact h1
  · rw [if_neg h, mem_insE]
theorem srt_addE {l : List Ed} (h : Srt l) (e : Ed) : Srt (addE l e) := by
  unfold addE
  by_cases k : e ∈ l
  · rw [if_pos k]; exact h
  · rw [if_neg k]; exact srt_insE h k
theorem mem_addEs {y : Ed} : ∀ {xs l : List Ed}, y ∈ addEs l xs ↔ y ∈ xs ∨ y ∈ l
  | [], l => by simp [addEs]
  | x :: xs, l => by
    show y ∈ addEs (addE l x) xs ↔ _
    rw [mem_addEs (xs := xs), mem_addE, List.mem_cons]
    constructor
    · rintro (h | h | h) <;> simp [h]
    · rintro ((h | h) | h) <;> simp [h]
theorem srt_addEs : ∀ {xs l : List Ed}, Srt l → Srt (addEs l xs)
  | [], _, h => h
  | x :: xs, l, h => srt_addEs (xs := xs) (srt_addE h x)
theorem addEs_nil (l : List Ed) : addEs l [] = l := rfl
theorem addEs_snoc (l xs : List Ed) (e : Ed) : addEs l (xs ++ [e]) = addE (addEs l xs) e := by simp [addEs, List.foldl_append]
theorem addE_len (l : List Ed) (e : Ed) : (addE l e).length = l.length + if e ∈ l then 0 else 1 := by
  unfold addE; split <;> simp [len_insE]
theorem addEs_len : ∀ (xs l : List Ed), l.length ≤ (addEs l xs).length ∧ (addEs l xs).length ≤ l.length + xs.length
  | [], _ => by simp [addEs]
  | x :: xs, l => by
    have h1 := addEs_len xs (addE l x)
    have h2 := addE_len l x
    change l.length ≤ (addEs (addE l x) xs).length ∧ (addEs (addE l x) xs).length ≤ l.length + (xs.length + 1)
    split at h2 <;> omega
theorem mem_remE {l : List Ed} {e y : Ed} : y ∈ remE l e ↔ y ∈ l ∧ y ≠ e := by simp [remE]
theorem srt_remE {l : List Ed} (h : Srt l) (e : Ed) : Srt (remE l e) := h.filter _
theorem remE_no {l : List Ed} {e : Ed} (h : e ∉ l) : remE l e = l := by
  unfold remE
  rw [List.filter_eq_self]
  intro a ha
  simp only [decide_eq_true_eq]
  rintro rfl
  exact h ha
theorem remE_len {e : Ed} : ∀ {l : List Ed}, l.Nodup → e ∈ l → (remE l e).length + 1 = l.length
  | x :: l, h, hm => by
    have h1 := List.nodup_cons.1 h
    by_cases hx : x = e
    · subst hx
      have : remE (x :: l) x = remE l x := by simp [remE]
      rw [this, remE_no h1.1]; rfl
    · have : remE (x :: l) e = x :: remE l e := by simp [remE, hx]
      rw [this, List.length_cons, List.length_cons, remE_len h1.2 (by rcases List.mem_cons.1 hm with e1 | e1; exact absurd e1.symm hx; exact e1)]

/-- The edges from a node, to a node; between two; those turned about; those between named nodes; a node's next ones. -/
def outE (l : List Ed) (n : Int) : List Ed := l.filter fun x => decide (x.1 = n)
def inE (l : List Ed) (n : Int) : List Ed := l.filter fun x => decide (x.2.1 = n)
def betE (l : List Ed) (n m : Int) : List Ed := l.filter fun x => decide (x.1 = n ∧ x.2.1 = m)
def swE (e : Ed) : Ed := (e.2.1, e.1, e.2.2)
def backE (l : List Ed) : List Ed := addEs [] (l.map swE)
def onlyE (l : List Ed) (ns : List Int) : List Ed := l.filter fun x => decide (x.1 ∈ ns ∧ x.2.1 ∈ ns)
/-- No two alike side by side. -/
def compL : List Int → List Int
  | [] => []
  | [x] => [x]
  | x :: y :: l => if x = y then compL (y :: l) else x :: compL (y :: l)
def nextE (l : List Ed) (n : Int) : List Int := compL ((outE l n).map fun x => x.2.1)
theorem swE_swE (e : Ed) : swE (swE e) = e := rfl
theorem mem_backE {l : List Ed} {e : Ed} : e ∈ backE l ↔ swE e ∈ l := by
  unfold backE
  rw [mem_addEs]
  simp only [List.mem_map, List.not_mem_nil, or_false]
  constructor
  · rintro ⟨a, h, rfl⟩; rwa [swE_swE]
  · intro h; exact ⟨_, h, swE_swE e⟩
theorem srt_backE (l : List Ed) : Srt (backE l) := srt_addEs Srt.nil

/-- Rows by nodes. -/
def upR (R : Nat → List Ed) (n : Nat) (v : List Ed) : Nat → List Ed := fun k => if k = n then v else R k
theorem upR_same (R : Nat → List Ed) (n : Nat) (v : List Ed) : upR R n v n = v := if_pos rfl
theorem upR_other (R : Nat → List Ed) {n k : Nat} (v : List Ed) (h : k ≠ n) : upR R n v k = R k := if_neg h
/-- Places by edges. -/
abbrev Pl := Nat × Nat
def upF (f : Ed → Option Pl) (e : Ed) (v : Option Pl) : Ed → Option Pl := fun x => if x = e then v else f x
theorem upF_same (f : Ed → Option Pl) (e : Ed) (v : Option Pl) : upF f e v e = v := if_pos rfl
theorem upF_other (f : Ed → Option Pl) {e x : Ed} (v : Option Pl) (h : x ≠ e) : upF f e v x = f x := if_neg h

/-- The last one comes to a place, and is left out at the end. -/
def dropAt (l : List Ed) (k : Nat) (z : Ed) : List Ed := (l.set k z).dropLast
/-- Half a graph: the rows of its nodes, each edge in the row of the node that key says, at its place. -/
structure HalfG (N : Nat) (key : Ed → Int) (L : List Ed) (R : Nat → List Ed) (pl : Ed → Nat) : Prop where
  at_ : ∀ e ∈ L, ∀ n : Nat, key e = n → (R n)[pl e]? = some e
  mem : ∀ n : Nat, n < N → ∀ e ∈ R n, e ∈ L ∧ key e = n
  nd : ∀ n : Nat, n < N → (R n).Nodup
theorem HalfG.iff {N : Nat} {key : Ed → Int} {L : List Ed} {R : Nat → List Ed} {pl : Ed → Nat} (h : HalfG N key L R pl) {n : Nat} (hn : n < N) (e : Ed) : e ∈ R n ↔ e ∈ L ∧ key e = n :=
  ⟨h.mem n hn e, fun ⟨h1, h2⟩ => List.mem_of_getElem? (h.at_ e h1 n h2)⟩

/-- An edge put at the end of its row. -/
theorem HalfG.put {N : Nat} {key : Ed → Int} {L L' : List Ed} {R : Nat → List Ed} {pl pl' : Ed → Nat} (h : HalfG N key L R pl) {e : Ed} {n : Nat} (hk : key e = n) (he : e ∉ L) (hL : ∀ x, x ∈ L' ↔ x = e ∨ x ∈ L)
    (hp : pl' e = (R n).length) (hq : ∀ x, x ≠ e → pl' x = pl x) (hn : n < N) : HalfG N key L' (upR R n (R n ++ [e])) pl' where
  at_ x hx k hkx := by
    by_cases hxe : x = e
    · subst hxe
      have : k = n := by omega
      subst this
      rw [upR_same, hp]; simp
    · have hx' : x ∈ L := by rcases (hL x).1 hx with e1 | e1; exact absurd e1 hxe; exact e1
      rw [hq x hxe]
      have h1 := h.at_ x hx' k hkx
      by_cases hkn : k = n
      · subst hkn
        rw [upR_same, List.getElem?_append_left (List.getElem?_eq_some_iff.1 h1).1]; exact h1
      · rw [upR_other _ _ hkn]; exact h1
  mem k hkN x hx := by
    by_cases hkn : k = n
    · subst hkn
      rw [upR_same] at hx
      rcases List.mem_append.1 hx with h1 | h1
      · exact ⟨(hL x).2 (.inr (h.mem _ hkN x h1).1), (h.mem _ hkN x h1).2⟩
      · rw [List.mem_singleton] at h1
        subst h1
        exact ⟨(hL _).2 (.inl rfl), hk⟩
    · rw [upR_other _ _ hkn] at hx
      exact ⟨(hL x).2 (.inr (h.mem k hkN x hx).1), (h.mem k hkN x hx).2⟩
  nd k hkN := by
    by_cases hkn : k = n
    · subst hkn
      rw [upR_same, List.nodup_append]
      refine ⟨h.nd _ hkN, by simp, fun a ha b hb => ?_⟩
      rw [List.mem_singleton] at hb
      subst hb
      rintro rfl
      exact he (h.mem _ hkN _ ha).1
    · rw [upR_other _ _ hkn]; exact h.nd k hkN

theorem last_get {l : List Ed} {z : Ed} (hz : l[l.length - 1]? = some z) : 0 < l.length := by
  have := (List.getElem?_eq_some_iff.1 hz).1
  omega
theorem dropAt_get {l : List Ed} {a : Nat} {z : Ed} (k : Nat) : (dropAt l a z)[k]? = if k < l.length - 1 then (if k = a then some z else l[k]?) else none := by
  unfold dropAt
  rw [List.getElem?_dropLast, List.length_set]
  by_cases h : k < l.length - 1
  · rw [if_pos h, if_pos h, List.getElem?_set]
    by_cases h2 : k = a
    · subst h2
      rw [if_pos rfl, if_pos rfl, if_pos (by omega)]
    · rw [if_neg (fun e => h2 e.symm), if_neg h2]
  · rw [if_neg h, if_neg h]

/-- An edge taken out of its row: the last one there comes to its place. -/
theorem HalfG.drop {N : Nat} {key : Ed → Int} {L L' : List Ed} {R : Nat → List Ed} {pl pl' : Ed → Nat} (h : HalfG N key L R pl) {e z : Ed} {n : Nat} (hk : key e = n) (he : e ∈ L) (hL : ∀ x, x ∈ L' ↔ x ∈ L ∧ x ≠ e)
    (hz : (R n)[(R n).length - 1]? = some z) (hp : z ≠ e → pl' z = pl e) (hq : ∀ x, x ≠ e → x ≠ z → pl' x = pl x) (hn : n < N) : HalfG N key L' (upR R n (dropAt (R n) (pl e) z)) pl' := by
  have hez := h.at_ e he n hk
  have hlt := (List.getElem?_eq_some_iff.1 hez).1
  have hzm := h.mem n hn z (List.mem_of_getElem? hz)
  have hnd := h.nd n hn
  have huniq : ∀ i j : Nat, ∀ x : Ed, (R n)[i]? = some x → (R n)[j]? = some x → i = j := by
    intro i j x hi hj
    obtain ⟨h1, h2⟩ := List.getElem?_eq_some_iff.1 hi
    obtain ⟨h3, h4⟩ := List.getElem?_eq_some_iff.1 hj
    exact (List.getElem_inj hnd).1 (h2.trans h4.symm)
  have hzp := h.at_ z hzm.1 n hzm.2
  have hzl : pl z = (R n).length - 1 := huniq _ _ _ hzp hz
  refine ⟨fun x hx k hkx => ?_, fun k hkN x hx => ?_, fun k hkN => ?_⟩
  · have hx' := (hL x).1 hx
    by_cases hkn : k = n
    · subst hkn
      rw [upR_same, dropAt_get]
      have h1 := h.at_ x hx'.1 k hkx
      have hl1 := (List.getElem?_eq_some_iff.1 h1).1
      by_cases hxz : x = z
      · subst hxz
        rw [hp hx'.2]
        have : pl e ≠ (R k).length - 1 := fun hc => hx'.2 (by rw [hc] at hez; rw [hez] at hz; exact (Option.some.inj hz).symm)
        rw [if_pos (by omega), if_pos rfl]
      · rw [hq x hx'.2 hxz]
        have n1 : pl x ≠ (R k).length - 1 := fun hc => hxz (by rw [hc] at h1; rw [h1] at hz; exact Option.some.inj hz)
        have n2 : pl x ≠ pl e := fun hc => hx'.2 (by rw [hc] at h1; rw [h1] at hez; exact Option.some.inj hez)
        rw [if_pos (by omega), if_neg n2]; exact h1
    · rw [upR_other _ _ hkn]
      have hxz : x ≠ z := by rintro rfl; have := hzm.2; omega
      rw [hq x hx'.2 hxz]
      exact h.at_ x hx'.1 k hkx
  · by_cases hkn : k = n
    · subst hkn
      rw [upR_same] at hx
      obtain ⟨i, hi⟩ := List.getElem?_of_mem hx
      rw [dropAt_get] at hi
      split at hi
      · split at hi
        · rename_i h1 h2
          subst h2
          have : z = x := Option.some.inj hi
          subst this
          refine ⟨(hL z).2 ⟨hzm.1, ?_⟩, hzm.2⟩
          rintro rfl
          omega
        · rename_i h1 h2
          have hm := h.mem k hn x (List.mem_of_getElem? hi)
          refine ⟨(hL x).2 ⟨hm.1, ?_⟩, hm.2⟩
          rintro rfl
          exact h2 (huniq _ _ _ hi hez)
      · cases hi
    · rw [upR_other _ _ hkn] at hx
      have hm := h.mem k hkN x hx
      refine ⟨(hL x).2 ⟨hm.1, ?_⟩, hm.2⟩
      rintro rfl
      have := hm.2
      omega
  · by_cases hkn : k = n
    · subst hkn
      rw [upR_same]
      refine List.pairwise_iff_getElem.2 fun i j hi hj hij hc => ?_
      have hc : (dropAt (R k) (pl e) z)[i]? = (dropAt (R k) (pl e) z)[j]? := by rw [List.getElem?_eq_getElem hi, List.getElem?_eq_getElem hj, hc]
      revert hc
      have hlen : (dropAt (R k) (pl e) z).length = (R k).length - 1 := by simp [dropAt]
      rw [hlen] at hj
      rw [dropAt_get, dropAt_get, if_pos (by omega), if_pos hj]
      by_cases h1 : i = pl e
      · rw [if_pos h1, if_neg (by omega)]
        intro hc
        have := huniq _ _ _ hz hc.symm
        omega
      · rw [if_neg h1]
        by_cases h2 : j = pl e
        · rw [if_pos h2]
          intro hc
          have := huniq _ _ _ hz hc
          omega
        · rw [if_neg h2]
          intro hc
          obtain ⟨x, hx⟩ : ∃ x, (R k)[j]? = some x := ⟨_, List.getElem?_eq_getElem (by omega)⟩
          rw [hx] at hc
          have := huniq _ _ _ hc hx
          omega
    · rw [upR_other _ _ hkn]; exact h.nd k hkN

/-- A graph of N nodes with the edges L, by its rows and places. -/
structure GrG (N : Nat) (L : List Ed) (R I : Nat → List Ed) (f : Ed → Option Pl) : Prop where
  srt : Srt L
  node : ∀ e ∈ L, 0 ≤ e.1 ∧ e.1 < N ∧ 0 ≤ e.2.1 ∧ e.2.1 < N
  out : HalfG N (fun e => e.1) L R (fun e => ((f e).getD (0, 0)).1)
  inn : HalfG N (fun e => e.2.1) L I (fun e => ((f e).getD (0, 0)).2)
  has : ∀ e, (f e).isSome = decide (e ∈ L)

theorem GrG.new (N : Nat) : GrG N [] (fun _ => []) (fun _ => []) (fun _ => none) :=
  ⟨.nil, by simp, ⟨by simp, by simp, by simp⟩, ⟨by simp, by simp, by simp⟩, by simp⟩

theorem GrG.put {N : Nat} {L : List Ed} {R I : Nat → List Ed} {f : Ed → Option Pl} (h : GrG N L R I f) {e : Ed} (he : e ∉ L) {n m : Nat} (hn : e.1 = n) (hm : e.2.1 = m) (hnN : n < N) (hmN : m < N) :
    GrG N (insE L e) (upR R n (R n ++ [e])) (upR I m (I m ++ [e])) (upF f e (some ((R n).length, (I m).length))) where
  srt := srt_insE h.srt he
  node x hx := by
    rcases mem_insE.1 hx with rfl | h1
    · omega
    · exact h.node x h1
  out := h.out.put hn he (fun x => mem_insE) (by rw [upF_same]; rfl) (fun x hx => by rw [upF_other _ _ hx]) hnN
  inn := h.inn.put hm he (fun x => mem_insE) (by rw [upF_same]; rfl) (fun x hx => by rw [upF_other _ _ hx]) hmN
  has x := by
    by_cases hx : x = e
    · subst hx; rw [upF_same]; simp [mem_insE]
    · rw [upF_other _ _ hx, h.has x]; simp [mem_insE, hx]

/-- What the places are behind a Remove. -/
def remF (f : Ed → Option Pl) (e z y : Ed) : Ed → Option Pl :=
  let g := (f e).getD (0, 0)
  let f1 := upF f z (some (g.1, ((f z).getD (0, 0)).2))
  let f2 := upF f1 y (some (((f1 y).getD (0, 0)).1, g.2))
  upF f2 e none

theorem GrG.drop {N : Nat} {L : List Ed} {R I : Nat → List Ed} {f : Ed → Option Pl} (h : GrG N L R I f) {e z y : Ed} (he : e ∈ L) {n m : Nat} (hn : e.1 = n) (hm : e.2.1 = m) (hz : (R n)[(R n).length - 1]? = some z) (hy : (I m)[(I m).length - 1]? = some y) :
    GrG N (remE L e) (upR R n (dropAt (R n) ((f e).getD (0, 0)).1 z)) (upR I m (dropAt (I m) ((f e).getD (0, 0)).2 y)) (remF f e z y) := by
  have hnd := h.node e he
  have hnN : n < N := by omega
  have hmN : m < N := by omega
  have hzL := (h.out.mem n hnN z (List.mem_of_getElem? hz)).1
  have hyL := (h.inn.mem m hmN y (List.mem_of_getElem? hy)).1
  refine ⟨srt_remE h.srt e, fun x hx => h.node x (mem_remE.1 hx).1, h.out.drop hn he (fun x => mem_remE) hz (fun hze => ?_) (fun x hx hxz => ?_) hnN, h.inn.drop hm he (fun x => mem_remE) hy (fun hye => ?_) (fun x hx hxy => ?_) hmN, fun x => ?_⟩
  · simp only [remF]
    rw [upF_other _ _ hze]
    by_cases hzy : z = y
    · subst hzy; rw [upF_same, upF_same]; rfl
    · rw [upF_other _ _ hzy, upF_same]; rfl
  · simp only [remF]
    rw [upF_other _ _ hx]
    by_cases hxy : x = y
    · subst hxy; rw [upF_same, upF_other _ _ hxz]; rfl
    · rw [upF_other _ _ hxy, upF_other _ _ hxz]
  · simp only [remF]
    rw [upF_other _ _ hye, upF_same]; rfl
  · simp only [remF]
    rw [upF_other _ _ hx, upF_other _ _ hxy]
    by_cases hxz : x = z
    · subst hxz; rw [upF_same]; rfl
    · rw [upF_other _ _ hxz]
  · simp only [remF]
    by_cases hx : x = e
    · subst hx; rw [upF_same]; simp [mem_remE]
    · rw [upF_other _ _ hx]
      by_cases hxy : x = y
      · subst hxy; rw [upF_same]; simp [mem_remE, hx, hyL]
      · rw [upF_other _ _ hxy]
        by_cases hxz : x = z
        · subst hxz; rw [upF_same]; simp [mem_remE, hx, hzL]
        · rw [upF_other _ _ hxz, h.has x]; simp [mem_remE, hx]

theorem GrG.out_eq {N : Nat} {L : List Ed} {R I : Nat → List Ed} {f : Ed → Option Pl} (h : GrG N L R I f) {n : Nat} (hn : n < N) : srtE (R n) = outE L n :=
  srtE_eq (h.out.nd n hn) (h.srt.filter _) fun e => by rw [h.out.iff hn]; simp [outE]
theorem GrG.in_eq {N : Nat} {L : List Ed} {R I : Nat → List Ed} {f : Ed → Option Pl} (h : GrG N L R I f) {n : Nat} (hn : n < N) : srtE (I n) = inE L n :=
  srtE_eq (h.inn.nd n hn) (h.srt.filter _) fun e => by rw [h.inn.iff hn]; simp [inE]

end Go.Proofs.Ytopecdkkmbpnbaa
