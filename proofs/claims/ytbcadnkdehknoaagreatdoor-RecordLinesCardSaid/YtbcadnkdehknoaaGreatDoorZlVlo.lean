/-
  Layer 5: words of a text, plainly: numbers, versions, entries.
  Layer 5: entries, word by word, plainly.
  Layer 5: the program's words: decimal, joined, next, number.
  Layer 5: the program's words: number.
  Layer 5: the program's words: version.
  Layer 5: the program's words: entry.
-/
import Derived.Test.YtbcadnkdehknoaaGreatDoorZlVta
import Derived.Test.YtbcadnkdehknoaaGreatDoorZlTql
import Derived.Lib.IndexMore

namespace Go.Proofs.YtbcadnkdehknoaaGreatDoor
open Go Go.RowKit
set_option linter.unusedVariables false

/-! ### A text, cut at the first byte of a kind -/
def ahead (c : UInt8) (s : List UInt8) : List UInt8 := s.takeWhile (· != c)
def behind (c : UInt8) (s : List UInt8) : List UInt8 := (s.dropWhile (· != c)).drop 1
theorem ahead_cons (c b : UInt8) (l : List UInt8) : ahead c (b :: l) = if b = c then [] else b :: ahead c l := by
  unfold ahead; rw [List.takeWhile_cons]; by_cases h : b = c <;> simp [h]
theorem behind_cons (c b : UInt8) (l : List UInt8) : behind c (b :: l) = if b = c then l else behind c l := by
  unfold behind; rw [List.dropWhile_cons]; by_cases h : b = c <;> simp [h]
theorem ahead_none {c : UInt8} : ∀ {s : List UInt8}, c ∉ s → ahead c s = s ∧ behind c s = []
  | [], _ => ⟨rfl, rfl⟩
  | b :: l, h => by
    have h1 : b ≠ c := fun e => h (by rw [e]; simp)
    obtain ⟨i1, i2⟩ := ahead_none (c := c) (s := l) (fun e => h (by simp [e]))
    rw [ahead_cons, behind_cons, if_neg h1, if_neg h1, i1, i2]
    exact ⟨rfl, rfl⟩
theorem ahead_some {c : UInt8} : ∀ {s : List UInt8}, c ∈ s → s = ahead c s ++ c :: behind c s
  | b :: l, h => by
    rw [ahead_cons, behind_cons]
    by_cases e : b = c
    · rw [if_pos e, if_pos e, e]; rfl
    · rw [if_neg e, if_neg e, List.cons_append, ← ahead_some (c := c) (s := l) ((List.mem_cons.1 h).resolve_left fun h => e h.symm)]
theorem ahead_not (c : UInt8) : ∀ s : List UInt8, c ∉ ahead c s
  | [] => by simp [ahead]
  | b :: l => by
    rw [ahead_cons]
    by_cases e : b = c
    · rw [if_pos e]; simp
    · rw [if_neg e]
      intro h
      rcases List.mem_cons.1 h with h | h
      · exact e h.symm
      · exact ahead_not c l h
theorem ahead_app {c : UInt8} {x : List UInt8} (h : c ∉ x) (y : List UInt8) : ahead c (x ++ c :: y) = x ∧ behind c (x ++ c :: y) = y := by
  induction x with
  | nil => rw [List.nil_append, ahead_cons, behind_cons, if_pos rfl, if_pos rfl]; exact ⟨rfl, rfl⟩
  | cons b l ih =>
    have h1 : b ≠ c := fun e => h (by rw [e]; simp)
    obtain ⟨i1, i2⟩ := ih (fun e => h (by simp [e]))
    rw [List.cons_append, ahead_cons, behind_cons, if_neg h1, if_neg h1, i1, i2]
    exact ⟨rfl, rfl⟩
theorem ahead_len (c : UInt8) (s : List UInt8) : (ahead c s).length ≤ s.length ∧ (behind c s).length ≤ s.length := by
  by_cases h : c ∈ s
  · have := congrArg List.length (ahead_some h)
    rw [List.length_append, List.length_cons] at this
    omega
  · rw [(ahead_none h).1, (ahead_none h).2]; simp
theorem index_one_byte (c : UInt8) : ∀ s : List UInt8, Lib.index s [c] = if c ∈ s then ((ahead c s).length : Int) else -1
  | [] => by simp [Lib.index]
  | b :: l => by
    have ih := index_one_byte c l
    unfold Lib.index
    rw [ahead_cons]
    by_cases e : b = c
    · subst e; simp
    · have hp : ([c] : List UInt8).isPrefixOf (b :: l) = false := by
        have h0 : (c == b) = false := by simp; exact fun h => e h.symm
        simp [List.isPrefixOf, h0]
      have hm : (c ∈ b :: l) ↔ c ∈ l := ⟨fun h => (List.mem_cons.1 h).resolve_left fun h => e h.symm, fun h => List.mem_cons_of_mem _ h⟩
      rw [hp, if_neg (by decide), if_neg e, ih]
      by_cases h : c ∈ l
      · rw [if_pos h, if_pos (hm.2 h), if_neg (by simp), List.length_cons]; omega
      · rw [if_neg h, if_neg (fun h2 => h (hm.1 h2)), if_pos (by decide)]
theorem cut_one (c : UInt8) (s : List UInt8) : (Lib.cut s [c]).1 = ahead c s ∧ (Lib.cut s [c]).2.1 = behind c s := by
  unfold Lib.cut
  rw [index_one_byte]
  by_cases h : c ∈ s
  · have e := ahead_some h
    rw [if_pos h, if_pos (by omega), Int.toNat_natCast]
    have k : ∀ x y : List UInt8, s = x ++ c :: y → s.take x.length = x ∧ s.drop (x.length + 1) = y := fun x y e => by
      subst e
      refine ⟨List.take_left' rfl, ?_⟩
      rw [List.drop_append, List.drop_of_length_le (by omega), List.nil_append, Nat.add_sub_cancel_left]
      rfl
    exact k _ _ e
  · rw [if_neg h, if_neg (by decide), (ahead_none h).1, (ahead_none h).2]
    exact ⟨rfl, rfl⟩

/-! ### Numbers, versions, entries -/
def numW (s : List UInt8) : Option Nat := match Lib.parseUintB 64 s with
  | .ok u => if Lib.decDigits u = s then some u else none
  | _ => none
theorem numW_lt {s : List UInt8} {u : Nat} (h : numW s = some u) : u < 18446744073709551616 ∧ s = Lib.decDigits u := by
  unfold numW at h
  split at h
  · rename_i v hv
    split at h
    · injection h with h
      subst h
      have := Lib.parseUintB_le hv
      exact ⟨by omega, Eq.symm (by assumption)⟩
    · cases h
  · cases h
theorem dec_no {n : Nat} {c : UInt8} (h : isDig c = false) : c ∉ Lib.decDigits n := fun hc => by rw [dec_dig n c hc] at h; cases h

def verW (s : List UInt8) : Option (Nat × Nat) := match numW (ahead 46 s), numW (behind 46 s) with
  | some a, some b => some (a, b)
  | _, _ => none
theorem numW_nil : numW [] = none := by
  cases h : numW [] with
  | none => rfl
  | some u => have := (numW_lt h).2; have h2 := dec_pos u; rw [← this] at h2; exact absurd h2 (by simp)
theorem verW_some {s : List UInt8} {a b : Nat} (h : verW s = some (a, b)) : a < 18446744073709551616 ∧ b < 18446744073709551616 ∧ s = verL a b := by
  unfold verW at h
  split at h
  · rename_i x y h1 h2
    injection h with h
    injection h with e1 e2
    subst e1 e2
    obtain ⟨l1, e1⟩ := numW_lt h1
    obtain ⟨l2, e2⟩ := numW_lt h2
    refine ⟨l1, l2, ?_⟩
    have hm : (46 : UInt8) ∈ s := Classical.byContradiction fun hn => by rw [(ahead_none hn).2, numW_nil] at h2; cases h2
    rw [ahead_some hm, e1, e2]
    simp [verL]
  · cases h

theorem numW_dec {n : Nat} (h : n < 18446744073709551616) : numW (Lib.decDigits n) = some n := by
  have h1 : Lib.parseUintB 64 (Lib.decDigits n) = .ok n := by
    unfold Lib.parseUintB
    rw [if_neg (fun e => by have := dec_pos n; rw [e] at this; exact absurd this (by simp))]
    exact dec_parse n (by omega)
  unfold numW
  rw [h1]
  simp
theorem verW_tell {a b : Nat} (ha : a < 18446744073709551616) (hb : b < 18446744073709551616) : verW (verL a b) = some (a, b) := by
  have e : verL a b = Lib.decDigits a ++ 46 :: Lib.decDigits b := by simp [verL]
  obtain ⟨h1, h2⟩ := ahead_app (c := 46) (dec_no (n := a) (by decide)) (Lib.decDigits b)
  unfold verW
  rw [e, h1, h2, numW_dec ha, numW_dec hb]

/-- An entry of a word. -/
def enW (s : List UInt8) : Option En := match numW (ahead 58 s), verW (ahead 58 (behind 58 s)) with
  | some x, some (a, b) => if behind 58 (behind 58 s) = [49] then some ⟨x, a, b, true⟩ else if behind 58 (behind 58 s) = [48] then some ⟨x, a, b, false⟩ else none
  | _, _ => none
theorem en_tell (e : En) : e.tell = Lib.decDigits e.x ++ 58 :: (verL e.w e.n ++ 58 :: [if e.m then 49 else 48]) := by
  have h : Lib.decDigits (if e.m then 1 else 0) = [if e.m then 49 else 48] := by
    cases e.m
    · show Lib.decDigits 0 = [48]; rw [dec1 (by decide)]; rfl
    · show Lib.decDigits 1 = [49]; rw [dec1 (by decide)]; rfl
  simp [En.tell, join_flat, h]
theorem ver_no {a b : Nat} {c : UInt8} (h : isDig c = false) (h2 : c ≠ 46) : c ∉ verL a b := fun hc => by
  simp only [verL, List.mem_append, List.mem_cons, List.not_mem_nil, or_false] at hc
  rcases hc with (hc | hc) | hc
  · exact dec_no h hc
  · exact h2 hc
  · exact dec_no h hc
theorem enW_tell {e : En} (h : e.ok) : enW e.tell = some e := by
  obtain ⟨h1, h2, h3⟩ := h
  obtain ⟨x, a, b, m⟩ := e
  simp only at h1 h2 h3
  rw [en_tell]
  obtain ⟨c1, c2⟩ := ahead_app (c := 58) (dec_no (n := x) (by decide)) (verL a b ++ 58 :: [if m then 49 else 48])
  obtain ⟨d1, d2⟩ := ahead_app (c := 58) (ver_no (a := a) (b := b) (by decide) (by decide)) [if m then 49 else 48]
  unfold enW
  simp only
  rw [c1, c2, d1, d2, numW_dec (by omega), verW_tell (by omega) (by omega)]
  cases m <;> simp
theorem enW_some {s : List UInt8} {e : En} (h : enW s = some e) : e.ok ∧ s = e.tell := by
  unfold enW at h
  split at h
  · rename_i x a b h1 h2
    obtain ⟨l1, e1⟩ := numW_lt h1
    obtain ⟨l2, l3, e2⟩ := verW_some h2
    have hm1 : (58 : UInt8) ∈ s := Classical.byContradiction fun hn => by
      rw [(ahead_none hn).2] at h2
      have : verW (ahead 58 []) = none := by unfold verW ahead; simp [numW_nil]
      rw [this] at h2; cases h2
    have e3 := ahead_some hm1
    have hm2 : ∀ c, behind 58 (behind 58 s) = [c] → behind 58 s = verL a b ++ [58, c] := fun c hc => by
      have hm : (58 : UInt8) ∈ behind 58 s := Classical.byContradiction fun hn => by rw [(ahead_none hn).2] at hc; cases hc
      have := ahead_some hm
      rw [e2, hc] at this
      simpa using this
    split at h
    · rename_i hc
      injection h with h
      subst h
      refine ⟨⟨by show (x : Int) ≤ _; omega, by show (a : Int) ≤ _; omega, by show (b : Int) ≤ _; omega⟩, ?_⟩
      rw [en_tell, e3, e1, hm2 _ hc]
      simp
    · split at h
      · rename_i hc
        injection h with h
        subst h
        refine ⟨⟨by show (x : Int) ≤ _; omega, by show (a : Int) ≤ _; omega, by show (b : Int) ≤ _; omega⟩, ?_⟩
        rw [en_tell, e3, e1, hm2 _ hc]
        simp
      · cases h
  · cases h

/-! ### Words -/
def restW (l : List UInt8) : List UInt8 := Lib.trimPrefix l [32]
def wordW (l : List UInt8) : List UInt8 := ahead 32 (restW l)
def leftW (l : List UInt8) : List UInt8 := (restW l).drop (wordW l).length
theorem restW_eq (l : List UInt8) : restW (32 :: l) = l := by simp [restW, Lib.trimPrefix, Lib.hasPrefix]
/-- What stands behind a word: nothing, or a blank and more. -/
def Blank (l : List UInt8) : Prop := l = [] ∨ ∃ r, l = 32 :: r
theorem leftW_blank (l : List UInt8) : Blank (leftW l) ∧ restW l = wordW l ++ leftW l := by
  unfold leftW wordW
  by_cases h : (32 : UInt8) ∈ restW l
  · have e := ahead_some h
    have e2 : (restW l).drop (ahead 32 (restW l)).length = 32 :: behind 32 (restW l) := by
      have k : ∀ x y : List UInt8, restW l = x ++ y → (restW l).drop x.length = y := fun x y h => by rw [h, List.drop_left' rfl]
      exact k _ _ e
    rw [e2]
    exact ⟨.inr ⟨_, rfl⟩, e⟩
  · rw [(ahead_none h).1, List.drop_length, List.append_nil]
    exact ⟨.inl rfl, rfl⟩
/-- A word of no blank, behind a blank, is read as it was. -/
theorem word_app {x r : List UInt8} (h : (32 : UInt8) ∉ x) (hr : Blank r) : wordW (32 :: (x ++ r)) = x ∧ leftW (32 :: (x ++ r)) = r := by
  have hw : wordW (32 :: (x ++ r)) = x := by
    unfold wordW
    rw [restW_eq]
    rcases hr with rfl | ⟨r', rfl⟩
    · rw [List.append_nil]; exact (ahead_none h).1
    · exact (ahead_app h r').1
  refine ⟨hw, ?_⟩
  unfold leftW
  rw [hw, restW_eq, List.drop_left' rfl]

end Go.Proofs.YtbcadnkdehknoaaGreatDoor

namespace Go.Proofs.YtbcadnkdehknoaaGreatDoor
open Go Go.RowKit
set_option linter.unusedVariables false

theorem enW_nil : enW [] = none := by
  unfold enW ahead
  simp [numW_nil]
theorem verW_nil : verW [] = none := by unfold verW ahead; simp [numW_nil]
theorem wordW_nil : wordW [] = [] := rfl
/-- A text of words: what a word is read of. -/
theorem word_of {l : List UInt8} (hb : Blank l) (h : wordW l ≠ []) : l = 32 :: (wordW l ++ leftW l) ∧ Blank (leftW l) := by
  rcases hb with rfl | ⟨r, rfl⟩
  · exact absurd wordW_nil h
  · obtain ⟨h1, h2⟩ := leftW_blank (32 :: r)
    rw [restW_eq] at h2
    exact ⟨by rw [← h2], h1⟩
theorem en_no (e : En) : (32 : UInt8) ∉ e.tell := fun h => by
  rw [en_tell] at h
  simp only [List.mem_append, List.mem_cons, List.not_mem_nil, or_false] at h
  rcases h with h | h | h | h | h
  · exact dec_no (by decide) h
  · cases h
  · exact ver_no (by decide) (by decide) h
  · cases h
  · cases hm : e.m <;> rw [hm] at h <;> cases h
def ensW : Nat → List UInt8 → Option (List En)
  | 0, l => if l = [] then some [] else none
  | f + 1, l => if l = [] then some [] else match enW (wordW l) with
    | some e => (ensW f (leftW l)).map (e :: ·)
    | none => none
def ensL (es : List En) : List UInt8 := es.flatMap fun e => 32 :: e.tell
theorem ensL_blank (es : List En) : Blank (ensL es) := by
  cases es with
  | nil => exact .inl rfl
  | cons e es => exact .inr ⟨e.tell ++ ensL es, rfl⟩
theorem ens_tell : ∀ (es : List En) (f : Nat), (∀ e ∈ es, e.ok) → es.length ≤ f → ensW f (ensL es) = some es
  | [], 0, _, _ => rfl
  | [], f + 1, _, _ => rfl
  | e :: es, 0, _, h => absurd h (by simp)
  | e :: es, f + 1, hk, h => by
    have hl : ensL (e :: es) = 32 :: (e.tell ++ ensL es) := rfl
    obtain ⟨h1, h2⟩ := word_app (en_no e) (ensL_blank es)
    unfold ensW
    rw [hl, if_neg (by simp), h1, h2, enW_tell (hk e (by simp)), ens_tell es f (fun x hx => hk x (by simp [hx])) (by simpa using h)]
    rfl
theorem ens_some : ∀ (f : Nat) (l : List UInt8) (es : List En), Blank l → ensW f l = some es → (∀ e ∈ es, e.ok) ∧ l = ensL es
  | 0, l, es, hb, h => by
    unfold ensW at h
    split at h
    · injection h with h
      subst h
      exact ⟨by simp, by assumption⟩
    · cases h
  | f + 1, l, es, hb, h => by
    unfold ensW at h
    split at h
    · injection h with h
      subst h
      exact ⟨by simp, by assumption⟩
    · split at h
      · rename_i e he
        have hw : wordW l ≠ [] := fun e2 => by rw [e2, enW_nil] at he; cases he
        obtain ⟨h1, h2⟩ := word_of hb hw
        obtain ⟨ok, e3⟩ := enW_some he
        cases hr : ensW f (leftW l) with
        | none => rw [hr] at h; cases h
        | some es' =>
          rw [hr] at h
          injection h with h
          subst h
          obtain ⟨k1, k2⟩ := ens_some f (leftW l) es' h2 hr
          refine ⟨fun x hx => ?_, ?_⟩
          · rcases List.mem_cons.1 hx with rfl | hx
            · exact ok
            · exact k1 x hx
          · rw [h1, e3, k2]
            rfl
      · cases h
/-- Entries are never more than bytes. -/
theorem ensL_len (es : List En) : es.length ≤ (ensL es).length := by
  induction es with
  | nil => exact Nat.le_refl _
  | cons e es ih =>
    show es.length + 1 ≤ (32 :: e.tell ++ ensL es).length
    rw [List.length_append, List.length_cons]
    omega

end Go.Proofs.YtbcadnkdehknoaaGreatDoor

namespace Go.Proofs.YtbcadnkdehknoaaGreatDoor
open Go Go.RowKit
set_option linter.unusedVariables false

/-- Env, and the library's own number MaxLen, whatever it is. -/
def EnvM (B : Nat) (w : World) : Prop := Env B w ∧ 0 < B ∧ ∃ m : Int, w.cell? ⟨0, 0, none⟩ = some (.int .i64 m)
theorem EnvM.under {B B' : Nat} {w w' : World} (h : EnvM B w) (hb : Below B' w w') (hB : B ≤ B') : EnvM B w' :=
  ⟨h.1.under hb hB, h.2.1, by obtain ⟨m, hm⟩ := h.2.2; exact ⟨m, (hb.cell (p := ⟨0, 0, none⟩) (by have := h.2.1; show 0 < B'; omega)).trans hm⟩⟩

theorem decimal_any (B u : Nat) (hu : u < 18446744073709551616) (w : World) (hE : Env B w) : Calls Tryz.prog 60 #[.int .u64 (u : Int)] w fun e w' => e = .returned (.string ⟨(Lib.decDigits u).toArray⟩) ∧ Below w.heap.size w w' := by
  have F := Lib_hid (fmt_any B u hu w hE)
  generalize Lib.decDigits u = d at *
  clear hE
  go_enter Tryz.func60, Tryz.ntmps60
  go_wp2_with fail
  refine F.out.mono ?_
  rintro e w1 ⟨rfl, hb⟩
  go_wp2
  go_ret
  exact ⟨rfl, hb⟩

theorem joined_any (b n c : Nat) (E : TypeId) (A : Option Addr) (xs : List (List UInt8)) (sep : List UInt8) (w : World) (h : w.ownsRow b E 1 (.slice A n c) n (strs xs)) (hx : n ≤ 1000000) (hl : (Lib.join xs sep).length ≤ 1000000) :
    Calls Tryz.prog 44 #[.string ⟨sep.toArray⟩, .slice A n c] w fun e w' => e = .returned (.string ⟨(Lib.join xs sep).toArray⟩) ∧ Below w.heap.size w w' := by
  have F := Lib_hid (join_any b n c E A xs sep w h hx hl)
  generalize Lib.join xs sep = d at *
  clear h
  go_enter Tryz.func44, Tryz.ntmps44
  go_wp2_with fail
  refine F.out.mono ?_
  rintro e w1 ⟨rfl, hb⟩
  go_wp2
  go_ret
  exact ⟨rfl, hb⟩

/-- The words' box. -/
def WdC (s : List UInt8) (bad : Bool) : Obj := .cells #[.string ⟨s.toArray⟩, .bool bad] 135 (0, 0)
theorem restW_len (l : List UInt8) : (restW l).length ≤ l.length := by
  unfold restW Lib.trimPrefix
  split
  · simp
  · exact Nat.le_refl _
theorem wordW_len (l : List UInt8) : (wordW l).length ≤ (restW l).length := (ahead_len 32 (restW l)).1

set_option maxRecDepth 100000 in
set_option maxHeartbeats 1600000 in
theorem next_any (B g : Nat) (s : List UInt8) (bad : Bool) (w : World) (hg : w.heap[g]? = some (WdC s bad)) (hE : EnvM B w) (hl : s.length ≤ 1000000) :
    Calls Tryz.prog 111 #[.pointer (some ⟨g, 0, none⟩)] w fun e w' => e = .returned (.string ⟨(wordW s).toArray⟩) ∧ w'.heap[g]? = some (WdC (leftW s) bad) ∧ w.grownBy w' (some g) := by
  obtain ⟨m, hm⟩ := hE.2.2
  have T := Lib_hid (Tryz.strings_TrimPrefix ⟨s.toArray⟩ ⟨#[32]⟩ w)
  have hrl := restW_len s
  have C := Lib_hid (Tryz.strings_Cut ⟨(restW s).toArray⟩ ⟨#[32]⟩ m w (by show (restW s).toArray.size < _; simp; omega) hm)
  have e1 : (Lib.cut (restW s) [32]).1 = wordW s := (cut_one 32 (restW s)).1
  have hT : (⟨(Lib.trimPrefix (⟨s.toArray⟩ : ByteArray).data.toList (⟨#[32]⟩ : ByteArray).data.toList).toArray⟩ : ByteArray) = ⟨(restW s).toArray⟩ := rfl
  have hC : (⟨(Lib.cut (⟨(restW s).toArray⟩ : ByteArray).data.toList (⟨#[32]⟩ : ByteArray).data.toList).1.toArray⟩ : ByteArray) = ⟨(wordW s).toArray⟩ := by rw [← e1]
  have hwl := wordW_len s
  have hsl : ∀ W, (Instr.slice 9 (.string ⟨(restW s).toArray⟩) (some (.int .i64 ((wordW s).length : Int))) none none).run Tryz.prog W = .ok (.string ⟨(leftW s).toArray⟩) W := fun W => sl_drop (restW s) (wordW s).length hwl W
  have hsz : (⟨(wordW s).toArray⟩ : ByteArray).size = (wordW s).length := by simp [ByteArray.size]
  have c0 := cell_of_row _ _ 0 _ _ _ hg
  have z0 := frozen_of_row _ _ 0 _ _ hg
  have HG := Lib_hid hg
  rw [hT] at T
  rw [hC] at C
  generalize (Lib.cut (⟨(restW s).toArray⟩ : ByteArray).data.toList (⟨#[32]⟩ : ByteArray).data.toList).2.1.toArray = c1 at *
  generalize (Lib.cut (⟨(restW s).toArray⟩ : ByteArray).data.toList (⟨#[32]⟩ : ByteArray).data.toList).2.2 = c2 at *
  generalize (⟨(restW s).toArray⟩ : ByteArray) = rs at *
  have FIN : Hid (∀ q, ((w.drewN q).setCell ⟨g, 0, none⟩ (.string ⟨(leftW s).toArray⟩)).heap[g]? = some (WdC (leftW s) bad) ∧ w.grownBy ((w.drewN q).setCell ⟨g, 0, none⟩ (.string ⟨(leftW s).toArray⟩)) (some g)) := fun q => by
    refine ⟨?_, ⟨rfl, rfl, rfl, by simp, fun k _ hne => heap_setCell_other (w.drewN q) ⟨g, 0, none⟩ k _ (fun e => hne (by rw [e]))⟩⟩
    rw [heap_setCell_same (w.drewN q) g 0 _ _ _ HG.out]
    rfl
  generalize (⟨(leftW s).toArray⟩ : ByteArray) = lf at *
  generalize (wordW s).length = n at *
  generalize (⟨(wordW s).toArray⟩ : ByteArray) = wd at *
  clear hE hm hg hT hC e1 hrl hwl
  go_enter Tryz.func111, Tryz.ntmps111
  go_wp2_with fail
  refine T.out.mono ?_
  rintro e w1 ⟨rfl, rfl⟩
  go_wp2_with fail
  refine C.out.mono ?_
  rintro e w2 ⟨rfl, q, rfl⟩
  have F := Lib_hid (FIN.out q)
  clear T C FIN
  go_wp2
  go_ret
  exact ⟨rfl, F.out.1, F.out.2⟩

end Go.Proofs.YtbcadnkdehknoaaGreatDoor

namespace Go.Proofs.YtbcadnkdehknoaaGreatDoor
open Go Go.RowKit
set_option linter.unusedVariables false

/-- How number ends. -/
def NumEnd5 (x s : List UInt8) (bad : Bool) (g : Nat) (w : World) (e : Ending) (w' : World) : Prop :=
  w.grownBy w' (some g) ∧ ((∃ v, numW x = some v ∧ e = .returned (.int .u64 (v : Int)) ∧ w'.heap[g]? = some (WdC s bad)) ∨ (numW x = none ∧ e = .returned (.int .u64 0) ∧ w'.heap[g]? = some (WdC s true)))
theorem numW_ok {s : List UInt8} {u : Nat} (h : Lib.parseUintB 64 s = .ok u) : numW s = if Lib.decDigits u = s then some u else none := by
  unfold numW; rw [h]
theorem numW_bad {s : List UInt8} (h : ∀ u, Lib.parseUintB 64 s ≠ .ok u) : numW s = none := by
  unfold numW
  split
  · rename_i u hu; exact absurd hu (h u)
  · rfl

set_option maxRecDepth 100000 in
set_option maxHeartbeats 1600000 in
theorem number5_any (B g : Nat) (x s : List UInt8) (bad : Bool) (w : World) (hg : w.heap[g]? = some (WdC s bad)) (hE : EnvM B w) (hB : B ≤ g) (hl : x.length ≤ 1000000) :
    Calls Tryz.prog 110 #[.pointer (some ⟨g, 0, none⟩), .string ⟨x.toArray⟩] w (NumEnd5 x s bad g w) := by
  have hgl := (Array.getElem?_eq_some_iff.1 hg).1
  have HPA := Lib_hid (parse_any B x hl w hE.1)
  have HFM : Hid (∀ (W : World) (u : Nat), Below w.heap.size w W → u < 18446744073709551616 → Calls Tryz.prog 60 #[.int .u64 (u : Int)] W fun e w' => e = .returned (.string ⟨(Lib.decDigits u).toArray⟩) ∧ Below W.heap.size W w') := fun W u h hu => decimal_any B u hu W (hE.1.under h (by omega))
  have HOK : Hid (∀ u, Lib.parseUintB 64 x = .ok u → numW x = if Lib.decDigits u = x then some u else none) := fun u h => numW_ok h
  have HBD : Hid ((∀ u, Lib.parseUintB 64 x ≠ .ok u) → numW x = none) := fun h => numW_bad h
  have HLT : Hid (∀ u, Lib.parseUintB 64 x = .ok u → u < 18446744073709551616) := fun u h => by have := Lib.parseUintB_le h; omega
  have HNE : Hid (∀ (w' : World) (e : Ending), w.grownBy w' (some g) → ((∃ v, numW x = some v ∧ e = .returned (.int .u64 (v : Int)) ∧ w'.heap[g]? = some (WdC s bad)) ∨ (numW x = none ∧ e = .returned (.int .u64 0) ∧ w'.heap[g]? = some (WdC s true))) → NumEnd5 x s bad g w e w') := fun w' e h1 h2 => ⟨h1, h2⟩
  clear hE
  generalize hnm : numW x = nm at *
  clear hnm
  go_enter Tryz.func110, Tryz.ntmps110
  go_wp2_with fail
  refine HPA.out.mono ?_
  rintro e w2 ⟨hb2, hr⟩
  have hg2 := (hb2.block g hgl).trans hg
  rcases hr with ⟨u, hu, rfl⟩ | ⟨hu, y, N, rfl⟩
  · have hF := HFM.out w2 u hb2 (HLT.out u hu)
    have hN2 := HOK.out u hu
    go_wp2_with fail
    refine hF.mono ?_
    rintro e w3 ⟨rfl, hb3⟩
    have hb3w := hb2.trans (hb3.mono hb2.size)
    have hg3 := (hb3w.block g hgl).trans hg
    have c1 := cell_of_row w3 _ 1 _ _ _ hg3
    have z1 := frozen_of_row w3 g 1 _ _ hg3
    simp at c1
    have hgr := grow_below hb3w (some g)
    have HB2 : Hid ((w3.setCell ⟨g, 1, none⟩ (.bool true)).heap[g]? = some (WdC s true)) := Joins.block_setCell (i := 1) hg3 _
    generalize hdd : Lib.decDigits u = dd at *
    by_cases hq : dd = x
    · have hqb : (dd == x) = true := by simp [hq]
      have HX : Hid (NumEnd5 x s bad g w (.returned (.int .u64 (u : Int))) w3) := HNE.out _ _ hgr (.inl ⟨u, by rw [hN2, if_pos hq], rfl, hg3⟩)
      subst hq
      clear hqb hN2 hF
      go_wp2_with fail
      go_ret
      exact HX.out
    · have hqb : (dd == x) = false := by simp [hq]
      have HX : Hid (NumEnd5 x s bad g w (.returned (.int .u64 0)) (w3.setCell ⟨g, 1, none⟩ (.bool true))) := HNE.out _ _ (hgr.trans (grow_set w3 g 1 _)) (.inr ⟨by rw [hN2, if_neg hq], rfl, HB2.out⟩)
      clear hN2 hF
      go_wp2_with fail
      go_ret
      exact HX.out
  · have hN2 := HBD.out hu
    have c1 := cell_of_row w2 _ 1 _ _ _ hg2
    have z1 := frozen_of_row w2 g 1 _ _ hg2
    simp at c1
    have hgr := grow_below hb2 (some g)
    have HB2 : Hid ((w2.setCell ⟨g, 1, none⟩ (.bool true)).heap[g]? = some (WdC s true)) := Joins.block_setCell (i := 1) hg2 _
    have HX : Hid (NumEnd5 x s bad g w (.returned (.int .u64 0)) (w2.setCell ⟨g, 1, none⟩ (.bool true))) := HNE.out _ _ (hgr.trans (grow_set w2 g 1 _)) (.inr ⟨hN2, rfl, HB2.out⟩)
    clear hN2 hu
    go_wp2_with fail
    go_ret
    exact HX.out

end Go.Proofs.YtbcadnkdehknoaaGreatDoor

namespace Go.Proofs.YtbcadnkdehknoaaGreatDoor
open Go Go.RowKit
set_option linter.unusedVariables false

/-- How version ends. -/
def VerEnd5 (x s : List UInt8) (bad : Bool) (g : Nat) (w : World) (e : Ending) (w' : World) : Prop :=
  w.grownBy w' (some g) ∧ ∃ a b : Nat, e = .returned (.agg #[.int .u64 (a : Int), .int .u64 (b : Int)]) ∧ a < 18446744073709551616 ∧ b < 18446744073709551616 ∧
    ((verW x = some (a, b) ∧ w'.heap[g]? = some (WdC s bad)) ∨ (verW x = none ∧ w'.heap[g]? = some (WdC s true)))
theorem NumEnd5.get {x s : List UInt8} {bad : Bool} {g : Nat} {w w' : World} {e : Ending} (h : NumEnd5 x s bad g w e w') :
    ∃ (a : Nat) (bad' : Bool), e = .returned (.int .u64 (a : Int)) ∧ a < 18446744073709551616 ∧ w.grownBy w' (some g) ∧ w'.heap[g]? = some (WdC s bad') ∧ ((numW x = some a ∧ bad' = bad) ∨ (numW x = none ∧ bad' = true)) := by
  obtain ⟨h1, h2⟩ := h
  rcases h2 with ⟨v, e1, e2, e3⟩ | ⟨e1, e2, e3⟩
  · exact ⟨v, bad, e2, (numW_lt e1).1, h1, e3, .inl ⟨e1, rfl⟩⟩
  · exact ⟨0, true, e2, by decide, h1, e3, .inr ⟨e1, rfl⟩⟩
theorem grow_alloc1 {w w' : World} {o : Obj} {g : Nat} (h : (w.alloc o).grownBy w' (some g)) : w.grownBy w' (some g) := (World.grownBy_alloc w o (some g)).trans h

set_option maxRecDepth 100000 in
set_option maxHeartbeats 1600000 in
theorem version5_any (B g : Nat) (x s : List UInt8) (bad : Bool) (w : World) (hg : w.heap[g]? = some (WdC s bad)) (hE : EnvM B w) (hB : B ≤ g) (hl : x.length ≤ 1000000) :
    Calls Tryz.prog 125 #[.pointer (some ⟨g, 0, none⟩), .string ⟨x.toArray⟩] w (VerEnd5 x s bad g w) := by
  have hsz : (Tryz.prog.info? 24).map (·.size) = some 2 := by kernel_rfl
  have hgl := (Array.getElem?_eq_some_iff.1 hg).1
  obtain ⟨w1, hw1⟩ : ∃ w1, w1 = w.alloc (.cells #[.int .u64 0, .int .u64 0] 24) := ⟨_, rfl⟩
  have hx1 := heap_alloc_new w (.cells #[.int .u64 0, .int .u64 0] 24)
  have hb1 := below_new w (.cells #[.int .u64 0, .int .u64 0] 24)
  rw [← hw1] at hx1 hb1
  have hE1 : EnvM B w1 := hE.under hb1 (by omega)
  obtain ⟨m, hm⟩ := hE1.2.2
  have hlen := ahead_len 46 x
  have C := Lib_hid (Tryz.strings_Cut ⟨x.toArray⟩ ⟨#[46]⟩ m w1 (by show x.toArray.size < _; simp; omega) hm)
  obtain ⟨e1, e2⟩ := cut_one 46 x
  have hC1 : (⟨(Lib.cut (⟨x.toArray⟩ : ByteArray).data.toList (⟨#[46]⟩ : ByteArray).data.toList).1.toArray⟩ : ByteArray) = ⟨(ahead 46 x).toArray⟩ := by rw [← e1]
  have hC2 : (⟨(Lib.cut (⟨x.toArray⟩ : ByteArray).data.toList (⟨#[46]⟩ : ByteArray).data.toList).2.1.toArray⟩ : ByteArray) = ⟨(behind 46 x).toArray⟩ := by rw [← e2]
  rw [hC1, hC2] at C
  generalize (Lib.cut (⟨x.toArray⟩ : ByteArray).data.toList (⟨#[46]⟩ : ByteArray).data.toList).2.2 = c2 at *
  have N1 : Hid (∀ q, Calls Tryz.prog 110 #[.pointer (some ⟨g, 0, none⟩), .string ⟨(ahead 46 x).toArray⟩] (w1.drewN q) (NumEnd5 (ahead 46 x) s bad g (w1.drewN q))) := fun q =>
    number5_any B g (ahead 46 x) s bad (w1.drewN q) ((hb1.block g hgl).trans hg) (hE1.under (below_drew_ (Below.refl B w1)) (Nat.le_refl _)) hB (by omega)
  have N2 : Hid (∀ (W : World) (bad' : Bool), w1.grownBy W (some g) → W.heap[g]? = some (WdC s bad') → Calls Tryz.prog 110 #[.pointer (some ⟨g, 0, none⟩), .string ⟨(behind 46 x).toArray⟩] W (NumEnd5 (behind 46 x) s bad' g W)) := fun W bad' hW hgW =>
    number5_any B g (behind 46 x) s bad' W hgW (hE1.under (B' := B) ((Below.refl B w1).grown hW (by have := hb1.size; omega) (fun k hk => by injection hk with hk; omega)) (Nat.le_refl _)) hB (by omega)
  have HV : Hid (verW x = match numW (ahead 46 x), numW (behind 46 x) with | some a, some b => some (a, b) | _, _ => none) := rfl
  have HW := Lib_hid hw1
  have HX := Lib_hid (And.intro hx1 hb1)
  clear hE hE1 hm hC1 hC2 e1 e2 hlen hw1 hx1 hb1
  go_enter Tryz.func125, Tryz.ntmps125
  go_wp2_with fail
  rw [← HW.out]
  refine C.out.mono ?_
  rintro e w2 ⟨rfl, q, rfl⟩
  go_wp2_with fail
  refine (N1.out q).mono ?_
  intro e w3 h3
  obtain ⟨a, bad1, rfl, ha, hg3, hx3, hc3⟩ := h3.get
  have hg3' : w1.grownBy w3 (some g) := ⟨hg3.os, hg3.tape, hg3.output, hg3.size, hg3.block⟩
  clear h3 hg3
  go_wp2_with fail
  refine (N2.out w3 bad1 hg3' hx3).mono ?_
  intro e w4 h4
  obtain ⟨b, bad2, rfl, hb, hg4, hx4, hc4⟩ := h4.get
  have hgr : w1.grownBy w4 (some g) := hg3'.trans hg4
  have hs1 : w.heap.size < w1.heap.size := (Array.getElem?_eq_some_iff.1 HX.out.1).1
  have hr := (hgr.block w.heap.size hs1 (fun e => by injection e with e; omega)).trans HX.out.1
  have d0 := cell_of_row w4 _ 0 _ _ _ hr
  have d1 := cell_of_row w4 _ 1 _ _ _ hr
  have z0 := frozen_of_row w4 _ 0 _ _ hr
  have z1 := frozen_of_row w4 _ 1 _ _ hr
  have FIN : Hid (VerEnd5 x s bad g w (.returned (.agg #[.int .u64 (a : Int), .int .u64 (b : Int)])) ((w4.setCell ⟨w.heap.size, 0, none⟩ (.int .u64 (a : Int))).setCell ⟨w.heap.size, 1, none⟩ (.int .u64 (b : Int)))) := by
    have hbl : ∀ k, k ≠ w.heap.size → ((w4.setCell ⟨w.heap.size, 0, none⟩ (.int .u64 (a : Int))).setCell ⟨w.heap.size, 1, none⟩ (.int .u64 (b : Int))).heap[k]? = w4.heap[k]? := fun k hk => (heap_setCell_other _ _ _ _ hk).trans (heap_setCell_other _ _ _ _ hk)
    refine ⟨⟨hgr.os.trans HX.out.2.os, hgr.tape.trans HX.out.2.tape, hgr.output.trans HX.out.2.output, by have := HX.out.2.size; have := hgr.size; simp; omega, fun k hk hne => (hbl k (by omega)).trans ((hgr.block k (by omega) hne).trans (HX.out.2.block k hk))⟩, a, b, rfl, ha, hb, ?_⟩
    rw [hbl g (by omega), HV.out]
    rcases hc3 with ⟨h1, rfl⟩ | ⟨h1, rfl⟩
    · rcases hc4 with ⟨h2, rfl⟩ | ⟨h2, rfl⟩
      · rw [h1, h2]; exact .inl ⟨rfl, hx4⟩
      · rw [h1, h2]; exact .inr ⟨rfl, hx4⟩
    · rcases hc4 with ⟨h2, rfl⟩ | ⟨h2, rfl⟩
      · rw [h1]; exact .inr ⟨rfl, hx4⟩
      · rw [h1]; exact .inr ⟨rfl, hx4⟩
  have hh : ((w4.setCell ⟨w.heap.size, 0, none⟩ (.int .u64 (a : Int))).setCell ⟨w.heap.size, 1, none⟩ (.int .u64 (b : Int))).heap[w.heap.size]? = some (.cells #[.int .u64 (a : Int), .int .u64 (b : Int)] 24 (0, 0)) := heap_setCell_same _ w.heap.size 1 _ _ _ (heap_setCell_same w4 w.heap.size 0 _ _ _ hr)
  have HH := Lib_hid hh
  clear hh hr hgr hg3' hg4 hx3 hx4 hc3 hc4 h4 N1 N2 C
  go_wp2
  exact bodyPost_ret (results_cell_row (p := 4) (ty := 24) rfl _ _ w.heap.size 24 #[.int .u64 (a : Int), .int .u64 (b : Int)] (0, 0) _ rfl HH.out Tryz.underlying24 rfl hsz) rfl FIN.out

end Go.Proofs.YtbcadnkdehknoaaGreatDoor

namespace Go.Proofs.YtbcadnkdehknoaaGreatDoor
open Go Go.RowKit
set_option linter.unusedVariables false

/-- How entry ends. -/
def EntEnd5 (x s : List UInt8) (bad : Bool) (g : Nat) (w : World) (e : Ending) (w' : World) : Prop :=
  w.grownBy w' (some g) ∧ ∃ en : En, e = .returned en.val ∧ en.ok ∧ ((enW x = some en ∧ w'.heap[g]? = some (WdC s bad)) ∨ (enW x = none ∧ w'.heap[g]? = some (WdC s true)))

set_option maxRecDepth 100000 in
set_option maxHeartbeats 1600000 in
theorem entry5_any (B g : Nat) (x s : List UInt8) (bad : Bool) (w : World) (hg : w.heap[g]? = some (WdC s bad)) (hE : EnvM B w) (hB : B ≤ g) (hl : x.length ≤ 1000000) :
    Calls Tryz.prog 180 #[.pointer (some ⟨g, 0, none⟩), .string ⟨x.toArray⟩] w (EntEnd5 x s bad g w) := by
  have hsz : (Tryz.prog.info? 84).map (·.size) = some 4 := by kernel_rfl
  have hgl := (Array.getElem?_eq_some_iff.1 hg).1
  obtain ⟨w1, hw1⟩ : ∃ w1, w1 = w.alloc (.cells #[.int .u64 0, .int .u64 0, .int .u64 0, .bool false] 84) := ⟨_, rfl⟩
  have hx1 := heap_alloc_new w (.cells #[.int .u64 0, .int .u64 0, .int .u64 0, .bool false] 84)
  have hb1 := below_new w (.cells #[.int .u64 0, .int .u64 0, .int .u64 0, .bool false] 84)
  rw [← hw1] at hx1 hb1
  have hE1 : EnvM B w1 := hE.under hb1 (by omega)
  have hs1 : w.heap.size < w1.heap.size := (Array.getElem?_eq_some_iff.1 hx1).1
  have hlen := ahead_len 58 x
  have hlen2 := ahead_len 58 (behind 58 x)
  have CT : ∀ (y : List UInt8) (q : Nat), y.length ≤ 1000000 → Calls Tryz.prog 65 #[.string ⟨y.toArray⟩, .string ⟨#[58]⟩] (w1.drewN q) fun e w' => (∃ c2, e = .returned (.tuple #[.string ⟨(ahead 58 y).toArray⟩, .string ⟨(behind 58 y).toArray⟩, .bool c2])) ∧ ∃ n, w' = w1.drewN n := fun y q hy => by
    obtain ⟨m, hm⟩ := (hE1.under (below_drew_ (Below.refl B w1) : Below B w1 (w1.drewN q)) (Nat.le_refl _)).2.2
    refine (Tryz.strings_Cut ⟨y.toArray⟩ ⟨#[58]⟩ m (w1.drewN q) (by show y.toArray.size < _; simp; omega) hm).mono ?_
    rintro e w' ⟨rfl, n, rfl⟩
    obtain ⟨e1, e2⟩ := cut_one 58 y
    refine ⟨⟨(Lib.cut y [58]).2.2, ?_⟩, q + n, by simp [World.drewN, Nat.add_assoc]⟩
    show Ending.returned (.tuple #[.string ⟨(Lib.cut y [58]).1.toArray⟩, .string ⟨(Lib.cut y [58]).2.1.toArray⟩, .bool (Lib.cut y [58]).2.2]) = _
    rw [e1, e2]
  have C1 := Lib_hid (CT x 0 hl)
  have C2 := Lib_hid (fun q => CT (behind 58 x) q (by omega))
  have N1 : Hid (∀ (W : World) (bad' : Bool), w1.grownBy W (some g) → W.heap[g]? = some (WdC s bad') → Calls Tryz.prog 110 #[.pointer (some ⟨g, 0, none⟩), .string ⟨(ahead 58 x).toArray⟩] W (NumEnd5 (ahead 58 x) s bad' g W)) := fun W bad' hW hgW =>
    number5_any B g (ahead 58 x) s bad' W hgW (hE1.under (B' := B) ((Below.refl B w1).grown hW (by omega) (fun k hk => by injection hk with hk; omega)) (Nat.le_refl _)) hB (by omega)
  have N2 : Hid (∀ (W : World) (bad' : Bool), w1.grownBy W (some g) → W.heap[g]? = some (WdC s bad') → Calls Tryz.prog 125 #[.pointer (some ⟨g, 0, none⟩), .string ⟨(ahead 58 (behind 58 x)).toArray⟩] W (VerEnd5 (ahead 58 (behind 58 x)) s bad' g W)) := fun W bad' hW hgW =>
    version5_any B g (ahead 58 (behind 58 x)) s bad' W hgW (hE1.under (B' := B) ((Below.refl B w1).grown hW (by omega) (fun k hk => by injection hk with hk; omega)) (Nat.le_refl _)) hB (by omega)
  have HV : Hid (enW x = match numW (ahead 58 x), verW (ahead 58 (behind 58 x)) with | some x', some (a, b) => if behind 58 (behind 58 x) = [49] then some ⟨x', a, b, true⟩ else if behind 58 (behind 58 x) = [48] then some ⟨x', a, b, false⟩ else none | _, _ => none) := rfl
  have HW := Lib_hid hw1
  have HX := Lib_hid (And.intro hx1 hb1)
  have HG1 := Lib_hid ((hb1.block g hgl).trans hg)
  clear hE hE1 hlen hlen2 hw1 hx1 hb1 CT
  generalize hM : behind 58 (behind 58 x) = M at *
  have hc3 : M = [49] ∨ M = [48] ∨ (M ≠ [49] ∧ M ≠ [48]) := by
    by_cases h1 : M = [49]
    · exact .inl h1
    · by_cases h2 : M = [48]
      · exact .inr (.inl h2)
      · exact .inr (.inr ⟨h1, h2⟩)
  rcases hc3 with h1 | h1 | ⟨h1, h2⟩
  · subst h1
    go_enter Tryz.func180, Tryz.ntmps180
    go_wp2_with fail
    rw [← HW.out]
    refine C1.out.mono ?_
    rintro e w2 ⟨⟨c1, rfl⟩, q, rfl⟩
    go_wp2_with fail
    refine (C2.out q).mono ?_
    rintro e w2 ⟨⟨c2, rfl⟩, q2, rfl⟩
    have cg := cell_of_row (w1.drewN q2) g 1 _ _ _ HG1.out
    have zg := frozen_of_row (w1.drewN q2) g 1 _ _ HG1.out
    have hgq : w1.grownBy (w1.drewN q2) (some g) := ⟨rfl, rfl, rfl, Nat.le_refl _, fun _ _ _ => rfl⟩
    have hxq : (w1.drewN q2).heap[g]? = some (WdC s bad) := HG1.out
    have HN1 := Lib_hid (N1.out _ bad hgq hxq)
    go_wp2_with fail
    refine HN1.out.mono ?_
    intro e w3 h3
    obtain ⟨a, bad1, rfl, ha, hg3, hx3, hc3⟩ := h3.get
    have hg3' := hgq.trans hg3
    clear h3 hg3 HN1 cg zg
    go_wp2_with fail
    refine (N2.out w3 bad1 hg3' hx3).mono ?_
    rintro e w4 ⟨hg4, b, c, rfl, hb, hcc, hc4⟩
    have hgr : w1.grownBy w4 (some g) := hg3'.trans hg4
    have hr := (hgr.block w.heap.size hs1 (fun e => by injection e with e; omega)).trans HX.out.1
    have d0 := cell_of_row w4 _ 0 _ _ _ hr
    have z0 := frozen_of_row w4 _ 0 _ _ hr
    have d1 := cell_of_row w4 _ 1 _ _ _ hr
    have z1 := frozen_of_row w4 _ 1 _ _ hr
    have d2 := cell_of_row w4 _ 2 _ _ _ hr
    have z2 := frozen_of_row w4 _ 2 _ _ hr
    have d3 := cell_of_row w4 _ 3 _ _ _ hr
    have z3 := frozen_of_row w4 _ 3 _ _ hr
    have FIN : Hid (EntEnd5 x s bad g w (.returned (.agg #[.int .u64 (a : Int), .int .u64 (b : Int), .int .u64 (c : Int), .bool true])) ((((w4.setCell ⟨w.heap.size, 0, none⟩ (.int .u64 (a : Int))).setCell ⟨w.heap.size, 1, none⟩ (.int .u64 (b : Int))).setCell ⟨w.heap.size, 2, none⟩ (.int .u64 (c : Int))).setCell ⟨w.heap.size, 3, none⟩ (.bool true))) := by
      have hbl : ∀ k, k ≠ w.heap.size → ((((w4.setCell ⟨w.heap.size, 0, none⟩ (.int .u64 (a : Int))).setCell ⟨w.heap.size, 1, none⟩ (.int .u64 (b : Int))).setCell ⟨w.heap.size, 2, none⟩ (.int .u64 (c : Int))).setCell ⟨w.heap.size, 3, none⟩ (.bool true)).heap[k]? = w4.heap[k]? := fun k hk => (heap_setCell_other _ _ _ _ hk).trans ((heap_setCell_other _ _ _ _ hk).trans ((heap_setCell_other _ _ _ _ hk).trans (heap_setCell_other _ _ _ _ hk)))
      refine ⟨⟨hgr.os.trans HX.out.2.os, hgr.tape.trans HX.out.2.tape, hgr.output.trans HX.out.2.output, by have := HX.out.2.size; have := hgr.size; simp; omega, fun k hk hne => (hbl k (by omega)).trans ((hgr.block k (by omega) hne).trans (HX.out.2.block k hk))⟩, ⟨a, b, c, true⟩, rfl, ⟨by show (a : Int) ≤ _; omega, by show (b : Int) ≤ _; omega, by show (c : Int) ≤ _; omega⟩, ?_⟩
      rw [hbl g (by omega), HV.out]
      rcases hc3 with ⟨k1, rfl⟩ | ⟨k1, rfl⟩
      · rcases hc4 with ⟨k2, k3⟩ | ⟨k2, k3⟩
        · rw [k1, k2]; simp; exact k3
        · rw [k1, k2]; exact .inr ⟨rfl, k3⟩
      · rcases hc4 with ⟨k2, k3⟩ | ⟨k2, k3⟩
        · rw [k1]; exact .inr ⟨rfl, k3⟩
        · rw [k1]; exact .inr ⟨rfl, k3⟩
    have hh : ((((w4.setCell ⟨w.heap.size, 0, none⟩ (.int .u64 (a : Int))).setCell ⟨w.heap.size, 1, none⟩ (.int .u64 (b : Int))).setCell ⟨w.heap.size, 2, none⟩ (.int .u64 (c : Int))).setCell ⟨w.heap.size, 3, none⟩ (.bool true)).heap[w.heap.size]? = some (.cells #[.int .u64 (a : Int), .int .u64 (b : Int), .int .u64 (c : Int), .bool true] 84 (0, 0)) := heap_setCell_same _ w.heap.size 3 _ _ _ (heap_setCell_same _ w.heap.size 2 _ _ _ (heap_setCell_same _ w.heap.size 1 _ _ _ (heap_setCell_same w4 w.heap.size 0 _ _ _ hr)))
    have HH := Lib_hid hh
    clear hh hr hgr hg3' hg4 hx3 hc3 hc4 N1 N2 C1 C2
    go_wp2
    exact bodyPost_ret (results_cell_row (p := 4) (ty := 84) rfl _ _ w.heap.size 84 #[.int .u64 (a : Int), .int .u64 (b : Int), .int .u64 (c : Int), .bool true] (0, 0) _ rfl HH.out Tryz.underlying84 rfl hsz) rfl FIN.out
  · subst h1
    go_enter Tryz.func180, Tryz.ntmps180
    go_wp2_with fail
    rw [← HW.out]
    refine C1.out.mono ?_
    rintro e w2 ⟨⟨c1, rfl⟩, q, rfl⟩
    go_wp2_with fail
    refine (C2.out q).mono ?_
    rintro e w2 ⟨⟨c2, rfl⟩, q2, rfl⟩
    have cg := cell_of_row (w1.drewN q2) g 1 _ _ _ HG1.out
    have zg := frozen_of_row (w1.drewN q2) g 1 _ _ HG1.out
    have hgq : w1.grownBy (w1.drewN q2) (some g) := ⟨rfl, rfl, rfl, Nat.le_refl _, fun _ _ _ => rfl⟩
    have hxq : (w1.drewN q2).heap[g]? = some (WdC s bad) := HG1.out
    have HN1 := Lib_hid (N1.out _ bad hgq hxq)
    go_wp2_with fail
    refine HN1.out.mono ?_
    intro e w3 h3
    obtain ⟨a, bad1, rfl, ha, hg3, hx3, hc3⟩ := h3.get
    have hg3' := hgq.trans hg3
    clear h3 hg3 HN1 cg zg
    go_wp2_with fail
    refine (N2.out w3 bad1 hg3' hx3).mono ?_
    rintro e w4 ⟨hg4, b, c, rfl, hb, hcc, hc4⟩
    have hgr : w1.grownBy w4 (some g) := hg3'.trans hg4
    have hr := (hgr.block w.heap.size hs1 (fun e => by injection e with e; omega)).trans HX.out.1
    have d0 := cell_of_row w4 _ 0 _ _ _ hr
    have z0 := frozen_of_row w4 _ 0 _ _ hr
    have d1 := cell_of_row w4 _ 1 _ _ _ hr
    have z1 := frozen_of_row w4 _ 1 _ _ hr
    have d2 := cell_of_row w4 _ 2 _ _ _ hr
    have z2 := frozen_of_row w4 _ 2 _ _ hr
    have d3 := cell_of_row w4 _ 3 _ _ _ hr
    have z3 := frozen_of_row w4 _ 3 _ _ hr
    have FIN : Hid (EntEnd5 x s bad g w (.returned (.agg #[.int .u64 (a : Int), .int .u64 (b : Int), .int .u64 (c : Int), .bool false])) ((((w4.setCell ⟨w.heap.size, 0, none⟩ (.int .u64 (a : Int))).setCell ⟨w.heap.size, 1, none⟩ (.int .u64 (b : Int))).setCell ⟨w.heap.size, 2, none⟩ (.int .u64 (c : Int))).setCell ⟨w.heap.size, 3, none⟩ (.bool false))) := by
      have hbl : ∀ k, k ≠ w.heap.size → ((((w4.setCell ⟨w.heap.size, 0, none⟩ (.int .u64 (a : Int))).setCell ⟨w.heap.size, 1, none⟩ (.int .u64 (b : Int))).setCell ⟨w.heap.size, 2, none⟩ (.int .u64 (c : Int))).setCell ⟨w.heap.size, 3, none⟩ (.bool false)).heap[k]? = w4.heap[k]? := fun k hk => (heap_setCell_other _ _ _ _ hk).trans ((heap_setCell_other _ _ _ _ hk).trans ((heap_setCell_other _ _ _ _ hk).trans (heap_setCell_other _ _ _ _ hk)))
      refine ⟨⟨hgr.os.trans HX.out.2.os, hgr.tape.trans HX.out.2.tape, hgr.output.trans HX.out.2.output, by have := HX.out.2.size; have := hgr.size; simp; omega, fun k hk hne => (hbl k (by omega)).trans ((hgr.block k (by omega) hne).trans (HX.out.2.block k hk))⟩, ⟨a, b, c, false⟩, rfl, ⟨by show (a : Int) ≤ _; omega, by show (b : Int) ≤ _; omega, by show (c : Int) ≤ _; omega⟩, ?_⟩
      rw [hbl g (by omega), HV.out]
      rcases hc3 with ⟨k1, rfl⟩ | ⟨k1, rfl⟩
      · rcases hc4 with ⟨k2, k3⟩ | ⟨k2, k3⟩
        · rw [k1, k2]; simp; exact k3
        · rw [k1, k2]; exact .inr ⟨rfl, k3⟩
      · rcases hc4 with ⟨k2, k3⟩ | ⟨k2, k3⟩
        · rw [k1]; exact .inr ⟨rfl, k3⟩
        · rw [k1]; exact .inr ⟨rfl, k3⟩
    have hh : ((((w4.setCell ⟨w.heap.size, 0, none⟩ (.int .u64 (a : Int))).setCell ⟨w.heap.size, 1, none⟩ (.int .u64 (b : Int))).setCell ⟨w.heap.size, 2, none⟩ (.int .u64 (c : Int))).setCell ⟨w.heap.size, 3, none⟩ (.bool false)).heap[w.heap.size]? = some (.cells #[.int .u64 (a : Int), .int .u64 (b : Int), .int .u64 (c : Int), .bool false] 84 (0, 0)) := heap_setCell_same _ w.heap.size 3 _ _ _ (heap_setCell_same _ w.heap.size 2 _ _ _ (heap_setCell_same _ w.heap.size 1 _ _ _ (heap_setCell_same w4 w.heap.size 0 _ _ _ hr)))
    have HH := Lib_hid hh
    clear hh hr hgr hg3' hg4 hx3 hc3 hc4 N1 N2 C1 C2
    go_wp2
    exact bodyPost_ret (results_cell_row (p := 4) (ty := 84) rfl _ _ w.heap.size 84 #[.int .u64 (a : Int), .int .u64 (b : Int), .int .u64 (c : Int), .bool false] (0, 0) _ rfl HH.out Tryz.underlying84 rfl hsz) rfl FIN.out
  · have q1 : (M == [49]) = false := by simp [h1]
    have q2 : (M == [48]) = false := by simp [h2]
    go_enter Tryz.func180, Tryz.ntmps180
    go_wp2_with fail
    rw [← HW.out]
    refine C1.out.mono ?_
    rintro e w2 ⟨⟨c1, rfl⟩, q, rfl⟩
    go_wp2_with fail
    refine (C2.out q).mono ?_
    rintro e w2 ⟨⟨c2, rfl⟩, q2, rfl⟩
    have cg := cell_of_row (w1.drewN q2) g 1 _ _ _ HG1.out
    have zg := frozen_of_row (w1.drewN q2) g 1 _ _ HG1.out
    have hgq : w1.grownBy ((w1.drewN q2).setCell ⟨g, 1, none⟩ (.bool true)) (some g) := ⟨rfl, rfl, rfl, by simp, (grow_set (w1.drewN q2) g 1 _).block⟩
    have hxq : ((w1.drewN q2).setCell ⟨g, 1, none⟩ (.bool true)).heap[g]? = some (WdC s true) := Joins.block_setCell (i := 1) HG1.out _
    have HN1 := Lib_hid (N1.out _ true hgq hxq)
    go_wp2_with fail
    refine HN1.out.mono ?_
    intro e w3 h3
    obtain ⟨a, bad1, rfl, ha, hg3, hx3, hc3⟩ := h3.get
    have hg3' := hgq.trans hg3
    clear h3 hg3 HN1 cg zg
    go_wp2_with fail
    refine (N2.out w3 bad1 hg3' hx3).mono ?_
    rintro e w4 ⟨hg4, b, c, rfl, hb, hcc, hc4⟩
    have hgr : w1.grownBy w4 (some g) := hg3'.trans hg4
    have hr := (hgr.block w.heap.size hs1 (fun e => by injection e with e; omega)).trans HX.out.1
    have d0 := cell_of_row w4 _ 0 _ _ _ hr
    have z0 := frozen_of_row w4 _ 0 _ _ hr
    have d1 := cell_of_row w4 _ 1 _ _ _ hr
    have z1 := frozen_of_row w4 _ 1 _ _ hr
    have d2 := cell_of_row w4 _ 2 _ _ _ hr
    have z2 := frozen_of_row w4 _ 2 _ _ hr
    have d3 := cell_of_row w4 _ 3 _ _ _ hr
    have z3 := frozen_of_row w4 _ 3 _ _ hr
    have FIN : Hid (EntEnd5 x s bad g w (.returned (.agg #[.int .u64 (a : Int), .int .u64 (b : Int), .int .u64 (c : Int), .bool false])) ((((w4.setCell ⟨w.heap.size, 0, none⟩ (.int .u64 (a : Int))).setCell ⟨w.heap.size, 1, none⟩ (.int .u64 (b : Int))).setCell ⟨w.heap.size, 2, none⟩ (.int .u64 (c : Int))).setCell ⟨w.heap.size, 3, none⟩ (.bool false))) := by
      have hbl : ∀ k, k ≠ w.heap.size → ((((w4.setCell ⟨w.heap.size, 0, none⟩ (.int .u64 (a : Int))).setCell ⟨w.heap.size, 1, none⟩ (.int .u64 (b : Int))).setCell ⟨w.heap.size, 2, none⟩ (.int .u64 (c : Int))).setCell ⟨w.heap.size, 3, none⟩ (.bool false)).heap[k]? = w4.heap[k]? := fun k hk => (heap_setCell_other _ _ _ _ hk).trans ((heap_setCell_other _ _ _ _ hk).trans ((heap_setCell_other _ _ _ _ hk).trans (heap_setCell_other _ _ _ _ hk)))
      refine ⟨⟨hgr.os.trans HX.out.2.os, hgr.tape.trans HX.out.2.tape, hgr.output.trans HX.out.2.output, by have := HX.out.2.size; have := hgr.size; simp; omega, fun k hk hne => (hbl k (by omega)).trans ((hgr.block k (by omega) hne).trans (HX.out.2.block k hk))⟩, ⟨a, b, c, false⟩, rfl, ⟨by show (a : Int) ≤ _; omega, by show (b : Int) ≤ _; omega, by show (c : Int) ≤ _; omega⟩, ?_⟩
      rw [hbl g (by omega), HV.out]
      rcases hc3 with ⟨k1, rfl⟩ | ⟨k1, rfl⟩
      · rcases hc4 with ⟨k2, k3⟩ | ⟨k2, k3⟩
        · rw [k1, k2]; simp [h1, h2]; exact k3
        · rw [k1, k2]; exact .inr ⟨rfl, k3⟩
      · rcases hc4 with ⟨k2, k3⟩ | ⟨k2, k3⟩
        · rw [k1]; exact .inr ⟨rfl, k3⟩
        · rw [k1]; exact .inr ⟨rfl, k3⟩
    have hh : ((((w4.setCell ⟨w.heap.size, 0, none⟩ (.int .u64 (a : Int))).setCell ⟨w.heap.size, 1, none⟩ (.int .u64 (b : Int))).setCell ⟨w.heap.size, 2, none⟩ (.int .u64 (c : Int))).setCell ⟨w.heap.size, 3, none⟩ (.bool false)).heap[w.heap.size]? = some (.cells #[.int .u64 (a : Int), .int .u64 (b : Int), .int .u64 (c : Int), .bool false] 84 (0, 0)) := heap_setCell_same _ w.heap.size 3 _ _ _ (heap_setCell_same _ w.heap.size 2 _ _ _ (heap_setCell_same _ w.heap.size 1 _ _ _ (heap_setCell_same w4 w.heap.size 0 _ _ _ hr)))
    have HH := Lib_hid hh
    clear hh hr hgr hg3' hg4 hx3 hc3 hc4 N1 N2 C1 C2
    go_wp2
    exact bodyPost_ret (results_cell_row (p := 4) (ty := 84) rfl _ _ w.heap.size 84 #[.int .u64 (a : Int), .int .u64 (b : Int), .int .u64 (c : Int), .bool false] (0, 0) _ rfl HH.out Tryz.underlying84 rfl hsz) rfl FIN.out

end Go.Proofs.YtbcadnkdehknoaaGreatDoor
