/-
  Layer 4: trees whose numbers are of 64 bits; what holds of all parts, plainly.
  Layer 4: what is told is read as it was, plainly.
-/
import Derived.Test.YtiijdacnfhiagaaGreatDoorTrt
import Derived.Test.YtiijdacnfhiagaaGreatDoorZkTqd
import Derived.Test.YtiijdacnfhiagaaGreatDoorZkTwo

namespace Go.Proofs.YtiijdacnfhiagaaGreatDoor
open Go Go.RowKit
set_option linter.unusedVariables false

mutual
/-- Numbers of 64 bits all through. -/
def T.okN : T → Prop
  | .node _ a b ps => a < 18446744073709551616 ∧ b < 18446744073709551616 ∧ ps.length < 18446744073709551616 ∧ T.okL ps
def T.okL : List T → Prop
  | [] => True
  | p :: ps => p.okN ∧ T.okL ps
end
theorem okL_iff : ∀ ps : List T, T.okL ps ↔ ∀ p ∈ ps, p.okN
  | [] => by simp [T.okL]
  | p :: ps => by simp [T.okL, okL_iff ps]
theorem lies_ok {w : World} {lo hi : Nat} : ∀ v : V, Lies w lo hi v → v.abs.okN := by
  refine V.ind fun k a b A c ps ih hL => ?_
  obtain ⟨hlen, hcap', hk, ha, hb⟩ := hL.caps
  rw [V.abs, T.okN]
  refine ⟨ha, hb, by rw [absL_length]; omega, (okL_iff _).2 fun p hp => ?_⟩
  rw [absL_map, List.mem_map] at hp
  obtain ⟨v, hv, rfl⟩ := hp
  exact ih v hv (hL.part hv)
theorem all_mem : ∀ {ps : List T}, T.allL ps = true → ∀ p ∈ ps, p.allB = true
  | [], _, p, hp => by simp at hp
  | x :: ps, h, p, hp => by
    rw [T.allL, Bool.and_eq_true] at h
    rcases List.mem_cons.1 hp with rfl | hp
    · exact h.1
    · exact all_mem h.2 p hp
theorem depth_mem : ∀ {ps : List T} {d : Nat}, T.depthL ps ≤ d → ∀ p ∈ ps, p.depth ≤ d
  | [], _, _, p, hp => by simp at hp
  | x :: ps, d, h, p, hp => by
    rw [T.depthL] at h
    rcases List.mem_cons.1 hp with rfl | hp
    · omega
    · exact depth_mem (ps := ps) (by omega) p hp
theorem fits_kind {k : Int} {a b n : Nat} (h : fitsB k a b n = true) : k = 1 ∨ k = 2 ∨ k = 3 ∨ k = 4 ∨ k = 5 ∨ k = 6 ∨ k = 7 := by
  unfold fitsB at h
  split at h; omega
  split at h; omega
  split at h; omega
  split at h; omega
  split at h; omega
  cases h

end Go.Proofs.YtiijdacnfhiagaaGreatDoor

namespace Go.Proofs.YtiijdacnfhiagaaGreatDoor
open Go Go.RowKit
set_option linter.unusedVariables false

/-! ### Texts -/
theorem dec_dig (n : Nat) : ∀ c ∈ Lib.decDigits n, isDig c = true := by
  induction n using Nat.strongRecOn with
  | _ n ih =>
  have hd : ∀ m : Nat, m < 10 → isDig (UInt8.ofNat (48 + m)) = true := fun m hm => by
    rw [isDig_iff]
    have : (UInt8.ofNat (48 + m)).toNat = 48 + m := by simp; omega
    omega
  by_cases h : n < 10
  · rw [dec1 h]
    intro c hc
    obtain rfl : c = UInt8.ofNat (48 + n) := by simpa using hc
    exact hd n h
  · rw [Lib.decDigits, dif_neg h]
    intro c hc
    rcases List.mem_append.1 hc with hc | hc
    · exact ih (n / 10) (by omega) c hc
    · obtain rfl : c = UInt8.ofNat (48 + n % 10) := by simpa using hc
      exact hd _ (Nat.mod_lt _ (by omega))
theorem dec_parse (n : Nat) : n ≤ 18446744073709551615 → Lib.parseUintM 18446744073709551615 0 (Lib.decDigits n) = .ok n := by
  induction n using Nat.strongRecOn with
  | _ n ih =>
  intro hn
  have hd : ∀ m : Nat, m < 10 → isDig (UInt8.ofNat (48 + m)) = true ∧ (UInt8.ofNat (48 + m)).toNat - 48 = m := fun m hm => by
    have : (UInt8.ofNat (48 + m)).toNat = 48 + m := by simp; omega
    exact ⟨by rw [isDig_iff]; omega, by omega⟩
  by_cases h : n < 10
  · rw [dec1 h, parse_one (hd n h).1, (hd n h).2, if_neg (by omega)]
    simp
  · obtain ⟨h1, h2⟩ := hd (n % 10) (Nat.mod_lt _ (by omega))
    rw [Lib.decDigits, dif_neg h, parse_append, ih (n / 10) (by omega) (by omega)]
    simp only
    rw [parse_one h1, h2, if_neg (by omega)]
    congr 1
    omega
theorem dec_pos (n : Nat) : 0 < (Lib.decDigits n).length := by
  rw [Lib.decDigits]
  split <;> simp
theorem num_dec (n : Nat) (hn : n < 18446744073709551616) (r : List UInt8) (hr : ∀ c, r[0]? = some c → isDig c = false) : numS (Lib.decDigits n ++ r) = some (n, r) := by
  have h0 : DgI (Lib.decDigits n ++ r) (Lib.decDigits n).length n := by
    unfold DgI
    rw [List.take_left]
    exact ⟨dec_dig n, dec_parse n (by omega)⟩
  rw [h0.done (by simp) (fun c hc => hr c (by rw [List.getElem?_append_right (Nat.le_refl _), Nat.sub_self] at hc; exact hc)), if_pos ⟨dec_pos n, by rw [List.take_left]⟩, List.drop_left]

/-- Behind a text stands no digit. -/
def NoDig (r : List UInt8) : Prop := ∀ c, r[0]? = some c → isDig c = false
theorem noDig_cons (c : UInt8) (r : List UInt8) (h : isDig c = false) : NoDig (c :: r) := fun x hx => by
  obtain rfl : c = x := by simpa using hx
  exact h
theorem tell_head {t : T} (h : t.allB = true) : ∃ c l, t.tell = c :: l ∧ c ≠ 41 := by
  obtain ⟨k, a, b, ps⟩ := t
  rw [T.allB, Bool.and_eq_true] at h
  rw [T.tell]
  rcases fits_kind h.2 with rfl | rfl | rfl | rfl | rfl | rfl | rfl
  · exact ⟨97, _, rfl, by decide⟩
  · exact ⟨120, _, rfl, by decide⟩
  · exact ⟨118, _, rfl, by decide⟩
  · exact ⟨118, _, rfl, by decide⟩
  · exact ⟨33, _, rfl, by decide⟩
  · exact ⟨38, _, rfl, by decide⟩
  · exact ⟨124, _, rfl, by decide⟩
theorem join_two (x y : List UInt8) (r : List (List UInt8)) (sep : List UInt8) : Lib.join (x :: y :: r) sep = x ++ sep ++ Lib.join (y :: r) sep := by
  rw [Lib.join_cons, Lib.join_cons]
  simp [Lib.joinTail, List.append_assoc]
theorem cont_tell {f : List UInt8 → Option (T × List UInt8)} (hf : ∀ s t r, f s = some (t, r) → r.length < s.length) (r : List UInt8) :
    ∀ (ps : List T) (p : T), (∀ x ∈ p :: ps, ∀ r', NoDig r' → f (x.tell ++ r') = some (x, r')) → contS f (Lib.join (T.tellL (p :: ps)) [44] ++ 41 :: r) = some (p :: ps, r)
  | [], p, h => by
    rw [T.tellL, T.tellL, Lib.join_one]
    exact cont_shut (h p (by simp) _ (noDig_cons _ _ (by decide)))
  | q :: ps, p, h => by
    have e : Lib.join (T.tellL (p :: q :: ps)) [44] ++ 41 :: r = p.tell ++ 44 :: (Lib.join (T.tellL (q :: ps)) [44] ++ 41 :: r) := by
      rw [T.tellL, T.tellL, join_two]
      simp [List.append_assoc]
    rw [e, cont_more hf (h p (by simp) _ (noDig_cons _ _ (by decide))), cont_tell hf r ps q fun x hx => h x (by simp at hx ⊢; exact .inr hx)]
    rfl
theorem rd_tell : ∀ (t : T) (d : Nat) (r : List UInt8), t.allB = true → t.okN → t.depth ≤ d → NoDig r → rdS d (t.tell ++ r) = some (t, r) := by
  refine T.ind fun k a b ps ih d r hall hok hd hr => ?_
  rw [T.allB, Bool.and_eq_true] at hall
  rw [T.okN] at hok
  rw [T.depth] at hd
  obtain ⟨ha, hb, -, hol⟩ := hok
  obtain ⟨hal, hfit⟩ := hall
  obtain ⟨d', rfl⟩ : ∃ d', d = d' + 1 := ⟨d - 1, by omega⟩
  have IH : ∀ p ∈ ps, ∀ r', NoDig r' → rdS d' (p.tell ++ r') = some (p, r') := fun p hp r' hr' => ih p hp d' r' (all_mem hal p hp) ((okL_iff _).1 hol p hp) (depth_mem (by omega) p hp) hr'
  have hfit2 := hfit
  unfold fitsB at hfit2
  rcases fits_kind hfit with rfl | rfl | rfl | rfl | rfl | rfl | rfl
  · obtain ⟨rfl, rfl, h0⟩ := of_decide_eq_true hfit2
    obtain rfl := List.eq_nil_of_length_eq_zero h0
    rw [tell_1 hfit, rd_all (by simp [Lib.hasPrefix, List.isPrefixOf])]
    rfl
  · obtain ⟨rfl, h0⟩ := of_decide_eq_true hfit2
    obtain rfl := List.eq_nil_of_length_eq_zero h0
    rw [tell_2 hfit, rd_x (by simp [Lib.hasPrefix, List.isPrefixOf]) (by simp [Lib.hasPrefix, List.isPrefixOf])]
    show (numS (Lib.decDigits a ++ r)).map _ = _
    rw [num_dec a ha r hr]
    rfl
  · obtain ⟨rfl, h0⟩ := of_decide_eq_true hfit2
    obtain rfl := List.eq_nil_of_length_eq_zero h0
    rw [tell_3 hfit, rd_v (by simp [Lib.hasPrefix, List.isPrefixOf]) (by simp [Lib.hasPrefix, List.isPrefixOf]) (by simp [Lib.hasPrefix, List.isPrefixOf])]
    show (numS (Lib.decDigits a ++ r)).map _ = _
    rw [num_dec a ha r hr]
    rfl
  · obtain ⟨-, h0⟩ := of_decide_eq_true hfit2
    obtain rfl := List.eq_nil_of_length_eq_zero h0
    rw [tell_4 hfit, rd_m (by simp [Lib.hasPrefix, List.isPrefixOf]) (by simp [Lib.hasPrefix, List.isPrefixOf]) (by simp [Lib.hasPrefix, List.isPrefixOf]) (by simp [Lib.hasPrefix, List.isPrefixOf])]
    show (numS (Lib.decDigits a ++ [61] ++ Lib.decDigits b ++ r)).bind _ = _
    rw [show Lib.decDigits a ++ [61] ++ Lib.decDigits b ++ r = Lib.decDigits a ++ (61 :: (Lib.decDigits b ++ r)) by simp, num_dec a ha _ (noDig_cons _ _ (by decide)), Option.bind_some]
    simp only
    rw [pre_one, if_pos (by decide)]
    show (numS (Lib.decDigits b ++ r)).map _ = _
    rw [num_dec b hb r hr]
    rfl
  · obtain ⟨rfl, rfl, h0⟩ := of_decide_eq_true hfit2
    obtain ⟨p, rfl⟩ : ∃ p, ps = [p] := by
      match ps, h0 with
      | [p], _ => exact ⟨p, rfl⟩
    have hn : ∀ i, 1 ≤ i → i < 5 → Lib.hasPrefix ([33] ++ p.tell ++ r) (wordL i) = false := fun i h1 h2 => by
      have : i = 1 ∨ i = 2 ∨ i = 3 ∨ i = 4 := by omega
      rcases this with rfl | rfl | rfl | rfl <;> rfl
    rw [tell_5, rd_n hn rfl]
    show (rdS d' (p.tell ++ r)).map _ = _
    rw [IH p (by simp) r hr]
    rfl
  · obtain ⟨rfl, rfl⟩ := of_decide_eq_true hfit2
    rw [tell_67 (.inl rfl)]
    have e : [if (6 : Int) = 7 then (124 : UInt8) else 38, 40] ++ Lib.join (T.tellL ps) [44] ++ [41] ++ r = 38 :: 40 :: (Lib.join (T.tellL ps) [44] ++ 41 :: r) := by simp
    rw [e, rd_r 6 38 (.inl ⟨rfl, rfl⟩) (fun i h1 h2 => by
      have : i = 1 ∨ i = 2 ∨ i = 3 ∨ i = 4 ∨ i = 5 := by omega
      rcases this with rfl | rfl | rfl | rfl | rfl <;> rfl) rfl, if_pos (show Lib.hasPrefix (38 :: 40 :: (Lib.join (T.tellL ps) [44] ++ 41 :: r)) [38, 40] = true from rfl)]
    show (listB (rdS d') (Lib.join (T.tellL ps) [44] ++ 41 :: r)).map _ = _
    cases ps with
    | nil => rfl
    | cons p ps =>
      obtain ⟨c, l, h1, h2⟩ := tell_head (all_mem hal p (by simp))
      have hb : listB (rdS d') (Lib.join (T.tellL (p :: ps)) [44] ++ 41 :: r) = contS (rdS d') (Lib.join (T.tellL (p :: ps)) [44] ++ 41 :: r) := by
        unfold listB
        rw [if_neg]
        · rfl
        · rw [T.tellL, Lib.join_cons, h1, List.cons_append, List.cons_append, pre_one]
          simp
          exact fun e => h2 e.symm
      rw [hb, cont_tell (rdS_len d') r ps p IH]
      rfl
  · obtain ⟨rfl, rfl⟩ := of_decide_eq_true hfit2
    rw [tell_67 (.inr rfl)]
    have e : [if (7 : Int) = 7 then (124 : UInt8) else 38, 40] ++ Lib.join (T.tellL ps) [44] ++ [41] ++ r = 124 :: 40 :: (Lib.join (T.tellL ps) [44] ++ 41 :: r) := by simp
    rw [e, rd_r 7 124 (.inr ⟨rfl, rfl⟩) (fun i h1 h2 => by
      have : i = 1 ∨ i = 2 ∨ i = 3 ∨ i = 4 ∨ i = 5 ∨ i = 6 := by omega
      rcases this with rfl | rfl | rfl | rfl | rfl | rfl <;> rfl) rfl, if_pos (show Lib.hasPrefix (124 :: 40 :: (Lib.join (T.tellL ps) [44] ++ 41 :: r)) [124, 40] = true from rfl)]
    show (listB (rdS d') (Lib.join (T.tellL ps) [44] ++ 41 :: r)).map _ = _
    cases ps with
    | nil => rfl
    | cons p ps =>
      obtain ⟨c, l, h1, h2⟩ := tell_head (all_mem hal p (by simp))
      have hb : listB (rdS d') (Lib.join (T.tellL (p :: ps)) [44] ++ 41 :: r) = contS (rdS d') (Lib.join (T.tellL (p :: ps)) [44] ++ 41 :: r) := by
        unfold listB
        rw [if_neg]
        · rfl
        · rw [T.tellL, Lib.join_cons, h1, List.cons_append, List.cons_append, pre_one]
          simp
          exact fun e => h2 e.symm
      rw [hb, cont_tell (rdS_len d') r ps p IH]
      rfl
theorem read_tell {t : T} (hr : t.rightB = true) (hok : t.okN) : readT t.tell = some t := by
  have h := hr
  unfold T.rightB at h
  rw [Bool.and_eq_true, Bool.and_eq_true] at h
  have := rd_tell t 8 [] h.1.1 hok (of_decide_eq_true h.1.2) (fun c hc => by cases hc)
  rw [List.append_nil] at this
  unfold readT
  rw [this]
  simp [hr]

theorem tell_inj {p q : T} (hp : p.rightB = true) (hq : q.rightB = true) (op : p.okN) (oq : q.okN) (h : p.tell = q.tell) : p = q := by
  have h1 := read_tell hp op
  rw [h, read_tell hq oq] at h1
  exact (Option.some.inj h1).symm

end Go.Proofs.YtiijdacnfhiagaaGreatDoor
