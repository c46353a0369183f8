/-
  Layer 4: a tree's text, plainly.
  Layer 4: rows of strings of the call's own; strings.Join of one.
  Layer 4: the program's stand, and Put.
  Layer 4: the document's stands, Put; the program's Put.
  Layer 4: Put, on both sides.
  Layer 4: the program's tell, and Text.
-/
import Derived.Test.YtiijdacnfhiagaaGreatDoorTkr
import Derived.Lib.Join
import Derived.Lib.ItoaLen
import Derived.Test.YtiijdacnfhiagaaGreatDoorTfu
import Derived.Test.YtiijdacnfhiagaaGreatDoorTnm
import Derived.Test.YtiijdacnfhiagaaGreatDoorTpr
import Derived.Test.YtiijdacnfhiagaaGreatDoorKit
import Derived.Test.YtiijdacnfhiagaaGreatDoorTrw
import Derived.Deep.RegionHeld3

namespace Go.Proofs.YtiijdacnfhiagaaGreatDoor
open Go Go.RowKit
set_option linter.unusedVariables false

mutual
/-- The text of a tree that is right. -/
def T.tell : T → List UInt8
  | .node k a b ps => wordL k.toNat ++ Lib.join ((numsL k a b).map Lib.decDigits) [61] ++ (if 6 ≤ k then [40] ++ Lib.join (T.tellL ps) [44] ++ [41] else Lib.join (T.tellL ps) [])
def T.tellL : List T → List (List UInt8)
  | [] => []
  | p :: ps => p.tell :: T.tellL ps
end
theorem tellL_append : ∀ (xs ys : List T), T.tellL (xs ++ ys) = T.tellL xs ++ T.tellL ys
  | [], ys => by simp [T.tellL]
  | x :: xs, ys => by rw [List.cons_append, T.tellL, T.tellL, tellL_append xs ys, List.cons_append]
theorem tellL_length : ∀ xs : List T, (T.tellL xs).length = xs.length
  | [] => by simp [T.tellL]
  | x :: xs => by rw [T.tellL, List.length_cons, List.length_cons, tellL_length xs]
theorem tellL_take {ps : List V} {i : Nat} {p : V} (h : ps[i]? = some p) : T.tellL (V.absL (ps.take (i + 1))) = T.tellL (V.absL (ps.take i)) ++ [p.abs.tell] := by
  rw [absL_take h, tellL_append]; simp [T.tellL]
theorem join_snoc (xs : List (List UInt8)) (x sep : List UInt8) : Lib.join (xs ++ [x]) sep = Lib.join xs sep ++ (if xs = [] then [] else sep) ++ x := by
  cases xs with
  | nil => simp [Lib.join_one, Lib.join_nil]
  | cons y r =>
    rw [List.cons_append, Lib.join_cons, Lib.join_cons, if_neg (by simp)]
    simp [Lib.joinTail, List.append_assoc]
theorem join_len (xs : List (List UInt8)) (sep : List UInt8) : (Lib.join xs sep).length ≤ Lib.lens xs + sep.length * xs.length := by
  cases xs with
  | nil => simp [Lib.join_nil]
  | cons x r =>
    rw [Lib.join_length, List.length_cons, Nat.mul_succ]
    omega
theorem wordL_len (n : Nat) : (wordL n).length ≤ 3 := by
  unfold wordL wordA
  repeat (first | split | decide)
theorem lens_nums {l : List Nat} (h : ∀ x ∈ l, x < 18446744073709551616) : Lib.lens (l.map Lib.decDigits) ≤ 20 * l.length := by
  induction l with
  | nil => simp [Lib.lens]
  | cons x l ih =>
    have h1 := Lib.nDigits_le20 x (h x (by simp))
    have h2 := ih fun y hy => h y (by simp [hy])
    rw [← Lib.decDigits_length] at h1
    simp only [Lib.lens, List.map_cons, List.sum_cons, List.length_cons] at h2 ⊢
    omega
theorem tellN_len (k : Int) {a b : Nat} (ha : a < 18446744073709551616) (hb : b < 18446744073709551616) : (Lib.join ((numsL k a b).map Lib.decDigits) [61]).length ≤ 42 := by
  have h1 := join_len ((numsL k a b).map Lib.decDigits) [61]
  have h2 := lens_nums (nums_in (k := k) ha hb)
  have h3 := numN_le k
  rw [nums_len] at h2
  rw [List.length_map, nums_len] at h1
  simp at h1
  omega
theorem tells_sum {w : World} {lo hi : Nat} (l : List V) (h : ∀ p ∈ l, p.abs.tell.length + 1 ≤ 50 * p.abs.count) : Lib.lens (T.tellL (V.absL l)) + l.length ≤ 50 * T.countL (V.absL l) := by
  induction l with
  | nil => simp [V.absL, T.tellL, Lib.lens, T.countL]
  | cons p l ih2 =>
    have h1 := h p (by simp)
    have h2 := ih2 fun q hq => h q (by simp [hq])
    simp only [Lib.lens] at h2
    simp only [V.absL, T.tellL, T.countL, Lib.lens, List.map_cons, List.sum_cons, List.length_cons]
    omega
theorem tells_join {l : List V} {sep : List UInt8} (hs : sep.length ≤ 1) (h : Lib.lens (T.tellL (V.absL l)) + l.length ≤ 50 * T.countL (V.absL l)) : (Lib.join (T.tellL (V.absL l)) sep).length ≤ 50 * T.countL (V.absL l) := by
  have h1 := join_len (T.tellL (V.absL l)) sep
  rw [tellL_length, absL_length] at h1
  have h2 := Nat.mul_le_mul_right l.length hs
  omega
/-- How long a text is. -/
theorem tell_len {w : World} {lo hi : Nat} : ∀ v : V, Lies w lo hi v → v.abs.tell.length + 1 ≤ 50 * v.abs.count := by
  refine V.ind fun k a b A c ps ih hL => ?_
  obtain ⟨hlen, hcap', hk, ha, hb⟩ := hL.caps
  rw [V.count_node, V.abs, T.tell]
  have h1 := tells_sum (w := w) (lo := lo) (hi := hi) ps fun p hp => ih p hp (hL.part hp)
  have h2 := tells_join (l := ps) (sep := [44]) (by decide) h1
  have h3 := tells_join (l := ps) (sep := []) (by decide) h1
  have h4 := wordL_len k.toNat
  have h5 := tellN_len k ha hb
  split <;> simp only [List.length_append, List.length_cons, List.length_nil] <;> omega
theorem tells_len {w : World} {lo hi : Nat} {k : Int} {a b c : Nat} {A : Option Addr} {ps : List V} (hL : Lies w lo hi (.node k a b A c ps)) {sep : List UInt8} (hs : sep.length ≤ 1) : (Lib.join (T.tellL (V.absL ps)) sep).length ≤ 50 * T.countL (V.absL ps) :=
  tells_join hs (tells_sum (w := w) (lo := lo) (hi := hi) ps fun p hp => tell_len p (hL.part hp))

end Go.Proofs.YtiijdacnfhiagaaGreatDoor

namespace Go.Proofs.YtiijdacnfhiagaaGreatDoor
open Go Go.RowKit
set_option linter.unusedVariables false

def strs (xs : List (List UInt8)) : List Value := xs.map fun x => .string ⟨x.toArray⟩
theorem strs_length (xs : List (List UInt8)) : (strs xs).length = xs.length := by simp [strs]
theorem strs_append (xs ys : List (List UInt8)) : strs (xs ++ ys) = strs xs ++ strs ys := by simp [strs]
theorem strs_one (xs : List (List UInt8)) : ∀ u ∈ strs xs, u.oneCell' = true := by
  intro u hu
  obtain ⟨x, _, rfl⟩ := List.mem_map.1 hu
  rfl
theorem new_str (w : World) (E : TypeId) (x : List UInt8) : Rd (w.alloc (.cells #[.string ⟨x.toArray⟩] E)) (w.heap.size + 1) 1 (some ⟨w.heap.size, 0, none⟩) 1 (strs [x]) := by
  refine ⟨rfl, fun _ => ⟨_, rfl, by simp, fun j u hu => ?_⟩⟩
  have hr := heap_alloc_new w (.cells #[.string ⟨x.toArray⟩] E)
  have e : (⟨w.heap.size, 0, none⟩ : Addr).add j = ⟨w.heap.size, j, none⟩ := by unfold Addr.add; split <;> simp_all
  rw [e, cell_of_row _ _ j _ _ _ hr]
  have hv : strs [x] = [.string ⟨x.toArray⟩] := rfl
  rw [hv] at hu
  rw [← hu]
  simp
theorem join_any (b n c : Nat) (E : TypeId) (A : Option Addr) (xs : List (List UInt8)) (sep : List UInt8) (w : World) (h : w.ownsRow b E 1 (.slice A n c) n (strs xs)) (hx : n ≤ 1000000) (hl : (Lib.join xs sep).length ≤ 1000000) :
    Calls Tryz.prog 62 #[.slice A n c, .string ⟨sep.toArray⟩] w fun e w' => e = .returned (.string ⟨(Lib.join xs sep).toArray⟩) ∧ Below w.heap.size w w' := by
  have hn : xs.length = n := by have := h.1; rw [strs_length] at this; omega
  rcases Nat.eq_zero_or_pos n with h0 | h0
  · subst h0
    obtain rfl : xs = [] := List.eq_nil_of_length_eq_zero hn
    exact (Tryz.strings_Join_none A c ⟨sep.toArray⟩ w).mono fun e w' ⟨he, hw⟩ => ⟨he, hw ▸ Below.refl _ _⟩
  · have hcap := (own_cap h).1
    have hlies := (Rd.own h).lies h0
    obtain ⟨g, cap, hv, _, hlt⟩ := h.form h0
    have hA : A = some ⟨g, 0, none⟩ := by injection hv
    subst hA
    obtain ⟨ad, e, hb, hc⟩ := hlies
    injection e with e
    subst e
    have e2 : (xs.map fun x => (⟨x.toArray⟩ : ByteArray)).map (·.data.toList) = xs := by rw [List.map_map]; exact (List.map_congr_left fun x _ => rfl).trans (List.map_id _)
    have J := Tryz.strings_Join g 0 c (xs.map fun x => ⟨x.toArray⟩) ⟨sep.toArray⟩ w (fun j x hx => by
      have h1 := hc j (.string x) (by unfold strs; rw [List.getElem?_map] at hx ⊢; cases h : xs[j]? with
        | none => rw [h] at hx; cases hx
        | some y => rw [h] at hx; injection hx with hx; rw [← hx]; rfl)
      rw [← h1]
      congr 1
      unfold Addr.add
      split <;> simp_all) hlt (by rw [List.length_map]; omega) (by rw [List.length_map]; omega) (by show (Lib.join _ sep).length ≤ _; rw [e2]; omega)
    have J2 : Calls Tryz.prog 62 #[.slice (some ⟨g, 0, none⟩) (xs.map fun x => (⟨x.toArray⟩ : ByteArray)).length c, .string ⟨sep.toArray⟩] w fun e w' => e = .returned (.string ⟨(Lib.join ((xs.map fun x => (⟨x.toArray⟩ : ByteArray)).map (·.data.toList)) sep).toArray⟩) ∧ Below w.heap.size w w' := J
    rw [e2, List.length_map, hn] at J2
    exact J2

end Go.Proofs.YtiijdacnfhiagaaGreatDoor

namespace Go.Proofs.YtiijdacnfhiagaaGreatDoor
open Go Go.RowKit
set_option linter.unusedVariables false

set_option maxRecDepth 100000 in
set_option maxHeartbeats 1600000 in
theorem tstand_any : ∀ (v : V) (w : World) (lo hi B : Nat) (A' : Option Addr) (n c' : Nat) (xs : List Nat), Lies w lo hi v → hi ≤ w.heap.size → B ≤ w.heap.size → v.abs.allB = true → w.ownsRow B 5 1 (.slice A' n c') n (bs xs) →
    (∀ g, (Value.slice A' n c').ownBlock = some g → g < lo ∨ hi ≤ g) → xs.length + 31 * v.abs.count ≤ 1000000 → Calls Tryz.prog 41 #[.slice A' n c', v.val] w (Grew 5 B (.slice A' n c') (bs (xs ++ v.abs.stand)) w) := by
  refine V.ind fun k a b A c ps ih w lo hi B A' n c' xs hL hhi hB hall ho hfar hlen => ?_
  obtain ⟨hcl, hcap', hkr, ha, hb⟩ := hL.caps
  rw [V.all_node, Bool.and_eq_true] at hall
  rw [V.count_node] at hlen
  have hk : 1 ≤ k ∧ k ≤ 7 := by
    have := hall.2
    unfold fitsB at this
    split at this; omega
    split at this; omega
    split at this; omega
    split at this; omega
    split at this; omega
    cases this
  obtain ⟨kn, rfl⟩ : ∃ kn : Nat, k = kn := ⟨k.toNat, by omega⟩
  have hnx : xs.length = n := by have := ho.1; rw [bs_length] at this; omega
  have hlc : ps.length ≤ T.countL (V.absL ps) := by have := length_le_countL (V.absL ps); rwa [absL_length] at this
  obtain ⟨i0, hi0, hz0, hz1, hz2⟩ := info_parts Tryz.info5
  have HA : Hid (∀ (i : Nat) (p : V), ps[i]? = some p → p.abs.allB = true) := fun i p hp => by
    cases h : p.abs.allB with
    | true => rfl
    | false => rw [allL_bad hp h] at hall; cases hall.1
  have IH : Hid (∀ (i : Nat) (p : V), ps[i]? = some p → ∀ (W : World) (A' : Option Addr) (n c' : Nat) (ys : List Nat), Lies W lo hi p → hi ≤ W.heap.size → B ≤ W.heap.size → W.ownsRow B 5 1 (.slice A' n c') n (bs ys) →
      (∀ g, (Value.slice A' n c').ownBlock = some g → g < lo ∨ hi ≤ g) → ys.length + 31 * p.abs.count ≤ 1000000 → Calls Tryz.prog 41 #[.slice A' n c', .agg #[.int .i64 p.kind, .int .u64 (p.a : Int), .int .u64 (p.b : Int), .slice p.addr p.parts.length p.cap]] W (Grew 5 B (.slice A' n c') (bs (ys ++ p.abs.stand)) W)) :=
    fun i p hp W A' n c' ys h1 h2 h3 h4 h5 h6 => ih p (List.mem_of_getElem? hp) W lo hi B A' n c' ys h1 h2 h3 (HA.out i p hp) h4 h5 h6
  have hbx := heap_alloc_new w (.cells #[.int .i64 (kn : Int), .int .u64 (a : Int), .int .u64 (b : Int), .slice A ps.length c] 25)
  have hb0 := below_new w (.cells #[.int .i64 (kn : Int), .int .u64 (a : Int), .int .u64 (b : Int), .slice A ps.length c] 25)
  have KD := kindof_any kn (w.alloc (.cells #[.int .i64 (kn : Int), .int .u64 (a : Int), .int .u64 (b : Int), .slice A ps.length c] 25))
  have hcn := call_num hk
  have NA := Lib_hid (fun g wx => nums_any kn hk g wx)
  have HK := Lib_hid hk
  have HL := Lib_hid hL
  have HS : Hid ((V.node kn a b A c ps).abs.stand = [kn] ++ (numsL kn a b).flatMap enc ++ (if 6 ≤ kn then enc ps.length else []) ++ T.standL (V.absL ps)) := by unfold Hid; rw [V.abs, T.stand, absL_length, Int.toNat_natCast, show (if (6 : Int) ≤ (kn : Int) then enc ps.length else []) = (if 6 ≤ kn then enc ps.length else []) by split <;> split <;> first | rfl | omega]; simp [List.append_assoc]
  have HPN : Hid (partN kn = 2 ↔ 6 ≤ kn) := by
    unfold partN Hid
    split
    · omega
    · split <;> omega
  rw [kindAt_eq hk, show isKind kn = true by unfold isKind; simp; omega] at KD
  clear ih hL hall
  simp only [V.val, V.kind, V.a, V.b, V.sl, V.addr, V.parts, V.cap]
  generalize (V.node kn a b A c ps).abs.stand = res at *
  generalize hPN : partN kn = pn at *
  generalize wordA kn = wd at *
  generalize numF kn = f1 at *
  generalize fitF kn = f2 at *
  generalize askF kn = f3 at *
  have hkb : IntKind.u8.wrap (kn : Int) = (kn : Int) := by rw [IntKind.wrap_u8]; omega
  go_enter Tryz.func41, Tryz.ntmps41
  go_wp2_with fail
  refine KD.mono ?_
  rintro e w1 ⟨rfl, hb1⟩
  have hbw1 := hb0.trans (hb1.mono hb0.size)
  have hx1 := (hb1.block w.heap.size (by simp)).trans hbx
  have hsz1 : w.heap.size < w1.heap.size := by have := hb1.size; simp at this; omega
  obtain ⟨w2, hw2⟩ : ∃ w2, w2 = w1.alloc (.cells #[.string ⟨wd⟩, .int .i64 (pn : Nat), .func (.func f1) #[] #[], .func (.func f2) #[] #[], .func (.func f3) #[] #[]] 87) := ⟨_, rfl⟩
  have hb2 := hbw1.alloc hbw1.size (.cells #[.string ⟨wd⟩, .int .i64 (pn : Nat), .func (.func f1) #[] #[], .func (.func f2) #[] #[], .func (.func f3) #[] #[]] 87)
  have hx2 := (heap_alloc_old w1 (.cells #[.string ⟨wd⟩, .int .i64 (pn : Nat), .func (.func f1) #[] #[], .func (.func f2) #[] #[], .func (.func f3) #[] #[]] 87) hsz1).trans hx1
  have hk2 := heap_alloc_new w1 (.cells #[.string ⟨wd⟩, .int .i64 (pn : Nat), .func (.func f1) #[] #[], .func (.func f2) #[] #[], .func (.func f3) #[] #[]] 87)
  have hsz2 : w2.heap.size = w1.heap.size + 1 := by rw [hw2]; simp
  rw [← hw2] at hb2 hx2 hk2
  have hI2 : StI (fun g => g = w.heap.size ∨ g = w1.heap.size ∨ (lo ≤ g ∧ g < hi)) B w2 (.slice A' n c') xs (.slice A' n c') n w2 := by
    refine ⟨own_below ho hb2 (own_lt ho), Stp.refl _ _, fun g hg hx => ?_, fun g hx => ?_⟩
    · have := own_lt ho g hg
      have := hfar g hg
      omega
    · omega
  have HI2 := Lib_hid hI2
  have HB2 := Lib_hid hb2
  have c0 := cell_of_row w2 _ 0 _ _ _ hx2
  simp at c0
  subst hw2
  have HSZ2 := Lib_hid hsz2
  clear KD hb0 hb1 hbx hbw1 hx1 hb2 ho hI2 hsz2
  go_upto_region 2 with (fail)
  generalize w1.alloc _ = w2 at *
  have hm1 : n + 1 ≤ maxLen := by unfold maxLen; omega
  have hm2 : (n + 1) * 1 ≤ 140737488355328 := by omega
  go_upto_region 3 with (at_builtin; (refine wpList_app rfl _ _ 32 rfl B 5 i0 (.int .u8 0) 1 1 Tryz.underlying32 hi0 hz0 hz1 hz2 rfl (by decide) (.slice A' n c') n (bs xs) rfl (own_below HI2.out.own (below_new w2 _) (own_lt HI2.out.own)) (w2.heap.size + 1) (some ⟨w2.heap.size, 0, none⟩) 1 1 (bs [kn]) rfl (Rd.new1 w2 kn 5) (bs_one _) hm1 hm2 (by have := HB2.out.size; simp; omega) ?_); intro v5 w5 ho5 hs5; rw [← bs_append] at ho5; obtain ⟨A5, c5, rfl, _⟩ := own_form ho5)
  have hI5 := (HI2.out.under (below_new w2 _)).next hs5 ho5
  have hk5 := (hI5.kept w1.heap.size (.inr (.inl rfl))).trans hk2
  have hx5 := (hI5.kept w.heap.size (.inl rfl)).trans hx2
  have hL5 : Lies w5 lo hi (V.node kn a b A c ps) := HL.out.keep fun p h1 h2 => (World.cell?_of_block (hI5.kept p.block (.inr (.inr ⟨h1, h2⟩)))).trans (HB2.out.cell (by omega))
  have hbw5 := HB2.out.size
  have hs25 := hI5.stp.grow.size
  have d2 := cell_of_row w5 _ 2 _ _ _ hk5
  simp at d2
  have HI5 := Lib_hid hI5
  clear ho5 hs5 hI5 c0 hx2 hk2
  go_wp2_with fail
  refine (NA.out w.heap.size w5).mono ?_
  rintro e w6 ⟨AN, rfl, hb6, hptr⟩
  have hI6a := HI5.out.under hb6
  have hs56 := hb6.size
  have hI6 := hI6a.from (X' := fun g => g = w.heap.size ∨ g = w1.heap.size ∨ (lo ≤ g ∧ g < hi) ∨ ∃ pb, 0 < numN kn ∧ AN = some ⟨pb, 0, none⟩ ∧ g = pb) (by
    rintro g (h | h | h | ⟨pb, hn, h1, rfl⟩)
    · exact .inl (.inl h)
    · exact .inl (.inr (.inl h))
    · exact .inl (.inr (.inr h))
    · obtain ⟨pb', h2, h3, h4, _⟩ := hptr 0 hn
      have e : g = pb' := by rw [h1] at h2; injection h2 with h2; injection h2
      subst e
      refine .inr ⟨fun e => ?_, h4⟩
      have := own_lt HI5.out.own g e
      omega)
  obtain ⟨X6, hm0, hm1, hm2, hm3, hI6⟩ : ∃ X6 : Nat → Prop, X6 w.heap.size ∧ X6 w1.heap.size ∧ (∀ g, lo ≤ g → g < hi → X6 g) ∧ (∀ pb, 0 < numN kn → AN = some ⟨pb, 0, none⟩ → X6 pb) ∧ StI X6 B w6 (.slice A5 (n + 1) c5) (xs ++ [kn]) (.slice A5 (n + 1) c5) (n + 1) w6 :=
    ⟨_, .inl rfl, .inr (.inl rfl), fun g h1 h2 => .inr (.inr (.inl ⟨h1, h2⟩)), fun pb h1 h2 => .inr (.inr (.inr ⟨pb, h1, h2, rfl⟩)), hI6⟩
  have HST : Hid (Stp w w6 (.slice A' n c') (.slice A5 (n + 1) c5)) := (Stp.new HB2.out _).trans (HI5.out.stp.trans (Stp.new hb6 _))
  have HX := Lib_hid (And.intro hm0 (And.intro hm1 (And.intro hm2 hm3)))
  clear hm0 hm1 hm2 hm3
  have hk6 := (hb6.block _ (Array.getElem?_eq_some_iff.1 hk5).1).trans hk5
  have hx6 := (hb6.block _ (Array.getElem?_eq_some_iff.1 hx5).1).trans hx5
  have hL6 := hL5.under (hb6.mono (by omega))
  have hlN := nums_len kn a b
  have hinN := nums_in (k := kn) ha hb
  have hN2 := numN_le kn
  have HC : Hid (∀ (j x : Nat), (numsL kn a b)[j]? = some x → w6.cell? ⟨w.heap.size, j + 1, none⟩ = some (.int .u64 (x : Int)) ∧ (x : Int) ≤ 18446744073709551615) := by
    intro j x hx
    refine ⟨?_, by have := hinN x (List.mem_of_getElem? hx); omega⟩
    unfold numsL at hx
    rw [List.getElem?_take] at hx
    split at hx
    · match j, hx with
      | 0, hx => simp at hx; subst hx; exact (cell_of_row w6 _ 1 _ _ _ hx6).trans rfl
      | 1, hx => simp at hx; subst hx; exact (cell_of_row w6 _ 2 _ _ _ hx6).trans rfl
    · cases hx
  have HNL := Lib_hid (And.intro hlN (enc_sum hinN))
  have HP := Lib_hid hptr
  have HKX := Lib_hid (And.intro hk6 (And.intro hx6 hL6))
  have HI6 := Lib_hid hI6
  clear hlN hinN hptr hk6 hx6 hL6 hI6 hI6a hk5 hx5 hL5 d2 hb6
  generalize hnn : numsL kn a b = nums at *
  generalize hNN : numN kn = N at *
  go_wp2
  go_loopw [0, 27] (fun bv z W => ∃ (j n' : Nat) (A'' : Option Addr) (c'' : Nat), z = .int .i64 j ∧ bv = .slice A'' n' c'' ∧ j ≤ N ∧ n' ≤ n + 1 + 10 * j ∧ Hid (StI X6 B w6 (.slice A5 (n + 1) c5) (xs ++ [kn] ++ (nums.take j).flatMap enc) (.slice A'' n' c'') n' W)) (fun _ z _ => N - (intOf z).toNat)
  case atStart => exact ⟨0, n + 1, A5, c5, rfl, rfl, Nat.zero_le _, by omega, by simpa using HI6⟩
  case round =>
    obtain ⟨j, n', A'', c'', rfl, rfl, hj, hn', hI⟩ := hrel
    rename World => W
    by_cases hlt : j < N
    · obtain ⟨x, hx⟩ : ∃ x, nums[j]? = some x := ⟨_, List.getElem?_eq_getElem (by rw [HNL.out.1]; exact hlt)⟩
      obtain ⟨pb, rfl, hp1, hp2, hp3⟩ := HP.out j hlt
      obtain ⟨hc1, hx64⟩ := HC.out j x hx
      have d0 := (World.cell?_of_block (a := ⟨pb, j, none⟩) (hI.out.kept pb (HX.out.2.2.2 pb (by omega) rfl))).trans hp3
      have d1 := (World.cell?_of_block (a := ⟨w.heap.size, j + 1, none⟩) (hI.out.kept w.heap.size HX.out.1)).trans hc1
      have PU := put_any x W hx64
      have hten := enc_ten (v := x) (by omega)
      have hp1 : n' + (enc x).length ≤ maxLen := by unfold maxLen; omega
      have hp2 : (n' + (enc x).length) * 1 ≤ 140737488355328 := by omega
      have HXJ := Lib_hid hx
      have hsB : B ≤ W.heap.size := by have := hI.out.stp.grow.size; have := HST.out.grow.size; omega
      clear hp3 hc1 hx
      go_wp2_with (first | (go_at_call 56; refine PU.mono ?_; rintro e w7 ⟨A7, c7, rfl, ho7, hb7⟩) | (at_builtin; (refine wpList_app rfl _ _ 32 rfl B 5 i0 (.int .u8 0) 1 1 Tryz.underlying32 hi0 hz0 hz1 hz2 rfl (by decide) (.slice A'' n' c'') n' _ rfl (hI.out.under hb7).own w7.heap.size A7 (enc x).length c7 (bs (enc x)) rfl (Rd.own ho7) (bs_one _) hp1 hp2 (by have := hb7.size; omega) ?_); intro v8 w8 ho8 hs8; rw [← bs_append] at ho8; obtain ⟨A8, c8, rfl, _⟩ := own_form ho8))
      have hI8 := (hI.out.under hb7).next hs8 ho8
      rw [List.append_assoc, show (nums.take j).flatMap enc ++ enc x = (nums.take (j + 1)).flatMap enc by rw [take_one HXJ.out, List.flatMap_append]; simp] at hI8
      have HI8 := Lib_hid hI8
      clear hI8 ho8 hs8 hb7 ho7 d0 d1 PU
      go_wp2
      go_roundw
      case rel => exact ⟨j + 1, _, A8, c8, by go_num, rfl, by omega, by omega, HI8⟩
      case measure => simp [intOf]; omega
    · obtain rfl : j = N := by omega
      rw [show nums.take j = nums from List.take_of_length_le (by rw [HNL.out.1]; exact Nat.le_refl _)] at hI
      have k7 := (hI.out.kept w1.heap.size HX.out.2.1).trans HKX.out.1
      have d1 := cell_of_row W _ 1 _ _ _ k7
      have x7 := (hI.out.kept w.heap.size HX.out.1).trans HKX.out.2.1
      have x3 := cell_of_row W _ 3 _ _ _ x7
      simp at d1 x3
      clear k7 x7
      go_upto_if 40 with (fail)
      go_cut [0] from 40 to 47 (fun bv W' => ∃ (n' : Nat) (A'' : Option Addr) (c'' : Nat), bv = .slice A'' n' c'' ∧ n' ≤ n + 31 ∧ Hid (StI X6 B w6 (.slice A5 (n + 1) c5) (xs ++ [kn] ++ nums.flatMap enc ++ (if 6 ≤ kn then enc ps.length else [])) (.slice A'' n' c'') n' W'))
      case first =>
        by_cases h6 : 6 ≤ kn
        · have hpn : pn = 2 := HPN.out.2 h6
          have hb : (((pn : Nat) : Int) == 2) = true := by simp [hpn]
          clear hpn
          have PU := put_any ps.length W (by omega)
          have hten := enc_ten (v := ps.length) (by omega)
          have hp1 : n' + (enc ps.length).length ≤ maxLen := by unfold maxLen; omega
          have hp2 : (n' + (enc ps.length).length) * 1 ≤ 140737488355328 := by omega
          have hsB : B ≤ W.heap.size := by have := hI.out.stp.grow.size; have := HST.out.grow.size; omega
          have hwr : IntKind.u64.wrap (ps.length : Int) = (ps.length : Int) := by rw [IntKind.wrap_u64]; omega
          go_wp2_with (first | (go_at_call 56; refine PU.mono ?_; rintro e w7 ⟨A7, c7, rfl, ho7, hb7⟩) | (at_builtin; (refine wpList_app rfl _ _ 32 rfl B 5 i0 (.int .u8 0) 1 1 Tryz.underlying32 hi0 hz0 hz1 hz2 rfl (by decide) (.slice A'' n' c'') n' _ rfl (hI.out.under hb7).own w7.heap.size A7 (enc ps.length).length c7 (bs (enc ps.length)) rfl (Rd.own ho7) (bs_one _) hp1 hp2 (by have := hb7.size; omega) ?_); intro v8 w8 ho8 hs8; rw [← bs_append] at ho8; obtain ⟨A8, c8, rfl, _⟩ := own_form ho8))
          have hI8 := (hI.out.under hb7).next hs8 ho8
          have HI8 := Lib_hid hI8
          clear hI8 ho8 hs8 hb7 ho7 PU
          go_meet
          exact ⟨_, A8, c8, rfl, by omega, by rw [if_pos h6]; exact HI8⟩
        · have hpn : ¬ pn = 2 := fun e => h6 (HPN.out.1 e)
          have hb : (((pn : Nat) : Int) == 2) = false := by simp; omega
          go_wp2_with fail
          go_meet
          exact ⟨_, A'', c'', rfl, by omega, by rw [if_neg h6, List.append_nil]; exact hI⟩
      case rest =>
        obtain ⟨n9, A9, c9, rfl, hn9, hI9⟩ := hcut
        clear hI d1
        generalize hpre : xs ++ [kn] ++ nums.flatMap enc ++ (if 6 ≤ kn then enc ps.length else []) = pre at *
        have hpl : pre.length = n9 := by have := hI9.out.own.1; rw [bs_length] at this; omega
        have x3 : wc.cell? ⟨w.heap.size, 3, none⟩ = some (.slice A ps.length c) := (World.cell?_of_block (a := ⟨w.heap.size, 3, none⟩) (hI9.out.kept w.heap.size HX.out.1)).trans ((cell_of_row w6 _ 3 _ _ _ HKX.out.2.1).trans rfl)
        have HPB : Hid (∀ i, i ≤ ps.length → (T.standL (V.absL (ps.take i))).length ≤ 31 * T.countL (V.absL (ps.take i))) := by
          intro i
          induction i with
          | zero => intro _; simp [V.absL, T.standL]
          | succ i ih =>
            intro hi
            obtain ⟨p, hp⟩ : ∃ p, ps[i]? = some p := ⟨_, List.getElem?_eq_getElem (by omega)⟩
            rw [standL_take hp, countL_take hp, List.length_append]
            have h1 := ih (by omega)
            have h2 := stand_len p (HL.out.part (List.mem_of_getElem? hp))
            omega
        have HPR := Lib_hid hpre
        clear hpre
        go_wp2
        go_loopw [0, 51] (fun bv z W => ∃ (i n' : Nat) (A'' : Option Addr) (c'' : Nat), z = .int .i64 i ∧ bv = .slice A'' n' c'' ∧ i ≤ ps.length ∧ Hid (StI X6 B w6 (.slice A5 (n + 1) c5) (pre ++ T.standL (V.absL (ps.take i))) (.slice A'' n' c'') n' W)) (fun _ z _ => ps.length - (intOf z).toNat)
        case atStart => exact ⟨0, n9, A9, c9, rfl, rfl, Nat.zero_le _, by simpa [V.absL, T.standL] using hI9⟩
        case round =>
          obtain ⟨i, n', A'', c'', rfl, rfl, hi1, hI⟩ := hrel
          rename World => W
          by_cases hlt : i < ps.length
          · have hLW : Lies W lo hi (V.node kn a b A c ps) := HKX.out.2.2.keep fun p h1 h2 => World.cell?_of_block (hI.out.kept p.block (HX.out.2.2.1 _ h1 h2))
            obtain ⟨bb, off, p, rfl, hbb, hlb, hp, hLp, d0, d1, d2, d3⟩ := hLW.nth hlt
            have hsw : w.heap.size ≤ W.heap.size := by have := hI.out.stp.grow.size; have := HST.out.grow.size; omega
            have CH : Hid (∀ W', Below W.heap.size W W' → Calls Tryz.prog 41 #[.slice A'' n' c'', .agg #[.int .i64 p.kind, .int .u64 (p.a : Int), .int .u64 (p.b : Int), .slice p.addr p.parts.length p.cap]] W' (Grew 5 B (.slice A'' n' c'') (bs ((pre ++ T.standL (V.absL (ps.take i))) ++ p.abs.stand)) W')) := fun W' hW' => by
              refine IH.out i p hp W' A'' n' c'' _ (hLp.under (hW'.mono (by omega))) (by have := hW'.size; omega) (by have := hW'.size; omega) (hI.out.under hW').own (fun g hg => ?_) ?_
              · have := hI.out.far g hg
                rcases Nat.lt_or_ge g lo with h1 | h1
                · exact .inl h1
                · rcases Nat.lt_or_ge g hi with h2 | h2
                  · exact absurd (HX.out.2.2.1 g h1 h2) this
                  · exact .inr h2
              · have h1 := HPB.out i (by omega)
                have h2 := count_le hp
                rw [List.length_append]
                omega
            have HPP := Lib_hid hp
            have hps : p.sl = .slice p.addr p.parts.length p.cap := rfl
            rw [hps] at d3
            clear hLW hLp hp hps
            generalize p.addr = pA at *
            generalize p.cap = pc at *
            generalize p.parts.length = pl at *
            go_wp2_with fail
            refine (CH.out _ (below_new W _)).mono ?_
            rintro e w8 ⟨A8, n8, c8, rfl, ho8, hs8⟩
            have hI8 := (hI.out.under (below_new W _)).next hs8 ho8
            rw [List.append_assoc, ← standL_take HPP.out] at hI8
            have HI8 := Lib_hid hI8
            clear hI8 ho8 hs8 CH d0 d1 d2 d3
            go_wp2
            go_roundw
            case rel => exact ⟨i + 1, _, A8, c8, by go_num, rfl, by omega, HI8⟩
            case measure => simp [intOf]; omega
          · obtain rfl : i = ps.length := by omega
            have HF : Hid (Grew 5 B (.slice A' n c') (bs (xs ++ res)) w (.returned (.slice A'' n' c'')) W) := by
              refine ⟨A'', n', c'', rfl, ?_, HST.out.trans hI.out.stp⟩
              have := hI.out.own
              rw [List.take_length] at this
              rw [HS.out, show xs ++ ([kn] ++ nums.flatMap enc ++ (if 6 ≤ kn then enc ps.length else []) ++ T.standL (V.absL ps)) = pre ++ T.standL (V.absL ps) by rw [← HPR.out]; simp [List.append_assoc]]
              exact this
            go_wp2
            go_ret
            exact HF.out

end Go.Proofs.YtiijdacnfhiagaaGreatDoor

namespace Go.Proofs.YtiijdacnfhiagaaGreatDoor
open Go Go.RowKit
set_option linter.unusedVariables false

set_option maxRecDepth 100000 in
set_option maxHeartbeats 1600000 in
theorem trstands_any : ∀ (v : V) (w : World) (lo hi : Nat), Lies w lo hi v → hi ≤ w.heap.size → v.abs.allB = true → v.abs.count ≤ 1000 → Calls Tryz.prog 43 #[v.val] w (Made 5 v.abs.stand w) := by
  refine V.ind fun k a b A c ps ih w lo hi hL hhi hall hlen => ?_
  obtain ⟨hcl, hcap', hkr, ha, hb⟩ := hL.caps
  rw [V.all_node, Bool.and_eq_true] at hall
  rw [V.count_node] at hlen
  have hk : 1 ≤ k ∧ k ≤ 7 := by
    have := hall.2
    unfold fitsB at this
    split at this; omega
    split at this; omega
    split at this; omega
    split at this; omega
    split at this; omega
    cases this
  obtain ⟨kn, rfl⟩ : ∃ kn : Nat, k = kn := ⟨k.toNat, by omega⟩
  have hlc : ps.length ≤ T.countL (V.absL ps) := by have := length_le_countL (V.absL ps); rwa [absL_length] at this
  obtain ⟨i0, hi0, hz0, hz1, hz2⟩ := info_parts Tryz.info5
  have HA : Hid (∀ (i : Nat) (p : V), ps[i]? = some p → p.abs.allB = true) := fun i p hp => by
    cases h : p.abs.allB with
    | true => rfl
    | false => rw [allL_bad hp h] at hall; cases hall.1
  have IH : Hid (∀ (i : Nat) (p : V), ps[i]? = some p → ∀ (W : World), Lies W lo hi p → hi ≤ W.heap.size → Calls Tryz.prog 43 #[.agg #[.int .i64 p.kind, .int .u64 (p.a : Int), .int .u64 (p.b : Int), .slice p.addr p.parts.length p.cap]] W (Made 5 p.abs.stand W)) :=
    fun i p hp W h1 h2 => ih p (List.mem_of_getElem? hp) W lo hi h1 h2 (HA.out i p hp) (by have := count_le hp; omega)
  have hbx := heap_alloc_new w (.cells #[.int .i64 (kn : Int), .int .u64 (a : Int), .int .u64 (b : Int), .slice A ps.length c] 30)
  have hb0 := below_new w (.cells #[.int .i64 (kn : Int), .int .u64 (a : Int), .int .u64 (b : Int), .slice A ps.length c] 30)
  have hs1 : (w.alloc (.cells #[.int .i64 (kn : Int), .int .u64 (a : Int), .int .u64 (b : Int), .slice A ps.length c] 30)).heap.size = w.heap.size + 1 := by simp
  have HL := Lib_hid hL
  have HS : Hid ((V.node kn a b A c ps).abs.stand = [kn] ++ (numsL kn a b).flatMap enc ++ (if 6 ≤ kn then enc ps.length else []) ++ T.standL (V.absL ps)) := by
    unfold Hid; rw [V.abs, T.stand, absL_length, Int.toNat_natCast, show (if (6 : Int) ≤ (kn : Int) then enc ps.length else []) = (if 6 ≤ kn then enc ps.length else []) by split <;> split <;> first | rfl | omega]; simp [List.append_assoc]
  clear ih hL hall
  simp only [V.val, V.kind, V.a, V.b, V.sl, V.addr, V.parts, V.cap]
  generalize (V.node kn a b A c ps).abs.stand = res at *
  have hkb : IntKind.u8.wrap (kn : Int) = (kn : Int) := by rw [IntKind.wrap_u8]; omega
  go_enter Tryz.func43, Tryz.ntmps43
  obtain ⟨w1, hw1⟩ : ∃ w1, w1 = w.alloc (.cells #[.int .i64 (kn : Int), .int .u64 (a : Int), .int .u64 (b : Int), .slice A ps.length c] 30) := ⟨_, rfl⟩
  rw [← hw1] at hbx hb0 hs1
  have c0 := cell_of_row w1 _ 0 _ _ _ hbx
  simp at c0
  subst hw1
  go_upto_region 1 with (fail)
  generalize w.alloc (.cells #[.int .i64 (kn : Int), .int .u64 (a : Int), .int .u64 (b : Int), .slice A ps.length c] 30) = w1 at *
  have ho1 := own_new1 w1 (kn : Int) kn rfl 5
  have hbl1 := below_new w1 (.cells #[.int .u8 (kn : Int)] 5)
  go_upto_region 2 with (fail)
  generalize w1.alloc (.cells #[.int .u8 (kn : Int)] 5) = w2 at *
  have hx2 := (hbl1.block w.heap.size (by omega)).trans hbx
  have c20 := cell_of_row w2 _ 0 _ _ _ hx2
  have c21 := cell_of_row w2 _ 1 _ _ _ hx2
  have c22 := cell_of_row w2 _ 2 _ _ _ hx2
  have c23 := cell_of_row w2 _ 3 _ _ _ hx2
  simp at c20 c21 c22 c23
  rw [hs1] at ho1 hbl1
  have HO1 := Lib_hid ho1
  have HBX := Lib_hid hbx
  clear hbx c0 ho1
  have hsz2 : w.heap.size + 2 ≤ w2.heap.size := by have := own_lt HO1.out (w.heap.size + 1) rfl; omega
  have hwr : IntKind.u64.wrap (ps.length : Int) = (ps.length : Int) := by rw [IntKind.wrap_u64]; omega
  have htena := enc_ten (v := a) (by omega)
  have htenb := enc_ten (v := b) (by omega)
  have htenn := enc_ten (v := ps.length) (by omega)
  have hm9 : 1000000 ≤ maxLen := by unfold maxLen; omega
  have HST : Hid (∀ (W W1 W2 : World) (v v' : Value), Below (w.heap.size + 1) w1 W → Below W.heap.size W W1 → (∀ k, v.ownBlock = some k → w.heap.size + 1 ≤ k) → Stp W1 W2 v v' → Below (w.heap.size + 1) w1 W2) := fun W W1 W2 v v' h1 h2 hv h3 =>
    (h1.trans (h2.mono (by have := h1.size; omega))).trans (h3.below (by have := h1.size; have := h2.size; omega) hv)
  have HBC : Hid (∀ W, Below (w.heap.size + 1) w1 W → W.cell? ⟨w.heap.size, 0, none⟩ = some (.int .i64 (kn : Int)) ∧ W.cell? ⟨w.heap.size, 1, none⟩ = some (.int .u64 (a : Int)) ∧ W.cell? ⟨w.heap.size, 2, none⟩ = some (.int .u64 (b : Int)) ∧ W.cell? ⟨w.heap.size, 3, none⟩ = some (.slice A ps.length c) ∧ w.heap.size + 1 ≤ W.heap.size) := fun W hW => by
    have hx := (hW.block w.heap.size (by omega)).trans HBX.out
    exact ⟨(cell_of_row W _ 0 _ _ _ hx).trans rfl, (cell_of_row W _ 1 _ _ _ hx).trans rfl, (cell_of_row W _ 2 _ _ _ hx).trans rfl, (cell_of_row W _ 3 _ _ _ hx).trans rfl, by have := hW.size; omega⟩
  have HB1 := Lib_hid hbl1
  have hE : w2 = w2 := rfl
  clear hx2 c21 c22 c23 hbl1
  go_cut [16] from 9 to 15 (fun v W => v = .bool (decide (2 ≤ kn ∧ kn ≤ 4)) ∧ W = w2)
  case first =>
    by_cases h2 : 2 ≤ kn
    · by_cases h4 : kn ≤ 4
      · go_wp2_with fail
        go_meet
        exact ⟨by simp [h2, h4]; omega, rfl⟩
      · go_wp2_with fail
        go_meet
        exact ⟨by simp [h4]; omega, rfl⟩
    · go_wp2_with fail
      go_meet
      exact ⟨by simp [h2], rfl⟩
  case rest =>
  obtain ⟨rfl, rfl⟩ := hcut
  clear c20 hE
  obtain ⟨A9, n9, c9, l9, hsl, hl9, hn9, ho9, hbl9⟩ : ∃ (A9 : Option Addr) (n9 c9 : Nat) (l : List Nat), Value.slice (some ⟨w.heap.size + 1, 0, none⟩) 1 1 = .slice A9 n9 c9 ∧ l = [kn] ∧ n9 = l.length ∧ wc.ownsRow (w.heap.size + 1) 5 1 (.slice A9 n9 c9) n9 (bs l) ∧ Below (w.heap.size + 1) w1 wc := ⟨_, _, _, [kn], rfl, rfl, rfl, HO1.out, HB1.out⟩
  rw [hsl]
  clear HO1 HB1 hsl hsz2
  have H9 := Lib_hid hl9
  have hq9 : n9 ≤ 1 := by rw [hn9, hl9]; exact Nat.le_refl _
  obtain ⟨b0, b1, b2, b3, bz⟩ := HBC.out wc hbl9
  clear hl9 hn9
  generalize hd : decide (2 ≤ kn ∧ kn ≤ 4) = d1 at *
  go_upto_if 16 with (fail)
  go_cut [3] from 16 to 21 (fun out W => ∃ (A9 : Option Addr) (n9 c9 : Nat) (l : List Nat), out = .slice A9 n9 c9 ∧ Hid (l = [kn] ++ (if 2 ≤ kn ∧ kn ≤ 4 then enc a else [])) ∧ n9 ≤ 11 ∧ W.ownsRow (w.heap.size + 1) 5 1 (.slice A9 n9 c9) n9 (bs l) ∧ Below (w.heap.size + 1) w1 W)
  case first =>
    by_cases hc : 2 ≤ kn ∧ kn ≤ 4
    · have hd1 : d1 = true := by rw [← hd]; exact decide_eq_true hc
      subst hd1
      have HC := Lib_hid hc
      clear hc
      go_wp2_with (first | (go_at_call 58; refine (rput_any 10 a _ htena (by omega) (by omega)).mono ?_; rintro e w7 ⟨A7, c7, rfl, ho7, hb7⟩) | (at_builtin; (refine wpList_app rfl _ _ 32 rfl (w.heap.size + 1) 5 i0 (.int .u8 0) 1 1 Tryz.underlying32 hi0 hz0 hz1 hz2 rfl (by decide) (.slice A9 n9 c9) n9 _ rfl (own_below ho9 hb7 (own_lt ho9)) w7.heap.size A7 (enc a).length c7 (bs (enc a)) rfl (Rd.own ho7) (bs_one _) (by omega) (by omega) (by have := hb7.size; omega) ?_); intro v8 w8 ho8 hs8; rw [← bs_append] at ho8; obtain ⟨A8, c8, rfl, _⟩ := own_form ho8))
      have hst := HST.out _ _ _ _ _ hbl9 hb7 (own_ge ho9) hs8
      go_meet
      exact ⟨A8, _, c8, l9 ++ enc a, rfl, Lib_hid (by rw [H9.out, if_pos HC.out]), by omega, ho8, hst⟩
    · have hd1 : d1 = false := by rw [← hd]; exact decide_eq_false hc
      subst hd1
      have HC := Lib_hid hc
      clear hc
      go_wp2_with fail
      go_meet
      exact ⟨A9, n9, c9, l9, rfl, Lib_hid (by rw [H9.out, if_neg HC.out, List.append_nil]), by omega, ho9, hbl9⟩
  case rest =>
  clear b0 b1 b2 b3 bz H9 hq9 ho9 hbl9
  obtain ⟨A9, n9, c9, l9, rfl, H9, hq9, ho9, hbl9⟩ := hcut
  obtain ⟨b0, b1, b2, b3, bz⟩ := HBC.out _ hbl9
  clear hd
  go_upto_if 24 with (fail)
  go_cut [3] from 24 to 29 (fun out W => ∃ (A9 : Option Addr) (n9 c9 : Nat) (l : List Nat), out = .slice A9 n9 c9 ∧ Hid (l = [kn] ++ (if 2 ≤ kn ∧ kn ≤ 4 then enc a else []) ++ (if kn = 4 then enc b else [])) ∧ n9 ≤ 21 ∧ W.ownsRow (w.heap.size + 1) 5 1 (.slice A9 n9 c9) n9 (bs l) ∧ Below (w.heap.size + 1) w1 W)
  case first =>
    by_cases hc : kn = 4
    · have hb4 : ((kn : Int) == 4) = true := by simp; omega
      have HC := Lib_hid hc
      clear hc
      go_wp2_with (first | (go_at_call 58; refine (rput_any 10 b _ htenb (by omega) (by omega)).mono ?_; rintro e w7 ⟨A7, c7, rfl, ho7, hb7⟩) | (at_builtin; (refine wpList_app rfl _ _ 32 rfl (w.heap.size + 1) 5 i0 (.int .u8 0) 1 1 Tryz.underlying32 hi0 hz0 hz1 hz2 rfl (by decide) (.slice A9 n9 c9) n9 _ rfl (own_below ho9 hb7 (own_lt ho9)) w7.heap.size A7 (enc b).length c7 (bs (enc b)) rfl (Rd.own ho7) (bs_one _) (by omega) (by omega) (by have := hb7.size; omega) ?_); intro v8 w8 ho8 hs8; rw [← bs_append] at ho8; obtain ⟨A8, c8, rfl, _⟩ := own_form ho8))
      have hst := HST.out _ _ _ _ _ hbl9 hb7 (own_ge ho9) hs8
      go_meet
      exact ⟨A8, _, c8, l9 ++ enc b, rfl, Lib_hid (by rw [H9.out, if_pos HC.out]), by omega, ho8, hst⟩
    · have hb4 : ((kn : Int) == 4) = false := by simp; omega
      have HC := Lib_hid hc
      clear hc
      go_wp2_with fail
      go_meet
      exact ⟨A9, n9, c9, l9, rfl, Lib_hid (by rw [H9.out, if_neg HC.out, List.append_nil]), by omega, ho9, hbl9⟩
  case rest =>
  clear b0 b1 b2 b3 bz H9 hq9 ho9 hbl9
  obtain ⟨A9, n9, c9, l9, rfl, H9, hq9, ho9, hbl9⟩ := hcut
  obtain ⟨b0, b1, b2, b3, bz⟩ := HBC.out _ hbl9
  go_upto_if 32 with (fail)
  go_cut [3] from 32 to 39 (fun out W => ∃ (A9 : Option Addr) (n9 c9 : Nat) (l : List Nat), out = .slice A9 n9 c9 ∧ Hid (l = [kn] ++ (if 2 ≤ kn ∧ kn ≤ 4 then enc a else []) ++ (if kn = 4 then enc b else []) ++ (if 6 ≤ kn then enc ps.length else [])) ∧ n9 ≤ 31 ∧ W.ownsRow (w.heap.size + 1) 5 1 (.slice A9 n9 c9) n9 (bs l) ∧ Below (w.heap.size + 1) w1 W)
  case first =>
    by_cases hc : 6 ≤ kn
    · have hb4 : (6 : Int) ≤ (kn : Int) := by omega
      have HC := Lib_hid hc
      clear hc
      go_wp2_with (first | (go_at_call 58; refine (rput_any 10 ps.length _ htenn (by omega) (by omega)).mono ?_; rintro e w7 ⟨A7, c7, rfl, ho7, hb7⟩) | (at_builtin; (refine wpList_app rfl _ _ 32 rfl (w.heap.size + 1) 5 i0 (.int .u8 0) 1 1 Tryz.underlying32 hi0 hz0 hz1 hz2 rfl (by decide) (.slice A9 n9 c9) n9 _ rfl (own_below ho9 hb7 (own_lt ho9)) w7.heap.size A7 (enc ps.length).length c7 (bs (enc ps.length)) rfl (Rd.own ho7) (bs_one _) (by omega) (by omega) (by have := hb7.size; omega) ?_); intro v8 w8 ho8 hs8; rw [← bs_append] at ho8; obtain ⟨A8, c8, rfl, _⟩ := own_form ho8))
      have hst := HST.out _ _ _ _ _ hbl9 hb7 (own_ge ho9) hs8
      go_meet
      exact ⟨A8, _, c8, l9 ++ enc ps.length, rfl, Lib_hid (by rw [H9.out, if_pos HC.out]), by omega, ho8, hst⟩
    · have hb4 : ¬ (6 : Int) ≤ (kn : Int) := by omega
      have hb5 : (kn : Int) < 6 := by omega
      have HC := Lib_hid hc
      clear hc
      go_wp2_with fail
      go_meet
      exact ⟨A9, n9, c9, l9, rfl, Lib_hid (by rw [H9.out, if_neg HC.out, List.append_nil]), by omega, ho9, hbl9⟩
  case rest =>
  clear b0 b1 b2 b3 bz H9 hq9 ho9 hbl9
  obtain ⟨A9, n9, c9, l9, rfl, H9, hq9, ho9, hbl9⟩ := hcut
  obtain ⟨b0, b1, b2, b3, bz⟩ := HBC.out _ hbl9
  have HPRE : Hid (res = l9 ++ T.standL (V.absL ps)) := by
    unfold Hid
    rw [HS.out, H9.out]
    have hk7 : kn = 1 ∨ kn = 2 ∨ kn = 3 ∨ kn = 4 ∨ kn = 5 ∨ kn = 6 ∨ kn = 7 := by omega
    rcases hk7 with rfl | rfl | rfl | rfl | rfl | rfl | rfl <;> simp [numsL, numN]
  have HPB : Hid (∀ i, i ≤ ps.length → (T.standL (V.absL (ps.take i))).length ≤ 31 * T.countL (V.absL (ps.take i))) := by
    intro i
    induction i with
    | zero => intro _; simp [V.absL, T.standL]
    | succ i ih =>
      intro hi
      obtain ⟨p, hp⟩ : ∃ p, ps[i]? = some p := ⟨_, List.getElem?_eq_getElem (by omega)⟩
      rw [standL_take hp, countL_take hp, List.length_append]
      have h1 := ih (by omega)
      have h2 := stand_len p (HL.out.part (List.mem_of_getElem? hp))
      omega
  have HO9 := Lib_hid ho9
  have HBB := Lib_hid hbl9
  have hnl : n9 = l9.length := by have := ho9.1; rw [bs_length] at this; omega
  clear H9 HS ho9 hbl9 b0 b1 b2 b3 bz
  go_wp2
  go_loopw [3, 4] (fun bv z W => ∃ (i n' : Nat) (A'' : Option Addr) (c'' : Nat), z = .int .i64 i ∧ bv = .slice A'' n' c'' ∧ i ≤ ps.length ∧ Hid (W.ownsRow (w.heap.size + 1) 5 1 (.slice A'' n' c'') n' (bs (l9 ++ T.standL (V.absL (ps.take i))))) ∧ Hid (Below (w.heap.size + 1) w1 W)) (fun _ z _ => ps.length - (intOf z).toNat)
  case atStart => exact ⟨0, n9, A9, c9, rfl, rfl, Nat.zero_le _, by simpa [V.absL, T.standL] using HO9, HBB⟩
  case round =>
    obtain ⟨i, n', A'', c'', rfl, rfl, hi1, ho, hbw⟩ := hrel
    rename World => W
    obtain ⟨-, -, -, b3, bz⟩ := HBC.out _ hbw.out
    by_cases hlt : i < ps.length
    · have hw1w : Below w.heap.size w W := hb0.trans (hbw.out.mono (by omega))
      obtain ⟨bb, off, p, rfl, hbb, hlb, hp, hLp, d0, d1, d2, d3⟩ := (HL.out.under (hw1w.mono hhi)).nth hlt
      have CH := IH.out i p hp W hLp (by omega)
      have hnl2 : n' = l9.length + (T.standL (V.absL (ps.take i))).length := by have := ho.out.1; rw [bs_length, List.length_append] at this; omega
      have hpb := HPB.out i (by omega)
      have hpl := stand_len p hLp
      have hcl2 := count_le hp
      have hp1 : n' + p.abs.stand.length ≤ maxLen := by omega
      have hp2 : (n' + p.abs.stand.length) * 1 ≤ 140737488355328 := by omega
      clear hnl2
      have HPP := Lib_hid hp
      have hps : p.sl = .slice p.addr p.parts.length p.cap := rfl
      rw [hps] at d3
      clear hLp hp hps hw1w
      generalize p.addr = pA at *
      generalize p.cap = pc at *
      generalize p.parts.length = pl at *
      go_wp2_with (first | (go_at_call 43; refine CH.mono ?_; rintro e w7 ⟨A7, c7, rfl, ho7, hb7⟩) | (at_builtin; (refine wpList_app rfl _ _ 32 rfl (w.heap.size + 1) 5 i0 (.int .u8 0) 1 1 Tryz.underlying32 hi0 hz0 hz1 hz2 rfl (by decide) (.slice A'' n' c'') n' _ rfl (own_below ho.out hb7 (own_lt ho.out)) w7.heap.size A7 p.abs.stand.length c7 (bs p.abs.stand) rfl (Rd.own ho7) (bs_one _) hp1 hp2 (by have := hb7.size; omega) ?_); intro v8 w8 ho8 hs8; rw [← bs_append] at ho8; obtain ⟨A8, c8, rfl, _⟩ := own_form ho8))
      have HB8 := Lib_hid (HST.out _ _ _ _ _ hbw.out hb7 (own_ge ho.out) hs8)
      rw [List.append_assoc, ← standL_take HPP.out] at ho8
      have HO8 := Lib_hid ho8
      clear ho8 hs8 hb7 ho7 CH d0 d1 d2 d3
      go_wp2
      go_roundw
      case rel => exact ⟨i + 1, _, A8, c8, by go_num, rfl, by omega, HO8, HB8⟩
      case measure => simp [intOf]; omega
    · obtain rfl : i = ps.length := by omega
      have HF : Hid (Made 5 res w (.returned (.slice A'' n' c'')) W) := by
        have h1 := ho.out
        rw [List.take_length, ← HPRE.out] at h1
        exact made_iff.2 ⟨A'', n', c'', rfl, own_base h1 fun k hk => by have := own_ge h1 k hk; omega, hb0.trans (hbw.out.mono (by omega))⟩
      go_wp2
      go_ret
      exact HF.out

end Go.Proofs.YtiijdacnfhiagaaGreatDoor

namespace Go.Proofs.YtiijdacnfhiagaaGreatDoor
open Go Go.RowKit
set_option linter.unusedVariables false

/-- What a tree stands as: nothing, if it is not right. -/
def T.put (t : T) : List Nat := if t.rightB then t.stand else []
theorem right_all {t : T} (h : t.rightB = true) : t.allB = true ∧ t.count ≤ 32 := by
  unfold T.rightB at h
  simp only [Bool.and_eq_true, decide_eq_true_eq] at h
  exact ⟨h.1.1, h.2⟩

theorem pput_any (v : V) (w : World) (lo hi : Nat) (hL : Lies w lo hi v) (hhi : hi ≤ w.heap.size) :
    Calls Tryz.prog 11 #[v.val] w (Made 5 v.abs.put w) := by
  have hbx := heap_alloc_new w (.cells #[.int .i64 v.kind, .int .u64 (v.a : Int), .int .u64 (v.b : Int), v.sl] 25)
  have hb0 := below_new w (.cells #[.int .i64 v.kind, .int .u64 (v.a : Int), .int .u64 (v.b : Int), v.sl] 25)
  have hhi1 : hi ≤ (w.alloc (.cells #[.int .i64 v.kind, .int .u64 (v.a : Int), .int .u64 (v.b : Int), v.sl] 25)).heap.size := by have := hb0.size; omega
  have RR := pright_any v _ lo hi (hL.under (hb0.mono hhi)) hhi1
  have hPut : Hid (v.abs.put = if v.abs.rightB then v.abs.stand else []) := rfl
  have SS : Hid (∀ W, Below w.heap.size w W → v.abs.rightB = true → Calls Tryz.prog 41 #[.slice none 0 0, v.val] W (Grew 5 W.heap.size (.slice none 0 0) (bs v.abs.stand) W)) := fun W hW hr => by
    have := tstand_any v W lo hi W.heap.size none 0 0 [] (hL.under (hW.mono hhi)) (by have := hW.size; omega) (Nat.le_refl _) (right_all hr).1 (own_none _ _ _) (by intro g hg; cases hg) (by have := (right_all hr).2; simp; omega)
    simpa using this
  have e0 := cell_of_row (w.alloc (.cells #[.int .i64 v.kind, .int .u64 (v.a : Int), .int .u64 (v.b : Int), v.sl] 25)) _ 0 _ _ _ hbx
  simp only [V.val, V.sl] at RR SS hbx hb0 ⊢
  generalize v.abs.put = res at *
  generalize v.abs.stand = st at *
  generalize v.abs.rightB = r at *
  generalize v.kind = x0 at *
  generalize (v.a : Int) = x1 at *
  generalize (v.b : Int) = x2 at *
  generalize v.addr = pA at *
  generalize v.parts.length = pn at *
  generalize v.cap = pc at *
  clear e0 hL hhi1
  go_enter Tryz.func11, Tryz.ntmps11
  go_wp2_with fail
  refine RR.mono ?_
  rintro e w1 ⟨rfl, hb1⟩
  have hbw := hb0.trans (hb1.mono hb0.size)
  have hx1 := (hb1.block w.heap.size (by simp)).trans hbx
  have c0 := cell_of_row w1 _ 0 _ _ _ hx1
  have c1 := cell_of_row w1 _ 1 _ _ _ hx1
  have c2 := cell_of_row w1 _ 2 _ _ _ hx1
  have c3 := cell_of_row w1 _ 3 _ _ _ hx1
  simp at c0 c1 c2 c3
  clear hbx hb0 hb1 hx1 RR
  cases r with
  | true =>
    have CS := SS.out w1 hbw rfl
    have HP : Hid (res = st) := hPut.out.trans (if_pos rfl)
    clear hPut
    go_wp2_with fail
    refine CS.mono ?_
    rintro e w2 ⟨A2, n2, c2', rfl, ho2, hs2⟩
    have HF : Hid (Made 5 res w (.returned (.slice A2 n2 c2')) w2) := by
      rw [HP.out]
      exact made_iff.2 ⟨A2, n2, c2', rfl, own_base ho2 fun k hk => by have := own_ge ho2 k hk; have := hbw.size; omega, hbw.trans (hs2.below hbw.size fun k hk => by cases hk)⟩
    clear CS ho2 hs2
    go_wp2
    go_ret
    exact HF.out
  | false =>
    have HF : Hid (Made 5 res w (.returned (.slice none 0 0)) w1) := by
      rw [hPut.out, if_neg (by simp)]
      exact made_iff.2 ⟨none, 0, 0, rfl, own_none _ _ _, hbw⟩
    clear hPut
    go_wp2
    go_ret
    exact HF.out

theorem rput4_any (v : V) (w : World) (lo hi : Nat) (hL : Lies w lo hi v) (hhi : hi ≤ w.heap.size) (hct : v.abs.count ≤ 1000) :
    Calls Tryz.prog 15 #[v.val] w (Made 5 v.abs.put w) := by
  have hbx := heap_alloc_new w (.cells #[.int .i64 v.kind, .int .u64 (v.a : Int), .int .u64 (v.b : Int), v.sl] 30)
  have hb0 := below_new w (.cells #[.int .i64 v.kind, .int .u64 (v.a : Int), .int .u64 (v.b : Int), v.sl] 30)
  have hhi1 : hi ≤ (w.alloc (.cells #[.int .i64 v.kind, .int .u64 (v.a : Int), .int .u64 (v.b : Int), v.sl] 30)).heap.size := by have := hb0.size; omega
  have RR := rright_any v _ lo hi (hL.under (hb0.mono hhi)) hhi1 hct
  have hPut : Hid (v.abs.put = if v.abs.rightB then v.abs.stand else []) := rfl
  have SS : Hid (∀ W, Below w.heap.size w W → v.abs.rightB = true → Calls Tryz.prog 43 #[v.val] W (Made 5 v.abs.stand W)) := fun W hW hr =>
    trstands_any v W lo hi (hL.under (hW.mono hhi)) (by have := hW.size; omega) (right_all hr).1 hct
  simp only [V.val, V.sl] at RR SS hbx hb0 ⊢
  generalize v.abs.put = res at *
  generalize v.abs.stand = st at *
  generalize v.abs.rightB = r at *
  generalize v.kind = x0 at *
  generalize (v.a : Int) = x1 at *
  generalize (v.b : Int) = x2 at *
  generalize v.addr = pA at *
  generalize v.parts.length = pn at *
  generalize v.cap = pc at *
  clear hL hhi1 hct
  go_enter Tryz.func15, Tryz.ntmps15
  go_wp2_with fail
  refine RR.mono ?_
  rintro e w1 ⟨rfl, hb1⟩
  have hbw := hb0.trans (hb1.mono hb0.size)
  have hx1 := (hb1.block w.heap.size (by simp)).trans hbx
  have c0 := cell_of_row w1 _ 0 _ _ _ hx1
  have c1 := cell_of_row w1 _ 1 _ _ _ hx1
  have c2 := cell_of_row w1 _ 2 _ _ _ hx1
  have c3 := cell_of_row w1 _ 3 _ _ _ hx1
  simp at c0 c1 c2 c3
  clear hbx hb0 hb1 hx1 RR
  cases r with
  | true =>
    have CS := SS.out w1 hbw rfl
    have HP : Hid (res = st) := hPut.out.trans (if_pos rfl)
    clear hPut
    go_wp2_with fail
    refine CS.mono ?_
    rintro e w2 hm
    obtain ⟨A2, n2, c2', rfl, ho2, hs2⟩ := made_iff.1 hm
    have HF : Hid (Made 5 res w (.returned (.slice A2 n2 c2')) w2) := by
      rw [HP.out]
      exact made_iff.2 ⟨A2, n2, c2', rfl, own_base ho2 fun k hk => by have := own_ge ho2 k hk; have := hbw.size; omega, hbw.trans (hs2.mono hbw.size)⟩
    clear CS ho2 hs2 hm
    go_wp2
    go_ret
    exact HF.out
  | false =>
    have HF : Hid (Made 5 res w (.returned (.slice none 0 0)) w1) := by
      rw [hPut.out, if_neg (by simp)]
      exact made_iff.2 ⟨none, 0, 0, rfl, own_none _ _ _, hbw⟩
    clear hPut
    go_wp2
    go_ret
    exact HF.out

end Go.Proofs.YtiijdacnfhiagaaGreatDoor

namespace Go.Proofs.YtiijdacnfhiagaaGreatDoor
open Go Go.RowKit
set_option linter.unusedVariables false

theorem Tryz.infoS : (Tryz.prog.info? 9).map (fun i => (i.zero, i.size, i.bytes)) = some (some (.string ⟨#[]⟩), 1, 16) := by kernel_rfl
theorem bcat (x y : List UInt8) : (⟨x.toArray⟩ : ByteArray) ++ ⟨y.toArray⟩ = ⟨(x ++ y).toArray⟩ := by
  apply ByteArray.ext
  simp
def T.text (t : T) : List UInt8 := if t.rightB then t.tell else []

set_option maxRecDepth 100000 in
set_option maxHeartbeats 3200000 in
theorem ptell_any : ∀ (v : V) (w : World) (lo hi B : Nat), Lies w lo hi v → hi ≤ w.heap.size → v.abs.allB = true → v.abs.count ≤ 1000 → Env B w → B ≤ w.heap.size →
    Calls Tryz.prog 48 #[v.val] w fun e w' => e = .returned (.string ⟨v.abs.tell.toArray⟩) ∧ Below w.heap.size w w' := by
  refine V.ind fun k a b A c ps ih w lo hi B hL hhi hall hct hE hB => ?_
  obtain ⟨hcl, hcap', hkr, ha, hb⟩ := hL.caps
  rw [V.all_node, Bool.and_eq_true] at hall
  have hk : 1 ≤ k ∧ k ≤ 7 := by
    have := hall.2
    unfold fitsB at this
    split at this; omega
    split at this; omega
    split at this; omega
    split at this; omega
    split at this; omega
    cases this
  obtain ⟨kn, rfl⟩ : ∃ kn : Nat, k = kn := ⟨k.toNat, by omega⟩
  have hlc : ps.length ≤ 1000 := by rw [V.count_node] at hct; have := length_le_countL (V.absL ps); rw [absL_length] at this; omega
  obtain ⟨i0, hi0, hz0, hz1, hz2⟩ := info_parts Tryz.infoS
  have HA : Hid (∀ (i : Nat) (p : V), ps[i]? = some p → p.abs.allB = true) := fun i p hp => by
    cases h : p.abs.allB with
    | true => rfl
    | false => rw [allL_bad hp h] at hall; cases hall.1
  have IH : Hid (∀ (i : Nat) (p : V), ps[i]? = some p → ∀ W, Below w.heap.size w W → Calls Tryz.prog 48 #[.agg #[.int .i64 p.kind, .int .u64 (p.a : Int), .int .u64 (p.b : Int), .slice p.addr p.parts.length p.cap]] W fun e w' => e = .returned (.string ⟨p.abs.tell.toArray⟩) ∧ Below W.heap.size W w') := fun i p hp W hW =>
    ih p (List.mem_of_getElem? hp) W lo hi B ((hL.part (List.mem_of_getElem? hp)).under (hW.mono hhi)) (by have := hW.size; omega) (HA.out i p hp) (hL.small hct hp).1 (hE.under hW hB) (by have := hW.size; omega)
  have HEn : Hid (∀ W, Below w.heap.size w W → Env B W) := fun W hW => hE.under hW hB
  rw [V.count_node] at hct
  have hbx := heap_alloc_new w (.cells #[.int .i64 (kn : Int), .int .u64 (a : Int), .int .u64 (b : Int), .slice A ps.length c] 25)
  have hb0 := below_new w (.cells #[.int .i64 (kn : Int), .int .u64 (a : Int), .int .u64 (b : Int), .slice A ps.length c] 25)
  have KD := kindof_any kn (w.alloc (.cells #[.int .i64 (kn : Int), .int .u64 (a : Int), .int .u64 (b : Int), .slice A ps.length c] 25))
  have hcn := call_num hk
  have NA := Lib_hid (fun g wx => nums_any kn hk g wx)
  have HK := Lib_hid hk
  have HL : Hid (∀ W, Below w.heap.size w W → Lies W lo hi (.node kn a b A c ps)) := fun W hW => hL.under (hW.mono hhi)
  have HTL : Hid (∀ sep : List UInt8, sep.length ≤ 1 → (Lib.join (T.tellL (V.absL ps)) sep).length ≤ 50000) := fun sep hs => by have := tells_len hL hs; omega
  have HNJ := Lib_hid (tellN_len kn ha hb)
  have hlN := nums_len kn a b
  have hinN := nums_in (k := kn) ha hb
  have hN2 := numN_le kn
  have HS : Hid ((V.node kn a b A c ps).abs.tell = wordL kn ++ Lib.join ((numsL kn a b).map Lib.decDigits) [61] ++ (if 6 ≤ kn then [40] ++ Lib.join (T.tellL (V.absL ps)) [44] ++ [41] else Lib.join (T.tellL (V.absL ps)) [])) := by
    unfold Hid
    rw [V.abs, T.tell, Int.toNat_natCast]
    congr 1
    split <;> split <;> first | rfl | omega
  have HPN : Hid (partN kn = 2 ↔ 6 ≤ kn) := by
    unfold partN Hid
    split
    · omega
    · split <;> omega
  have HW3 := Lib_hid (wordL_len kn)
  rw [kindAt_eq hk, show isKind kn = true by unfold isKind; simp; omega, show wordA kn = (wordL kn).toArray by unfold wordL; simp] at KD
  have HCN : Hid (∀ (j x : Nat), (numsL kn a b)[j]? = some x → ∀ W : World, W.heap[w.heap.size]? = some (.cells #[.int .i64 (kn : Int), .int .u64 (a : Int), .int .u64 (b : Int), .slice A ps.length c] 25 (0, 0)) → W.cell? ⟨w.heap.size, j + 1, none⟩ = some (.int .u64 (x : Int)) ∧ x < 18446744073709551616) := by
    intro j x hx W hW
    refine ⟨?_, hinN x (List.mem_of_getElem? hx)⟩
    unfold numsL at hx
    rw [List.getElem?_take] at hx
    split at hx
    · match j, hx with
      | 0, hx => simp at hx; subst hx; exact (cell_of_row W _ 1 _ _ _ hW).trans rfl
      | 1, hx => simp at hx; subst hx; exact (cell_of_row W _ 2 _ _ _ hW).trans rfl
    · cases hx
  clear ih hL hall hE hct hinN
  simp only [V.val, V.kind, V.a, V.b, V.sl, V.addr, V.parts, V.cap]
  generalize (V.node kn a b A c ps).abs.tell = res at *
  generalize hPN : partN kn = pn at *
  generalize wordL kn = wd at *
  generalize numF kn = f1 at *
  generalize fitF kn = f2 at *
  generalize askF kn = f3 at *
  generalize hnn : numsL kn a b = nums at *
  generalize hNN : numN kn = N at *
  have HNL := Lib_hid hlN
  clear hlN hPN hnn
  go_enter Tryz.func48, Tryz.ntmps48
  go_wp2_with fail
  refine KD.mono ?_
  rintro e w1 ⟨rfl, hb1⟩
  have hbw1 := hb0.trans (hb1.mono hb0.size)
  have hx1 := (hb1.block w.heap.size (by simp)).trans hbx
  have hsz1 : w.heap.size < w1.heap.size := by have := hb1.size; simp at this; omega
  have hb2 := hbw1.alloc hbw1.size (.cells #[.string ⟨wd.toArray⟩, .int .i64 (pn : Nat), .func (.func f1) #[] #[], .func (.func f2) #[] #[], .func (.func f3) #[] #[]] 87)
  have hx2 := (heap_alloc_old w1 (.cells #[.string ⟨wd.toArray⟩, .int .i64 (pn : Nat), .func (.func f1) #[] #[], .func (.func f2) #[] #[], .func (.func f3) #[] #[]] 87) hsz1).trans hx1
  have hk2 := heap_alloc_new w1 (.cells #[.string ⟨wd.toArray⟩, .int .i64 (pn : Nat), .func (.func f1) #[] #[], .func (.func f2) #[] #[], .func (.func f3) #[] #[]] 87)
  clear KD hb0 hb1 hbx hbw1 hx1
  go_upto_region 2 with (fail)
  generalize w1.alloc (.cells #[.string ⟨wd.toArray⟩, .int .i64 (pn : Nat), .func (.func f1) #[] #[], .func (.func f2) #[] #[], .func (.func f3) #[] #[]] 87) = w2 at *
  have d2 := cell_of_row w2 _ 2 _ _ _ hk2
  simp at d2
  have hk1l : w1.heap.size < w2.heap.size := (Array.getElem?_eq_some_iff.1 hk2).1
  go_wp2_with fail
  refine (NA.out w.heap.size w2).mono ?_
  rintro e w3 ⟨AN, rfl, hb3, hptr⟩
  have hbw3 := hb2.trans (hb3.mono hb2.size)
  have hx3 := (hb3.block _ (by omega)).trans hx2
  have hk3 := (hb3.block _ (by omega)).trans hk2
  have hs3 := hb3.size
  have HP := Lib_hid hptr
  have HQ3 := Lib_hid (And.intro hx3 (And.intro hk3 hbw3))
  clear hb3 hptr hx2 hk2 hx3 hk3 hb2 d2 hbw3 hNN
  go_wp2
  go_loopw [5, 22] (fun v z W => ∃ (j : Nat) (A' : Option Addr) (c' : Nat), z = .int .i64 j ∧ v = .slice A' j c' ∧ j ≤ N ∧ Hid (W.ownsRow w3.heap.size 9 1 (.slice A' j c') j (strs ((nums.take j).map Lib.decDigits))) ∧ Hid (Below w3.heap.size w3 W)) (fun _ z _ => N - (intOf z).toNat)
  case atStart => exact ⟨0, none, 0, rfl, rfl, Nat.zero_le _, Lib_hid (by simpa [strs] using own_none _ _ _), Lib_hid (Below.refl _ _)⟩
  case round =>
    obtain ⟨j, A', c', rfl, rfl, hj, hI, hbW⟩ := hrel
    rename World => W
    have hsW := hbW.out.size
    have hbwW : Hid (Below w.heap.size w W) := HQ3.out.2.2.trans (hbW.out.mono HQ3.out.2.2.size)
    have hxW := (hbW.out.block w.heap.size (by omega)).trans HQ3.out.1
    by_cases hlt : j < N
    · obtain ⟨x, hx⟩ : ∃ x, nums[j]? = some x := ⟨_, List.getElem?_eq_getElem (by rw [HNL.out]; exact hlt)⟩
      obtain ⟨pb, rfl, hp1, hp2, hp3⟩ := HP.out j hlt
      obtain ⟨d1, hx64⟩ := HCN.out j x hx W hxW
      have d0 := (World.cell?_of_block (a := ⟨pb, j, none⟩) (hbW.out.block pb hp2)).trans hp3
      have FM := fmt_any B x hx64 W (HEn.out W hbwW.out)
      have hm1 : j + 1 ≤ maxLen := by unfold maxLen; omega
      have hm2 : (j + 1) * 16 ≤ 140737488355328 := by omega
      have HXJ := Lib_hid hx
      have h64 := Lib_hid hx64
      clear hp3 hx hxW hx64
      generalize hdd : Lib.decDigits x = dd at *
      have HDD := Lib_hid hdd
      clear hdd
      go_wp2_with (first | (go_at_call 61; refine FM.mono ?_; rintro e w7 ⟨rfl, hb7⟩) | (at_builtin; (refine wpList_app rfl _ _ 68 rfl w3.heap.size 9 i0 (.string ⟨#[]⟩) 1 16 Tryz.underlying68 hi0 hz0 hz1 hz2 rfl (by decide) (.slice A' j c') j _ rfl (own_below (own_below hI.out hb7 (own_lt hI.out)) (below_new w7 _) (own_lt (own_below hI.out hb7 (own_lt hI.out)))) (w7.heap.size + 1) (some ⟨w7.heap.size, 0, none⟩) 1 1 (strs [dd]) rfl (new_str w7 _ _) (strs_one _) hm1 hm2 (by have := hb7.size; simp; omega) ?_); intro v8 w8 ho8 hs8; rw [← strs_append] at ho8; obtain ⟨A8, c8, rfl, _⟩ := own_form ho8))
      have hI8 : Hid (w8.ownsRow w3.heap.size 9 1 (.slice A8 (j + 1) c8) (j + 1) (strs ((nums.take (j + 1)).map Lib.decDigits))) := by
        rw [take_one HXJ.out, List.map_append, List.map_cons, List.map_nil, HDD.out]
        exact ho8
      have hb8 : Hid (Below w3.heap.size w3 w8) := by
        have h1 := (hbW.out.trans (hb7.mono hsW)).trans ((below_new w7 (.cells #[.string ⟨dd.toArray⟩] 9)).mono (by have := hb7.size; omega))
        exact h1.trans (hs8.below (by have := h1.size; omega) fun k hk => own_ge hI.out k hk)
      clear ho8 hs8 hb7 d0 d1 FM hI hbW
      go_wp2
      go_roundw
      case rel => exact ⟨j + 1, A8, c8, by go_num, rfl, by omega, hI8, hb8⟩
      case measure => simp [intOf]; omega
    · obtain rfl : j = N := by omega
      rw [show nums.take j = nums from List.take_of_length_le (by rw [HNL.out]; exact Nat.le_refl _)] at hI
      have x3 := cell_of_row W _ 3 _ _ _ hxW
      simp at x3
      have HXW := Lib_hid hxW
      clear hxW hlt
      have hkW : Hid (W.heap[w1.heap.size]? = some (.cells #[.string ⟨wd.toArray⟩, .int .i64 (pn : Nat), .func (.func f1) #[] #[], .func (.func f2) #[] #[], .func (.func f3) #[] #[]] 87 (0, 0))) := (hbW.out.block _ (by omega)).trans HQ3.out.2.1
      go_wp2
      go_loopw [6, 37] (fun v z W2 => ∃ (i : Nat) (A2 : Option Addr) (c2 : Nat), z = .int .i64 i ∧ v = .slice A2 i c2 ∧ i ≤ ps.length ∧ Hid (W2.ownsRow W.heap.size 9 1 (.slice A2 i c2) i (strs (T.tellL (V.absL (ps.take i))))) ∧ Hid (Below W.heap.size W W2)) (fun _ z _ => ps.length - (intOf z).toNat)
      case atStart => exact ⟨0, none, 0, rfl, rfl, Nat.zero_le _, Lib_hid (by simpa [strs, V.absL, T.tellL] using own_none _ _ _), Lib_hid (Below.refl _ _)⟩
      case round =>
        clear x3
        obtain ⟨i, A2, c2, rfl, rfl, hi1, hI2, hbW2⟩ := hrel
        rename World => W2
        have hsW2 := hbW2.out.size
        have hbw2 : Hid (Below w.heap.size w W2) := hbwW.out.trans (hbW2.out.mono hbwW.out.size)
        by_cases hlt : i < ps.length
        · obtain ⟨bb, off, p, rfl, hbb, hlb, hp, hLp, d0, d1, d2, d3⟩ := (HL.out W2 hbw2.out).nth hlt
          have hbal := below_new W2 (.cells #[.int .i64 p.kind, .int .u64 (p.a : Int), .int .u64 (p.b : Int), .slice p.addr p.parts.length p.cap] 25)
          have CH := IH.out i p hp _ (hbw2.out.trans (hbal.mono hbw2.out.size))
          have hm1 : i + 1 ≤ maxLen := by unfold maxLen; omega
          have hm2 : (i + 1) * 16 ≤ 140737488355328 := by omega
          have HPP := Lib_hid hp
          have hps : p.sl = .slice p.addr p.parts.length p.cap := rfl
          rw [hps] at d3
          have HBA := Lib_hid hbal
          clear hLp hp hps hbal
          generalize hdd : p.abs.tell = dd at *
          have HDD := Lib_hid hdd
          clear hdd
          generalize p.addr = pA at *
          generalize p.cap = pc at *
          generalize p.parts.length = pl at *
          generalize p.kind = pk at *
          generalize (p.a : Int) = pa at *
          generalize (p.b : Int) = pb2 at *
          go_wp2_with (first | (go_at_call 48; refine CH.mono ?_; rintro e w7 ⟨rfl, hb7⟩; have hb27 := HBA.out.trans (hb7.mono (by have := HBA.out.size; omega))) | (at_builtin; (refine wpList_app rfl _ _ 68 rfl W.heap.size 9 i0 (.string ⟨#[]⟩) 1 16 Tryz.underlying68 hi0 hz0 hz1 hz2 rfl (by decide) (.slice A2 i c2) i _ rfl (own_below (own_below hI2.out hb27 (own_lt hI2.out)) (below_new w7 _) (own_lt (own_below hI2.out hb27 (own_lt hI2.out)))) (w7.heap.size + 1) (some ⟨w7.heap.size, 0, none⟩) 1 1 (strs [dd]) rfl (new_str w7 _ _) (strs_one _) hm1 hm2 (by have := hb27.size; simp; omega) ?_); intro v8 w8 ho8 hs8; rw [← strs_append] at ho8; obtain ⟨A8, c8, rfl, _⟩ := own_form ho8))
          have hI8 : Hid (w8.ownsRow W.heap.size 9 1 (.slice A8 (i + 1) c8) (i + 1) (strs (T.tellL (V.absL (ps.take (i + 1)))))) := by
            rw [tellL_take HPP.out, HDD.out]
            exact ho8
          have hb8 : Hid (Below W.heap.size W w8) := by
            have h1 := (hbW2.out.trans (hb27.mono hsW2)).trans ((below_new w7 (.cells #[.string ⟨dd.toArray⟩] 9)).mono (by have := hb27.size; omega))
            exact h1.trans (hs8.below (by have := h1.size; omega) fun k hk => own_ge hI2.out k hk)
          clear ho8 hs8 hb7 hb27 d0 d1 d2 d3 CH hI2 hbW2
          go_wp2
          go_roundw
          case rel => exact ⟨i + 1, A8, c8, by go_num, rfl, by omega, hI8, hb8⟩
          case measure => simp [intOf]; omega
        · obtain rfl : i = ps.length := by omega
          rw [List.take_length] at hI2
          have JN : Hid (∀ W', Below W2.heap.size W2 W' → Calls Tryz.prog 62 #[.slice A' j c', .string ⟨#[61]⟩] W' fun e w' => e = .returned (.string ⟨(Lib.join (nums.map Lib.decDigits) [61]).toArray⟩) ∧ Below W'.heap.size W' w') := fun W' hW' =>
            join_any w3.heap.size j c' _ A' _ [61] W' (own_below (own_below hI.out hbW2.out (own_lt hI.out)) hW' (own_lt (own_below hI.out hbW2.out (own_lt hI.out)))) (by omega) (by have := HNJ.out; omega)
          have JP : Hid (∀ (sep : List UInt8) (W' : World), sep.length ≤ 1 → Below W2.heap.size W2 W' → Calls Tryz.prog 62 #[.slice A2 ps.length c2, .string ⟨sep.toArray⟩] W' fun e w' => e = .returned (.string ⟨(Lib.join (T.tellL (V.absL ps)) sep).toArray⟩) ∧ Below W'.heap.size W' w') := fun sep W' hs hW' =>
            join_any W.heap.size ps.length c2 _ A2 _ sep W' (own_below hI2.out hW' (own_lt hI2.out)) (by omega) (by have := HTL.out sep hs; omega)
          have S0 : Hid (∀ W' : World, Below W2.heap.size W2 W' → W'.cell? ⟨w1.heap.size, 0, none⟩ = some (.string ⟨wd.toArray⟩) ∧ W'.cell? ⟨w1.heap.size, 1, none⟩ = some (.int .i64 (pn : Nat))) := fun W' hW' => by
            have h1 := (hW'.block w1.heap.size (by omega)).trans ((hbW2.out.block w1.heap.size (by omega)).trans hkW.out)
            exact ⟨(cell_of_row W' _ 0 _ _ _ h1).trans rfl, (cell_of_row W' _ 1 _ _ _ h1).trans rfl⟩
          have h6c : Hid (pn = 2 ↔ 6 ≤ kn) := HPN
          have hnl := HNJ.out
          have hwl := HW3.out
          have hpl1 := HTL.out [44] (by decide)
          have hpl0 := HTL.out [] (by decide)
          have hz1 : ¬ 9223372036854775807 < wd.length + (Lib.join (nums.map Lib.decDigits) [61]).length := by omega
          have HRES := HS
          clear hI hI2 hlt HTL HL IH HCN HP
          generalize Lib.join (nums.map Lib.decDigits) [61] = nj at *
          go_wp2_with fail
          go_region_held3 (fun W => W.cell? ⟨w1.heap.size, 0, none⟩ = some (.string ⟨wd.toArray⟩)) (first | exact (S0.out _ (below_like4 (Below.refl _ _) rfl rfl rfl rfl)).1 | exact (S0.out _ (below_like4 hb9 rfl rfl rfl rfl)).1) ((go_at_call 62; refine (JN.out _ (by exact below_like4 (Below.refl _ _) rfl rfl rfl rfl)).mono ?_; rintro e w9 ⟨rfl, hb9'⟩; have hb9 : Below W2.heap.size W2 w9 := ⟨hb9'.os, hb9'.tape, hb9'.output, hb9'.size, hb9'.block⟩))
          have k1 := (S0.out w9 hb9).2
          have hbf := hbw2.out.trans (hb9.mono hbw2.out.size)
          by_cases h6 : 6 ≤ kn
          · have hpn : pn = 2 := HPN.out.2 h6
            have hb : (((pn : Nat) : Int) == 2) = true := by simp [hpn]
            have J1 : Calls Tryz.prog 62 #[.slice A2 ps.length c2, .string ⟨#[44]⟩] w9 fun e w' => e = .returned (.string ⟨(Lib.join (T.tellL (V.absL ps)) [44]).toArray⟩) ∧ Below w9.heap.size w9 w' := JP.out [44] w9 (by decide) hb9
            have hr := HRES.out
            rw [if_pos h6] at hr
            generalize Lib.join (T.tellL (V.absL ps)) [44] = pj at *
            have HF : Hid (Ending.returned (.string (⟨wd.toArray⟩ ++ ⟨nj.toArray⟩ ++ ⟨#[40]⟩ ++ ⟨pj.toArray⟩ ++ ⟨#[41]⟩)) = .returned (.string ⟨res.toArray⟩)) := by
              unfold Hid
              rw [hr, show (⟨#[40]⟩ : ByteArray) = ⟨[(40 : UInt8)].toArray⟩ from rfl, show (⟨#[41]⟩ : ByteArray) = ⟨[(41 : UInt8)].toArray⟩ from rfl, bcat, bcat, bcat, bcat]
              simp [List.append_assoc]
            have hz2 : ¬ 9223372036854775807 < wd.length + nj.length + 1 := by omega
            have hz3 : ¬ 9223372036854775807 < wd.length + nj.length + 1 + pj.length := by omega
            have hz4 : ¬ 9223372036854775807 < wd.length + nj.length + 1 + pj.length + 1 := by omega
            clear hpn hr HRES HPN h6c JP JN S0 HS
            go_wp2_with fail
            refine J1.mono ?_
            rintro e w10 ⟨rfl, hb10⟩
            have hbz := hbf.trans (hb10.mono hbf.size)
            go_wp2_with fail
            go_ret
            exact ⟨HF.out, hbz⟩
          · have hpn : ¬ pn = 2 := fun e => h6 (HPN.out.1 e)
            have hb : (((pn : Nat) : Int) == 2) = false := by simp; omega
            have J1 : Calls Tryz.prog 62 #[.slice A2 ps.length c2, .string ⟨#[]⟩] w9 fun e w' => e = .returned (.string ⟨(Lib.join (T.tellL (V.absL ps)) []).toArray⟩) ∧ Below w9.heap.size w9 w' := JP.out [] w9 (by decide) hb9
            have hr := HRES.out
            rw [if_neg h6] at hr
            generalize Lib.join (T.tellL (V.absL ps)) [] = pj at *
            have HF : Hid (Ending.returned (.string (⟨wd.toArray⟩ ++ ⟨nj.toArray⟩ ++ ⟨pj.toArray⟩)) = .returned (.string ⟨res.toArray⟩)) := by
              unfold Hid
              rw [hr, bcat, bcat]
            have hz2 : ¬ 9223372036854775807 < wd.length + nj.length + pj.length := by omega
            clear hpn hr HRES HPN h6c JP JN S0 HS
            go_wp2_with fail
            refine J1.mono ?_
            rintro e w10 ⟨rfl, hb10⟩
            have hbz := hbf.trans (hb10.mono hbf.size)
            go_wp2_with fail
            go_ret
            exact ⟨HF.out, hbz⟩

set_option maxRecDepth 100000 in
set_option maxHeartbeats 1600000 in
theorem ptext_any (v : V) (w : World) (lo hi B : Nat) (hL : Lies w lo hi v) (hhi : hi ≤ w.heap.size) (hE : Env B w) (hB : B ≤ w.heap.size) :
    Calls Tryz.prog 28 #[v.val] w fun e w' => e = .returned (.string ⟨v.abs.text.toArray⟩) ∧ Below w.heap.size w w' := by
  have hbx := heap_alloc_new w (.cells #[.int .i64 v.kind, .int .u64 (v.a : Int), .int .u64 (v.b : Int), v.sl] 25)
  have hb0 := below_new w (.cells #[.int .i64 v.kind, .int .u64 (v.a : Int), .int .u64 (v.b : Int), v.sl] 25)
  have hhi1 : hi ≤ (w.alloc (.cells #[.int .i64 v.kind, .int .u64 (v.a : Int), .int .u64 (v.b : Int), v.sl] 25)).heap.size := by have := hb0.size; omega
  have RR := pright_any v _ lo hi (hL.under (hb0.mono hhi)) hhi1
  have hTx : Hid (v.abs.text = if v.abs.rightB then v.abs.tell else []) := rfl
  have SS : Hid (∀ W, Below w.heap.size w W → v.abs.rightB = true → Calls Tryz.prog 48 #[v.val] W fun e w' => e = .returned (.string ⟨v.abs.tell.toArray⟩) ∧ Below W.heap.size W w') := fun W hW hr =>
    ptell_any v W lo hi B (hL.under (hW.mono hhi)) (by have := hW.size; omega) (right_all hr).1 (by have := (right_all hr).2; omega) (hE.under hW hB) (by have := hW.size; omega)
  have e0 := cell_of_row (w.alloc (.cells #[.int .i64 v.kind, .int .u64 (v.a : Int), .int .u64 (v.b : Int), v.sl] 25)) _ 0 _ _ _ hbx
  simp only [V.val, V.sl] at RR SS hbx hb0 ⊢
  generalize v.abs.text = res at *
  generalize v.abs.tell = st at *
  generalize v.abs.rightB = r at *
  generalize v.kind = x0 at *
  generalize (v.a : Int) = x1 at *
  generalize (v.b : Int) = x2 at *
  generalize v.addr = pA at *
  generalize v.parts.length = pn at *
  generalize v.cap = pc at *
  clear e0 hL hhi1 hE
  go_enter Tryz.func28, Tryz.ntmps28
  go_wp2_with fail
  refine RR.mono ?_
  rintro e w1 ⟨rfl, hb1⟩
  have hbw := hb0.trans (hb1.mono hb0.size)
  have hx1 := (hb1.block w.heap.size (by simp)).trans hbx
  have c0 := cell_of_row w1 _ 0 _ _ _ hx1
  have c1 := cell_of_row w1 _ 1 _ _ _ hx1
  have c2 := cell_of_row w1 _ 2 _ _ _ hx1
  have c3 := cell_of_row w1 _ 3 _ _ _ hx1
  simp at c0 c1 c2 c3
  clear hbx hb0 hb1 hx1 RR
  cases r with
  | true =>
    have CS := SS.out w1 hbw rfl
    have HP : Hid (res = st) := hTx.out.trans (if_pos rfl)
    clear hTx
    go_wp2_with fail
    refine CS.mono ?_
    rintro e w2 ⟨rfl, hb2⟩
    have HF : Hid (Below w.heap.size w w2) := hbw.trans (hb2.mono hbw.size)
    have HX : Hid (Ending.returned (.string ⟨st.toArray⟩) = .returned (.string ⟨res.toArray⟩)) := by rw [HP.out]; exact Lib_hid rfl
    clear CS hb2
    go_wp2
    go_ret
    exact ⟨HX.out, HF.out⟩
  | false =>
    have HF : Hid (res = []) := hTx.out.trans (if_neg (by simp))
    have HX : Hid (Ending.returned (.string ⟨#[]⟩) = .returned (.string ⟨res.toArray⟩)) := by rw [HF.out]; exact Lib_hid rfl
    clear hTx
    go_wp2
    go_ret
    exact ⟨HX.out, hbw⟩

end Go.Proofs.YtiijdacnfhiagaaGreatDoor
