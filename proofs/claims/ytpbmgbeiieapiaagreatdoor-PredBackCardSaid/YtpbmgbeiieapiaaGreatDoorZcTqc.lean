/-
  Layer 4: trees whose numbers are of 64 bits; what holds of all parts, plainly.
  Layer 4: a tree's text, plainly.
  Layer 4: rows of strings of the call's own; strings.Join of one.
  Layer 4: the program's tell, and Text.
-/
import Derived.Test.YtpbmgbeiieapiaaGreatDoorTrt
import Derived.Test.YtpbmgbeiieapiaaGreatDoorTkr
import Derived.Lib.Join
import Derived.Lib.ItoaLen
import Derived.Test.YtpbmgbeiieapiaaGreatDoorTfu
import Derived.Test.YtpbmgbeiieapiaaGreatDoorTpr
import Derived.Test.YtpbmgbeiieapiaaGreatDoorTrw
import Derived.Test.YtpbmgbeiieapiaaGreatDoorZcTpb
import Derived.Deep.RegionHeld3

namespace Go.Proofs.YtpbmgbeiieapiaaGreatDoor
open Go Go.RowKit
set_option linter.unusedVariables false

mutual
/-- Numbers of 64 bits all through. -/
def T.okN : T → Prop
  | .node _ a b ps => a < 18446744073709551616 ∧ b < 18446744073709551616 ∧ ps.length < 18446744073709551616 ∧ T.okL ps
def T.okL : List T → Prop
  | [] => True
  | p :: ps => p.okN ∧ T.okL ps
end
theorem okL_iff : ∀ ps : List T, T.okL ps ↔ ∀ p ∈ ps, p.okN
  | [] => by simp [T.okL]
  | p :: ps => by simp [T.okL, okL_iff ps]
theorem lies_ok {w : World} {lo hi : Nat} : ∀ v : V, Lies w lo hi v → v.abs.okN := by
  refine V.ind fun k a b A c ps ih hL => ?_
  obtain ⟨hlen, hcap', hk, ha, hb⟩ := hL.caps
  rw [V.abs, T.okN]
  refine ⟨ha, hb, by rw [absL_length]; omega, (okL_iff _).2 fun p hp => ?_⟩
  rw [absL_map, List.mem_map] at hp
  obtain ⟨v, hv, rfl⟩ := hp
  exact ih v hv (hL.part hv)
theorem all_mem : ∀ {ps : List T}, T.allL ps = true → ∀ p ∈ ps, p.allB = true
  | [], _, p, hp => by simp at hp
  | x :: ps, h, p, hp => by
    rw [T.allL, Bool.and_eq_true] at h
    rcases List.mem_cons.1 hp with rfl | hp
    · exact h.1
    · exact all_mem h.2 p hp
theorem depth_mem : ∀ {ps : List T} {d : Nat}, T.depthL ps ≤ d → ∀ p ∈ ps, p.depth ≤ d
  | [], _, _, p, hp => by simp at hp
  | x :: ps, d, h, p, hp => by
    rw [T.depthL] at h
    rcases List.mem_cons.1 hp with rfl | hp
    · omega
    · exact depth_mem (ps := ps) (by omega) p hp
theorem fits_kind {k : Int} {a b n : Nat} (h : fitsB k a b n = true) : k = 1 ∨ k = 2 ∨ k = 3 ∨ k = 4 ∨ k = 5 ∨ k = 6 ∨ k = 7 := by
  unfold fitsB at h
  split at h; omega
  split at h; omega
  split at h; omega
  split at h; omega
  split at h; omega
  cases h

end Go.Proofs.YtpbmgbeiieapiaaGreatDoor

namespace Go.Proofs.YtpbmgbeiieapiaaGreatDoor
open Go Go.RowKit
set_option linter.unusedVariables false

mutual
/-- The text of a tree that is right. -/
def T.tell : T → List UInt8
  | .node k a b ps => wordL k.toNat ++ Lib.join ((numsL k a b).map Lib.decDigits) [61] ++ (if 6 ≤ k then [40] ++ Lib.join (T.tellL ps) [44] ++ [41] else Lib.join (T.tellL ps) [])
def T.tellL : List T → List (List UInt8)
  | [] => []
  | p :: ps => p.tell :: T.tellL ps
end
theorem tellL_append : ∀ (xs ys : List T), T.tellL (xs ++ ys) = T.tellL xs ++ T.tellL ys
  | [], ys => by simp [T.tellL]
  | x :: xs, ys => by rw [List.cons_append, T.tellL, T.tellL, tellL_append xs ys, List.cons_append]
theorem tellL_length : ∀ xs : List T, (T.tellL xs).length = xs.length
  | [] => by simp [T.tellL]
  | x :: xs => by rw [T.tellL, List.length_cons, List.length_cons, tellL_length xs]
theorem tellL_take {ps : List V} {i : Nat} {p : V} (h : ps[i]? = some p) : T.tellL (V.absL (ps.take (i + 1))) = T.tellL (V.absL (ps.take i)) ++ [p.abs.tell] := by
  rw [absL_take h, tellL_append]; simp [T.tellL]
theorem join_snoc (xs : List (List UInt8)) (x sep : List UInt8) : Lib.join (xs ++ [x]) sep = Lib.join xs sep ++ (if xs = [] then [] else sep) ++ x := by
  cases xs with
  | nil => simp [Lib.join_one, Lib.join_nil]
  | cons y r =>
    rw [List.cons_append, Lib.join_cons, Lib.join_cons, if_neg (by simp)]
    simp [Lib.joinTail, List.append_assoc]
theorem join_len (xs : List (List UInt8)) (sep : List UInt8) : (Lib.join xs sep).length ≤ Lib.lens xs + sep.length * xs.length := by
  cases xs with
  | nil => simp [Lib.join_nil]
  | cons x r =>
    rw [Lib.join_length, List.length_cons, Nat.mul_succ]
    omega
theorem wordL_len (n : Nat) : (wordL n).length ≤ 3 := by
  unfold wordL wordA
  repeat (first | split | decide)
theorem lens_nums {l : List Nat} (h : ∀ x ∈ l, x < 18446744073709551616) : Lib.lens (l.map Lib.decDigits) ≤ 20 * l.length := by
  induction l with
  | nil => simp [Lib.lens]
  | cons x l ih =>
    have h1 := Lib.nDigits_le20 x (h x (by simp))
    have h2 := ih fun y hy => h y (by simp [hy])
    rw [← Lib.decDigits_length] at h1
    simp only [Lib.lens, List.map_cons, List.sum_cons, List.length_cons] at h2 ⊢
    omega
theorem tellN_len (k : Int) {a b : Nat} (ha : a < 18446744073709551616) (hb : b < 18446744073709551616) : (Lib.join ((numsL k a b).map Lib.decDigits) [61]).length ≤ 42 := by
  have h1 := join_len ((numsL k a b).map Lib.decDigits) [61]
  have h2 := lens_nums (nums_in (k := k) ha hb)
  have h3 := numN_le k
  rw [nums_len] at h2
  rw [List.length_map, nums_len] at h1
  simp at h1
  omega
theorem tells_sum {w : World} {lo hi : Nat} (l : List V) (h : ∀ p ∈ l, p.abs.tell.length + 1 ≤ 50 * p.abs.count) : Lib.lens (T.tellL (V.absL l)) + l.length ≤ 50 * T.countL (V.absL l) := by
  induction l with
  | nil => simp [V.absL, T.tellL, Lib.lens, T.countL]
  | cons p l ih2 =>
    have h1 := h p (by simp)
    have h2 := ih2 fun q hq => h q (by simp [hq])
    simp only [Lib.lens] at h2
    simp only [V.absL, T.tellL, T.countL, Lib.lens, List.map_cons, List.sum_cons, List.length_cons]
    omega
theorem tells_join {l : List V} {sep : List UInt8} (hs : sep.length ≤ 1) (h : Lib.lens (T.tellL (V.absL l)) + l.length ≤ 50 * T.countL (V.absL l)) : (Lib.join (T.tellL (V.absL l)) sep).length ≤ 50 * T.countL (V.absL l) := by
  have h1 := join_len (T.tellL (V.absL l)) sep
  rw [tellL_length, absL_length] at h1
  have h2 := Nat.mul_le_mul_right l.length hs
  omega
/-- How long a text is. -/
theorem tell_len {w : World} {lo hi : Nat} : ∀ v : V, Lies w lo hi v → v.abs.tell.length + 1 ≤ 50 * v.abs.count := by
  refine V.ind fun k a b A c ps ih hL => ?_
  obtain ⟨hlen, hcap', hk, ha, hb⟩ := hL.caps
  rw [V.count_node, V.abs, T.tell]
  have h1 := tells_sum (w := w) (lo := lo) (hi := hi) ps fun p hp => ih p hp (hL.part hp)
  have h2 := tells_join (l := ps) (sep := [44]) (by decide) h1
  have h3 := tells_join (l := ps) (sep := []) (by decide) h1
  have h4 := wordL_len k.toNat
  have h5 := tellN_len k ha hb
  split <;> simp only [List.length_append, List.length_cons, List.length_nil] <;> omega
theorem tells_len {w : World} {lo hi : Nat} {k : Int} {a b c : Nat} {A : Option Addr} {ps : List V} (hL : Lies w lo hi (.node k a b A c ps)) {sep : List UInt8} (hs : sep.length ≤ 1) : (Lib.join (T.tellL (V.absL ps)) sep).length ≤ 50 * T.countL (V.absL ps) :=
  tells_join hs (tells_sum (w := w) (lo := lo) (hi := hi) ps fun p hp => tell_len p (hL.part hp))

end Go.Proofs.YtpbmgbeiieapiaaGreatDoor

namespace Go.Proofs.YtpbmgbeiieapiaaGreatDoor
open Go Go.RowKit
set_option linter.unusedVariables false

def strs (xs : List (List UInt8)) : List Value := xs.map fun x => .string ⟨x.toArray⟩
theorem strs_length (xs : List (List UInt8)) : (strs xs).length = xs.length := by simp [strs]
theorem strs_append (xs ys : List (List UInt8)) : strs (xs ++ ys) = strs xs ++ strs ys := by simp [strs]
theorem strs_one (xs : List (List UInt8)) : ∀ u ∈ strs xs, u.oneCell' = true := by
  intro u hu
  obtain ⟨x, _, rfl⟩ := List.mem_map.1 hu
  rfl
theorem new_str (w : World) (E : TypeId) (x : List UInt8) : Rd (w.alloc (.cells #[.string ⟨x.toArray⟩] E)) (w.heap.size + 1) 1 (some ⟨w.heap.size, 0, none⟩) 1 (strs [x]) := by
  refine ⟨rfl, fun _ => ⟨_, rfl, by simp, fun j u hu => ?_⟩⟩
  have hr := heap_alloc_new w (.cells #[.string ⟨x.toArray⟩] E)
  have e : (⟨w.heap.size, 0, none⟩ : Addr).add j = ⟨w.heap.size, j, none⟩ := by unfold Addr.add; split <;> simp_all
  rw [e, cell_of_row _ _ j _ _ _ hr]
  have hv : strs [x] = [.string ⟨x.toArray⟩] := rfl
  rw [hv] at hu
  rw [← hu]
  simp
theorem join_any (b n c : Nat) (E : TypeId) (A : Option Addr) (xs : List (List UInt8)) (sep : List UInt8) (w : World) (h : w.ownsRow b E 1 (.slice A n c) n (strs xs)) (hx : n ≤ 1000000) (hl : (Lib.join xs sep).length ≤ 1000000) :
    Calls Tryz.prog 62 #[.slice A n c, .string ⟨sep.toArray⟩] w fun e w' => e = .returned (.string ⟨(Lib.join xs sep).toArray⟩) ∧ Below w.heap.size w w' := by
  have hn : xs.length = n := by have := h.1; rw [strs_length] at this; omega
  rcases Nat.eq_zero_or_pos n with h0 | h0
  · subst h0
    obtain rfl : xs = [] := List.eq_nil_of_length_eq_zero hn
    exact (Tryz.strings_Join_none A c ⟨sep.toArray⟩ w).mono fun e w' ⟨he, hw⟩ => ⟨he, hw ▸ Below.refl _ _⟩
  · have hcap := (own_cap h).1
    have hlies := (Rd.own h).lies h0
    obtain ⟨g, cap, hv, _, hlt⟩ := h.form h0
    have hA : A = some ⟨g, 0, none⟩ := by injection hv
    subst hA
    obtain ⟨ad, e, hb, hc⟩ := hlies
    injection e with e
    subst e
    have e2 : (xs.map fun x => (⟨x.toArray⟩ : ByteArray)).map (·.data.toList) = xs := by rw [List.map_map]; exact (List.map_congr_left fun x _ => rfl).trans (List.map_id _)
    have J := Tryz.strings_Join g 0 c (xs.map fun x => ⟨x.toArray⟩) ⟨sep.toArray⟩ w (fun j x hx => by
      have h1 := hc j (.string x) (by unfold strs; rw [List.getElem?_map] at hx ⊢; cases h : xs[j]? with
        | none => rw [h] at hx; cases hx
        | some y => rw [h] at hx; injection hx with hx; rw [← hx]; rfl)
      rw [← h1]
      congr 1
      unfold Addr.add
      split <;> simp_all) hlt (by rw [List.length_map]; omega) (by rw [List.length_map]; omega) (by show (Lib.join _ sep).length ≤ _; rw [e2]; omega)
    have J2 : Calls Tryz.prog 62 #[.slice (some ⟨g, 0, none⟩) (xs.map fun x => (⟨x.toArray⟩ : ByteArray)).length c, .string ⟨sep.toArray⟩] w fun e w' => e = .returned (.string ⟨(Lib.join ((xs.map fun x => (⟨x.toArray⟩ : ByteArray)).map (·.data.toList)) sep).toArray⟩) ∧ Below w.heap.size w w' := J
    rw [e2, List.length_map, hn] at J2
    exact J2

end Go.Proofs.YtpbmgbeiieapiaaGreatDoor

namespace Go.Proofs.YtpbmgbeiieapiaaGreatDoor
open Go Go.RowKit
set_option linter.unusedVariables false

theorem Tryz.infoS : (Tryz.prog.info? 9).map (fun i => (i.zero, i.size, i.bytes)) = some (some (.string ⟨#[]⟩), 1, 16) := by kernel_rfl
theorem bcat (x y : List UInt8) : (⟨x.toArray⟩ : ByteArray) ++ ⟨y.toArray⟩ = ⟨(x ++ y).toArray⟩ := by
  apply ByteArray.ext
  simp
def T.text (t : T) : List UInt8 := if t.rightB then t.tell else []

set_option maxRecDepth 100000 in
set_option maxHeartbeats 3200000 in
theorem ptell_any : ∀ (v : V) (w : World) (lo hi B : Nat), Lies w lo hi v → hi ≤ w.heap.size → v.abs.allB = true → v.abs.count ≤ 1000 → Env B w → B ≤ w.heap.size →
    Calls Tryz.prog 48 #[v.val] w fun e w' => e = .returned (.string ⟨v.abs.tell.toArray⟩) ∧ Below w.heap.size w w' := by
  refine V.ind fun k a b A c ps ih w lo hi B hL hhi hall hct hE hB => ?_
  obtain ⟨hcl, hcap', hkr, ha, hb⟩ := hL.caps
  rw [V.all_node, Bool.and_eq_true] at hall
  have hk : 1 ≤ k ∧ k ≤ 7 := by
    have := hall.2
    unfold fitsB at this
    split at this; omega
    split at this; omega
    split at this; omega
    split at this; omega
    split at this; omega
    cases this
  obtain ⟨kn, rfl⟩ : ∃ kn : Nat, k = kn := ⟨k.toNat, by omega⟩
  have hlc : ps.length ≤ 1000 := by rw [V.count_node] at hct; have := length_le_countL (V.absL ps); rw [absL_length] at this; omega
  obtain ⟨i0, hi0, hz0, hz1, hz2⟩ := info_parts Tryz.infoS
  have HA : Hid (∀ (i : Nat) (p : V), ps[i]? = some p → p.abs.allB = true) := fun i p hp => by
    cases h : p.abs.allB with
    | true => rfl
    | false => rw [allL_bad hp h] at hall; cases hall.1
  have IH : Hid (∀ (i : Nat) (p : V), ps[i]? = some p → ∀ W, Below w.heap.size w W → Calls Tryz.prog 48 #[.agg #[.int .i64 p.kind, .int .u64 (p.a : Int), .int .u64 (p.b : Int), .slice p.addr p.parts.length p.cap]] W fun e w' => e = .returned (.string ⟨p.abs.tell.toArray⟩) ∧ Below W.heap.size W w') := fun i p hp W hW =>
    ih p (List.mem_of_getElem? hp) W lo hi B ((hL.part (List.mem_of_getElem? hp)).under (hW.mono hhi)) (by have := hW.size; omega) (HA.out i p hp) (hL.small hct hp).1 (hE.under hW hB) (by have := hW.size; omega)
  have HEn : Hid (∀ W, Below w.heap.size w W → Env B W) := fun W hW => hE.under hW hB
  rw [V.count_node] at hct
  have hbx := heap_alloc_new w (.cells #[.int .i64 (kn : Int), .int .u64 (a : Int), .int .u64 (b : Int), .slice A ps.length c] 25)
  have hb0 := below_new w (.cells #[.int .i64 (kn : Int), .int .u64 (a : Int), .int .u64 (b : Int), .slice A ps.length c] 25)
  have KD := kindof_any kn (w.alloc (.cells #[.int .i64 (kn : Int), .int .u64 (a : Int), .int .u64 (b : Int), .slice A ps.length c] 25))
  have hcn := call_num hk
  have NA := Lib_hid (fun g wx => nums_any kn hk g wx)
  have HK := Lib_hid hk
  have HL : Hid (∀ W, Below w.heap.size w W → Lies W lo hi (.node kn a b A c ps)) := fun W hW => hL.under (hW.mono hhi)
  have HTL : Hid (∀ sep : List UInt8, sep.length ≤ 1 → (Lib.join (T.tellL (V.absL ps)) sep).length ≤ 50000) := fun sep hs => by have := tells_len hL hs; omega
  have HNJ := Lib_hid (tellN_len kn ha hb)
  have hlN := nums_len kn a b
  have hinN := nums_in (k := kn) ha hb
  have hN2 := numN_le kn
  have HS : Hid ((V.node kn a b A c ps).abs.tell = wordL kn ++ Lib.join ((numsL kn a b).map Lib.decDigits) [61] ++ (if 6 ≤ kn then [40] ++ Lib.join (T.tellL (V.absL ps)) [44] ++ [41] else Lib.join (T.tellL (V.absL ps)) [])) := by
    unfold Hid
    rw [V.abs, T.tell, Int.toNat_natCast]
    congr 1
    split <;> split <;> first | rfl | omega
  have HPN : Hid (partN kn = 2 ↔ 6 ≤ kn) := by
    unfold partN Hid
    split
    · omega
    · split <;> omega
  have HW3 := Lib_hid (wordL_len kn)
  rw [kindAt_eq hk, show isKind kn = true by unfold isKind; simp; omega, show wordA kn = (wordL kn).toArray by unfold wordL; simp] at KD
  have HCN : Hid (∀ (j x : Nat), (numsL kn a b)[j]? = some x → ∀ W : World, W.heap[w.heap.size]? = some (.cells #[.int .i64 (kn : Int), .int .u64 (a : Int), .int .u64 (b : Int), .slice A ps.length c] 25 (0, 0)) → W.cell? ⟨w.heap.size, j + 1, none⟩ = some (.int .u64 (x : Int)) ∧ x < 18446744073709551616) := by
    intro j x hx W hW
    refine ⟨?_, hinN x (List.mem_of_getElem? hx)⟩
    unfold numsL at hx
    rw [List.getElem?_take] at hx
    split at hx
    · match j, hx with
      | 0, hx => simp at hx; subst hx; exact (cell_of_row W _ 1 _ _ _ hW).trans rfl
      | 1, hx => simp at hx; subst hx; exact (cell_of_row W _ 2 _ _ _ hW).trans rfl
    · cases hx
  clear ih hL hall hE hct hinN
  simp only [V.val, V.kind, V.a, V.b, V.sl, V.addr, V.parts, V.cap]
  generalize (V.node kn a b A c ps).abs.tell = res at *
  generalize hPN : partN kn = pn at *
  generalize wordL kn = wd at *
  generalize numF kn = f1 at *
  generalize fitF kn = f2 at *
  generalize askF kn = f3 at *
  generalize hnn : numsL kn a b = nums at *
  generalize hNN : numN kn = N at *
  have HNL := Lib_hid hlN
  clear hlN hPN hnn
  go_enter Tryz.func48, Tryz.ntmps48
  go_wp2_with fail
  refine KD.mono ?_
  rintro e w1 ⟨rfl, hb1⟩
  have hbw1 := hb0.trans (hb1.mono hb0.size)
  have hx1 := (hb1.block w.heap.size (by simp)).trans hbx
  have hsz1 : w.heap.size < w1.heap.size := by have := hb1.size; simp at this; omega
  have hb2 := hbw1.alloc hbw1.size (.cells #[.string ⟨wd.toArray⟩, .int .i64 (pn : Nat), .func (.func f1) #[] #[], .func (.func f2) #[] #[], .func (.func f3) #[] #[]] 87)
  have hx2 := (heap_alloc_old w1 (.cells #[.string ⟨wd.toArray⟩, .int .i64 (pn : Nat), .func (.func f1) #[] #[], .func (.func f2) #[] #[], .func (.func f3) #[] #[]] 87) hsz1).trans hx1
  have hk2 := heap_alloc_new w1 (.cells #[.string ⟨wd.toArray⟩, .int .i64 (pn : Nat), .func (.func f1) #[] #[], .func (.func f2) #[] #[], .func (.func f3) #[] #[]] 87)
  clear KD hb0 hb1 hbx hbw1 hx1
  go_upto_region 2 with (fail)
  generalize w1.alloc (.cells #[.string ⟨wd.toArray⟩, .int .i64 (pn : Nat), .func (.func f1) #[] #[], .func (.func f2) #[] #[], .func (.func f3) #[] #[]] 87) = w2 at *
  have d2 := cell_of_row w2 _ 2 _ _ _ hk2
  simp at d2
  have hk1l : w1.heap.size < w2.heap.size := (Array.getElem?_eq_some_iff.1 hk2).1
  go_wp2_with fail
  refine (NA.out w.heap.size w2).mono ?_
  rintro e w3 ⟨AN, rfl, hb3, hptr⟩
  have hbw3 := hb2.trans (hb3.mono hb2.size)
  have hx3 := (hb3.block _ (by omega)).trans hx2
  have hk3 := (hb3.block _ (by omega)).trans hk2
  have hs3 := hb3.size
  have HP := Lib_hid hptr
  have HQ3 := Lib_hid (And.intro hx3 (And.intro hk3 hbw3))
  clear hb3 hptr hx2 hk2 hx3 hk3 hb2 d2 hbw3 hNN
  go_wp2
  go_loopw [5, 22] (fun v z W => ∃ (j : Nat) (A' : Option Addr) (c' : Nat), z = .int .i64 j ∧ v = .slice A' j c' ∧ j ≤ N ∧ Hid (W.ownsRow w3.heap.size 9 1 (.slice A' j c') j (strs ((nums.take j).map Lib.decDigits))) ∧ Hid (Below w3.heap.size w3 W)) (fun _ z _ => N - (intOf z).toNat)
  case atStart => exact ⟨0, none, 0, rfl, rfl, Nat.zero_le _, Lib_hid (by simpa [strs] using own_none _ _ _), Lib_hid (Below.refl _ _)⟩
  case round =>
    obtain ⟨j, A', c', rfl, rfl, hj, hI, hbW⟩ := hrel
    rename World => W
    have hsW := hbW.out.size
    have hbwW : Hid (Below w.heap.size w W) := HQ3.out.2.2.trans (hbW.out.mono HQ3.out.2.2.size)
    have hxW := (hbW.out.block w.heap.size (by omega)).trans HQ3.out.1
    by_cases hlt : j < N
    · obtain ⟨x, hx⟩ : ∃ x, nums[j]? = some x := ⟨_, List.getElem?_eq_getElem (by rw [HNL.out]; exact hlt)⟩
      obtain ⟨pb, rfl, hp1, hp2, hp3⟩ := HP.out j hlt
      obtain ⟨d1, hx64⟩ := HCN.out j x hx W hxW
      have d0 := (World.cell?_of_block (a := ⟨pb, j, none⟩) (hbW.out.block pb hp2)).trans hp3
      have FM := fmt_any B x hx64 W (HEn.out W hbwW.out)
      have hm1 : j + 1 ≤ maxLen := by unfold maxLen; omega
      have hm2 : (j + 1) * 16 ≤ 140737488355328 := by omega
      have HXJ := Lib_hid hx
      have h64 := Lib_hid hx64
      clear hp3 hx hxW hx64
      generalize hdd : Lib.decDigits x = dd at *
      have HDD := Lib_hid hdd
      clear hdd
      go_wp2_with (first | (go_at_call 61; refine FM.mono ?_; rintro e w7 ⟨rfl, hb7⟩) | (at_builtin; (refine wpList_app rfl _ _ 68 rfl w3.heap.size 9 i0 (.string ⟨#[]⟩) 1 16 Tryz.underlying68 hi0 hz0 hz1 hz2 rfl (by decide) (.slice A' j c') j _ rfl (own_below (own_below hI.out hb7 (own_lt hI.out)) (below_new w7 _) (own_lt (own_below hI.out hb7 (own_lt hI.out)))) (w7.heap.size + 1) (some ⟨w7.heap.size, 0, none⟩) 1 1 (strs [dd]) rfl (new_str w7 _ _) (strs_one _) hm1 hm2 (by have := hb7.size; simp; omega) ?_); intro v8 w8 ho8 hs8; rw [← strs_append] at ho8; obtain ⟨A8, c8, rfl, _⟩ := own_form ho8))
      have hI8 : Hid (w8.ownsRow w3.heap.size 9 1 (.slice A8 (j + 1) c8) (j + 1) (strs ((nums.take (j + 1)).map Lib.decDigits))) := by
        rw [take_one HXJ.out, List.map_append, List.map_cons, List.map_nil, HDD.out]
        exact ho8
      have hb8 : Hid (Below w3.heap.size w3 w8) := by
        have h1 := (hbW.out.trans (hb7.mono hsW)).trans ((below_new w7 (.cells #[.string ⟨dd.toArray⟩] 9)).mono (by have := hb7.size; omega))
        exact h1.trans (hs8.below (by have := h1.size; omega) fun k hk => own_ge hI.out k hk)
      clear ho8 hs8 hb7 d0 d1 FM hI hbW
      go_wp2
      go_roundw
      case rel => exact ⟨j + 1, A8, c8, by go_num, rfl, by omega, hI8, hb8⟩
      case measure => simp [intOf]; omega
    · obtain rfl : j = N := by omega
      rw [show nums.take j = nums from List.take_of_length_le (by rw [HNL.out]; exact Nat.le_refl _)] at hI
      have x3 := cell_of_row W _ 3 _ _ _ hxW
      simp at x3
      have HXW := Lib_hid hxW
      clear hxW hlt
      have hkW : Hid (W.heap[w1.heap.size]? = some (.cells #[.string ⟨wd.toArray⟩, .int .i64 (pn : Nat), .func (.func f1) #[] #[], .func (.func f2) #[] #[], .func (.func f3) #[] #[]] 87 (0, 0))) := (hbW.out.block _ (by omega)).trans HQ3.out.2.1
      go_wp2
      go_loopw [6, 37] (fun v z W2 => ∃ (i : Nat) (A2 : Option Addr) (c2 : Nat), z = .int .i64 i ∧ v = .slice A2 i c2 ∧ i ≤ ps.length ∧ Hid (W2.ownsRow W.heap.size 9 1 (.slice A2 i c2) i (strs (T.tellL (V.absL (ps.take i))))) ∧ Hid (Below W.heap.size W W2)) (fun _ z _ => ps.length - (intOf z).toNat)
      case atStart => exact ⟨0, none, 0, rfl, rfl, Nat.zero_le _, Lib_hid (by simpa [strs, V.absL, T.tellL] using own_none _ _ _), Lib_hid (Below.refl _ _)⟩
      case round =>
        clear x3
        obtain ⟨i, A2, c2, rfl, rfl, hi1, hI2, hbW2⟩ := hrel
        rename World => W2
        have hsW2 := hbW2.out.size
        have hbw2 : Hid (Below w.heap.size w W2) := hbwW.out.trans (hbW2.out.mono hbwW.out.size)
        by_cases hlt : i < ps.length
        · obtain ⟨bb, off, p, rfl, hbb, hlb, hp, hLp, d0, d1, d2, d3⟩ := (HL.out W2 hbw2.out).nth hlt
          have hbal := below_new W2 (.cells #[.int .i64 p.kind, .int .u64 (p.a : Int), .int .u64 (p.b : Int), .slice p.addr p.parts.length p.cap] 25)
          have CH := IH.out i p hp _ (hbw2.out.trans (hbal.mono hbw2.out.size))
          have hm1 : i + 1 ≤ maxLen := by unfold maxLen; omega
          have hm2 : (i + 1) * 16 ≤ 140737488355328 := by omega
          have HPP := Lib_hid hp
          have hps : p.sl = .slice p.addr p.parts.length p.cap := rfl
          rw [hps] at d3
          have HBA := Lib_hid hbal
          clear hLp hp hps hbal
          generalize hdd : p.abs.tell = dd at *
          have HDD := Lib_hid hdd
          clear hdd
          generalize p.addr = pA at *
          generalize p.cap = pc at *
          generalize p.parts.length = pl at *
          generalize p.kind = pk at *
          generalize (p.a : Int) = pa at *
          generalize (p.b : Int) = pb2 at *
          go_wp2_with (first | (go_at_call 48; refine CH.mono ?_; rintro e w7 ⟨rfl, hb7⟩; have hb27 := HBA.out.trans (hb7.mono (by have := HBA.out.size; omega))) | (at_builtin; (refine wpList_app rfl _ _ 68 rfl W.heap.size 9 i0 (.string ⟨#[]⟩) 1 16 Tryz.underlying68 hi0 hz0 hz1 hz2 rfl (by decide) (.slice A2 i c2) i _ rfl (own_below (own_below hI2.out hb27 (own_lt hI2.out)) (below_new w7 _) (own_lt (own_below hI2.out hb27 (own_lt hI2.out)))) (w7.heap.size + 1) (some ⟨w7.heap.size, 0, none⟩) 1 1 (strs [dd]) rfl (new_str w7 _ _) (strs_one _) hm1 hm2 (by have := hb27.size; simp; omega) ?_); intro v8 w8 ho8 hs8; rw [← strs_append] at ho8; obtain ⟨A8, c8, rfl, _⟩ := own_form ho8))
          have hI8 : Hid (w8.ownsRow W.heap.size 9 1 (.slice A8 (i + 1) c8) (i + 1) (strs (T.tellL (V.absL (ps.take (i + 1)))))) := by
            rw [tellL_take HPP.out, HDD.out]
            exact ho8
          have hb8 : Hid (Below W.heap.size W w8) := by
            have h1 := (hbW2.out.trans (hb27.mono hsW2)).trans ((below_new w7 (.cells #[.string ⟨dd.toArray⟩] 9)).mono (by have := hb27.size; omega))
            exact h1.trans (hs8.below (by have := h1.size; omega) fun k hk => own_ge hI2.out k hk)
          clear ho8 hs8 hb7 hb27 d0 d1 d2 d3 CH hI2 hbW2
          go_wp2
          go_roundw
          case rel => exact ⟨i + 1, A8, c8, by go_num, rfl, by omega, hI8, hb8⟩
          case measure => simp [intOf]; omega
        · obtain rfl : i = ps.length := by omega
          rw [List.take_length] at hI2
          have JN : Hid (∀ W', Below W2.heap.size W2 W' → Calls Tryz.prog 62 #[.slice A' j c', .string ⟨#[61]⟩] W' fun e w' => e = .returned (.string ⟨(Lib.join (nums.map Lib.decDigits) [61]).toArray⟩) ∧ Below W'.heap.size W' w') := fun W' hW' =>
            join_any w3.heap.size j c' _ A' _ [61] W' (own_below (own_below hI.out hbW2.out (own_lt hI.out)) hW' (own_lt (own_below hI.out hbW2.out (own_lt hI.out)))) (by omega) (by have := HNJ.out; omega)
          have JP : Hid (∀ (sep : List UInt8) (W' : World), sep.length ≤ 1 → Below W2.heap.size W2 W' → Calls Tryz.prog 62 #[.slice A2 ps.length c2, .string ⟨sep.toArray⟩] W' fun e w' => e = .returned (.string ⟨(Lib.join (T.tellL (V.absL ps)) sep).toArray⟩) ∧ Below W'.heap.size W' w') := fun sep W' hs hW' =>
            join_any W.heap.size ps.length c2 _ A2 _ sep W' (own_below hI2.out hW' (own_lt hI2.out)) (by omega) (by have := HTL.out sep hs; omega)
          have S0 : Hid (∀ W' : World, Below W2.heap.size W2 W' → W'.cell? ⟨w1.heap.size, 0, none⟩ = some (.string ⟨wd.toArray⟩) ∧ W'.cell? ⟨w1.heap.size, 1, none⟩ = some (.int .i64 (pn : Nat))) := fun W' hW' => by
            have h1 := (hW'.block w1.heap.size (by omega)).trans ((hbW2.out.block w1.heap.size (by omega)).trans hkW.out)
            exact ⟨(cell_of_row W' _ 0 _ _ _ h1).trans rfl, (cell_of_row W' _ 1 _ _ _ h1).trans rfl⟩
          have h6c : Hid (pn = 2 ↔ 6 ≤ kn) := HPN
          have hnl := HNJ.out
          have hwl := HW3.out
          have hpl1 := HTL.out [44] (by decide)
          have hpl0 := HTL.out [] (by decide)
          have hz1 : ¬ 9223372036854775807 < wd.length + (Lib.join (nums.map Lib.decDigits) [61]).length := by omega
          have HRES := HS
          clear hI hI2 hlt HTL HL IH HCN HP
          generalize Lib.join (nums.map Lib.decDigits) [61] = nj at *
          go_wp2_with fail
          go_region_held3 (fun W => W.cell? ⟨w1.heap.size, 0, none⟩ = some (.string ⟨wd.toArray⟩)) (first | exact (S0.out _ (below_like4 (Below.refl _ _) rfl rfl rfl rfl)).1 | exact (S0.out _ (below_like4 hb9 rfl rfl rfl rfl)).1) ((go_at_call 62; refine (JN.out _ (by exact below_like4 (Below.refl _ _) rfl rfl rfl rfl)).mono ?_; rintro e w9 ⟨rfl, hb9'⟩; have hb9 : Below W2.heap.size W2 w9 := ⟨hb9'.os, hb9'.tape, hb9'.output, hb9'.size, hb9'.block⟩))
          have k1 := (S0.out w9 hb9).2
          have hbf := hbw2.out.trans (hb9.mono hbw2.out.size)
          by_cases h6 : 6 ≤ kn
          · have hpn : pn = 2 := HPN.out.2 h6
            have hb : (((pn : Nat) : Int) == 2) = true := by simp [hpn]
            have J1 : Calls Tryz.prog 62 #[.slice A2 ps.length c2, .string ⟨#[44]⟩] w9 fun e w' => e = .returned (.string ⟨(Lib.join (T.tellL (V.absL ps)) [44]).toArray⟩) ∧ Below w9.heap.size w9 w' := JP.out [44] w9 (by decide) hb9
            have hr := HRES.out
            rw [if_pos h6] at hr
            generalize Lib.join (T.tellL (V.absL ps)) [44] = pj at *
            have HF : Hid (Ending.returned (.string (⟨wd.toArray⟩ ++ ⟨nj.toArray⟩ ++ ⟨#[40]⟩ ++ ⟨pj.toArray⟩ ++ ⟨#[41]⟩)) = .returned (.string ⟨res.toArray⟩)) := by
              unfold Hid
              rw [hr, show (⟨#[40]⟩ : ByteArray) = ⟨[(40 : UInt8)].toArray⟩ from rfl, show (⟨#[41]⟩ : ByteArray) = ⟨[(41 : UInt8)].toArray⟩ from rfl, bcat, bcat, bcat, bcat]
              simp [List.append_assoc]
            have hz2 : ¬ 9223372036854775807 < wd.length + nj.length + 1 := by omega
            have hz3 : ¬ 9223372036854775807 < wd.length + nj.length + 1 + pj.length := by omega
            have hz4 : ¬ 9223372036854775807 < wd.length + nj.length + 1 + pj.length + 1 := by omega
            clear hpn hr HRES HPN h6c JP JN S0 HS
            go_wp2_with fail
            refine J1.mono ?_
            rintro e w10 ⟨rfl, hb10⟩
            have hbz := hbf.trans (hb10.mono hbf.size)
            go_wp2_with fail
            go_ret
            exact ⟨HF.out, hbz⟩
          · have hpn : ¬ pn = 2 := fun e => h6 (HPN.out.1 e)
            have hb : (((pn : Nat) : Int) == 2) = false := by simp; omega
            have J1 : Calls Tryz.prog 62 #[.slice A2 ps.length c2, .string ⟨#[]⟩] w9 fun e w' => e = .returned (.string ⟨(Lib.join (T.tellL (V.absL ps)) []).toArray⟩) ∧ Below w9.heap.size w9 w' := JP.out [] w9 (by decide) hb9
            have hr := HRES.out
            rw [if_neg h6] at hr
            generalize Lib.join (T.tellL (V.absL ps)) [] = pj at *
            have HF : Hid (Ending.returned (.string (⟨wd.toArray⟩ ++ ⟨nj.toArray⟩ ++ ⟨pj.toArray⟩)) = .returned (.string ⟨res.toArray⟩)) := by
              unfold Hid
              rw [hr, bcat, bcat]
            have hz2 : ¬ 9223372036854775807 < wd.length + nj.length + pj.length := by omega
            clear hpn hr HRES HPN h6c JP JN S0 HS
            go_wp2_with fail
            refine J1.mono ?_
            rintro e w10 ⟨rfl, hb10⟩
            have hbz := hbf.trans (hb10.mono hbf.size)
            go_wp2_with fail
            go_ret
            exact ⟨HF.out, hbz⟩

set_option maxRecDepth 100000 in
set_option maxHeartbeats 1600000 in
theorem ptext_any (v : V) (w : World) (lo hi B : Nat) (hL : Lies w lo hi v) (hhi : hi ≤ w.heap.size) (hE : Env B w) (hB : B ≤ w.heap.size) :
    Calls Tryz.prog 28 #[v.val] w fun e w' => e = .returned (.string ⟨v.abs.text.toArray⟩) ∧ Below w.heap.size w w' := by
  have hbx := heap_alloc_new w (.cells #[.int .i64 v.kind, .int .u64 (v.a : Int), .int .u64 (v.b : Int), v.sl] 25)
  have hb0 := below_new w (.cells #[.int .i64 v.kind, .int .u64 (v.a : Int), .int .u64 (v.b : Int), v.sl] 25)
  have hhi1 : hi ≤ (w.alloc (.cells #[.int .i64 v.kind, .int .u64 (v.a : Int), .int .u64 (v.b : Int), v.sl] 25)).heap.size := by have := hb0.size; omega
  have RR := pright_any v _ lo hi (hL.under (hb0.mono hhi)) hhi1
  have hTx : Hid (v.abs.text = if v.abs.rightB then v.abs.tell else []) := rfl
  have SS : Hid (∀ W, Below w.heap.size w W → v.abs.rightB = true → Calls Tryz.prog 48 #[v.val] W fun e w' => e = .returned (.string ⟨v.abs.tell.toArray⟩) ∧ Below W.heap.size W w') := fun W hW hr =>
    ptell_any v W lo hi B (hL.under (hW.mono hhi)) (by have := hW.size; omega) (right_all hr).1 (by have := (right_all hr).2; omega) (hE.under hW hB) (by have := hW.size; omega)
  have e0 := cell_of_row (w.alloc (.cells #[.int .i64 v.kind, .int .u64 (v.a : Int), .int .u64 (v.b : Int), v.sl] 25)) _ 0 _ _ _ hbx
  simp only [V.val, V.sl] at RR SS hbx hb0 ⊢
  generalize v.abs.text = res at *
  generalize v.abs.tell = st at *
  generalize v.abs.rightB = r at *
  generalize v.kind = x0 at *
  generalize (v.a : Int) = x1 at *
  generalize (v.b : Int) = x2 at *
  generalize v.addr = pA at *
  generalize v.parts.length = pn at *
  generalize v.cap = pc at *
  clear e0 hL hhi1 hE
  go_enter Tryz.func28, Tryz.ntmps28
  go_wp2_with fail
  refine RR.mono ?_
  rintro e w1 ⟨rfl, hb1⟩
  have hbw := hb0.trans (hb1.mono hb0.size)
  have hx1 := (hb1.block w.heap.size (by simp)).trans hbx
  have c0 := cell_of_row w1 _ 0 _ _ _ hx1
  have c1 := cell_of_row w1 _ 1 _ _ _ hx1
  have c2 := cell_of_row w1 _ 2 _ _ _ hx1
  have c3 := cell_of_row w1 _ 3 _ _ _ hx1
  simp at c0 c1 c2 c3
  clear hbx hb0 hb1 hx1 RR
  cases r with
  | true =>
    have CS := SS.out w1 hbw rfl
    have HP : Hid (res = st) := hTx.out.trans (if_pos rfl)
    clear hTx
    go_wp2_with fail
    refine CS.mono ?_
    rintro e w2 ⟨rfl, hb2⟩
    have HF : Hid (Below w.heap.size w w2) := hbw.trans (hb2.mono hbw.size)
    have HX : Hid (Ending.returned (.string ⟨st.toArray⟩) = .returned (.string ⟨res.toArray⟩)) := by rw [HP.out]; exact Lib_hid rfl
    clear CS hb2
    go_wp2
    go_ret
    exact ⟨HX.out, HF.out⟩
  | false =>
    have HF : Hid (res = []) := hTx.out.trans (if_neg (by simp))
    have HX : Hid (Ending.returned (.string ⟨#[]⟩) = .returned (.string ⟨res.toArray⟩)) := by rw [HF.out]; exact Lib_hid rfl
    clear hTx
    go_wp2
    go_ret
    exact ⟨HX.out, hbw⟩

end Go.Proofs.YtpbmgbeiieapiaaGreatDoor
