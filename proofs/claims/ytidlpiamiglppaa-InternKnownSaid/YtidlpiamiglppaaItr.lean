/-
  Layer 7: tables of names: rising of the program.
-/
import Derived.Test.YtidlpiamiglppaaIts
import Derived.Test.YtidlpiamiglppaaItu
namespace Go.Proofs.Ytidlpiamiglppaa
open Go Go.RowKit Go.Sort
set_option linter.unusedVariables false

/-- How two numbers compare. -/
def cmpN (x y : Nat) : Int := if x < y then -1 else if y < x then 1 else 0
theorem cmpP_names {a b : PP} (ha : a.2 = 0) (hb : b.2 = 0) : cmpP a b = cmpN a.1 b.1 := by
  unfold cmpP cmpN
  have e1 : lessP a b = decide (a.1 < b.1) := by rw [Bool.eq_iff_iff, lessP_iff]; simp; omega
  have e2 : lessP b a = decide (b.1 < a.1) := by rw [Bool.eq_iff_iff, lessP_iff]; simp; omega
  rw [e1, e2]
  simp

theorem unan_any (x : Nat) (w : World) : Calls Try.prog 48 #[.int .u64 (x : Int)] w fun e w' => e = .returned (.bool false) ∧ w = w' := by
  have d : ((x : Int) != (x : Int)) = false := by simp
  generalize (x : Int) = y at *
  go_enter Try.func48, Try.ntmps48
  go_wp2
  go_ret
  exact ⟨rfl, rfl⟩

theorem ucmp_any (x y : Nat) (w : World) : Calls Try.prog 35 #[.int .u64 (x : Int), .int .u64 (y : Int)] w fun e w' => e = .returned (.int .i64 (cmpN x y)) ∧ w = w' := by
  have N := fun (z : Nat) (W : World) => unan_any z W
  have HN := Lib_hid N
  clear N
  unfold cmpN
  by_cases h1 : x < y
  · rw [if_pos h1]
    have d1 : decide (x < y) = true := decide_eq_true h1
    go_enter Try.func35, Try.ntmps35
    go_wp2_with fail
    refine (HN.out x _).mono ?_
    rintro e w1 ⟨rfl, rfl⟩
    go_wp2_with fail
    refine (HN.out y _).mono ?_
    rintro e w1 ⟨rfl, rfl⟩
    go_wp2
    go_ret
    exact ⟨rfl, rfl⟩
  · rw [if_neg h1]
    have d1 : decide (x < y) = false := decide_eq_false h1
    by_cases h2 : y < x
    · rw [if_pos h2]
      have d2 : decide (y < x) = true := decide_eq_true h2
      clear h1 h2
      go_enter Try.func35, Try.ntmps35
      go_wp2_with fail
      refine (HN.out x _).mono ?_
      rintro e w1 ⟨rfl, rfl⟩
      go_wp2_with fail
      refine (HN.out y _).mono ?_
      rintro e w1 ⟨rfl, rfl⟩
      go_wp2
      go_ret
      exact ⟨rfl, rfl⟩
    · rw [if_neg h2]
      have d2 : decide (y < x) = false := decide_eq_false h2
      clear h1 h2
      go_enter Try.func35, Try.ntmps35
      go_wp2_with fail
      refine (HN.out x _).mono ?_
      rintro e w1 ⟨rfl, rfl⟩
      go_wp2_with fail
      refine (HN.out y _).mono ?_
      rintro e w1 ⟨rfl, rfl⟩
      go_wp2
      go_ret
      exact ⟨rfl, rfl⟩

/-- The literal that rising hands to the sort. -/
theorem uless_any {W : World} {bc bs p n c : Nat} {ad : Addr} {i j x y : Nat} (hi : i < n) (hj : j < n) (hn : n ≤ c ∧ c ≤ 9223372036854775807)
    (k0 : W.cell? ⟨bc, 0, none⟩ = some (.func (.func 35) #[] #[])) (k1 : W.cell? ⟨bs, 0, none⟩ = some (.pointer (some ⟨p, 0, none⟩)))
    (k2 : W.cell? ⟨p, 0, none⟩ = some (.slice (some ad) n c)) (k3 : W.cell? (ad.add i) = some (.int .u64 (x : Int))) (k4 : W.cell? (ad.add j) = some (.int .u64 (y : Int))) :
    Calls Try.prog 47 #[.int .i64 (i : Int), .int .i64 (j : Int), .pointer (some ⟨bc, 0, none⟩), .pointer (some ⟨bs, 0, none⟩)] W fun e w' => e = .returned (.int .i64 (cmpN x y)) ∧ ∃ q, w' = W.drewN q := by
  have hi1 : (i : Int) < (n : Int) := by omega
  have hj1 : (j : Int) < (n : Int) := by omega
  have hi0 : (0 : Int) ≤ (i : Int) := by omega
  have hj0 : (0 : Int) ≤ (j : Int) := by omega
  have eg : ∀ args wx, (callFunc 35 args).run Try.prog wx = .ok (.enter 35 args) wx := enters_of Try.func35 (by kernel_rfl) rfl
  have CM := fun (V : World) => ucmp_any x y V
  have HC := Lib_hid CM
  clear CM
  generalize cmpN x y = r at *
  go_enter Try.func47, Try.ntmps47
  go_wp2
  go_quiet ((go_at_call 35; exact Calls.quiet_of_same ((HC.out _).mono fun e w' h => ⟨h.1, h.2.symm⟩)))
  go_wp2
  go_ret
  exact ⟨rfl, _, rfl⟩

/-- The row of numbers, filled up to k. -/
def filled (n k : Nat) : List Nat := List.range k ++ List.replicate (n - k) 0
theorem filled_zero (n : Nat) : filled n 0 = List.replicate n 0 := by simp [filled]
theorem filled_all (n : Nat) : filled n n = List.range n := by simp [filled]
theorem filled_length {n k : Nat} (h : k ≤ n) : (filled n k).length = n := by simp [filled]; omega
theorem filled_set {n k : Nat} (h : k < n) : (filled n k).set k k = filled n (k + 1) := by
  unfold filled
  rw [List.set_append_right _ _ (by simp), List.length_range, Nat.sub_self, List.range_succ, List.append_assoc]
  congr 1
  obtain ⟨d, hd⟩ : ∃ d, n - k = d + 1 := ⟨n - k - 1, by omega⟩
  rw [hd, show n - (k + 1) = d by omega]
  rfl

/-- What the sort wants of the literal. -/
theorem ucmp_lays {w wr : World} {p c m : Nat} {A : Option Addr} {mb : Option Nat} {l : List PP} (h : Tab kU w p A c mb l) (hz : Zs l) (hm : l.length = m + 1) {g bc bs : Nat} (hw : wr.heap.size > g) (hgp : w.heap.size ≤ g) (hk : ∀ k, k < w.heap.size → wr.heap[k]? = w.heap[k]?)
    (k0 : wr.cell? ⟨bc, 0, none⟩ = some (.func (.func 35) #[] #[])) (k1 : wr.cell? ⟨bs, 0, none⟩ = some (.pointer (some ⟨p, 0, none⟩))) (n0 : bc ≠ g) (n1 : bs ≠ g) :
    CmpLays1 Try.prog 47 #[.pointer (some ⟨bc, 0, none⟩), .pointer (some ⟨bs, 0, none⟩)] (encF m) (cfP l m) g 0 (rowF m).size wr := by
  intro q os dk hs x y
  have hx : x.val < l.length := by rw [hm]; exact x.isLt
  have hy : y.val < l.length := by rw [hm]; exact y.isLt
  have r : Rd w w.heap.size 1 A l.length (uc l) := h.rd
  obtain ⟨ad, hA, hb, c3⟩ := u_at r hx
  obtain ⟨ad', e, _, c4⟩ := u_at r hy
  rw [hA] at e
  cases e
  have hbk : ∀ k, k < wr.heap.size → k ≠ g → (sortWorld (encF m) wr g 0 q dk os).heap[k]? = wr.heap[k]? := fun k h1 h2 => sortWorld_block wr g q dk os h1 h2
  have hold : ∀ a : Addr, a.block < w.heap.size → (sortWorld (encF m) wr g 0 q dk os).cell? a = w.cell? a := fun a ha => World.cell?_of_block ((hbk _ (by omega) (by omega)).trans (hk _ ha))
  have hp : p < w.heap.size := h.lt p (.inl rfl)
  have hbox : ∀ (b : Nat) (v : Value), wr.cell? ⟨b, 0, none⟩ = some v → b ≠ g → (sortWorld (encF m) wr g 0 q dk os).cell? ⟨b, 0, none⟩ = some v := fun b v hv hne => (World.cell?_of_block (hbk b (World.block_lt_of_cell? _ _ hv) hne)).trans hv
  have h2 := (hold ⟨p, 0, none⟩ hp).trans h.c0
  rw [hA] at h2
  have F := uless_any (W := sortWorld (encF m) wr g 0 q dk os) hx hy h.cap (hbox _ _ k0 n0) (hbox _ _ k1 n1) h2 ((hold _ (by rw [add_block]; exact hb)).trans c3) ((hold _ (by rw [add_block]; exact hb)).trans c4)
  have e : cfP l m x y = cmpN (at0 l x.val).1 (at0 l y.val).1 := cmpP_names (hz.at hx) (hz.at hy)
  rw [e]
  exact F.mono fun e w' ⟨h1, q', h2⟩ => ⟨h1, q', #[], by rw [h2, grow_empty]⟩

set_option maxRecDepth 100000 in
set_option maxHeartbeats 800000 in
theorem urising_any {w : World} {p c : Nat} {A : Option Addr} {mb : Option Nat} {l : List PP} (h : Tab kU w p A c mb l) (hz : Zs l) (hl : l.length ≤ 1000000000) :
    Calls Try.prog 34 #[.pointer (some ⟨p, 0, none⟩), .func (.func 35) #[] #[]] w (IntsEnd (IsRising l) l.length w) := by
  obtain ⟨n, hn⟩ : ∃ n, n = l.length := ⟨_, rfl⟩
  have hn9 : n ≤ 1000000000 := by omega
  have c0 := h.c0
  rw [← hn] at c0
  have hpl := h.lt p (.inl rfl)
  obtain ⟨W1, hW1⟩ : ∃ W1, W1 = (w.alloc (.cells #[.pointer (some ⟨p, 0, none⟩)] 82)).alloc (.cells #[.func (.func 35) #[] #[]] 78) := ⟨_, rfl⟩
  have hs1 : W1.heap.size = w.heap.size + 2 := by rw [hW1]; simp
  have hb1 : Below w.heap.size w W1 := by rw [hW1]; exact (below_new w _).alloc (by simp) _
  have k0 : W1.cell? ⟨w.heap.size + 1, 0, none⟩ = some (.func (.func 35) #[] #[]) := by rw [hW1]; exact cell_of_row _ _ 0 _ _ _ (by have hh := heap_alloc_new (w.alloc (.cells #[.pointer (some ⟨p, 0, none⟩)] 82)) (.cells #[.func (.func 35) #[] #[]] 78); rw [show (w.alloc (.cells #[.pointer (some ⟨p, 0, none⟩)] 82)).heap.size = w.heap.size + 1 by simp] at hh; exact hh)
  have k1 : W1.cell? ⟨w.heap.size, 0, none⟩ = some (.pointer (some ⟨p, 0, none⟩)) := by
    rw [hW1]
    refine (World.cell?_of_block ((below_new _ _).block w.heap.size (by simp))).trans (cell_of_row _ _ 0 _ _ _ (heap_alloc_new w _))
  have MK := make_ints n hn9
  have OW := own_ints n hn9 W1
  have hb2 := below_new W1 (.cells (madeCells #[.int .i64 0] n) 3)
  have hs2 : (W1.alloc (.cells (madeCells #[.int .i64 0] n) 3)).heap.size = w.heap.size + 3 := by simp [hs1]
  rw [hs1] at hb2 OW
  rw [← filled_zero] at OW
  have c0' := (hb1.cell (p := ⟨p, 0, none⟩) hpl).trans c0
  have HH := Lib_hid (And.intro h hz)
  have HN := Lib_hid hn
  have HW := Lib_hid (And.intro hW1 (And.intro hb1 hs1))
  have HK := Lib_hid (And.intro k0 k1)
  have HS2 := Lib_hid hs2
  clear h hz hW1 hb1 hs1 k0 k1 hl hs2 hn
  go_enter Try.func34, Try.ntmps34
  go_upto_region 2 with (fail)
  rw [← HW.out.1]
  have HS3 := Lib_hid (HS2.out)
  generalize hg : w.heap.size + 2 = g at OW hb2
  generalize W1.alloc (.cells (madeCells #[.int .i64 0] n) 3) = W2 at *
  have HG := Lib_hid hg
  try rw [hg]
  clear hg MK c0 c0' hpl
  go_wp2
  go_loopw [15] (fun i wr => ∃ k : Nat, i = .int .i64 k ∧ k ≤ n ∧ wr.ownsRow g 3 1 (.slice (some ⟨g, 0, none⟩) n n) n (ic (filled n k)) ∧ Below g W1 wr) (fun i _ => n - (intOf i).toNat)
  case atStart => exact ⟨0, rfl, Nat.zero_le _, OW, hb2⟩
  case round =>
    clear OW hb2
    obtain ⟨k, rfl, hk, ho, hbw⟩ := hrel
    by_cases hlt : k < n
    · have hki : (k : Int) < (n : Int) := by omega
      have hk0 : (0 : Int) ≤ (k : Int) := by omega
      have ⟨hs1, hs2⟩ := ho.stored k (.int .i64 (k : Int))
      rw [ic_set, filled_set hlt] at hs1
      have hfr := ho.frozenAt k
      have hcl := (ho.cellAt k (by omega)).trans (ic_get (by rw [filled_length hk]; exact hlt))
      have hsz : W1.heap.size = g := by rw [HW.out.2.2, HG.out]
      have hbw3 := hbw.grown hs2 (by have := hbw.size; omega) (own_ge ho)
      clear ho hs2 hbw hsz
      go_wp2
      go_roundw
      case rel => exact ⟨k + 1, by go_num, by omega, hs1, hbw3⟩
      case measure => simp [intOf]; omega
    · obtain rfl : k = n := by omega
      rw [filled_all] at ho
      have hwsz := hbw.size
      have hgs : w.heap.size + 2 = g := HG.out
      have hW1s : W1.heap.size = g := by rw [HW.out.2.2, hgs]
      have hblk : g < wr.heap.size := (own_lt ho g rfl)
      have hbw0 : Below w.heap.size w wr := HW.out.2.1.trans (hbw.mono (by omega))
      have q0 := (hbw.cell (p := ⟨w.heap.size + 1, 0, none⟩) (show w.heap.size + 1 < g by omega)).trans HK.out.1
      have q1 := (hbw.cell (p := ⟨w.heap.size, 0, none⟩) (show w.heap.size < g by omega)).trans HK.out.2
      have eg : ∀ args wx, (callFunc 47 args).run Try.prog wx = .ok (.enter 47 args) wx := enters_of Try.func47 (by kernel_rfl) rfl
      have HO := Lib_hid ho
      have HB := Lib_hid (And.intro hbw0 (And.intro hblk hgs))
      rcases k with _ | m
      · have S := fun W => AnyF.slices_SortFunc_none (P := Try.prog) (ρ := Try.sortL_ren) { Try.sortL with } (some ⟨g, 0, none⟩) 0 (.func (.func 47) #[] #[.pointer (some ⟨w.heap.size + 1, 0, none⟩), .pointer (some ⟨w.heap.size, 0, none⟩)]) W
        change ∀ W, Calls Try.prog 46 _ _ _ at S
        have HS := Lib_hid S
        clear S ho hbw hbw0 q0 q1 hwsz hgs hW1s hblk hk hlt
        go_wp2_with fail
        refine (HS.out _).mono ?_
        rintro e w2 ⟨rfl, rfl⟩
        go_wp2
        go_ret
        have hl0 : l = [] := List.eq_nil_of_length_eq_zero HN.out.symm
        refine ⟨some ⟨g, 0, none⟩, 0, [], by rw [hl0]; exact ⟨by simp, List.Pairwise.nil⟩, by rw [hl0]; rfl, ?_, HB.out.1⟩
        rw [← HN.out]
        exact own_base HO.out (fun b hb => by have : g = b := (by injection hb); have := HB.out.2.2; omega)
      · have hm := HN.out.symm
        have CL := ucmp_lays HH.out.1 HH.out.2 hm (wr := wr) (g := g) (bc := w.heap.size + 1) (bs := w.heap.size) hblk (by omega) (fun b hb => hbw0.block b hb) q0 q1 (by omega) (by omega)
        have S := Any.slices_SortFunc Try.sortL (encF m) (fun _ => rfl) (cfP l m) (swo_cfP l m) 47 #[.pointer (some ⟨w.heap.size + 1, 0, none⟩), .pointer (some ⟨w.heap.size, 0, none⟩)] g 0 (m + 1) (rowF m) wr eg CL (holds_rowF ho) hblk (by rw [rowF_size]; omega)
        rw [show (rowF m).size = m + 1 from rowF_size m] at S
        change Calls Try.prog 46 _ _ _ at S
        have HS := Lib_hid S
        clear S CL ho hbw hbw0 q0 q1 hwsz hgs hW1s hblk hk hlt hm
        go_wp2_with fail
        refine HS.out.mono ?_
        rintro e w2 ⟨rfl, d', q, os, hp, hs, hw2⟩
        have hsz : d'.size = m + 1 := hp.1.trans (rowF_size m)
        have HR : Hid (IsRising l (d'.toList.map Fin.val)) := rising_of_sorted HH.out.1.nd HN.out.symm (by rw [rowF_size]; exact hp) (by rw [rowF_size]; exact hs)
        have HO2 := Lib_hid (own_sorted HO.out d' hsz q os)
        have HB2 := Lib_hid (HB.out.1.trans (sortWorld_below wr g q d' os HB.out.1.size (by have := HB.out.2.2; omega)))
        rw [← hw2] at HO2 HB2
        have HZ := Lib_hid hsz
        clear hp hs hw2 hsz
        go_wp2
        go_ret
        refine ⟨some ⟨g, 0, none⟩, m + 1, d'.toList.map Fin.val, HR.out, by rw [← HN.out]; rfl, ?_, HB2.out⟩
        rw [← HN.out]
        exact own_base HO2.out (fun b hb => by have : g = b := (by injection hb); have := HB.out.2.2; omega)

end Go.Proofs.Ytidlpiamiglppaa
