/-
  Layer 13: the statements' SameInts, and the chapter's examples (works).
-/
import Derived.Test.YtopecdkkmbpnbaaGgo
import Derived.Test.YtopecdkkmbpnbaaGgp
namespace Go.Proofs.Ytopecdkkmbpnbaa
open Go Go.RowKit Go.Maps
set_option linter.unusedVariables false

/-- Two rows of numbers that are one. -/
theorem sameZ_any (B B' : Nat) (A A' : Option Addr) (n n' c c' : Nat) (l : List Int) (w : World) (h : Rd w B 1 A n (zc l)) (h' : Rd w B' 1 A' n' (zc l)) (hn : n ≤ 9223372036854775807) :
    Calls Try.prog 38 #[.slice A n c, .slice A' n' c'] w fun e w' => e = .returned (.bool true) ∧ ∃ q, w' = w.drewN q := by
  have hl := rdz_count h
  have hl' := rdz_count h'
  obtain rfl : n = n' := by omega
  have HI := Lib_hid (fun (k : Nat) (hk : k < n) => z_at h hk)
  have HJ := Lib_hid (fun (k : Nat) (hk : k < n) => z_at h' hk)
  clear h h'
  go_enter Try.func38, Try.ntmps38
  go_wp2
  go_loopw [5] (fun i wr => ∃ k q : Nat, i = .int .i64 k ∧ k ≤ n ∧ wr = w.drewN q) (fun i _ => n - (intOf i).toNat)
  case atStart => exact ⟨0, 0, rfl, Nat.zero_le _, rfl⟩
  case round =>
    obtain ⟨k, q, rfl, hk, rfl⟩ := hrel
    by_cases hlt : k < n
    · obtain ⟨ad, rfl, _, c1⟩ := HI.out k hlt
      obtain ⟨ad', rfl, _, c2⟩ := HJ.out k hlt
      clear hl hl'
      generalize atZ l k = x at *
      have d1 : (x != x) = false := by simp
      go_wp2
      go_quiet (fail)
      go_wp2
      go_roundw
      case rel => exact ⟨k + 1, q + nq, by go_num, by omega, rfl⟩
      case measure => simp [intOf]; omega
    · obtain rfl : k = n := by omega
      go_wp2
      go_ret
      exact ⟨rfl, q, rfl⟩

def exA : List Ed := [(0, 1, 5), (0, 1, 3), (2, 0, 1), (0, 1, 5)]
def exL : List Ed := [(0, 1, 3), (0, 1, 5), (2, 0, 1)]
theorem ex_add : addEs [] exA = exL := by decide +kernel
theorem ex_ok : ∀ e ∈ exA, okE 3 e = true := by decide +kernel
theorem ex_no : ¬ ∀ e ∈ [((0, 3, 0) : Ed)], okE 3 e = true := by decide +kernel
theorem ex_out : outE exL 0 = [(0, 1, 3), (0, 1, 5)] := by decide +kernel
theorem ex_in : inE exL 0 = [(2, 0, 1)] := by decide +kernel
theorem ex_next : nextZ exL 0 = [1] := by decide +kernel
theorem ex_only : onlyE exL [0, 2] = [(2, 0, 1)] := by decide +kernel
theorem ed_small {e : Ed} (h : (-9 ≤ e.1 ∧ e.1 ≤ 9) ∧ (-9 ≤ e.2.1 ∧ e.2.1 ≤ 9) ∧ (-9 ≤ e.2.2 ∧ e.2.2 ≤ 9)) : EdOk e := by unfold EdOk I64; omega
theorem exA_ok : ∀ e ∈ exA, EdOk e := by
  intro e he
  simp only [exA, List.mem_cons, List.not_mem_nil, or_false] at he
  rcases he with rfl | rfl | rfl | rfl <;> exact ed_small (by decide)
theorem exB_ok : ∀ e ∈ [((0, 3, 0) : Ed)], EdOk e := by
  intro e he
  simp only [List.mem_cons, List.not_mem_nil, or_false] at he
  subst he
  exact ed_small (by decide)

/-- A row that the call has just written out. -/
theorem rd_lit {w : World} (l : List Ed) (cs : Array Value) (n : Nat) (hcs : cs.toList = ec l) (hn : l.length = n) (hs : n ≤ 1000) (B : Nat) (hB : B = w.heap.size + 1) : Rd (w.alloc (.cells cs 39)) B 3 (some ⟨w.heap.size, 0, none⟩) n (ec l) := by
  have h2 : cs.toList.length = n * 3 := by rw [hcs, ec_length, hn]
  have ho := World.ownsRow_lit (base := w.heap.size) (e := 39) (size := 3) w cs n (Nat.le_refl _) (by unfold maxLen; omega) (by simpa using h2)
  rw [hcs] at ho
  exact (Rd.own ho).more (by simp [hB])
theorem rd_ints {w : World} (l : List Int) (cs : Array Value) (n : Nat) (hcs : cs.toList = zc l) (hn : l.length = n) (hs : n ≤ 1000) (B : Nat) (hB : B = w.heap.size + 1) : Rd (w.alloc (.cells cs 3)) B 1 (some ⟨w.heap.size, 0, none⟩) n (zc l) := by
  have h2 : cs.toList.length = n * 1 := by rw [hcs, zc_length, hn]; omega
  have ho := World.ownsRow_lit (base := w.heap.size) (e := 3) (size := 1) w cs n (Nat.le_refl _) (by unfold maxLen; omega) (by simpa using h2)
  rw [hcs] at ho
  exact (Rd.own ho).more (by simp [hB])

/-- Add at a row that the call has just written out. -/
theorem add_lit {w : World} {p N n : Nat} {S : Nat → Prop} {L l : List Ed} {cs : Array Value} (h : GmIs w p S N L) (hcs : cs.toList = ec l) (hn : l.length = n) (hs : n ≤ 1000) (hl : ∀ e ∈ l, EdOk e) (hN : N ≤ 65536) (hL : L.length ≤ 1000000) :
    Calls Try.prog 16 #[.pointer (some ⟨p, 0, none⟩), .slice (some ⟨w.heap.size, 0, none⟩) n n] (w.alloc (.cells cs 39)) (AddEnd N L l S p (w.alloc (.cells cs 39))) :=
  gadd_any (h.later (below_new w _)) (rd_lit l cs n hcs hn hs _ rfl) (by simp) (fun ad e => by
    have : ad.block = w.heap.size := by injection e with e; rw [← e]
    rw [this]
    exact fun hc => Nat.lt_irrefl _ (h.lt _ hc)) hl hN (by omega) hL
theorem only_lit {w : World} {p N n : Nat} {S : Nat → Prop} {L : List Ed} {l : List Int} {cs : Array Value} (h : GmIs w p S N L) (hcs : cs.toList = zc l) (hn : l.length = n) (hs : n ≤ 1000) (hN : N ≤ 65536) (hL : L.length ≤ 1000000) :
    Calls Try.prog 25 #[.pointer (some ⟨p, 0, none⟩), .slice (some ⟨w.heap.size, 0, none⟩) n n] (w.alloc (.cells cs 3)) (MadeG N (onlyE L l) (w.alloc (.cells cs 3))) :=
  ponly_any (h.later (below_new w _)) (rd_ints l cs n hcs hn hs _ rfl) (by simp) hN (by omega) hL

set_option maxRecDepth 100000 in
set_option maxHeartbeats 3200000 in
theorem works_any (w : World) : Calls Try.prog 9 #[] w fun e w' => e = .returned (.bool true) ∧ Below w.heap.size w w' := by
  have NW := Lib_hid (pnew_any 3 w)
  go_enter Try.func9, Try.ntmps9
  go_wp2_with fail
  refine NW.out.mono ?_
  rintro e w1 h1
  obtain ⟨hc, _⟩ | ⟨_, p, S, rfl, hG, hB, hS⟩ := h1
  · omega
  have hG : GmIs w1 p S 3 [] := hG
  have AD := Lib_hid (add_lit (n := 4) (l := exA) (cs := #[.int .i64 0, .int .i64 1, .int .i64 5, .int .i64 0, .int .i64 1, .int .i64 3, .int .i64 2, .int .i64 0, .int .i64 1, .int .i64 0, .int .i64 1, .int .i64 5]) hG rfl rfl (by decide) exA_ok (by decide) (by decide))
  have H1 := Lib_hid (And.intro hB (And.intro hS hG))
  clear hG hB hS NW
  go_wp2_with fail
  refine AD.out.mono ?_
  rintro e w3 h3
  obtain ⟨_, rfl, S3, hG3, hT3, hS3⟩ | ⟨hno, _⟩ := h3
  case inr => exact absurd ex_ok hno
  rw [ex_add] at hG3 ⊢
  have hB3 : Below w.heap.size w w3 := by
    have b2 := H1.out.1.alloc H1.out.1.size (.cells #[.int .i64 0, .int .i64 1, .int .i64 5, .int .i64 0, .int .i64 1, .int .i64 3, .int .i64 2, .int .i64 0, .int .i64 1, .int .i64 0, .int .i64 1, .int .i64 5] 39)
    exact b2.trans (hT3.below b2.size H1.out.2.1)
  have hS3' : ∀ k, S3 k → w.heap.size ≤ k := fun k hk => by
    have b2 := (H1.out.1.alloc H1.out.1.size (.cells #[.int .i64 0, .int .i64 1, .int .i64 5, .int .i64 0, .int .i64 1, .int .i64 3, .int .i64 2, .int .i64 0, .int .i64 1, .int .i64 0, .int .i64 1, .int .i64 5] 39)).size
    rcases hS3 k hk with h | h
    · exact H1.out.2.1 k h
    · exact Nat.le_trans b2 h
  have AD2 := Lib_hid (add_lit (n := 1) (l := [(0, 3, 0)]) (cs := #[.int .i64 0, .int .i64 3, .int .i64 0]) hG3 rfl rfl (by decide) exB_ok (by decide) (by decide))
  have H3 := Lib_hid (And.intro hB3 (And.intro hS3' hG3))
  rw [show ((exL.length : Int) - (([] : List Ed).length : Int)) = 3 from rfl]
  clear hG3 hB3 hS3 hS3' hT3 AD H1
  go_wp2_with fail
  refine AD2.out.mono ?_
  rintro e w5 h5
  obtain ⟨hno, _⟩ | ⟨_, rfl, S5, hG5, hT5, hS5⟩ := h5
  case inl => exact absurd hno ex_no
  have hB5 : Below w.heap.size w w5 := by
    have b2 := H3.out.1.alloc H3.out.1.size (.cells #[.int .i64 0, .int .i64 3, .int .i64 0] 39)
    exact b2.trans (hT5.below b2.size H3.out.2.1)
  have OU := Lib_hid (pout_any hG5 (by decide) (by decide) 0)
  have H5 := Lib_hid (And.intro hB5 hG5)
  clear hG5 hB5 hS5 hT5 AD2 H3
  rw [ex_out] at OU
  go_wp2_with fail
  refine OU.out.mono ?_
  rintro e w6 ⟨A6, c6, rfl, ho6, hb6⟩
  have IN := Lib_hid (pin_any (H5.out.2.later hb6) (by decide) (by decide) 0)
  rw [ex_in] at IN
  have H6 := Lib_hid (And.intro ho6 hb6)
  clear ho6 hb6 OU
  go_wp2_with fail
  refine IN.out.mono ?_
  rintro e w7 ⟨A7, c7, rfl, ho7, hb7⟩
  have hG7 := (H5.out.2.later H6.out.2).later hb7
  have MA := Lib_hid (pmany_any hG7)
  have NX := Lib_hid (pnext_any hG7 (by decide) (by decide) 0)
  rw [ex_next] at NX
  have ho6' := own_below H6.out.1 hb7 (own_lt H6.out.1)
  obtain ⟨g6, off6, hA6, hg6, _, _, o2⟩ := e_at (i := 0) (Rd.own ho6') (by decide)
  obtain ⟨g7, off7, hA7, hg7, i0, _, _⟩ := e_at (i := 0) (Rd.own ho7) (by decide)
  subst hA6 hA7
  have hf6 : off6 = 0 := by obtain ⟨g, cap, hv⟩ := Joins.ownsRow_form H6.out.1 (by decide); simp at hv; exact hv.1.2
  have hf7 : off7 = 0 := by obtain ⟨g, cap, hv⟩ := Joins.ownsRow_form ho7 (by decide); simp at hv; exact hv.1.2
  subst hf6 hf7
  have H7 := Lib_hid (And.intro (H5.out.1.trans ((H6.out.2.trans (hb7.mono H6.out.2.size)).mono H5.out.1.size)) (And.intro hG7 i0))
  have o2' : w7.cell? ⟨g6, 2, none⟩ = some (.int .i64 3) := o2
  clear ho6' ho7 hb7 hG7 H6 H5 IN o2 i0
  go_wp2_with fail
  refine MA.out.mono ?_
  rintro e w8 ⟨rfl, rfl⟩
  rw [show ((exL.length : Nat) : Int) = 3 from rfl]
  go_wp2_with fail
  refine NX.out.mono ?_
  rintro e w8 ⟨A8, c8, rfl, ho8, hb8⟩
  have SI := Lib_hid (sameZ_any w8.heap.size (w8.heap.size + 1) A8 (some ⟨w8.heap.size, 0, none⟩) 1 1 c8 1 [1] (w8.alloc (.cells #[.int .i64 1] 3)) ((Rd.own ho8).below (below_new w8 _)) (rd_ints [1] #[.int .i64 1] 1 rfl rfl (by decide) _ rfl) (by omega))
  have H8 := Lib_hid (And.intro hb8 (below_new w8 (.cells #[.int .i64 1] 3)))
  have hg7' : g7 < w7.heap.size := hg7
  have HG7 := Lib_hid hg7'
  clear ho8 hb8 NX MA o2'
  go_wp2_with fail
  refine SI.out.mono ?_
  rintro e w9 ⟨rfl, q, rfl⟩
  have hb9 : Below w7.heap.size w7 ((w8.alloc (.cells #[.int .i64 1] 3)).drewN q) := below_drew_ (H8.out.1.trans (H8.out.2.mono H8.out.1.size))
  have j0 : ((w8.alloc (.cells #[.int .i64 1] 3)).drewN q).cell? ⟨g7, 0, none⟩ = some (.int .i64 2) := (hb9.cell (p := ⟨g7, 0, none⟩) HG7.out).trans H7.out.2.2
  have hG9 := H7.out.2.1.later hb9
  have HB9 := Lib_hid (And.intro (H7.out.1.trans (hb9.mono H7.out.1.size)) hG9)
  clear hb9 hG9 SI H8
  generalize (w8.alloc (.cells #[.int .i64 1] 3)).drewN q = w9 at *
  have ON := Lib_hid (only_lit (n := 2) (l := [0, 2]) (cs := #[.int .i64 0, .int .i64 2]) HB9.out.2 rfl rfl (by decide) (by decide) (by decide))
  rw [ex_only] at ON
  go_wp2_with fail
  refine ON.out.mono ?_
  rintro e w10 ⟨p2, S2, rfl, hG10, hb10, _⟩
  have ED := Lib_hid (pedges_any hG10 (by decide) (by decide))
  have H10 := Lib_hid (HB9.out.1.trans (((below_new w9 (.cells #[.int .i64 0, .int .i64 2] 3)).trans (hb10.mono (below_new w9 (.cells #[.int .i64 0, .int .i64 2] 3)).size)).mono HB9.out.1.size))
  clear hG10 hb10 ON j0
  go_wp2_with fail
  refine ED.out.mono ?_
  rintro e w11 ⟨A11, c11, rfl, ho11, hb11⟩
  have FIN := Lib_hid (H10.out.trans (hb11.mono H10.out.size))
  clear ho11 hb11
  go_wp2
  go_ret
  exact ⟨rfl, FIN.out⟩

end Go.Proofs.Ytopecdkkmbpnbaa
