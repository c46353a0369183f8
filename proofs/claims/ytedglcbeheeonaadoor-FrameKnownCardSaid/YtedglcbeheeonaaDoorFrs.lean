/-
  The document's Get of a frame, where it fits: its bytes, one by one, are those that Put makes, or not.
-/
import Derived.Test.YtedglcbeheeonaaDoorFrr
namespace Go.Proofs.YtedglcbeheeonaaDoor
open Go Go.RowKit
set_option linter.unusedVariables false

/-- A frame that fits is got just if its bytes are those that Put makes. -/
theorem frN_cmp {l : List Nat} {a x y k : Nat} {p : List Nat} (hb : ∀ x ∈ l, x < 256) (ha : a < l.length) (h : getS l ((a + 1 : Nat) : Int) = (x, y, 0)) (h2 : y + 4 + x ≤ l.length) (hp : p = (l.drop y).take x) (hk : k = l.getD a 0) :
    (frS k p).length = y + x + 4 - a ∧ a + 2 ≤ y ∧ frN l a = if eqB (frS k p) ((l.drop a).take (y + x + 4 - a)) = true then .good k p (a + (y + x + 4 - a)) else .bad 3 := by
  have hA := fr_all hb ha h h2
  obtain ⟨hh, hy, hl, _⟩ := fr_head hb ha h h2
  rw [← hp, ← hk] at hA hh
  have hl1 := congrArg List.length hh
  rw [List.length_take, List.length_drop] at hl1
  have hlen : (frS k p).length = y + x + 4 - a := by rw [frS, List.length_append, le4_length, ← hl1]; omega
  refine ⟨hlen, hy, ?_⟩
  cases he : eqB ((l.drop (y + x)).take 4) (le4 (crcN (frB k p))) with
  | true =>
    have he' : (l.drop (y + x)).take 4 = le4 (crcN (frB k p)) := by unfold eqB at he; simpa using he
    have := frN_good h h2 (by rw [← hp, ← hk]; exact he)
    rw [this, ← hp, ← hk, if_pos (by rw [hA, he']; exact eqB_self _), show a + (y + x + 4 - a) = y + x + 4 by omega]
  | false =>
    have he' : ¬ (l.drop (y + x)).take 4 = le4 (crcN (frB k p)) := by unfold eqB at he; simpa using he
    have := frN_bad h h2 (by rw [← hp, ← hk]; exact he)
    rw [this, if_neg (by
      intro e
      unfold eqB at e
      rw [decide_eq_true_iff, hA, frS] at e
      exact he' (List.append_cancel_left e).symm)]

set_option maxRecDepth 100000 in
set_option maxHeartbeats 1600000 in
theorem rgetf_fit (B : Nat) (A : Option Addr) (n c : Nat) (l : List Nat) (a : Nat) (w : World) (hr : Rd w B 1 A n (bs l)) (hb8 : ∀ x ∈ l, x < 256) (hn : n ≤ 1500) (hnc : n ≤ c) (hB : B ≤ w.heap.size) (ha : a < n) (x y : Nat) (hx : getS l ((a + 1 : Nat) : Int) = (x, y, 0)) (hz : y + 4 + x ≤ n) :
    Calls Tryd.prog 20 #[.slice A n c, .int .i64 a] w (RGetEnd (frN l a) w) := by
  have hln : l.length = n := hr.count
  obtain ⟨hhd, hay, hpl, hx64⟩ := fr_head hb8 (by omega) hx (by omega)
  obtain ⟨len, hlen⟩ : ∃ len, len = y + x + 4 - a := ⟨_, rfl⟩
  have hd0 : decide ((a : Int) < 0) = false := by simp
  have hd1 : decide ((n : Int) ≤ (a : Int)) = false := by simp; omega
  have hwr : IntKind.i64.wrap ((a : Int) + 1) = (a : Int) + 1 := IntWalk.i64_in _ (by omega)
  have hwn : IntKind.u64.wrap (n : Int) = (n : Int) := by rw [show IntKind.u64.wrap (n : Int) = (n : Int) % 18446744073709551616 by simp [IntKind.wrap, IntKind.bits, IntKind.signed]]; omega
  have hb0 := below_new w (.cells #[.int .u8 0, .string ⟨#[]⟩] 30)
  have G := rget_any B A n c l ((a : Int) + 1) (w.alloc (.cells #[.int .u8 0, .string ⟨#[]⟩] 30)) (hr.alloc hB _) hb8 (by omega) (Nat.le_trans hB hb0.size)
  rw [show getS l ((a : Int) + 1) = (x, y, 0) from hx] at G
  simp only [tup] at G
  have HG := Lib_hid G
  have hh := heap_alloc_new w (.cells #[.int .u8 0, .string ⟨#[]⟩] 30)
  obtain ⟨t, ht⟩ : ∃ t, t = y + x := ⟨_, rfl⟩
  have hdx : decide ((n : Int) < (x : Int)) = false := by simp; omega
  have hwx : IntKind.i64.wrap (x : Int) = (x : Int) := IntWalk.i64_in _ (by omega)
  have hwy : IntKind.i64.wrap ((y : Int) + (x : Int)) = (t : Int) := by rw [IntWalk.i64_in _ (by omega)]; omega
  have hwz : IntKind.i64.wrap ((t : Int) + 4) = (t : Int) + 4 := IntWalk.i64_in _ (by omega)
  have hdz : decide ((n : Int) < (t : Int) + 4) = false := by simp; omega
  obtain ⟨A4, hs4, r4⟩ := slice_lh (j := y) (k := t) hr (by omega) (by omega) hnc
  rw [← bs_take, ← bs_drop, show (l.take t).drop y = (l.drop y).take x by rw [List.drop_take, show t - y = x by omega]] at r4
  rw [show t - y = x by omega] at hs4 r4
  obtain ⟨ad, rfl, hadB, had⟩ := hr.byte (k := a) ha
  obtain ⟨p, hp⟩ : ∃ p, p = (l.drop y).take x := ⟨_, rfl⟩
  obtain ⟨k, hk⟩ : ∃ k, k = l.getD a 0 := ⟨_, rfl⟩
  rw [← hp] at r4 hpl
  rw [← hk] at had
  have hp8 : ∀ u ∈ p, u < 256 := fun u hu => by rw [hp] at hu; exact hb8 u (List.mem_of_mem_drop (List.mem_of_mem_take hu))
  have hk8 : k < 256 := by
    rw [hk, List.getD_eq_getElem?_getD, List.getElem?_eq_getElem (by omega)]
    exact hb8 _ (List.getElem_mem (by omega))
  have SS : Hid (∀ W : World, (∀ q : Addr, q.block < B → W.cell? q = w.cell? q) → (convert 23 9 (.slice A4 x (c - y))).run Tryd.prog W = .ok (.string (str p)) W) := fun W hW => run_str (r4.keep hW) (rd_none r4)
  have hs4' : ∀ wx, (Instr.slice 23 (.slice (some ad) n c) (some (.int .i64 (y : Int))) (some (.int .i64 ((y : Int) + (x : Int)))) none).run Tryd.prog wx = .ok (.slice A4 x (c - y)) wx := by rw [show (y : Int) + (x : Int) = (t : Int) by omega]; exact hs4
  clear hhd G
  have HX := Lib_hid hx
  have HB := Lib_hid hb8
  have CM := frN_cmp hb8 (by omega) hx (by omega) hp hk
  rw [← hlen] at CM
  obtain ⟨hfl, _, CM⟩ := CM
  have HCM := Lib_hid CM
  have HFL := Lib_hid hfl
  have HLE := Lib_hid hlen
  have HGD : Hid (∀ i, i < len → ((l.drop a).take len).getD i 0 = l.getD (a + i) 0) := fun i hi => by
    simp only [List.getD_eq_getElem?_getD]
    rw [List.getElem?_take_of_lt hi, List.getElem?_drop]
  have HML : Hid (((l.drop a).take len).length = len) := by unfold Hid; rw [List.length_take, List.length_drop]; omega
  have hal : a + len ≤ n := by omega
  have hali : (a : Int) + len ≤ 2000 := by omega
  clear CM hfl hlen
  have HP := Lib_hid hp
  have HK := Lib_hid hk
  obtain ⟨R, hR⟩ : ∃ R, R = frN l a := ⟨_, rfl⟩
  rw [← hR]
  have HR := Lib_hid hR
  clear hx hb8 hp hk hR
  go_enter Tryd.func20, Tryd.ntmps20
  go_wp2_with fail
  refine HG.out.mono ?_
  rintro e w1 ⟨rfl, hbx⟩
  have hh1 := (hbx.block w.heap.size (by simp)).trans hh
  have hbw := hb0.trans (hbx.mono hb0.size)
  have hlt1 : w.heap.size < w1.heap.size := by have := hbx.size; simp at this; omega
  have k1 : ∀ q : Addr, q.block < B → w1.cell? q = w.cell? q := fun q hq => hbw.cell (by omega)
  have hadb : (ad.add a).block < B := by rw [add_block]; exact hadB
  have KP : Hid (∀ W : World, Below w1.heap.size w1 W → W.cell? (ad.add a) = some (.int .u8 (k : Int)) ∧ (convert 23 9 (.slice A4 x (c - y))).run Tryd.prog W = .ok (.string (str p)) W) := fun W hW => ⟨((hW.cell (p := ad.add a) (by have := hbw.size; omega)).trans (k1 _ hadb)).trans had, SS.out W (fun q hq => (hW.cell (by have := hbw.size; omega)).trans (k1 q hq))⟩
  clear SS
  clear hbx hh hb0 HG
  go_upto_region 8 with (fail)
  go_region_held3 (fun W => W.cell? (ad.add a) = some (.int .u8 (k : Int)) ∧ (convert 23 9 (.slice A4 x (c - y))).run Tryd.prog W = .ok (.string (str p)) W) (first | exact KP.out _ (below_like (Below.refl _ _) rfl rfl rfl rfl) | exact KP.out _ (below_like (below_new _ _) rfl rfl rfl rfl) | exact KP.out _ (below_like (below_put2 (below_new _ _) _ _) rfl rfl rfl rfl)) (fail)
  all_goals go_upto_region 9 with (fail)
  all_goals
    have hb9 : Below w.heap.size w (w1.alloc (.cells #[.int .u8 (k : Int), .string (str p)] 30)).drew := below_like (hbw.alloc hbw.size _) rfl rfl rfl rfl
    have g9 : (w1.alloc (.cells #[.int .u8 (k : Int), .string (str p)] 30)).drew.heap[w1.heap.size]? = some (.cells #[.int .u8 (k : Int), .string (str p)] 30 (0, 0)) := heap_alloc_new w1 _
    have h9 : (w1.alloc (.cells #[.int .u8 (k : Int), .string (str p)] 30)).drew.heap[w.heap.size]? = some (.cells #[.int .u8 0, .string ⟨#[]⟩] 30 (0, 0)) := (heap_alloc_old w1 (.cells #[.int .u8 (k : Int), .string (str p)] 30) hlt1).trans hh1
    have hlt9 : w1.heap.size < (w1.alloc (.cells #[.int .u8 (k : Int), .string (str p)] 30)).drew.heap.size := (Array.getElem?_eq_some_iff.1 g9).1
    clear KP hh1 k1 hbw
    generalize (w1.alloc (.cells #[.int .u8 (k : Int), .string (str p)] 30)).drew = W9 at *
    have RP := rfput_any k p W9 hk8 hp8 (by omega)
    have HRP := Lib_hid RP
    have q0 := cell_of_row W9 w1.heap.size 0 _ _ _ g9
    have q1 := cell_of_row W9 w1.heap.size 1 _ _ _ g9
    clear RP
    go_wp2_with fail
    refine HRP.out.mono ?_
    intro e w2 hm
    rw [made_iff] at hm
    obtain ⟨A1, n1, c1, rfl, ho1, hbx⟩ := hm
    obtain rfl : n1 = len := by have := ho1.1; rw [bs_length] at this; have := HFL.out; omega
    have hb2 := hb9.trans (hbx.mono hb9.size)
    have hr2 := hr.below (hb2.mono hB)
    have ho2 := Rd.own ho1
    have hg2 := (hbx.block w1.heap.size hlt9).trans g9
    have hh2 := (hbx.block w.heap.size (by omega)).trans h9
    have d0 : ∀ m, (w2.drewN m).cell? ⟨w1.heap.size, 0, none⟩ = some (.int .u8 (k : Int)) := fun _ => cell_of_row w2 w1.heap.size 0 _ _ _ hg2
    have d1 : ∀ m, (w2.drewN m).cell? ⟨w1.heap.size, 1, none⟩ = some (.string (str p)) := fun _ => cell_of_row w2 w1.heap.size 1 _ _ _ hg2
    have e0 : ∀ m, (w2.drewN m).cell? ⟨w.heap.size, 0, none⟩ = some (.int .u8 0) := fun _ => cell_of_row w2 w.heap.size 0 _ _ _ hh2
    have e1 : ∀ m, (w2.drewN m).cell? ⟨w.heap.size, 1, none⟩ = some (.string ⟨#[]⟩) := fun _ => cell_of_row w2 w.heap.size 1 _ _ _ hh2
    have z0 : ∀ m, (w2.drewN m).frozen? ⟨w.heap.size, 0, none⟩ = false := fun _ => frozen_of_row w2 w.heap.size 0 _ _ hh2
    have z1 : ∀ m, (w2.drewN m).frozen? ⟨w.heap.size, 1, none⟩ = false := fun _ => frozen_of_row w2 w.heap.size 1 _ _ hh2
    have B2 : ∀ m, Below w.heap.size w (w2.drewN m) := fun m => below_like hb2 rfl rfl rfl rfl
    clear HRP q0 q1 hb9 h9 g9 hbx hg2 hh2 ho1 hr r4 had hb2
    go_wp2
    go_loopw [12] (fun i wr => ∃ j q : Nat, i = .int .i64 j ∧ j ≤ n1 ∧ Agree (frS k p) ((l.drop a).take n1) j ∧ wr = w2.drewN q) (fun i _ => n1 - (intOf i).toNat)
    case atStart => exact ⟨0, 0, rfl, Nat.zero_le _, Agree.zero _ _, rfl⟩
    case round =>
      obtain ⟨j, q, rfl, hj, hag, rfl⟩ := hrel
      have hwj : IntKind.i64.wrap ((a : Int) + (j : Int)) = (a : Int) + (j : Int) := IntWalk.i64_in _ (by omega)
      by_cases hlt : j < n1
      · obtain ⟨ad1, rfl, _, b1⟩ := ho2.byte hlt
        obtain ⟨ad2, had2, _, b2⟩ := hr2.byte (k := a + j) (by omega)
        obtain rfl : ad2 = ad := by injection had2 with h; exact h.symm
        have hgd := HGD.out j hlt
        by_cases he : (frS k p).getD j 0 = l.getD (a + j) 0
        · have hag' := hag.succ (he.trans hgd.symm)
          rw [← he] at b2
          clear hag he hgd
          have hd : ((((frS k p).getD j 0 : Nat) : Int) != (((frS k p).getD j 0 : Nat) : Int)) = false := by simp
          generalize (frS k p).getD j 0 = u at *
          go_wp2
          go_quiet (fail)
          go_wp2
          go_roundw
          case rel => exact ⟨j + 1, q + nq, by go_num, by omega, hag', rfl⟩
          case measure => simp [intOf]; omega
        · have hf := eqB_ne (fun e => he (e.trans hgd))
          obtain rfl : R = .bad 3 := by rw [HR.out, HCM.out, if_neg (by rw [hf]; simp)]
          have hne : ((((frS k p).getD j 0 : Nat) : Int) != ((l.getD (a + j) 0 : Nat) : Int)) = true := by rw [bne_iff_ne]; intro e; exact he (by omega)
          clear hag he hgd hf
          generalize (frS k p).getD j 0 = u at *
          generalize l.getD (a + j) 0 = v at *
          go_wp2
          go_quiet (fail)
          go_wp2_with fail
          have F := put2_cells (e0 (q + nq)) (e1 (q + nq)) (.int .u8 0) (.string ⟨#[]⟩)
          exact bodyPost_ret (v := .tuple #[.agg #[.int .u8 0, .string ⟨#[]⟩], .int .i64 0, .int .i64 3]) (by simp [results, Tryd.results20, go_sem, F.1, F.2]) rfl ⟨rfl, below_put2 (B2 _) _ _⟩
      · obtain rfl : j = n1 := by omega
        have hf := (show Agree (frS k p) ((l.drop a).take j) (frS k p).length by rw [HFL.out]; exact hag).all (by rw [HFL.out, HML.out])
        obtain rfl : R = .good k p (a + j) := by rw [HR.out, HCM.out, if_pos hf]
        have hwn2 : IntKind.i64.wrap ((a : Int) + (j : Int)) = (a : Int) + (j : Int) := hwj
        clear hag hf
        go_wp2_with fail
        have F := put2_cells (e0 q) (e1 q) (.int .u8 (k : Int)) (.string (str p))
        exact bodyPost_ret (v := .tuple #[.agg #[.int .u8 (k : Int), .string (str p)], .int .i64 ((a : Int) + (j : Int)), .int .i64 0]) (by simp [results, Tryd.results20, go_sem, F.1, F.2]) rfl ⟨by rw [show ((a + j : Nat) : Int) = (a : Int) + (j : Int) by omega], below_put2 (B2 _) _ _⟩

/-- The contract of the document's Get of a frame. -/
theorem rgetf_any (B : Nat) (A : Option Addr) (n c : Nat) (l : List Nat) (a : Int) (w : World) (hr : Rd w B 1 A n (bs l)) (hb8 : ∀ x ∈ l, x < 256) (hn : n ≤ 1500) (hnc : n ≤ c) (hB : B ≤ w.heap.size) :
    Calls Tryd.prog 20 #[.slice A n c, .int .i64 a] w (RGetEnd (frG l a) w) := by
  have hln : l.length = n := hr.count
  by_cases ho : a < 0 ∨ (n : Int) ≤ a
  · rw [frG_out (by rw [hln]; exact ho)]
    exact rgetf_out A n c a w ho
  · obtain ⟨a, rfl⟩ : ∃ k : Nat, a = k := ⟨a.toNat, by omega⟩
    rw [frG_in (by omega)]
    obtain ⟨⟨x, y, z⟩, hx⟩ : ∃ q, getS l ((a + 1 : Nat) : Int) = q := ⟨_, rfl⟩
    by_cases hz : z = 10 ∨ z = 4 ∨ (z = 0 ∧ n < y + 4 + x)
    · exact rgetf_bad B A n c l a w hr hb8 (by omega) hB (by omega) x y z hx hz
    · have : z = 0 := by
        rcases getS_form hb8 (by omega) hx with h1 | h1 <;> omega
      subst this
      exact rgetf_fit B A n c l a w hr hb8 hn hnc hB (by omega) x y hx (by omega)

end Go.Proofs.YtedglcbeheeonaaDoor
