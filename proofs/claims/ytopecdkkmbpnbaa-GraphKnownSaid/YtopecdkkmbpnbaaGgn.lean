/-
  Layer 13: Copy and Back of the program.
-/
import Derived.Test.YtopecdkkmbpnbaaGgm
import Derived.Test.YtopecdkkmbpnbaaGgh
namespace Go.Proofs.Ytopecdkkmbpnbaa
open Go Go.RowKit Go.Maps
set_option linter.unusedVariables false

theorem addEs_srt {L : List Ed} (h : Srt L) : addEs [] L = L := Srt.uniq (srt_addEs Srt.nil) h fun e => by rw [mem_addEs]; simp
theorem GmIs.eds {w : World} {p N : Nat} {S : Nat → Prop} {L : List Ed} (h : GmIs w p S N L) : EdsIn N L := by
  obtain ⟨m, go, gi, So, Si, R, I, f, tg, hX, hS⟩ := h
  intro e he
  have := hX.pl.node e he
  exact ⟨hX.ok e he, this.1, this.2.1, this.2.2.1, this.2.2.2⟩
theorem GmIs.c0 {w : World} {p N : Nat} {S : Nat → Prop} {L : List Ed} (h : GmIs w p S N L) : w.cell? ⟨p, 0, none⟩ = some (.int .i64 (N : Int)) := by
  obtain ⟨m, go, gi, So, Si, R, I, f, tg, hX, hS⟩ := h
  exact hX.c0

set_option maxRecDepth 100000 in
set_option maxHeartbeats 1600000 in
theorem pcopy_any {w : World} {p N : Nat} {S : Nat → Prop} {L : List Ed} (h : GmIs w p S N L) (hN : N ≤ 65536) (hL : L.length ≤ 1000000) :
    Calls Try.prog 12 #[.pointer (some ⟨p, 0, none⟩)] w (MadeG N L w) := by
  have hd : GmIs w.drew p S N L := h.keep (Nat.le_refl _) fun _ _ _ => rfl
  have ED := Lib_hid (pedges_any hd hN hL)
  have hplt := h.lt p h.sp
  have WI : Hid (∀ (W : World) (A : Option Addr) (c : Nat), W.ownsRow w.drew.heap.size 39 3 (.slice A L.length c) L.length (ec L) → Calls Try.prog 39 #[.int .i64 (N : Int), .slice A L.length c] W (MadeG N L W)) := fun W A c ho => by
    have := pwith_any (B := W.heap.size) (c := c) (Rd.own ho) (Nat.le_refl _) h.eds hN hL
    rw [addEs_srt h.srt] at this
    exact this
  have KS : Hid (∀ V : World, Below w.drew.heap.size w.drew V → V.cell? ⟨p, 0, none⟩ = some (.int .i64 (N : Int))) := fun V hV => (hV.cell (p := ⟨p, 0, none⟩) hplt).trans h.c0
  clear h hd hL
  generalize L.length = n at *
  go_enter Try.func12, Try.ntmps12
  go_upto_region 3 with (fail)
  go_region_held3 (fun V => V.cell? ⟨p, 0, none⟩ = some (.int .i64 (N : Int)))
    (first | exact KS.out _ (Below.refl _ _) | exact KS.out _ hb1 | exact KS.out _ hb12)
    (first | (go_at_call 34; ((with_reducible refine ED.out.mono ?_); rintro r w1 ⟨A, c, rfl, ho1, hb1⟩)) | (go_at_call 39; ((with_reducible refine (WI.out w1 A c ho1).mono ?_); rintro r w2 ⟨p2, S2, rfl, hG2, hb2, hS2⟩; have hb12 := hb1.trans (hb2.mono hb1.size))))
  all_goals
    have FIN : Hid (MadeG N L w (.returned (.pointer (some ⟨p2, 0, none⟩))) w2) := ⟨p2, S2, rfl, hG2, ((Below.refl w.heap.size w).drew).trans hb12, fun k hk => Nat.le_trans hb1.size (hS2 k hk)⟩
    clear hb1 hb2 hb12 ho1 hG2 hS2
    go_wp2
    go_ret
    exact FIN.out

/-- The first k edges turned about. -/
def bkE (L : List Ed) (k : Nat) : List Ed := (L.take k).map swE ++ L.drop k
theorem bkE_len (L : List Ed) (k : Nat) : (bkE L k).length = L.length := by simp [bkE]; omega
theorem bkE_at {L : List Ed} {k : Nat} (h : k < L.length) : at3 (bkE L k) k = at3 L k := by
  have h1 : (bkE L k)[k]? = L[k]? := by
    unfold bkE
    rw [List.getElem?_append_right (by simp; omega)]
    simp [Nat.min_eq_left (Nat.le_of_lt h)]
  have h2 := at3_get (l := bkE L k) (k := k) (by rw [bkE_len]; exact h)
  rw [h1, at3_get h] at h2
  exact (Option.some.inj h2).symm
theorem bkE_succ {L : List Ed} {k : Nat} (h : k < L.length) : (bkE L k).set k (swE (at3 L k)) = bkE L (k + 1) := by
  unfold bkE
  have h1 : ((L.take k).map swE).length = k := by simp; omega
  rw [List.set_append_right _ _ (by omega), h1, Nat.sub_self, take_snoc3 h, List.map_append, List.append_assoc]
  congr 1
  rw [List.drop_eq_getElem_cons h, List.set_cons_zero]
  rfl
theorem bkE_all (L : List Ed) : bkE L L.length = L.map swE := by simp [bkE]
theorem ec_set2 {l : List Ed} {a : Nat} (h : a < l.length) : ((ec l).set (a * 3) (.int .i64 (at3 l a).2.1)).set (a * 3 + 1) (.int .i64 (at3 l a).1) = ec (l.set a (swE (at3 l a))) := by
  rw [← ec_set _ l a h]
  have e : (((ec l).set (a * 3) (.int .i64 (swE (at3 l a)).1)).set (a * 3 + 1) (.int .i64 (swE (at3 l a)).2.1))[a * 3 + 2]? = some (.int .i64 (swE (at3 l a)).2.2) := by
    rw [List.getElem?_set_ne (by omega), List.getElem?_set_ne (by omega), ec_get l a 2 (at3 l a) (at3_get h) (by omega)]
    rfl
  generalize hX : ((ec l).set (a * 3) (.int .i64 (swE (at3 l a)).1)).set (a * 3 + 1) (.int .i64 (swE (at3 l a)).2.1) = X at *
  have : X.set (a * 3 + 2) (.int .i64 (swE (at3 l a)).2.2) = X := by
    obtain ⟨h1, h2⟩ := List.getElem?_eq_some_iff.1 e
    rw [← h2]
    exact List.set_getElem_self h1
  rw [this, ← hX]
  rfl

set_option maxRecDepth 100000 in
set_option maxHeartbeats 1600000 in
theorem pback_any {w : World} {p N : Nat} {S : Nat → Prop} {L : List Ed} (h : GmIs w p S N L) (hN : N ≤ 65536) (hL : L.length ≤ 1000000) :
    Calls Try.prog 24 #[.pointer (some ⟨p, 0, none⟩)] w (MadeG N (backE L) w) := by
  have ED := Lib_hid (pedges_any h hN hL)
  have HG := Lib_hid h
  have HB : Hid (EdsIn N (L.map swE)) := fun e he => by
    obtain ⟨x, hx, rfl⟩ := List.mem_map.1 he
    have := h.eds x hx
    exact ⟨⟨this.1.2.1, this.1.1, this.1.2.2⟩, this.2.2.2.1, this.2.2.2.2, this.2.1, this.2.2.1⟩
  have HN := Lib_hid (And.intro hN hL)
  have HT : Hid (∀ k, k < L.length → at3 (bkE L k) k = at3 L k ∧ (((ec (bkE L k)).set (k * 3) (.int .i64 (at3 L k).2.1)).set (k * 3 + 1) (.int .i64 (at3 L k).1)) = ec (bkE L (k + 1))) := fun k hk => by
    have h1 := bkE_at hk
    refine ⟨h1, ?_⟩
    have h2 := ec_set2 (l := bkE L k) (a := k) (by rw [bkE_len]; exact hk)
    rw [h1] at h2
    rw [h2, bkE_succ hk]
  have HZ : Hid (bkE L 0 = L ∧ bkE L L.length = L.map swE) := ⟨by simp [bkE], bkE_all L⟩
  clear h hL hN
  generalize hn : L.length = n at *
  have HLn := Lib_hid hn
  clear hn
  go_enter Try.func24, Try.ntmps24
  go_wp2_with fail
  refine ED.out.mono ?_
  rintro e w1 ⟨A, c, rfl, ho, hb⟩
  have HO := Lib_hid (And.intro ho hb)
  clear ho hb
  go_wp2
  go_loopw [4, 5, 12] (fun x y i wr => ∃ k : Nat, i = .int .i64 k ∧ k ≤ n ∧ wr.ownsRow w.heap.size 39 3 (.slice A n c) n (ec (bkE L k)) ∧ Below w.heap.size w wr) (fun _ _ i _ => n - (intOf i).toNat)
  case atStart => exact ⟨0, rfl, Nat.zero_le _, by rw [HZ.out.1]; exact HO.out.1, HO.out.2⟩
  case round =>
    obtain ⟨k, rfl, hk, ho, hbw⟩ := hrel
    have hn6 := HN.out.2
    by_cases hlt : k < n
    · obtain ⟨b, off, hA, _, c0, c1, c2⟩ := e_at (Rd.own ho) hlt
      obtain ⟨g, cap, hv⟩ := Joins.ownsRow_form ho (by omega)
      simp only [Value.slice.injEq] at hv
      obtain ⟨hA2, _, rfl⟩ := hv
      rw [hA2] at hA
      simp only [Option.some.injEq, Addr.mk.injEq, and_true] at hA
      obtain ⟨rfl, rfl⟩ := hA
      subst hA2
      obtain ⟨t1, t2⟩ := HT.out k hlt
      rw [t1] at c0 c1 c2
      rw [Nat.zero_add] at c0 c1 c2
      have HT2 := Lib_hid t2
      have hgl := own_lt ho g rfl
      have hgb := own_ge ho g rfl
      have bN := below_new wr (.cells #[.int .i64 (at3 L k).1, .int .i64 (at3 L k).2.1, .int .i64 (at3 L k).2.2] 39)
      have hx := heap_alloc_new wr (.cells #[.int .i64 (at3 L k).1, .int .i64 (at3 L k).2.1, .int .i64 (at3 L k).2.2] 39)
      have ho2 := own_below ho bN (own_lt ho)
      have HB2 := Lib_hid (hbw.trans (bN.mono hbw.size))
      have HO2 := Lib_hid (And.intro ho2 hgb)
      have f0 := ho2.frozenAt (k * 3)
      have f1 := ho2.frozenAt (k * 3 + 1)
      have d0 := (bN.cell (p := ⟨g, k * 3, none⟩) hgl).trans c0
      have d1 := (bN.cell (p := ⟨g, k * 3 + 1, none⟩) hgl).trans c1
      have hki : (k : Int) < (n : Int) := by omega
      have hk0 : (0 : Int) ≤ (k : Int) := by omega
      have hne : g ≠ wr.heap.size := by omega
      clear t1 t2 ho ho2 hbw bN hgb
      generalize (at3 L k).1 = a1 at *
      generalize (at3 L k).2.1 = a2 at *
      generalize (at3 L k).2.2 = a3 at *
      have y0 : (wr.alloc (.cells #[.int .i64 a1, .int .i64 a2, .int .i64 a3] 39)).cell? ⟨wr.heap.size, 0, none⟩ = some (.int .i64 a1) := cell_of_row _ _ 0 _ _ _ hx
      have y1 : (wr.alloc (.cells #[.int .i64 a1, .int .i64 a2, .int .i64 a3] 39)).cell? ⟨wr.heap.size, 1, none⟩ = some (.int .i64 a2) := cell_of_row _ _ 1 _ _ _ hx
      clear hx
      go_wp2
      have hw2 : wr.heap.size < (wr.alloc (.cells #[.int .i64 a1, .int .i64 a2, .int .i64 a3] 39)).heap.size := by simp
      generalize wr.alloc (.cells #[.int .i64 a1, .int .i64 a2, .int .i64 a3] 39) = W at *
      go_region
      all_goals
        have s1 := (HO2.out.1.stored (k * 3) (.int .i64 a2)).1
        have s2 := (s1.stored (k * 3 + 1) (.int .i64 a1)).1
        rw [HT2.out] at s2
        have HS : Hid (_ ∧ Below w.heap.size w ((W.setCell ⟨g, k * 3, none⟩ (.int .i64 a2)).setCell ⟨g, k * 3 + 1, none⟩ (.int .i64 a1)).drew) := ⟨s2, ((HB2.out.setCell (p := ⟨g, k * 3, none⟩) HO2.out.2 _).setCell (p := ⟨g, k * 3 + 1, none⟩) HO2.out.2 _).drew⟩
        clear s1 s2 d0 d1 f0 f1 y0 y1 c0 c1 c2
        go_wp2
        go_roundw
        case rel => exact ⟨k + 1, by go_num, by omega, HS.out.1, HS.out.2⟩
        case measure => simp [intOf]; omega
    · obtain rfl : k = n := by omega
      rw [HZ.out.2] at ho
      have c0 := (HG.out.later hbw).c0
      have WI := Lib_hid (pwith_any (B := wr.heap.size) (c := c) (Rd.own ho) (Nat.le_refl _) HB.out HN.out.1 HN.out.2)
      have HBW := Lib_hid hbw
      clear ho hbw
      go_wp2_with fail
      refine WI.out.mono ?_
      rintro r w2 ⟨p2, S2, rfl, hG2, hb2, hS2⟩
      have FIN : Hid (MadeG N (backE L) w (.returned (.pointer (some ⟨p2, 0, none⟩))) w2) := ⟨p2, S2, rfl, hG2, HBW.out.trans (hb2.mono HBW.out.size), fun k hk => Nat.le_trans HBW.out.size (hS2 k hk)⟩
      clear hG2 hb2 hS2
      go_wp2
      go_ret
      exact FIN.out

end Go.Proofs.Ytopecdkkmbpnbaa
