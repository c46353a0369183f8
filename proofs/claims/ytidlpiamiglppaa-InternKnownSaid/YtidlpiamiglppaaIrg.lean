/-
  The document's Names and Add; the statements' SameInts and same.
-/
import Derived.Test.YtidlpiamiglppaaIrf
import Derived.Deep.Cut
namespace Go.Proofs.Ytidlpiamiglppaa
open Go Go.RowKit
set_option linter.unusedVariables false

theorem rd_pair (w : World) (p : PP) (cs : Array Value) (t : TypeId) (g : Nat) (hg : g = w.heap.size) (hcs : cs.toList = pcell p) : Rd (w.alloc (.cells cs t)) (w.heap.size + 1) 2 (some ⟨g, 0, none⟩) 1 (pc [p]) := by
  subst hg
  have h2 : cs.toList.length = 2 := by rw [hcs]; rfl
  have ho := World.ownsRow_lit (base := w.heap.size) (e := t) (size := 2) w cs 1 (Nat.le_refl _) (by decide) (by simpa using h2)
  rw [hcs] at ho
  exact (Rd.own ho).more (by simp)

def Zs (l : List PP) : Prop := ∀ p ∈ l, p.2 = 0
theorem Zs.at {l : List PP} (h : Zs l) {k : Nat} (hk : k < l.length) : (at0 l k).2 = 0 := h _ (at0_mem hk)

set_option maxRecDepth 100000 in
theorem rnames_any (B n c : Nat) (A : Option Addr) (l : List PP) (w : World) (h : Rd w B 1 A n (uc l)) (hz : Zs l) (hB : B ≤ w.heap.size) (hn : n ≤ 1000000000) :
    Calls Try.prog 12 #[.slice A n c] w (MadeC 50 2 n (pc l) w) := by
  have HL := Lib_hid (rdu_count h)
  have HZ : Hid (∀ k, k < n → (at0 l k).2 = 0) := fun k hk => hz.at (by rw [HL.out]; exact hk)
  have H := fun (W : World) (hW : Below w.heap.size w W) (i : Nat) (hi : i < n) => u_at (h.below (hW.mono hB)) hi
  have HH := Lib_hid H
  clear H h hz
  obtain ⟨i0, hi0, hz0, hz1, hz2⟩ := info_parts Try.infoP
  go_enter Try.func12, Try.ntmps12
  go_wp2
  go_loopw [3, 4] (fun o i wr => ∃ (k c' : Nat) (A' : Option Addr), o = .slice A' k c' ∧ i = .int .i64 k ∧ k ≤ n ∧ wr.ownsRow w.heap.size 50 2 (.slice A' k c') k (pc (l.take k)) ∧ Below w.heap.size w wr) (fun _ i _ => n - (intOf i).toNat)
  case atStart => exact ⟨0, 0, none, rfl, rfl, Nat.zero_le _, own_zero _ _ _ _, Below.refl _ _⟩
  case round =>
    obtain ⟨k, c', A', rfl, rfl, hk, ho, hbw⟩ := hrel
    by_cases hlt : k < n
    · obtain ⟨ad, rfl, hb, c1⟩ := HH.out _ hbw k hlt
      have ht : Hid (l.take (k + 1) = l.take k ++ [((at0 l k).1, 0)]) := by
        have := HZ.out k hlt
        have h1 := take_snoc (l := l) (k := k) (by rw [HL.out]; exact hlt)
        have e : at0 l k = ((at0 l k).1, 0) := Prod.ext rfl this
        unfold Hid
        rw [h1, ← e]
      have hm1 : k + 1 ≤ maxLen := by unfold maxLen; omega
      have hm2 : (k + 1) * 16 ≤ 140737488355328 := by omega
      have hbs := hbw.size
      have ho1 := own_below ho (below_new wr (.cells #[.int .u64 ((at0 l k).1 : Int), .int .u64 0] 50)) (own_lt ho)
      have hr1 := rd_pair wr ((at0 l k).1, 0) #[.int .u64 ((at0 l k).1 : Int), .int .u64 0] 50 _ rfl rfl
      have hb1 := hbw.alloc hbs (.cells #[.int .u64 ((at0 l k).1 : Int), .int .u64 0] 50)
      have hbs2 : w.heap.size ≤ wr.heap.size + 1 := by omega
      clear ho
      generalize (at0 l k).1 = x at *
      go_wp2_with (at_builtin; (refine wpList_app rfl _ _ 32 rfl w.heap.size 50 i0 (.agg #[.int .u64 0, .int .u64 0]) 2 16 Try.underlying32 hi0 hz0 hz1 hz2 rfl (by decide) _ k _ rfl ho1 (wr.heap.size + 1) (some ⟨wr.heap.size, 0, none⟩) 1 1 (pc [(x, 0)]) rfl hr1 (pc_one _) hm1 hm2 (by simpa using hbs2) ?_); intro v' w6 hown6 hst; obtain ⟨Aw6, cw6, rfl, _⟩ := own_form hown6)
      rw [← pc_append, ← ht.out] at hown6
      have hbw6 := hb1.grown hst.grow hb1.size (own_ge ho1)
      clear ho1 hr1 hst hb1 c1
      go_roundw
      case rel => exact ⟨k + 1, cw6, Aw6, rfl, by go_num, by omega, hown6, hbw6⟩
      case measure => simp [intOf]; omega
    · obtain rfl : k = n := by omega
      have e : l.take k = l := List.take_of_length_le (by rw [HL.out]; exact Nat.le_refl _)
      rw [e] at ho
      clear e
      go_wp2
      go_ret
      exact ⟨A', c', rfl, ho, hbw⟩

/-- How the document's Add ends. -/
def RaddEnd (l xs : List PP) (w : World) (e : Ending) (w' : World) : Prop :=
  ∃ A c, e = .returned (.tuple #[.slice A (addL l xs).length c, .int .i64 (lastP l xs)]) ∧ w'.ownsRow w.heap.size 50 2 (.slice A (addL l xs).length c) (addL l xs).length (pc (addL l xs)) ∧ Below w.heap.size w w'

set_option maxRecDepth 100000 in
set_option maxHeartbeats 800000 in
theorem radd_any (B B' n n' c c' : Nat) (A A' : Option Addr) (l xs : List PP) (w : World) (h : Rd w B 2 A n (pc l)) (h' : Rd w B' 2 A' n' (pc xs)) (hB : B ≤ w.heap.size) (hB' : B' ≤ w.heap.size) (hn : n + n' ≤ 1000000000) :
    Calls Try.prog 11 #[.slice A n c, .slice A' n' c'] w (RaddEnd l xs w) := by
  have HN := Lib_hid (rdp_count h')
  have HNN := Lib_hid (rdp_count h)
  have H' := fun (W : World) (hW : Below w.heap.size w W) (i : Nat) (hi : i < n') => p_at (h'.below (hW.mono hB')) hi
  have HH' := Lib_hid H'
  have hr0 := (h.more hB)
  clear H' h' h
  obtain ⟨i0, hi0, hz0, hz1, hz2⟩ := info_parts Try.infoP
  have hon := own_zero w w.heap.size 50 2
  have hm1 : 0 + n ≤ maxLen := by unfold maxLen; omega
  have hm2 : (0 + n) * 16 ≤ 140737488355328 := by omega
  go_enter Try.func11, Try.ntmps11
  go_upto_region 3 with (at_builtin; (refine wpList_app rfl _ _ 32 rfl w.heap.size 50 i0 (.agg #[.int .u64 0, .int .u64 0]) 2 16 Try.underlying32 hi0 hz0 hz1 hz2 rfl (by decide) (.slice none 0 0) 0 [] rfl hon w.heap.size A n c (pc l) rfl hr0 (pc_one _) hm1 hm2 (Nat.le_refl _) ?_); intro v' w6 hown6 hst; obtain ⟨Aw6, cw6, rfl, _⟩ := own_form hown6)
  simp only [Nat.zero_add, List.nil_append] at hown6
  have hb6 := hst.below (Nat.le_refl _) (own_ge hon)
  clear hst hon hr0
  have hlen := HNN.out
  have HL : Hid (∀ k, k ≤ n' → (addL l (xs.take k)).length ≤ n + k) := fun k hk => by
    have := addL_len l (xs.take k)
    rw [List.length_take] at this; omega
  go_wp2
  go_loopw [6, 7, 8] (fun o la i wr => ∃ (k m c2 : Nat) (A2 : Option Addr), o = .slice A2 m c2 ∧ la = .int .i64 (lastP l (xs.take k)) ∧ i = .int .i64 k ∧ k ≤ n' ∧ m = (addL l (xs.take k)).length ∧ wr.ownsRow w.heap.size 50 2 (.slice A2 m c2) m (pc (addL l (xs.take k))) ∧ Below w.heap.size w wr) (fun _ _ i _ => n' - (intOf i).toNat)
  case atStart => exact ⟨0, n, cw6, Aw6, rfl, rfl, rfl, Nat.zero_le _, hlen.symm, hown6, hb6⟩
  case round =>
    clear hown6 hb6
    obtain ⟨k, m, c2, A2, rfl, rfl, rfl, hk, hm, ho, hbw⟩ := hrel
    by_cases hlt : k < n'
    · have hbs := hbw.size
      obtain ⟨b, off, rfl, hb, c1, c3⟩ := HH'.out _ hbw k hlt
      have hxl : k < xs.length := by rw [HN.out]; exact hlt
      have hL := HL.out k hk
      have AT := Lib_hid (addL_take l hxl)
      have LT := Lib_hid (lastP_take l hxl)
      have HM := Lib_hid hm
      have F := rfind_any wr.heap.size m c2 A2 (addL l (xs.take k)) (at0 xs k) wr (Rd.own ho) (Nat.le_refl _) (by omega)
      clear hL
      generalize at0 xs k = p at *
      by_cases hp : p ∈ addL l (xs.take k)
      · rw [show fv (addL l (xs.take k)) p = .tuple #[.int .i64 ((addL l (xs.take k)).idxOf p : Int), .bool true] by unfold fv hasP; rw [numP_old hp, decide_eq_true hp]] at F
        have e1 : Hid (addL l (xs.take (k + 1)) = addL l (xs.take k)) := by unfold Hid; rw [AT.out, addP_old hp]
        have e2 : Hid (lastP l (xs.take (k + 1)) = ((addL l (xs.take k)).idxOf p : Int)) := by unfold Hid; rw [LT.out, addP_old hp]
        have HO := Lib_hid ho
        clear hm ho hp
        generalize addL l (xs.take k) = out at *
        generalize lastP l (xs.take k) = last at *
        generalize out.idxOf p = q at *
        go_wp2_with fail
        refine F.mono ?_
        rintro e w2 ⟨rfl, hb2⟩
        have ho2 := own_below HO.out hb2 (own_lt HO.out)
        have hbw2 := hbw.trans (hb2.mono hbs)
        clear F HH'
        go_wp2
        go_roundw
        case rel => exact ⟨k + 1, m, c2, A2, rfl, by rw [e2.out], by go_num, by omega, by rw [e1.out]; exact HM.out, by rw [e1.out]; exact ho2, hbw2⟩
        case measure => simp [intOf]; omega
      · rw [show fv (addL l (xs.take k)) p = .tuple #[.int .i64 0, .bool false] by unfold fv hasP; rw [numP_new hp, decide_eq_false hp]; rfl] at F
        have e1 : Hid (addL l (xs.take (k + 1)) = addL l (xs.take k) ++ [p]) := by unfold Hid; rw [AT.out, addP_new hp]
        have e2 : Hid (lastP l (xs.take (k + 1)) = (m : Int)) := by unfold Hid; rw [LT.out, addP_new hp, idx_new hp, hm]
        have hmb : m ≤ 1000000000 := by have := HL.out k hk; omega
        have HO := Lib_hid ho
        clear hm ho hp
        generalize addL l (xs.take k) = out at *
        generalize lastP l (xs.take k) = last at *
        go_wp2_with fail
        refine F.mono ?_
        rintro e w2 ⟨rfl, hb2⟩
        have ho2 := own_below HO.out hb2 (own_lt HO.out)
        have hbw2 := hbw.trans (hb2.mono hbs)
        have hbs2 := hbw2.size
        have c1' := (hb2.cell (p := ⟨b, off + k * 2, none⟩) (by show b < _; omega)).trans c1
        have c3' := (hb2.cell (p := ⟨b, off + k * 2 + 1, none⟩) (by show b < _; omega)).trans c3
        have ho3 := own_below ho2 (below_new w2 (.cells #[.int .u64 (p.1 : Int), .int .u64 (p.2 : Int)] 50)) (own_lt ho2)
        have hr3 := rd_pair w2 p #[.int .u64 (p.1 : Int), .int .u64 (p.2 : Int)] 50 _ rfl rfl
        have hb3 := hbw2.alloc hbs2 (.cells #[.int .u64 (p.1 : Int), .int .u64 (p.2 : Int)] 50)
        have hbs3 : w.heap.size ≤ w2.heap.size + 1 := by omega
        have hm1 : m + 1 ≤ maxLen := by unfold maxLen; omega
        have hm2 : (m + 1) * 16 ≤ 140737488355328 := by omega
        have hbl : b < w2.heap.size := by omega
        clear F HH' c1 c3 ho2
        go_wp2_with (at_builtin; (refine wpList_app rfl _ _ 32 rfl w.heap.size 50 i0 (.agg #[.int .u64 0, .int .u64 0]) 2 16 Try.underlying32 hi0 hz0 hz1 hz2 rfl (by decide) _ m _ rfl ho3 (w2.heap.size + 1) (some ⟨w2.heap.size, 0, none⟩) 1 1 (pc [p]) rfl hr3 (pc_one _) hm1 hm2 (by simpa using hbs3) ?_); intro v' w7 hown7 hst; obtain ⟨Aw7, cw7, rfl, _⟩ := own_form hown7)
        rw [← pc_append, ← e1.out] at hown7
        have hbw7 := hb3.grown hst.grow hb3.size (own_ge ho3)
        clear ho3 hr3 hst hb3
        go_roundw
        case rel => exact ⟨k + 1, m + 1, cw7, Aw7, rfl, by rw [e2.out], by go_num, by omega, by rw [e1.out, List.length_append, ← HM.out]; rfl, hown7, hbw7⟩
        case measure => simp [intOf]; omega
    · obtain rfl : k = n' := by omega
      have e : xs.take k = xs := List.take_of_length_le (by rw [HN.out]; exact Nat.le_refl _)
      rw [e] at ho hm ⊢
      subst hm
      clear e
      go_wp2
      go_ret2
      exact ⟨A2, c2, rfl, ho, hbw⟩

end Go.Proofs.Ytidlpiamiglppaa
