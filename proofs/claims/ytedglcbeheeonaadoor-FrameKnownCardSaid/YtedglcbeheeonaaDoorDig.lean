/-
  The contract of the document's Digits, for every slice of bytes.
-/
import Derived.Test.YtedglcbeheeonaaDoorHlp
import Derived.Test.YtedglcbeheeonaaDoorCmb
import Derived.Test.YtedglcbeheeonaaDoorZer
namespace Go.Proofs.YtedglcbeheeonaaDoor
open Go Go.RowKit
set_option linter.unusedVariables false

theorem Tryd.infoBool : (Tryd.prog.info? 4).map (fun i => (i.zero, i.size, i.bytes)) = some (some (.bool false), 1, 1) := by kernel_rfl

/-- Digits as cells. -/
def bbs (l : List Bool) : List Value := l.map Value.bool
theorem bbs_length (l : List Bool) : (bbs l).length = l.length := by simp [bbs]
theorem bbs_append (l m : List Bool) : bbs (l ++ m) = bbs l ++ bbs m := by simp [bbs]
theorem bbs_one (l : List Bool) : ∀ u ∈ bbs l, u.oneCell' = true := by
  intro u hu
  obtain ⟨b, _, rfl⟩ := List.mem_map.1 hu
  rfl
theorem Rd.newv (w : World) (v : Value) (t : TypeId) : Rd (w.alloc (.cells #[v] t)) (w.heap.size + 1) 1 (some ⟨w.heap.size, 0, none⟩) 1 [v] :=
  ⟨rfl, fun _ => ⟨_, rfl, by show w.heap.size < _; omega, fun j u hu => by
    match j, hu with
    | 0, hu => simp at hu; subst hu; simp [Addr.add]⟩⟩

theorem digs_next (c k : Nat) (hk : k < 8) : (digs c).take (k + 1) = (digs c).take k ++ [c.testBit k] := by
  rw [List.take_succ_eq_append_getElem (by rw [digs_length]; exact hk)]
  congr 1
  have := digs_get c k
  rw [List.getD_eq_getElem?_getD, List.getElem?_eq_getElem (by rw [digs_length]; exact hk)] at this
  simpa [hk] using this
theorem digits_take_next {l : List Nat} {k : Nat} (h : k < l.length) : digits (l.take (k + 1)) = digits (l.take k) ++ digs (l.getD k 0) := by
  rw [List.take_succ_eq_append_getElem h, digits_append, List.getD_eq_getElem?_getD, List.getElem?_eq_getElem h]
  simp [digits]

set_option maxRecDepth 100000 in
theorem rdigits_any (B : Nat) (A : Option Addr) (n c : Nat) (l : List Nat) (w : World) (hr : Rd w B 1 A n (bs l)) (hb : ∀ x ∈ l, x < 256) (hB : B ≤ w.heap.size) (hn : n ≤ 1000000000) :
    Calls Tryd.prog 35 #[.slice A n c] w fun e w' => ∃ A' c', e = .returned (.slice A' (8 * n) c') ∧ w'.ownsRow w.heap.size 4 1 (.slice A' (8 * n) c') (8 * n) (bbs (digits l)) ∧ Below w.heap.size w w' := by
  have hl := hr.count
  have HL := Lib_hid hl
  have HB := Lib_hid hb
  clear hl hb
  obtain ⟨i0, hi, hz0, hz1, hz2⟩ := info_parts Tryd.infoBool
  go_enter Tryd.func35, Tryd.ntmps35
  go_wp2
  go_loopw [3, 4, 5, 6] (fun v i _ _ wr => ∃ (k n' c' : Nat) (A' : Option Addr), i = .int .i64 k ∧ k ≤ n ∧ n' = 8 * k ∧ v = .slice A' n' c' ∧ wr.ownsRow w.heap.size 4 1 (.slice A' n' c') n' (bbs (digits (l.take k))) ∧ Below w.heap.size w wr) (fun _ i _ _ _ => n - (intOf i).toNat)
  case atStart => exact ⟨0, 0, 0, none, rfl, Nat.zero_le _, rfl, rfl, World.ownsRow_nil _ _ _ _, Below.refl _ _⟩
  case round =>
    obtain ⟨k, n', c', A', rfl, hk, hn', rfl, ho, hbw⟩ := hrel
    by_cases hlt : k < n
    · obtain ⟨ad, rfl, hx, cc⟩ := (hr.below (hbw.mono hB)).byte hlt
      have E1 := Lib_hid (digits_take_next (l := l) (k := k) (by rw [HL.out]; exact hlt))
      have HN := Lib_hid hn'
      clear hn'
      generalize EX : l.getD k 0 = x at *
      have hx256 : x < 256 := by
        rw [← EX, List.getD_eq_getElem?_getD, List.getElem?_eq_getElem (by rw [HL.out]; exact hlt)]
        exact HB.out _ (List.getElem_mem _)
      have HEX := Lib_hid EX
      clear EX
      go_wp2
      go_loopw [3, 5, 6] (fun v y j wq => ∃ (q n2 c2 : Nat) (A2 : Option Addr), j = .int .i64 q ∧ q ≤ 8 ∧ n2 = 8 * k + q ∧ y = .int .u8 ((x / 2 ^ q : Nat) : Int) ∧ v = .slice A2 n2 c2 ∧ wq.ownsRow w.heap.size 4 1 (.slice A2 n2 c2) n2 (bbs (digits (l.take k) ++ (digs x).take q)) ∧ Below w.heap.size w wq) (fun _ _ j _ => 8 - (intOf j).toNat)
      case atStart => exact ⟨0, n', c', A', rfl, by omega, by rw [HN.out]; rfl, by simp, rfl, by simpa using ho, hbw⟩
      case round =>
        obtain ⟨q, n2, c2, A2, rfl, hq, hn2, rfl, rfl, ho2, hbq⟩ := hrel
        by_cases hq8 : q < 8
        · have E2 := Lib_hid (digs_next x q hq8)
          have ey : x / 2 ^ (q + 1) = x / 2 ^ q / 2 := by rw [Nat.pow_succ, Nat.div_div_eq_div_mul]
          have EY := Lib_hid ey
          have et : x.testBit q = decide (x / 2 ^ q % 2 = 1) := by rw [Nat.testBit_eq_decide_div_mod_eq]
          have hyl : x / 2 ^ q ≤ x := Nat.div_le_self _ _
          have hn2' : n2 ≤ 9000000000 := by omega
          have HN2 := Lib_hid hn2
          have hm1 : n2 + 1 ≤ maxLen := by unfold maxLen; omega
          have hm2 : (n2 + 1) * 1 ≤ 140737488355328 := by omega
          have hsB : ∀ o, w.heap.size ≤ (wr.alloc o).heap.size := by intro o; have := hbq.size; simp; omega
          clear ey hn2
          cases hb : x.testBit q with
          | true =>
            have hy : ((x / 2 ^ q : Nat) : Int) % 2 = 1 := by rw [hb] at et; have := of_decide_eq_true et.symm; omega
            have HBT := Lib_hid hb
            clear et hb
            generalize x / 2 ^ q = y at *
            go_wp2_with (at_builtin; (refine wpList_app rfl _ _ 81 rfl w.heap.size 4 i0 (.bool false) 1 1 Tryd.underlying81 hi hz0 hz1 hz2 rfl (by decide) _ n2 _ rfl (ho2.alloc _) (wr.heap.size + 1) (some ⟨wr.heap.size, 0, none⟩) 1 1 (bbs [true]) rfl (Rd.newv wr (.bool true) 4) (bbs_one _) hm1 hm2 (hsB _) ?_); intro v' w2 hown' hst; obtain ⟨A3, c3, rfl, _⟩ := own_form hown')
            have hb2 : Below w.heap.size w w2 := (hbq.alloc hbq.size _).trans (hst.below (hsB _) (own_ge ho2))
            rw [← bbs_append, List.append_assoc, ← HBT.out, ← E2.out] at hown'
            clear hst ho2
            go_wp2
            go_roundw
            case rel => exact ⟨q + 1, n2 + 1, c3, A3, by go_num, by omega, by rw [HN2.out]; omega, by rw [EY.out]; go_num, rfl, hown', hb2⟩
            case measure => simp [intOf]; omega
          | false =>
            have hy : ((x / 2 ^ q : Nat) : Int) % 2 = 0 := by rw [hb] at et; have := of_decide_eq_false et.symm; omega
            have HBT := Lib_hid hb
            clear et hb
            generalize x / 2 ^ q = y at *
            go_wp2_with (at_builtin; (refine wpList_app rfl _ _ 81 rfl w.heap.size 4 i0 (.bool false) 1 1 Tryd.underlying81 hi hz0 hz1 hz2 rfl (by decide) _ n2 _ rfl (ho2.alloc _) (wr.heap.size + 1) (some ⟨wr.heap.size, 0, none⟩) 1 1 (bbs [false]) rfl (Rd.newv wr (.bool false) 4) (bbs_one _) hm1 hm2 (hsB _) ?_); intro v' w2 hown' hst; obtain ⟨A3, c3, rfl, _⟩ := own_form hown')
            have hb2 : Below w.heap.size w w2 := (hbq.alloc hbq.size _).trans (hst.below (hsB _) (own_ge ho2))
            rw [← bbs_append, List.append_assoc, ← HBT.out, ← E2.out] at hown'
            clear hst ho2
            go_wp2
            go_roundw
            case rel => exact ⟨q + 1, n2 + 1, c3, A3, by go_num, by omega, by rw [HN2.out]; omega, by rw [EY.out]; go_num, rfl, hown', hb2⟩
            case measure => simp [intOf]; omega
        · obtain rfl : q = 8 := by omega
          have e8 : (digs x).take 8 = digs x := List.take_of_length_le (by rw [digs_length]; exact Nat.le_refl _)
          rw [e8, ← E1.out] at ho2
          clear e8
          have HN2 := Lib_hid hn2
          clear hn2
          go_wp2
          go_roundw
          case rel => exact ⟨k + 1, n2, c2, A2, by go_num, by omega, by rw [HN2.out]; omega, rfl, ho2, hbq⟩
          case measure => simp [intOf]; omega
    · obtain rfl : k = n := by omega
      have e : l.take k = l := List.take_of_length_le (by rw [HL.out]; exact Nat.le_refl _)
      rw [e] at ho
      subst hn'
      clear e
      go_wp2
      go_ret
      exact ⟨A', c', rfl, ho, hbw⟩

end Go.Proofs.YtedglcbeheeonaaDoor
