/-
  Layer 13: the document's order of edges, Has, with.
-/
import Derived.Test.YtopecdkkmbpnbaaGgd
import Derived.Deep.RegionHeld3
namespace Go.Proofs.Ytopecdkkmbpnbaa
open Go Go.RowKit Go.Maps
set_option linter.unusedVariables false

theorem cmpE_eq {a b : Ed} (h : a = b) : cmpE a b = 0 := cmpE_zero.2 h
theorem cmpE_lt {a b : Ed} (h : ltE a b) : cmpE a b = -1 := if_pos h
theorem cmpE_gt {a b : Ed} (h : ¬ ltE a b) (hne : a ≠ b) : cmpE a b = 1 := by
  unfold cmpE
  rw [if_neg h, if_pos]
  by_cases k : ltE b a
  · exact k
  · exact absurd (ltE_total h k) hne

set_option maxRecDepth 100000 in
set_option maxHeartbeats 1600000 in
theorem rcmp_any (a b : Ed) (w : World) : Calls Try.prog 29 #[eV a, eV b] w fun e w' => e = .returned (.int .i64 (cmpE a b)) ∧ Below w.heap.size w w' := by
  have HB := Lib_hid ((below_new w (.cells #[.int .i64 a.1, .int .i64 a.2.1, .int .i64 a.2.2] 48)).alloc (below_new w (.cells #[.int .i64 a.1, .int .i64 a.2.1, .int .i64 a.2.2] 48)).size (.cells #[.int .i64 b.1, .int .i64 b.2.1, .int .i64 b.2.2] 48))
  have E1 : ∀ W : World, (binOp .eql 48 (.agg #[.int .i64 a.1, .int .i64 a.2.1, .int .i64 a.2.2]) (.agg #[.int .i64 b.1, .int .i64 b.2.1, .int .i64 b.2.2])).run Try.prog W = .ok (.bool (decide (a = b))) W := fun W => eql_dd a b W
  unfold eV
  by_cases hab : a = b
  · rw [cmpE_eq hab]
    rw [decide_eq_true hab] at E1
    clear hab
    generalize a.1 = a1 at *
    generalize a.2.1 = a2 at *
    generalize a.2.2 = a3 at *
    generalize b.1 = b1 at *
    generalize b.2.1 = b2 at *
    generalize b.2.2 = b3 at *
    go_enter Try.func29, Try.ntmps29
    go_wp2
    go_ret
    exact ⟨rfl, HB.out⟩
  · rw [decide_eq_false hab] at E1
    by_cases h1 : a.1 < b.1
    · rw [cmpE_lt (.inl h1)]
      have d1 : decide (a.1 < b.1) = true := decide_eq_true h1
      clear hab h1
      generalize a.1 = a1 at *
      generalize a.2.1 = a2 at *
      generalize a.2.2 = a3 at *
      generalize b.1 = b1 at *
      generalize b.2.1 = b2 at *
      generalize b.2.2 = b3 at *
      go_enter Try.func29, Try.ntmps29
      go_wp2
      go_ret
      exact ⟨rfl, HB.out⟩
    · by_cases h2 : a.1 = b.1
      · by_cases h3 : a.2.1 < b.2.1
        · rw [cmpE_lt (show ltE a b by unfold ltE; omega)]
          have d1 : decide (a.1 < b.1) = false := decide_eq_false h1
          have d2 : (a.1 == b.1) = true := by simpa using h2
          have d3 : decide (a.2.1 < b.2.1) = true := decide_eq_true h3
          clear hab h1 h2 h3
          generalize a.1 = a1 at *
          generalize a.2.1 = a2 at *
          generalize a.2.2 = a3 at *
          generalize b.1 = b1 at *
          generalize b.2.1 = b2 at *
          generalize b.2.2 = b3 at *
          go_enter Try.func29, Try.ntmps29
          go_wp2
          go_ret
          exact ⟨rfl, HB.out⟩
        · by_cases h4 : a.2.1 = b.2.1
          · have d1 : decide (a.1 < b.1) = false := decide_eq_false h1
            have d2 : (a.1 == b.1) = true := by simpa using h2
            have d3 : decide (a.2.1 < b.2.1) = false := decide_eq_false h3
            have d4 : (a.2.1 == b.2.1) = true := by simpa using h4
            by_cases h5 : a.2.2 < b.2.2
            · rw [cmpE_lt (show ltE a b by unfold ltE; omega)]
              have d5 : decide (a.2.2 < b.2.2) = true := decide_eq_true h5
              clear hab h1 h2 h3 h4 h5
              generalize a.1 = a1 at *
              generalize a.2.1 = a2 at *
              generalize a.2.2 = a3 at *
              generalize b.1 = b1 at *
              generalize b.2.1 = b2 at *
              generalize b.2.2 = b3 at *
              go_enter Try.func29, Try.ntmps29
              go_wp2
              go_ret
              exact ⟨rfl, HB.out⟩
            · rw [cmpE_gt (show ¬ ltE a b by unfold ltE; omega) hab]
              have d5 : decide (a.2.2 < b.2.2) = false := decide_eq_false h5
              clear hab h1 h2 h3 h4 h5
              generalize a.1 = a1 at *
              generalize a.2.1 = a2 at *
              generalize a.2.2 = a3 at *
              generalize b.1 = b1 at *
              generalize b.2.1 = b2 at *
              generalize b.2.2 = b3 at *
              go_enter Try.func29, Try.ntmps29
              go_wp2
              go_ret
              exact ⟨rfl, HB.out⟩
          · rw [cmpE_gt (show ¬ ltE a b by unfold ltE; omega) hab]
            have d1 : decide (a.1 < b.1) = false := decide_eq_false h1
            have d2 : (a.1 == b.1) = true := by simpa using h2
            have d3 : decide (a.2.1 < b.2.1) = false := decide_eq_false h3
            have d4 : (a.2.1 == b.2.1) = false := by simpa using h4
            clear hab h1 h2 h3 h4
            generalize a.1 = a1 at *
            generalize a.2.1 = a2 at *
            generalize a.2.2 = a3 at *
            generalize b.1 = b1 at *
            generalize b.2.1 = b2 at *
            generalize b.2.2 = b3 at *
            go_enter Try.func29, Try.ntmps29
            go_wp2
            go_ret
            exact ⟨rfl, HB.out⟩
      · rw [cmpE_gt (show ¬ ltE a b by unfold ltE; omega) hab]
        have d1 : decide (a.1 < b.1) = false := decide_eq_false h1
        have d2 : (a.1 == b.1) = false := by simpa using h2
        clear hab h1 h2
        generalize a.1 = a1 at *
        generalize a.2.1 = a2 at *
        generalize a.2.2 = a3 at *
        generalize b.1 = b1 at *
        generalize b.2.1 = b2 at *
        generalize b.2.2 = b3 at *
        go_enter Try.func29, Try.ntmps29
        go_wp2
        go_ret
        exact ⟨rfl, HB.out⟩

set_option maxRecDepth 100000 in
set_option maxHeartbeats 1600000 in
theorem rhas_any {w : World} {B n c : Nat} {A : Option Addr} {L : List Ed} (N : Int) (h : Rd w B 3 A n (ec L)) (hB : B ≤ w.heap.size) (hn : n ≤ 1000000000) (e : Ed) :
    Calls Try.prog 40 #[.agg #[.int .i64 N, .slice A n c], eV e] w fun r w' => r = .returned (.bool (decide (e ∈ L))) ∧ Below w.heap.size w w' := by
  have HC := Lib_hid (rde_count h)
  have HI := Lib_hid (fun (W : World) (hW : Below w.heap.size w W) (i : Nat) (hi : i < n) => e_at (h.below (hW.mono hB)) hi)
  have HT : Hid (∀ i, i < n → (e ∈ L.take (i + 1) ↔ e ∈ L.take i ∨ at3 L i = e)) := fun i hi => by
    rw [take_snoc3 (by rw [HC.out]; exact hi), List.mem_append, List.mem_singleton]
    exact or_congr_right ⟨Eq.symm, Eq.symm⟩
  have b1 := below_new w (.cells #[.int .i64 N, .slice A n c] 31)
  have hx1 := heap_alloc_new w (.cells #[.int .i64 N, .slice A n c] 31)
  have s1 : (w.alloc (.cells #[.int .i64 N, .slice A n c] 31)).heap.size = w.heap.size + 1 := by simp
  have b2 := below_new (w.alloc (.cells #[.int .i64 N, .slice A n c] 31)) (.cells #[.int .i64 e.1, .int .i64 e.2.1, .int .i64 e.2.2] 48)
  have hx2 := heap_alloc_new (w.alloc (.cells #[.int .i64 N, .slice A n c] 31)) (.cells #[.int .i64 e.1, .int .i64 e.2.1, .int .i64 e.2.2] 48)
  have hx1' := (b2.block w.heap.size (by omega)).trans hx1
  rw [s1] at hx2
  have HB := Lib_hid (b1.trans (b2.mono b1.size))
  have EQ := Lib_hid (fun (x : Ed) (W : World) => eql_dd x e W)
  unfold eV at EQ ⊢
  have HX := Lib_hid (And.intro hx1' hx2)
  clear h b1 hx1 b2 hx2 hx1'
  go_enter Try.func40, Try.ntmps40
  go_wp2
  have hgl : w.heap.size + 1 < ((w.alloc (.cells #[.int .i64 N, .slice A n c] 31)).alloc (.cells #[.int .i64 e.1, .int .i64 e.2.1, .int .i64 e.2.2] 48)).heap.size := by simp
  clear s1
  generalize (w.alloc (.cells #[.int .i64 N, .slice A n c] 31)).alloc (.cells #[.int .i64 e.1, .int .i64 e.2.1, .int .i64 e.2.2] 48) = W at *
  have g0 : W.cell? ⟨w.heap.size, 1, none⟩ = some (.slice A n c) := cell_of_row _ _ 1 _ _ _ HX.out.1
  have x0 : W.cell? ⟨w.heap.size + 1, 0, none⟩ = some (.int .i64 e.1) := cell_of_row _ _ 0 _ _ _ HX.out.2
  have x1 : W.cell? ⟨w.heap.size + 1, 1, none⟩ = some (.int .i64 e.2.1) := cell_of_row _ _ 1 _ _ _ HX.out.2
  have x2 : W.cell? ⟨w.heap.size + 1, 2, none⟩ = some (.int .i64 e.2.2) := cell_of_row _ _ 2 _ _ _ HX.out.2
  go_loopw [5] (fun i wr => ∃ k q : Nat, i = .int .i64 k ∧ k ≤ n ∧ Hid (e ∉ L.take k) ∧ wr = W.drewN q) (fun i _ => n - (intOf i).toNat)
  case atStart => exact ⟨0, 0, rfl, Nat.zero_le _, (by simp [Hid]), rfl⟩
  case round =>
    obtain ⟨k, q, rfl, hk, hno, rfl⟩ := hrel
    by_cases hlt : k < n
    · obtain ⟨b, off, rfl, _, c0, c1, c2⟩ := HI.out W HB.out k hlt
      have E1 := EQ.out (at3 L k)
      by_cases he : at3 L k = e
      · rw [decide_eq_true he] at E1
        have FIN : Hid (decide (e ∈ L) = true) := decide_eq_true (by rw [← he]; exact at3_mem (by rw [HC.out]; exact hlt))
        clear hno he EQ
        generalize (at3 L k).1 = a1 at *
        generalize (at3 L k).2.1 = a2 at *
        generalize (at3 L k).2.2 = a3 at *
        generalize e.1 = e1 at *
        generalize e.2.1 = e2 at *
        generalize e.2.2 = e3 at *
        go_wp2
        go_quiet (fail)
        go_wp2
        go_ret
        exact ⟨by rw [FIN.out]; rfl, below_drew_ (below_drew_ HB.out)⟩
      · rw [decide_eq_false he] at E1
        have hno2 : Hid (e ∉ L.take (k + 1)) := fun hc => by
          rcases (HT.out k hlt).1 hc with h1 | h1
          · exact hno.out h1
          · exact he h1
        clear hno he EQ
        generalize (at3 L k).1 = a1 at *
        generalize (at3 L k).2.1 = a2 at *
        generalize (at3 L k).2.2 = a3 at *
        generalize e.1 = e1 at *
        generalize e.2.1 = e2 at *
        generalize e.2.2 = e3 at *
        go_wp2
        go_quiet (fail)
        go_wp2
        go_roundw
        case rel => exact ⟨k + 1, q + nq, by go_num, by omega, hno2, rfl⟩
        case measure => simp [intOf]; omega
    · obtain rfl : k = n := by omega
      have FIN : Hid (decide (e ∈ L) = false) := decide_eq_false (by
        have := hno.out
        rwa [show L.take k = L from List.take_of_length_le (by rw [HC.out]; exact Nat.le_refl _)] at this)
      go_wp2
      go_ret
      exact ⟨by rw [FIN.out]; rfl, below_drew_ HB.out⟩

/-- An edge laid into a row, from the left. -/
theorem insE_none {e : Ed} : ∀ {l : List Ed}, (∀ x ∈ l, ¬ ltE e x) → insE l e = l ++ [e]
  | [], _ => rfl
  | x :: l, h => by
    unfold insE
    rw [if_neg (h x (List.mem_cons_self ..)), insE_none (l := l) fun y hy => h y (List.mem_cons_of_mem _ hy)]
    rfl
theorem insE_some {e x : Ed} : ∀ {l : List Ed}, (∃ y ∈ l, ltE e y) → insE (l ++ [x]) e = insE l e ++ [x]
  | [], h => by obtain ⟨y, hy, _⟩ := h; cases hy
  | z :: l, h => by
    show insE (z :: (l ++ [x])) e = _
    unfold insE
    by_cases hz : ltE e z
    · rw [if_pos hz, if_pos hz]; rfl
    · rw [if_neg hz, if_neg hz, insE_some (l := l)]
      · rfl
      · obtain ⟨y, hy, hl⟩ := h
        rcases List.mem_cons.1 hy with rfl | hy
        · exact absurd hl hz
        · exact ⟨y, hy, hl⟩
theorem insE_here {e x : Ed} (hx : ltE e x) : ∀ {l : List Ed}, (∀ y ∈ l, ¬ ltE e y) → insE (l ++ [x]) e = l ++ [e] ++ [x]
  | [], _ => by simp [insE, hx]
  | z :: l, h => by
    show insE (z :: (l ++ [x])) e = _
    unfold insE
    rw [if_neg (h z (List.mem_cons_self ..)), insE_here hx (l := l) fun y hy => h y (List.mem_cons_of_mem _ hy)]
    rfl
/-- What the document's with has made of the first k edges. -/
def wiE (L : List Ed) (e : Ed) (k : Nat) : List Ed := if ∃ y ∈ L.take k, ltE e y then insE (L.take k) e else L.take k
def wiD (L : List Ed) (e : Ed) (k : Nat) : Bool := decide (∃ y ∈ L.take k, ltE e y)
theorem wi_zero (L : List Ed) (e : Ed) : wiE L e 0 = [] ∧ wiD L e 0 = false := by simp [wiE, wiD]
theorem wi_done {L : List Ed} {e : Ed} {k : Nat} (hk : k < L.length) (h : wiD L e k = true) : wiE L e (k + 1) = wiE L e k ++ [at3 L k] ∧ wiD L e (k + 1) = true := by
  unfold wiD at h
  have h := of_decide_eq_true h
  have h2 : ∃ y ∈ L.take (k + 1), ltE e y := by
    obtain ⟨y, hy, hl⟩ := h
    exact ⟨y, by rw [take_snoc3 hk]; exact List.mem_append_left _ hy, hl⟩
  unfold wiE wiD
  rw [if_pos h2, if_pos h, take_snoc3 hk, insE_some h]
  rw [take_snoc3 hk] at h2
  exact ⟨rfl, decide_eq_true h2⟩
theorem wi_here {L : List Ed} {e : Ed} {k : Nat} (hk : k < L.length) (h : wiD L e k = false) (hl : ltE e (at3 L k)) : wiE L e (k + 1) = wiE L e k ++ [e] ++ [at3 L k] ∧ wiD L e (k + 1) = true := by
  unfold wiD at h
  have h := of_decide_eq_false h
  have h2 : ∃ y ∈ L.take k ++ [at3 L k], ltE e y := ⟨_, List.mem_append_right _ (List.mem_singleton.2 rfl), hl⟩
  unfold wiE wiD
  rw [take_snoc3 hk, if_pos h2, if_neg h, insE_here hl fun y hy hc => h ⟨y, hy, hc⟩]
  exact ⟨rfl, decide_eq_true h2⟩
theorem wi_not {L : List Ed} {e : Ed} {k : Nat} (hk : k < L.length) (h : wiD L e k = false) (hl : ¬ ltE e (at3 L k)) : wiE L e (k + 1) = wiE L e k ++ [at3 L k] ∧ wiD L e (k + 1) = false := by
  unfold wiD at h
  have h := of_decide_eq_false h
  have h2 : ¬ ∃ y ∈ L.take k ++ [at3 L k], ltE e y := fun ⟨y, hy, hc⟩ => by
    rcases List.mem_append.1 hy with h1 | h1
    · exact h ⟨y, h1, hc⟩
    · rw [List.mem_singleton] at h1; subst h1; exact hl hc
  unfold wiE wiD
  rw [take_snoc3 hk, if_neg h2, if_neg h]
  exact ⟨rfl, decide_eq_false h2⟩
theorem wi_end (L : List Ed) (e : Ed) : insE L e = if wiD L e L.length = true then wiE L e L.length else wiE L e L.length ++ [e] := by
  unfold wiE wiD
  rw [List.take_length]
  by_cases h : ∃ y ∈ L, ltE e y
  · rw [if_pos h, if_pos (decide_eq_true h)]
  · rw [if_neg h, if_neg (by simpa using h), insE_none fun x hx hc => h ⟨x, hx, hc⟩]
theorem wi_len {L : List Ed} {e : Ed} (k : Nat) : (wiE L e k).length ≤ L.length + 1 := by
  unfold wiE
  split
  · rw [len_insE, List.length_take]; omega
  · rw [List.length_take]; omega

end Go.Proofs.Ytopecdkkmbpnbaa
