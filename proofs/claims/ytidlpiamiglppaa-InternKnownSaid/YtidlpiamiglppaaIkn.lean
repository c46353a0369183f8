/-
  Layer 7: InternKnown.
-/
import Derived.Test.YtidlpiamiglppaaIbk
import Derived.Test.YtidlpiamiglppaaIpf
import Derived.Test.YtidlpiamiglppaaInn
import Derived.WalkLawsBesides
namespace Go.Proofs.Ytidlpiamiglppaa
open Go Go.RowKit Go.Maps
set_option linter.unusedVariables false

section
variable {w w' : World} {S S' : Nat → Prop} {size n : Nat} {A : Option Addr} {xs : List Value}
theorem Rs.turns (h : Rs w S size A n xs) (t : Turns S w w') : Rs w' S size A n xs :=
  ⟨h.len, fun h0 => by
    obtain ⟨ad, rfl, hb, hn, hc⟩ := h.lies h0
    exact ⟨ad, rfl, Nat.lt_of_lt_of_le hb t.size, hn, fun j u hu => (t.cell (by rw [add_block]; exact hb) (by rw [add_block]; exact hn)).trans (hc j u hu)⟩⟩
theorem Rs.mono (h : Rs w S size A n xs) (hs : ∀ k, S' k → S k ∨ w.heap.size ≤ k) : Rs w S' size A n xs :=
  ⟨h.len, fun h0 => by
    obtain ⟨ad, rfl, hb, hn, hc⟩ := h.lies h0
    exact ⟨ad, rfl, hb, fun hk => by
      rcases hs _ hk with h1 | h1
      · exact hn h1
      · omega, hc⟩⟩
theorem Rs.toRd (h : Rs w S size A n xs) : Rd w w.heap.size size A n xs := h.rd (Turns.refl S w)
end

/-- Rows of names, none of which lies in a block of S. -/
structure KRow (w : World) (S : Nat → Prop) (vs : List Value) (ls : List (List PP)) : Prop where
  len : vs.length = ls.length
  row : ∀ j, j < ls.length → ∃ A n c, vs[j]? = some (.slice A n c) ∧ Rs w S 1 A n (uc (ls.getD j [])) ∧ (Us (ls.getD j []) ∧ Zs (ls.getD j [])) ∧ n ≤ c ∧ c ≤ 9223372036854775807
section
variable {w w' : World} {S S' : Nat → Prop} {vs : List Value} {ls : List (List PP)}
theorem KRow.nil (w : World) (S : Nat → Prop) : KRow w S [] [] := ⟨rfl, fun j hj => by simp at hj⟩
theorem KRow.turns (h : KRow w S vs ls) (t : Turns S w w') : KRow w' S vs ls := ⟨h.len, fun j hj => by
  obtain ⟨A, n, c, h1, h2, h3⟩ := h.row j hj
  exact ⟨A, n, c, h1, h2.turns t, h3⟩⟩
theorem KRow.mono (h : KRow w S vs ls) (hs : ∀ k, S' k → S k ∨ w.heap.size ≤ k) : KRow w S' vs ls := ⟨h.len, fun j hj => by
  obtain ⟨A, n, c, h1, h2, h3⟩ := h.row j hj
  exact ⟨A, n, c, h1, h2.mono hs, h3⟩⟩
theorem KRow.nws (h : KRow w S vs ls) : Nws w w.heap.size vs ls := ⟨h.len, fun j hj => by
  obtain ⟨A, n, c, h1, h2, h3⟩ := h.row j hj
  exact ⟨A, n, c, h1, h2.toRd, h3⟩⟩
theorem KRow.push (h : KRow w S vs ls) {A : Option Addr} {n c : Nat} {l : List PP} (hr : Rs w S 1 A n (uc l)) (hu : Us l ∧ Zs l) (hc : n ≤ c ∧ c ≤ 9223372036854775807) : KRow w S (vs ++ [.slice A n c]) (ls ++ [l]) :=
  ⟨by simp [h.len], fun j hj => by
    rcases Nat.lt_or_ge j ls.length with h1 | h1
    · obtain ⟨A', n', c', g1, g2, g3⟩ := h.row j h1
      rw [List.getD_eq_getElem?_getD, List.getElem?_append_left h1, ← List.getD_eq_getElem?_getD]
      exact ⟨A', n', c', by rw [List.getElem?_append_left (by rw [h.len]; exact h1)]; exact g1, g2, g3⟩
    · have e : j = ls.length := by simp at hj; omega
      subst e
      have e2 : (ls ++ [l]).getD ls.length [] = l := by rw [List.getD_eq_getElem?_getD]; simp
      rw [e2]
      exact ⟨A, n, c, by rw [← h.len]; simp, hr, hu, hc⟩⟩
end

theorem sl_new (w : World) (v : Value) (hv : v.oneCell' = true) (t : TypeId) : Rd (w.alloc (.cells #[v] t)) (w.heap.size + 1) 1 (some ⟨w.heap.size, 0, none⟩) 1 [v] :=
  ⟨rfl, fun _ => ⟨_, rfl, by simp, fun j u hu => by
    match j, hu with
    | 0, hu => simp at hu; subst hu; simp [Addr.add]⟩⟩

theorem Try.infoS : (Try.prog.info? 26).map (fun i => (i.zero, i.size, i.bytes)) = some (some (.slice none 0 0), 1, 24) := by kernel_rfl

theorem pc_new2 (w : World) (z1 z2 : Int) (q : PP) (h1 : z1 = (q.1 : Int)) (h2 : z2 = (q.2 : Int)) (t : TypeId) : Rd (w.alloc (.cells #[.int .u64 z1, .int .u64 z2] t)) (w.heap.size + 1) 2 (some ⟨w.heap.size, 0, none⟩) 1 (pc [q]) := by
  subst h1 h2
  exact rd_pair w q _ t _ rfl rfl

theorem mul_cast (a b : Nat) (z : Int) (h : (b : Int) = z) : ((a * b : Nat) : Int) = (a : Int) * z := by rw [← h]; exact Int.natCast_mul a b
theorem kb_lt {k : Nat} (h : k < 100003) : k * 1048576 < 18446744073709551616 := by omega
theorem jb_lt {j : Nat} (h : j < 60) : j * 1125899906842624 < 18446744073709551616 := by omega
theorem jx_lt {j : Nat} (h : j < 60) : j < 18446744073709551616 := by omega
theorem pc_take (l : List PP) : ∀ k : Nat, (pc l).take (k * 2) = pc (l.take k) := by
  induction l with
  | nil => intro k; simp [pc]
  | cons x l ih =>
    intro k
    cases k with
    | zero => simp [pc]
    | succ k =>
      have e : pc (x :: l) = .int .u64 (x.1 : Int) :: .int .u64 (x.2 : Int) :: pc l := rfl
      rw [e, List.take_succ_cons, show (k + 1) * 2 = k * 2 + 1 + 1 by omega, List.take_succ_cons, List.take_succ_cons, ih k]
      rfl

/-- A number as one below 2^64. -/
theorem wrap_nat (z : Int) : ∃ v : Nat, v < 18446744073709551616 ∧ IntKind.u64.wrap z = (v : Int) := by
  rw [IntKind.wrap_u64]
  exact ⟨(z % 18446744073709551616).toNat, by omega, by omega⟩

set_option maxRecDepth 100000 in
set_option maxHeartbeats 4000000 in
theorem iknown_any (w : World) : Calls Try.prog 7 #[] w fun e w' => e = .returned (.bool true) ∧ Below w.heap.size w w' := by
  obtain ⟨iu, hiu, hzu0, hzu1, hzu2⟩ := info_parts Try.infoU
  obtain ⟨iq, hiq, hzq0, hzq1, hzq2⟩ := info_parts Try.infoQ
  obtain ⟨is, his, hzs0, hzs1, hzs2⟩ := info_parts Try.infoS
  go_enter Try.func7, Try.ntmps7
  go_wp2
  go_loopw [1, 2] (fun a i wr => ∃ k j : Nat, a = .int .i64 k ∧ i = .int .i64 j ∧ k < 100003 ∧ j ≤ 60 ∧ Hid (Below w.heap.size w wr)) (fun _ i _ => 60 - (intOf i).toNat)
  case atStart => exact ⟨1, 0, rfl, rfl, by omega, by omega, Below.refl _ _⟩
  case round =>
    obtain ⟨k0, j, rfl, rfl, hk0, hj, hB⟩ := hrel
    rename World => w1
    by_cases hlt : j < 60
    · have hdi : decide ((j : Int) < 60) = true := decide_eq_true (by omega)
      go_wp2
      go_loopw [1, 3, 4, 5] (fun a v3 v4 b W => ∃ (k nn np c3 c4 : Nat) (A3 A4 : Option Addr) (vs : List Value) (ls : List (List PP)) (lp : List PP), a = .int .i64 k ∧ v3 = .slice A3 nn c3 ∧ v4 = .slice A4 np c4 ∧ b = .int .i64 nn ∧ k < 100003 ∧ nn ≤ j % 6 ∧ np ≤ 8 * nn ∧
        Hid (W.ownsRow w1.heap.size 26 1 (.slice A3 nn c3) nn vs) ∧ Hid (W.ownsRow w1.heap.size 59 2 (.slice A4 np c4) np (pc lp)) ∧ Hid (KRow W (fun x => ob A3 = some x ∨ ob A4 = some x) vs ls) ∧ Hid (Us lp) ∧ Hid (∀ x, ob A3 = some x → ob A4 ≠ some x) ∧ Hid (Below w1.heap.size w1 W)) (fun _ _ _ b _ => j % 6 - (intOf b).toNat)
      case atStart => exact ⟨k0, 0, 0, 0, 0, none, none, [], [], [], rfl, rfl, rfl, rfl, hk0, Nat.zero_le _, Nat.le_refl _, own_zero _ _ _ _, own_zero _ _ _ _, KRow.nil _ _, (by intro q hq; cases hq), (fun x hx => by cases hx), Below.refl _ _⟩
      case round =>
        obtain ⟨k1, nn, np, c3, c4, A3, A4, vs, ls, lp, rfl, rfl, rfl, rfl, hk1, hnn, hnp, h3, h4, hK, hU, hD, hB2⟩ := hrel
        rename World => w2
        by_cases hnl : nn < j % 6
        · have hdn : decide ((nn : Int) < (j : Int) % 6) = true := decide_eq_true (by omega)
          have hn5 : nn < 6 := by omega
          have hcp3 := own_cap h3.out
          have hcp4 := own_cap h4.out
          go_wp2
          go_loopw [1, 4, 6, 7] (fun a v4 v6 b W => ∃ (k np' m c4' c6 : Nat) (A4' A6 : Option Addr) (lp' lr : List PP), a = .int .i64 k ∧ v4 = .slice A4' np' c4' ∧ v6 = .slice A6 m c6 ∧ b = .int .i64 m ∧ k < 100003 ∧ m ≤ 8 ∧ Hid (np' = np + m) ∧
            Hid (W.ownsRow w1.heap.size 59 2 (.slice A4' np' c4') np' (pc lp')) ∧ Hid (Us lp') ∧ Hid (W.ownsRow w2.heap.size 23 1 (.slice A6 m c6) m (uc lr)) ∧ Hid (Us lr ∧ Zs lr) ∧ Hid (ob A4' = ob A4 ∨ ∃ x, ob A4' = some x ∧ w2.heap.size ≤ x) ∧ Hid (∀ x, ob A6 = some x → ob A4' ≠ some x) ∧ Hid (Turns (fun x => ob A4 = some x) w2 W)) (fun _ _ _ b _ => 9 - (intOf b).toNat)
          case atStart => exact ⟨k1, np, 0, c4, 0, A4, none, lp, [], rfl, rfl, rfl, rfl, hk1, by omega, rfl, h4, hU, own_zero _ _ _ _, (⟨(by intro q hq; cases hq), (by intro q hq; cases hq)⟩), (.inl rfl), (fun x hx => by cases hx), Turns.refl _ _⟩
          case round =>
            obtain ⟨k2, np', m, c4', c6, A4', A6, lp', lr, rfl, rfl, rfl, rfl, hk2, hm, hnp', h4', hU', h6, hU6, hA4, hD6, hT⟩ := hrel
            rename World => w3
            by_cases hml : m < k2 % 9
            · have hdm : decide ((m : Int) < (k2 : Int) % 9) = true := decide_eq_true (by omega)
              have hm8 : m < 8 := by omega
              obtain ⟨v, hv, hwv⟩ := wrap_nat ((k2 : Int) % 13 * 2 ^ (k2 % 3 * 30))
              have hbs := hT.out.size
              have ho1 := own_below h6.out (below_new w3 (.cells #[.int .u64 (v : Int)] 23)) (own_lt h6.out)
              have hr1 := uc_new w3 (v, 0) 23
              have hm1 : m + 1 ≤ maxLen := by unfold maxLen; omega
              have hm2 : (m + 1) * 8 ≤ 140737488355328 := by omega
              have hbs2 : w2.heap.size ≤ (w3.alloc (.cells #[.int .u64 (v : Int)] 23)).heap.size := by simp; omega
              go_upto_region 15 with (at_builtin; (refine wpList_app rfl _ _ 26 rfl w2.heap.size 23 iu (.int .u64 0) 1 8 Try.underlying26 hiu hzu0 hzu1 hzu2 rfl (by decide) _ m _ rfl ho1 (w3.heap.size + 1) (some ⟨w3.heap.size, 0, none⟩) 1 1 (uc [(v, 0)]) rfl hr1 (uc_one _) hm1 hm2 hbs2 ?_); intro v' w4 hown hst; obtain ⟨A6', c6', rfl, _⟩ := own_form hown; rw [← uc_append] at hown; have H4 := Lib_hid (And.intro hown ((Stp.alloc w3 (.cells #[.int .u64 (v : Int)] 23) (.slice A6 m c6)).trans hst)); clear hst hown)
              clear ho1 hr1 hbs2 hm1 hm2 hwv
              -- p stands as it was
              have hg4 := H4.out.2.grow
              have hr4 := H4.out.2.row
              rw [ob_eq] at hg4 hr4
              rw [ob_eq] at hr4
              have hD6s : ∀ x, ob A4' = some x → some x ≠ ob A6 := fun x hx e => hD6.out x e.symm hx
              have hp4 := own_keep (w' := w4) h4'.out (fun x hx => by rw [ob_eq] at hx; exact hg4.block x (own_lt h4'.out x (by rw [ob_eq]; exact hx)) (hD6s x hx))
              have hge6 : ∀ x, ob A6 = some x → w2.heap.size ≤ x := fun x hx => own_ge h6.out x (by rw [ob_eq]; exact hx)
              have hT4 : Turns (fun x => ob A4 = some x) w2 w4 := hT.out.trans (Turns.grown (S := fun x => ob A6 = some x) hg4 (fun k e => .inl e)) (fun k e => .inr (hge6 k e))
              have hD6' : ∀ x, ob A6' = some x → ob A4' ≠ some x := fun x hx e => by
                rcases hr4 with h1 | ⟨g, h1, h2⟩
                · exact hD6.out x (by rw [← h1]; exact hx) e
                · rw [hx] at h1
                  have : x = g := by injection h1
                  have := own_lt h4'.out x (by rw [ob_eq]; exact e)
                  omega
              have H5 := Lib_hid (And.intro hp4 (And.intro hT4 hD6'))
              have hz4 := hg4.size
              have hb4 := hT4.size
              clear hg4 hr4 hD6s hp4 hge6 hT4 hD6'
              have ho1 := own_below H5.out.1 (below_new w4 (.cells #[.int .u64 ((k2 : Int) % 4), .int .u64 ((k2 : Int) % 7)] 59)) (own_lt H5.out.1)
              have hr1 := pc_new2 w4 ((k2 : Int) % 4) ((k2 : Int) % 7) (k2 % 4, k2 % 7) (by show _ = ((k2 % 4 : Nat) : Int); omega) (by show _ = ((k2 % 7 : Nat) : Int); omega) 59
              have hm1 : np' + 1 ≤ maxLen := by have := hnp'.out; unfold maxLen; omega
              have hm2 : (np' + 1) * 16 ≤ 140737488355328 := by have := hnp'.out; omega
              have hbs2 : w1.heap.size ≤ (w4.alloc (.cells #[.int .u64 ((k2 : Int) % 4), .int .u64 ((k2 : Int) % 7)] 59)).heap.size := by have := hB2.out.size; simp; omega
              go_upto_region 16 with (at_builtin; (refine wpList_app rfl _ _ 58 rfl w1.heap.size 59 iq (.agg #[.int .u64 0, .int .u64 0]) 2 16 Try.underlying58 hiq hzq0 hzq1 hzq2 rfl (by decide) _ np' _ rfl ho1 (w4.heap.size + 1) (some ⟨w4.heap.size, 0, none⟩) 1 1 (pc [(k2 % 4, k2 % 7)]) rfl hr1 (pc_one _) hm1 hm2 hbs2 ?_); intro v' w5 hown hst; obtain ⟨A5, c5, rfl, _⟩ := own_form hown; rw [← pc_append] at hown; have H6 := Lib_hid (And.intro hown ((Stp.alloc w4 (.cells #[.int .u64 ((k2 : Int) % 4), .int .u64 ((k2 : Int) % 7)] 59) (.slice A4' np' c4')).trans hst)); clear hst hown)
              clear ho1 hr1 hbs2 hm1 hm2
              have hg5 := H6.out.2.grow
              have hr5 := H6.out.2.row
              rw [ob_eq] at hg5 hr5
              rw [ob_eq] at hr5
              have hrow := own_keep (w' := w5) H4.out.1 (fun x hx => by rw [ob_eq] at hx; exact hg5.block x (own_lt H4.out.1 x (by rw [ob_eq]; exact hx)) (fun e => H5.out.2.2 x hx e.symm))
              have hT5 : Hid (Turns (fun x => ob A4 = some x) w2 w5) := H5.out.2.1.trans (Turns.grown (S := fun x => ob A4' = some x) hg5 (fun k e => .inl e)) (fun k e => by
                rcases hA4.out with h1 | ⟨g, h1, h2⟩
                · exact .inl (by rw [← h1]; exact e)
                · rw [e] at h1
                  have : k = g := by injection h1
                  exact .inr (by omega))
              have hA5 : Hid (ob A5 = ob A4 ∨ ∃ x, ob A5 = some x ∧ w2.heap.size ≤ x) := by
                rcases hr5 with h1 | ⟨g, h1, h2⟩
                · rw [h1]; exact hA4.out
                · exact .inr ⟨g, h1, by omega⟩
              have hD5 : Hid (∀ x, ob A6' = some x → ob A5 ≠ some x) := fun x hx e => by
                rcases hr5 with h1 | ⟨g, h1, h2⟩
                · exact H5.out.2.2 x hx (by rw [← h1]; exact e)
                · rw [e] at h1
                  have : x = g := by injection h1
                  have := own_lt H4.out.1 x (by rw [ob_eq]; exact hx)
                  omega
              have hU5 : Hid (Us (lp' ++ [(k2 % 4, k2 % 7)])) := fun q hq => by
                rcases List.mem_append.1 hq with h1 | h1
                · exact hU'.out q h1
                · simp only [List.mem_singleton] at h1
                  subst h1
                  exact ⟨by show k2 % 4 < _; omega, by show k2 % 7 < _; omega⟩
              have hU7 : Hid (Us (lr ++ [(v, 0)]) ∧ Zs (lr ++ [(v, 0)])) := ⟨fun q hq => by
                rcases List.mem_append.1 hq with h1 | h1
                · exact hU6.out.1 q h1
                · simp only [List.mem_singleton] at h1
                  subst h1
                  exact ⟨hv, by show (0 : Nat) < _; omega⟩, fun q hq => by
                rcases List.mem_append.1 hq with h1 | h1
                · exact hU6.out.2 q h1
                · simp only [List.mem_singleton] at h1
                  subst h1
                  rfl⟩
              have HR := Lib_hid (And.intro hrow H6.out.1)
              clear hg5 hr5 hrow H4 H5 H6 hz4 hb4 hbs hT hA4 hD6 hU' hU6 h4' h6
              go_wp2
              go_roundw
              case rel => exact ⟨(k2 * 31 + 7 * m + 11) % 100003, np' + 1, m + 1, c5, c6', A5, A6', _, _, by simp only [Value.int.injEq, true_and]; omega, rfl, rfl, by go_num, by omega, by omega, (by have := hnp'.out; unfold Hid; omega), HR.out.2, hU5, HR.out.1, hU7, hA5, hD5, hT5⟩
              case measure => simp [intOf]; omega
            · have hlt3 : ∀ x, ob A3 = some x → x < w2.heap.size := fun x hx => own_lt h3.out x (by rw [ob_eq]; exact hx)
              have hsz23 := hT.out.size
              have hD34 : ∀ x, ob A3 = some x → ob A4' ≠ some x := fun x hx e => by
                rcases hA4.out with h1 | ⟨g, h1, h2⟩
                · exact hD.out x hx (by rw [← h1]; exact e)
                · rw [e] at h1
                  have : x = g := by injection h1
                  have := hlt3 x hx
                  omega
              have hK3 : KRow w3 (fun x => ob A3 = some x ∨ ob A4' = some x) vs ls :=
                ((hK.out.mono (S' := fun x => (ob A3 = some x ∨ ob A4 = some x) ∨ w2.heap.size ≤ x) (fun _ h => h)).turns (hT.out.mono (fun x hx => .inl (.inr hx)))).mono (fun x hx => by
                  rcases hx with h1 | h1
                  · exact .inl (.inl (.inl h1))
                  · rcases hA4.out with h2 | ⟨g, h2, h4⟩
                    · exact .inl (.inl (.inr (by rw [← h2]; exact h1)))
                    · rw [h1] at h2
                      have : x = g := by injection h2
                      exact .inl (.inr (by omega)))
              have hR6 : Rs w3 (fun x => ob A3 = some x ∨ ob A4' = some x) 1 A6 m (uc lr) := Rs.of_own h6.out (fun x hx hok => by
                rcases hok with h1 | h1
                · have := hlt3 x h1
                  have := own_ge h6.out x (by rw [ob_eq]; exact hx)
                  omega
                · exact hD6.out x hx h1)
              have hKp := Lib_hid ((hK3.push hR6 hU6.out (own_cap h6.out)).mono (S' := fun x => (ob A3 = some x ∨ ob A4' = some x) ∨ w3.heap.size ≤ x) (fun _ h => h))
              have h33 := own_keep (w' := w3) h3.out (fun x hx => by rw [ob_eq] at hx; exact hT.out.block x (hlt3 x hx) (hD.out x hx))
              have hcp6 := own_cap h6.out
              have ho1 := own_below h33 (below_new w3 (.cells #[.slice A6 m c6] 26)) (own_lt h33)
              have hr1 := sl_new w3 (.slice A6 m c6) rfl 26
              have h1v : ∀ u ∈ [Value.slice A6 m c6], u.oneCell' = true := fun u hu => by simp only [List.mem_singleton] at hu; subst hu; rfl
              have hm1 : nn + 1 ≤ maxLen := by unfold maxLen; omega
              have hm2 : (nn + 1) * 24 ≤ 140737488355328 := by omega
              have hbs := hB2.out.size
              have hbs2 : w1.heap.size ≤ (w3.alloc (.cells #[.slice A6 m c6] 26)).heap.size := by simp; omega
              have hb13 : Hid (Below w1.heap.size w1 w3) := hB2.out.trans (hT.out.below (by omega) (fun x hx => own_ge h4.out x (by rw [ob_eq]; exact hx)))
              have HZ := Lib_hid (And.intro h33 (And.intro hD34 (And.intro hsz23 hnp'.out)))
              clear h33 hD34 hK3 hR6 hlt3 hsz23
              go_wp2_with (at_builtin; (refine wpList_app rfl _ _ 22 rfl w1.heap.size 26 is (.slice none 0 0) 1 24 Try.underlying22 his hzs0 hzs1 hzs2 rfl (by decide) _ nn _ rfl ho1 (w3.heap.size + 1) (some ⟨w3.heap.size, 0, none⟩) 1 1 [.slice A6 m c6] rfl hr1 h1v hm1 hm2 hbs2 ?_); intro v' w5 hown hst; obtain ⟨A3', c3', rfl, _⟩ := own_form hown; have H5 := Lib_hid (And.intro hown ((Stp.alloc w3 (.cells #[.slice A6 m c6] 26) (.slice A3 nn c3)).trans hst)); clear hst hown ho1 hr1 h1v hm1 hm2 hbs2)
              have hg5 := H5.out.2.grow
              have hr5 := H5.out.2.row
              rw [ob_eq] at hg5 hr5
              rw [ob_eq] at hr5
              have hT35 : Turns (fun x => ob A3 = some x) w3 w5 := Turns.grown hg5 (fun k e => .inl e)
              have h45 := own_keep (w' := w5) h4'.out (fun x hx => by rw [ob_eq] at hx; exact hg5.block x (own_lt h4'.out x (by rw [ob_eq]; exact hx)) (fun e => HZ.out.2.1 x e.symm hx))
              have hK5 : Hid (KRow w5 (fun x => ob A3' = some x ∨ ob A4' = some x) (vs ++ [.slice A6 m c6]) (ls ++ [lr])) := (hKp.out.turns (hT35.mono (fun x hx => .inl (.inl hx)))).mono (fun x hx => by
                rcases hx with h1 | h1
                · rcases hr5 with h2 | ⟨g, h2, h4⟩
                  · exact .inl (.inl (.inl (by rw [← h2]; exact h1)))
                  · rw [h1] at h2
                    have : x = g := by injection h2
                    exact .inl (.inr (by omega))
                · exact .inl (.inl (.inr h1)))
              have hD5 : Hid (∀ x, ob A3' = some x → ob A4' ≠ some x) := fun x hx e => by
                rcases hr5 with h1 | ⟨g, h1, h2⟩
                · exact HZ.out.2.1 x (by rw [← h1]; exact hx) e
                · rw [hx] at h1
                  have : x = g := by injection h1
                  have := own_lt h4'.out x (by rw [ob_eq]; exact e)
                  omega
              have hb15 : Hid (Below w1.heap.size w1 w5) := hb13.out.trans (hT35.below (by have := hb13.out.size; omega) (fun x hx => own_ge h3.out x (by rw [ob_eq]; exact hx)))
              have HR := Lib_hid (And.intro H5.out.1 h45)
              have hnp2 := HZ.out.2.2.2
              have HN2 : Hid (np' ≤ 8 * (nn + 1)) := by unfold Hid; omega
              clear hg5 hr5 hT35 h45 H5 hKp HZ hb13 hnp2 hnp' hK hD h3 h4 hB2 hU hA4 hD6 hT hU6 h6 h4' hbs
              go_wp2
              go_roundw
              case rel => exact ⟨k2, nn + 1, np', c3', c4', A3', A4', _, _, lp', rfl, rfl, rfl, by go_num, hk2, by omega, HN2.out, HR.out.1, HR.out.2, hK5, hU', hD5, hb15⟩
              case measure => simp [intOf]; omega
        · have hcp3 := own_cap h3.out
          have hcp4 := own_cap h4.out
          have hnn5 : nn ≤ 5 := by omega
          have hsz12 := hB2.out.size
          have H3 := Lib_hid (fun (W : World) (hW : Below w2.heap.size w2 W) => And.intro (Rd.own (own_below h3.out hW (own_lt h3.out))) (And.intro ((hK.out.nws).below hW |>.more hW.size) (Rd.own (own_below h4.out hW (own_lt h4.out)))))
          have HB2 := Lib_hid (hB.out.trans (hB2.out.mono hB.out.size))
          go_upto_region 19 with (fail)
          generalize hmp : (min (np : Int) 30).toNat = mp
          have hmp1 : mp ≤ 30 := by omega
          have hmp2 : mp ≤ np := by omega
          clear hmp
          have F1 : Calls Try.prog 3 #[.slice A3 nn c3, .int .u64 (j : Int), .int .i64 ((j : Int) % 20 - 1)] w2 fun e w' => e = .returned (.bool true) ∧ Below w2.heap.size w2 w' := iplays_any nn c3 A3 vs ls j (jx_lt hlt) _ w2 (H3.out w2 (Below.refl _ _)).1 (H3.out w2 (Below.refl _ _)).2.1 hcp3
          clear h3 h4 hK hD hB hB2
          go_wp2_with fail
          refine F1.mono ?_
          rintro e w3 ⟨rfl, hb3⟩
          have F2 := iback_any nn c3 A3 vs ls (k1 * 1048576) (j * 1125899906842624) (kb_lt hk1) (jb_lt hlt) w3 (H3.out w3 hb3).1 (H3.out w3 hb3).2.1 hcp3
          rw [mul_cast k1 1048576 1048576 rfl, mul_cast j 1125899906842624 1125899906842624 rfl] at F2
          have HB3 := Lib_hid hb3
          clear F1 hb3
          go_wp2_with fail
          refine F2.mono ?_
          rintro e w4 ⟨rfl, hb4⟩
          have hb24 := HB3.out.trans (hb4.mono HB3.out.size)
          have hp4 := (H3.out w4 hb24).2.2
          have hq4 := hp4.take (k := mp) (by omega)
          have hr4 := hp4.take (k := mp / 2) (by omega)
          rw [pc_take] at hq4 hr4
          have hju : U64 (j % 4, 2) := ⟨by show j % 4 < _; omega, by show (2 : Nat) < _; omega⟩
          have F3 := ipairs_any mp c4 (mp / 2) c4 A4 A4 (lp.take mp) (lp.take (mp / 2)) (j % 4, 2) hju ((j : Int) - 3) w4 hq4 hr4 (fun q hq => hU.out q (List.mem_of_mem_take hq)) (fun q hq => hU.out q (List.mem_of_mem_take hq)) (by omega) (by omega)
          rw [show pv (j % 4, 2) = .agg #[.int .u64 ((j : Int) % 4), .int .u64 2] from rfl] at F3
          have HB4 := Lib_hid hb24
          clear F2 hb4 hb24 hp4 hq4 hr4
          go_wp2_with fail
          refine F3.mono ?_
          rintro e w5 ⟨rfl, hb5⟩
          have HB5 := Lib_hid (HB4.out.trans (hb5.mono HB4.out.size))
          have F4 := inone_any (j : Int) (j : Int) 0 0 w5
          clear F3 hb5
          go_wp2_with fail
          refine F4.mono ?_
          rintro e w6 ⟨rfl, hb6⟩
          have hb26 := HB5.out.trans (hb6.mono HB5.out.size)
          have hbw6 : Hid (Below w.heap.size w w6) := HB2.out.trans (hb26.mono HB2.out.size)
          clear F4 hb6 hb26 H3
          go_wp2
          go_roundw
          case rel => exact ⟨k1, j + 1, rfl, by go_num, hk1, by omega, hbw6⟩
          case measure => simp [intOf]; omega
    · obtain rfl : j = 60 := by omega
      obtain ⟨W1, hW1⟩ : ∃ W1, W1 = w1.alloc (.cells #[.int .u64 0] 23) := ⟨_, rfl⟩
      obtain ⟨W2, hW2⟩ : ∃ W2, W2 = W1.alloc (.cells #[.int .u64 0, .int .u64 18446744073709551615] 23) := ⟨_, rfl⟩
      obtain ⟨W3, hW3⟩ : ∃ W3, W3 = W2.alloc (.cells #[.slice none 0 0, .slice (some ⟨w1.heap.size, 0, none⟩) 1 1, .slice (some ⟨w1.heap.size + 1, 0, none⟩) 2 2] 26) := ⟨_, rfl⟩
      have hs1 : W1.heap.size = w1.heap.size + 1 := by rw [hW1]; simp
      have hs2 : W2.heap.size = w1.heap.size + 2 := by rw [hW2]; simp [hs1]
      have hs3 : W3.heap.size = w1.heap.size + 3 := by rw [hW3]; simp [hs2]
      have b2 : Below W1.heap.size W1 W2 := by rw [hW2]; exact below_new _ _
      have b3 : Below W2.heap.size W2 W3 := by rw [hW3]; exact below_new _ _
      have r1 : Rd W1 W1.heap.size 1 (some ⟨w1.heap.size, 0, none⟩) 1 (uc [(0, 0)]) := by rw [hs1, hW1]; exact uc_new w1 (0, 0) _
      have r2 : Rd W2 W2.heap.size 1 (some ⟨w1.heap.size + 1, 0, none⟩) 2 (uc [(0, 0), (18446744073709551615, 0)]) := by
        have h := World.ownsRow_lit (base := W1.heap.size) (e := 23) (size := 1) W1 #[.int .u64 0, .int .u64 18446744073709551615] 2 (Nat.le_refl _) (by decide) rfl
        rw [← hW2] at h
        have := Rd.own h
        rw [hs1] at this
        exact this
      have r3 : Rd W3 W3.heap.size 1 (some ⟨w1.heap.size + 2, 0, none⟩) 3 [.slice none 0 0, .slice (some ⟨w1.heap.size, 0, none⟩) 1 1, .slice (some ⟨w1.heap.size + 1, 0, none⟩) 2 2] := by
        have h := World.ownsRow_lit (base := W2.heap.size) (e := 26) (size := 1) W2 #[.slice none 0 0, .slice (some ⟨w1.heap.size, 0, none⟩) 1 1, .slice (some ⟨w1.heap.size + 1, 0, none⟩) 2 2] 3 (Nat.le_refl _) (by decide) rfl
        rw [← hW3] at h
        have := Rd.own h
        rw [hs2] at this
        exact this
      have hN : Nws W3 W3.heap.size [.slice none 0 0, .slice (some ⟨w1.heap.size, 0, none⟩) 1 1, .slice (some ⟨w1.heap.size + 1, 0, none⟩) 2 2] [[], [(0, 0)], [(0, 0), (18446744073709551615, 0)]] := ⟨rfl, fun i hi => by
        match i, hi with
        | 0, _ => exact ⟨none, 0, 0, rfl, Rd.zero, ⟨(by intro q hq; cases hq), (by intro q hq; cases hq)⟩, Nat.le_refl _, by decide⟩
        | 1, _ => exact ⟨_, 1, 1, rfl, ((r1.below (b2.trans (b3.mono (by omega)))).more (by omega)), ⟨(by intro q hq; rw [List.mem_singleton.1 hq]; exact ⟨by decide, by decide⟩), (by intro q hq; rw [List.mem_singleton.1 hq])⟩, Nat.le_refl _, by decide⟩
        | 2, _ => exact ⟨_, 2, 2, rfl, ((r2.below b3).more (by omega)), ⟨(by intro q hq; rcases List.mem_cons.1 hq with h | h; (· rw [h]; exact ⟨by decide, by decide⟩); (· rw [List.mem_singleton.1 h]; exact ⟨by decide, by decide⟩)), (by intro q hq; rcases List.mem_cons.1 hq with h | h; (· rw [h]); (· rw [List.mem_singleton.1 h]))⟩, Nat.le_refl _, by decide⟩⟩
      have F1 : Calls Try.prog 3 #[.slice (some ⟨w1.heap.size + 2, 0, none⟩) 3 3, .int .u64 0, .int .i64 (-9223372036854775808)] W3 fun e w' => e = .returned (.bool true) ∧ Below W3.heap.size W3 w' := iplays_any 3 3 (some ⟨w1.heap.size + 2, 0, none⟩) _ _ 0 (by decide) (-9223372036854775808) W3 r3 hN (by decide)
      have hb3 : Hid (Below w.heap.size w W3) := by
        have h1 : Below w1.heap.size w1 W1 := by rw [hW1]; exact below_new _ _
        exact hB.out.trans ((h1.trans ((b2.mono (by omega)).trans (b3.mono (by omega)))).mono hB.out.size)
      have HW := Lib_hid (fun W => works7_any W)
      have HE := Lib_hid (And.intro hW1 (And.intro hW2 hW3))
      clear hs1 hs2 hs3 b2 b3 r1 r2 r3 hN hW1 hW2 hW3
      go_wp2_with fail
      rw [← HE.out.1, ← HE.out.2.1, ← HE.out.2.2]
      refine F1.mono ?_
      rintro e w6 ⟨rfl, hb6⟩
      have HB6 := Lib_hid (hb3.out.trans (hb6.mono hb3.out.size))
      clear F1 hb6 hb3
      go_wp2_with fail
      refine (HW.out _).mono ?_
      rintro e w7 ⟨rfl, hb7⟩
      have HB7 := Lib_hid (HB6.out.trans (hb7.mono HB6.out.size))
      clear hb7
      go_wp2
      go_ret
      exact ⟨rfl, HB7.out⟩

end Go.Proofs.Ytidlpiamiglppaa
