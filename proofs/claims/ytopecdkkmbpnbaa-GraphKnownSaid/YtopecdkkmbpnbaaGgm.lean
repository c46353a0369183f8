/-
  Layer 13: New, Add, Copy of the program.
-/
import Derived.Test.YtopecdkkmbpnbaaGgl
import Derived.Test.YtopecdkkmbpnbaaGgk
namespace Go.Proofs.Ytopecdkkmbpnbaa
open Go Go.RowKit Go.Maps
set_option linter.unusedVariables false

theorem Rd.turnsA {w W : World} {S : Nat → Prop} {B size n : Nat} {A : Option Addr} {xs : List Value} (r : Rd w B size A n xs) (t : Turns S w W) (hB : B ≤ w.heap.size) (hd : ∀ ad, A = some ad → ¬ S ad.block) : Rd W B size A n xs :=
  ⟨r.len, fun h0 => by
    obtain ⟨ad, hA, hb, hc⟩ := r.lies h0
    exact ⟨ad, hA, hb, fun j u hu => (t.cell (by rw [add_block]; omega) (by rw [add_block]; exact hd ad hA)).trans (hc j u hu)⟩⟩

/-- How New ends. -/
def NewEnd (n : Int) (w : World) (r : Ending) (w' : World) : Prop :=
  (n < 0 ∨ 65536 < n) ∧ r = .returned (.tuple #[.pointer none, .int .i64 2]) ∧ w = w' ∨
  (0 ≤ n ∧ n ≤ 65536) ∧ ∃ (p : Nat) (S : Nat → Prop), r = .returned (.tuple #[.pointer (some ⟨p, 0, none⟩), .int .i64 0]) ∧ GmIs w' p S n.toNat [] ∧ Below w.heap.size w w' ∧ ∀ k, S k → w.heap.size ≤ k

theorem pnew_any (n : Int) (w : World) : Calls Try.prog 10 #[.int .i64 n] w (NewEnd n w) := by
  by_cases h1 : n < 0
  · have d1 : decide (n < 0) = true := decide_eq_true h1
    go_enter Try.func10, Try.ntmps10
    go_wp2
    go_ret2
    exact Or.inl ⟨.inl h1, rfl, rfl⟩
  · have d1 : decide (n < 0) = false := decide_eq_false h1
    by_cases h2 : 65536 < n
    · have d2 : decide (65536 < n) = true := decide_eq_true h2
      go_enter Try.func10, Try.ntmps10
      go_wp2
      go_ret2
      exact Or.inl ⟨.inr h2, rfl, rfl⟩
    · have d2 : decide (65536 < n) = false := decide_eq_false h2
      obtain ⟨N, rfl⟩ : ∃ N : Nat, n = N := ⟨n.toNat, by omega⟩
      have W := Lib_hid (pwith_any (w := w) (B := 0) (N := N) (n := 0) (c := 0) (A := none) (l := []) (Rd.zero) (Nat.zero_le _) (by intro e he; cases he) (by omega) (by omega))
      have HN : Hid (0 ≤ (N : Int) ∧ (N : Int) ≤ 65536) := ⟨by omega, by omega⟩
      clear h1 h2
      go_enter Try.func10, Try.ntmps10
      go_wp2_with fail
      refine W.out.mono ?_
      rintro e w2 ⟨p, S, rfl, hG, hB, hS⟩
      have HH := Lib_hid (And.intro hG (And.intro hB hS))
      clear hG hB hS
      go_wp2
      go_ret2
      exact Or.inr ⟨HN.out, p, S, rfl, HH.out.1, HH.out.2.1, HH.out.2.2⟩

def okE (N : Nat) (e : Ed) : Bool := isN N e.1 && isN N e.2.1
theorem okE_iff {N : Nat} {e : Ed} : okE N e = true ↔ 0 ≤ e.1 ∧ e.1 < N ∧ 0 ≤ e.2.1 ∧ e.2.1 < N := by
  simp only [okE, Bool.and_eq_true, isN_iff]; omega

/-- How Add ends. -/
def AddEnd (N : Nat) (L l : List Ed) (S : Nat → Prop) (p : Nat) (w : World) (r : Ending) (w' : World) : Prop :=
  (∀ e ∈ l, okE N e = true) ∧ r = .returned (.tuple #[.int .i64 (((addEs L l).length : Int) - (L.length : Int)), .int .i64 0]) ∧ GmEnd N (addEs L l) S p w w' ∨
  (¬ ∀ e ∈ l, okE N e = true) ∧ r = .returned (.tuple #[.int .i64 0, .int .i64 130]) ∧ GmEnd N L S p w w'

theorem all_at {N n : Nat} {l : List Ed} (hn : l.length = n) (h : ∀ j, j < n → okE N (at3 l j) = true) : ∀ e ∈ l, okE N e = true := by
  intro e he
  obtain ⟨j, hj⟩ := List.getElem?_of_mem he
  have hl := (List.getElem?_eq_some_iff.1 hj).1
  rw [at3_get hl] at hj
  rw [← Option.some.inj hj]
  exact h j (by omega)

set_option maxRecDepth 100000 in
set_option maxHeartbeats 1600000 in
theorem gadd_any {w : World} {B p N n c : Nat} {A : Option Addr} {S : Nat → Prop} {L l : List Ed} (h : GmIs w p S N L) (hr : Rd w B 3 A n (ec l)) (hB : B ≤ w.heap.size) (hd : ∀ ad, A = some ad → ¬ S ad.block) (hl : ∀ e ∈ l, EdOk e) (hN : N ≤ 65536) (hn : n ≤ 1000000) (hL : L.length ≤ 1000000) :
    Calls Try.prog 16 #[.pointer (some ⟨p, 0, none⟩), .slice A n c] w (AddEnd N L l S p w) := by
  have HC := Lib_hid (rde_count hr)
  have HI := Lib_hid (fun (W : World) (hW : Turns S w W) (i : Nat) (hi : i < n) => e_at (hr.turnsA hW hB hd) hi)
  have HO : Hid (∀ i, i < n → EdOk (at3 l i)) := fun i hi => hl _ (at3_mem (by rw [HC.out]; exact hi))
  have HT : Hid (∀ i, i < n → addEs L (l.take (i + 1)) = addE (addEs L (l.take i)) (at3 l i)) := fun i hi => by rw [take_snoc3 (by rw [HC.out]; exact hi), addEs_snoc]
  have HLN : Hid (∀ i, i ≤ n → (addEs L (l.take i)).length ≤ L.length + i) := fun i hi => by have := (addEs_len (l.take i) L).2; rw [List.length_take] at this; omega
  have HG := Lib_hid h
  have HN := Lib_hid (And.intro hN (And.intro hn hL))
  clear h hl hr hd hN hL
  go_enter Try.func16, Try.ntmps16
  go_wp2_with fail
  go_loopw [7, 15] (fun x i wr => ∃ k : Nat, i = .int .i64 k ∧ k ≤ n ∧ Hid (∀ j, j < k → okE N (at3 l j) = true) ∧ Hid (Below w.heap.size w wr)) (fun _ i _ => n - (intOf i).toNat)
  case atStart => exact ⟨0, rfl, Nat.zero_le _, (fun j hj => absurd hj (by omega)), Below.refl _ _⟩
  case round =>
    obtain ⟨k, rfl, hk, hok, hbw⟩ := hrel
    by_cases hlt : k < n
    · obtain ⟨b, off, rfl, _, c0, c1, c2⟩ := HI.out _ (Turns.of_below hbw.out) k hlt
      have HB2 : Hid (Below w.heap.size w (wr.alloc (.cells #[.int .i64 (at3 l k).1, .int .i64 (at3 l k).2.1, .int .i64 (at3 l k).2.2] 39))) := hbw.out.alloc hbw.out.size _
      have NO := Lib_hid (pnode_any (HG.out.later HB2.out))
      by_cases h1 : isN N (at3 l k).1 = true
      · have d1 := h1
        by_cases h2 : isN N (at3 l k).2.1 = true
        · have d2 := h2
          have hok2 : Hid (∀ j, j < k + 1 → okE N (at3 l j) = true) := fun j hj => by
            rcases Nat.lt_or_ge j k with h3 | h3
            · exact hok.out j h3
            · obtain rfl : j = k := by omega
              unfold okE
              rw [d1, d2]; rfl
          have N1 := Lib_hid (NO.out (at3 l k).1)
          have N2 := Lib_hid (NO.out (at3 l k).2.1)
          rw [h1] at N1
          rw [h2] at N2
          clear h1 h2 d1 d2 NO hok
          generalize (at3 l k).1 = a1 at *
          generalize (at3 l k).2.1 = a2 at *
          generalize (at3 l k).2.2 = a3 at *
          go_wp2_with fail
          refine N1.out.mono ?_
          rintro e w1 ⟨rfl, rfl⟩
          go_wp2_with fail
          refine N2.out.mono ?_
          rintro e w1 ⟨rfl, rfl⟩
          go_wp2
          go_roundw
          case rel => exact ⟨k + 1, by go_num, by omega, hok2, HB2⟩
          case measure => simp [intOf]; omega
        · have d2 : isN N (at3 l k).2.1 = false := by cases h : isN N (at3 l k).2.1 with | false => rfl | true => exact absurd h h2
          have FIN : Hid (¬ ∀ e ∈ l, okE N e = true) := fun hc => by
            have := hc _ (at3_mem (l := l) (k := k) (by rw [HC.out]; exact hlt))
            unfold okE at this
            rw [d2, Bool.and_false] at this
            cases this
          have N1 := Lib_hid (NO.out (at3 l k).1)
          have N2 := Lib_hid (NO.out (at3 l k).2.1)
          rw [h1] at N1
          rw [d2] at N2
          clear h1 h2 d1 d2 NO hok
          generalize (at3 l k).1 = a1 at *
          generalize (at3 l k).2.1 = a2 at *
          generalize (at3 l k).2.2 = a3 at *
          go_wp2_with fail
          refine N1.out.mono ?_
          rintro e w1 ⟨rfl, rfl⟩
          go_wp2_with fail
          refine N2.out.mono ?_
          rintro e w1 ⟨rfl, rfl⟩
          go_wp2
          go_ret2
          exact Or.inr ⟨FIN.out, rfl, S, HG.out.later HB2.out, Turns.of_below HB2.out, fun _ hk => .inl hk⟩
      · have d1 : isN N (at3 l k).1 = false := by cases h : isN N (at3 l k).1 with | false => rfl | true => exact absurd h h1
        have FIN : Hid (¬ ∀ e ∈ l, okE N e = true) := fun hc => by
          have := hc _ (at3_mem (l := l) (k := k) (by rw [HC.out]; exact hlt))
          unfold okE at this
          rw [d1, Bool.false_and] at this
          cases this
        have N1 := Lib_hid (NO.out (at3 l k).1)
        rw [d1] at N1
        clear h1 d1 NO hok
        generalize (at3 l k).1 = a1 at *
        generalize (at3 l k).2.1 = a2 at *
        generalize (at3 l k).2.2 = a3 at *
        go_wp2_with fail
        refine N1.out.mono ?_
        rintro e w1 ⟨rfl, rfl⟩
        go_wp2
        go_ret2
        exact Or.inr ⟨FIN.out, rfl, S, HG.out.later HB2.out, Turns.of_below HB2.out, fun _ hk => .inl hk⟩
    · obtain rfl : k = n := by omega
      have HALL := Lib_hid (all_at HC.out hok.out)
      have HG1 := Lib_hid (HG.out.later hbw.out)
      have MA := Lib_hid (pmany_any HG1.out)
      clear hok
      go_wp2_with fail
      refine MA.out.mono ?_
      rintro e w1 ⟨rfl, rfl⟩
      generalize hLl : L.length = Ll at *
      have HLl := Lib_hid hLl
      clear hLl
      go_wp2
      go_loopw [10, 36] (fun x i wx => ∃ (j : Nat) (S1 : Nat → Prop), i = .int .i64 j ∧ j ≤ k ∧ Hid (GmIs wx p S1 N (addEs L (l.take j))) ∧ Hid (Turns S w wx) ∧ Hid (∀ q, S1 q → S q ∨ w.heap.size ≤ q)) (fun _ i _ => k - (intOf i).toNat)
      case atStart => exact ⟨0, S, rfl, Nat.zero_le _, HG1, Turns.of_below hbw.out, fun q hq => .inl hq⟩
      case round =>
        obtain ⟨j, S1, rfl, hj, hG, ht, hS1⟩ := hrel
        by_cases hlj : j < k
        · obtain ⟨b, off, rfl, _, c0, c1, c2⟩ := HI.out _ ht.out j hlj
          have he := okE_iff.1 (HALL.out _ (at3_mem (l := l) (k := j) (by rw [HC.out]; exact hlj)))
          have hG2 : Hid (GmIs (wr.alloc (.cells #[.int .i64 (at3 l j).1, .int .i64 (at3 l j).2.1, .int .i64 (at3 l j).2.2] 39)) p S1 N (addEs L (l.take j))) := hG.out.later (below_new wr _)
          have PU := Lib_hid (gput_any hG2.out (HO.out j hlj) he HN.out.1 (by have := HLN.out j (by omega); have := HN.out.2; omega))
          rw [← HT.out j hlj] at PU
          have HB2 : Hid (Turns S w (wr.alloc (.cells #[.int .i64 (at3 l j).1, .int .i64 (at3 l j).2.1, .int .i64 (at3 l j).2.2] 39)) ∧ w.heap.size ≤ (wr.alloc (.cells #[.int .i64 (at3 l j).1, .int .i64 (at3 l j).2.1, .int .i64 (at3 l j).2.2] 39)).heap.size) :=
            ⟨ht.out.trans (turns_alloc (fun _ => False) wr _) fun k h => h.elim, by have := ht.out.size; simp; omega⟩
          clear he hG
          unfold eV at PU
          generalize (at3 l j).1 = a1 at *
          generalize (at3 l j).2.1 = a2 at *
          generalize (at3 l j).2.2 = a3 at *
          go_wp2_with fail
          refine PU.out.mono ?_
          rintro r w2 ⟨rfl, S2, hG3, hT3, hS3⟩
          have HH := Lib_hid (And.intro hG3 (And.intro (HB2.out.1.trans hT3 hS1.out) (fun q hq => (hS3 q hq).elim (hS1.out q) fun h => .inr (Nat.le_trans HB2.out.2 h))))
          clear hG3 hT3 hS3 c0 c1 c2
          go_wp2
          go_roundw
          case rel => exact ⟨j + 1, S2, by go_num, by omega, HH.out.1, HH.out.2.1, HH.out.2.2⟩
          case measure => simp [intOf]; omega
        · obtain rfl : j = k := by omega
          rw [show l.take j = l from List.take_of_length_le (by rw [HC.out]; exact Nat.le_refl _)] at hG
          have MB := Lib_hid (pmany_any hG.out)
          have HAL := addEs_len l L
          have hb1 : ((addEs L l).length : Int) ≤ 2000000 := by have := HN.out.2; have := HLl.out; rw [HC.out] at HAL; omega
          have hb2 : ((Ll : Nat) : Int) ≤ (addEs L l).length := by have := HLl.out; omega
          have hb3 : (Ll : Int) ≤ 1000000 := by have := HN.out.2; omega
          clear HAL
          generalize hq : (addEs L l).length = q at *
          have HQ := Lib_hid hq
          clear hq
          go_wp2_with fail
          refine MB.out.mono ?_
          rintro e w1 ⟨rfl, rfl⟩
          go_wp2
          go_ret2
          exact Or.inl ⟨HALL.out, by rw [HLl.out, HQ.out]; rfl, S1, hG.out, ht.out, hS1.out⟩

end Go.Proofs.Ytopecdkkmbpnbaa
