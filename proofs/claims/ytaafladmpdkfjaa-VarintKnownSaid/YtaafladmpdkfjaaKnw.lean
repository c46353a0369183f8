/-
  The statement's function VarintKnown returns true: its loops, and its last calls.
-/
import Derived.Test.YtaafladmpdkfjaaAcr
import Derived.Test.YtaafladmpdkfjaaBack
namespace Go.Proofs.Ytaafladmpdkfjaa
open Go Go.RowKit
set_option linter.unusedVariables false

theorem bs_set' (m : List Nat) (k x : Nat) : bs (m.set k x) = (bs m).set k (.int .u8 (x : Int)) := by simp [bs, List.map_set]

theorem wpList_appg {P : Program} {w : World} {ops : Array Oper} {rest : List Oper} {o : Oper} {a : Act} {Q : Exit → Act → World → Prop} (hgd : Region.wanted o (yielded ops a.tmps) = true) (s x : Operand) (t : TypeId)
    (ho : o.op = .call { callee := .builtin .append, args := #[s, x], argTypes := #[t, t] })
    (base : Nat) (e : TypeId) (i : TypeInfo) (z : Value) (size bytes : Nat) (ht : P.underlying t = some (.slice e)) (hi : P.info? e = some i) (hz : i.zero = some z)
    (hsize : i.size = size) (hby : i.bytes = bytes) (hzs : z.cells.size = size) (hsz : 0 < size)
    (v : Value) (n : Nat) (xs : List Value) (hs : a.eval s = v) (hown : w.ownsRow base e size v n xs)
    (B : Nat) (A : Option Addr) (m c : Nat) (news : List Value) (hx : a.eval x = .slice A m c) (hr : Rd w B size A m news) (h1 : ∀ u ∈ news, u.oneCell' = true)
    (h63 : n + m ≤ maxLen) (hbytes : (n + m) * bytes ≤ 140737488355328) (hbase : base ≤ w.heap.size)
    (h : ∀ v' w', w'.ownsRow base e size v' (n + m) (xs ++ news) → Stp w w' v v' → wpList P ops Q rest (a.put o.dst v') w') : wpList P ops Q (o :: rest) a w :=
  Go.BigFrame.wpList_want hgd fun _ hK => wp_app s x t ho base e i z size bytes ht hi hz hsize hby hzs hsz v n xs hs hown B A m c news hx hr h1 h63 hbytes hbase fun v' w' h2 h3 => hK _ _ (h v' w' h2 h3)

theorem full_row (w : World) : (w.alloc (.cells #[.int .u8 255, .int .u8 255, .int .u8 255, .int .u8 255, .int .u8 255, .int .u8 255, .int .u8 255, .int .u8 255, .int .u8 255, .int .u8 255, .int .u8 1] 5)).ownsRow w.heap.size 5 1 (.slice (some ⟨w.heap.size, 0, none⟩) 11 11) 11 (bs [255, 255, 255, 255, 255, 255, 255, 255, 255, 255, 1]) :=
  World.ownsRow_lit w #[.int .u8 255, .int .u8 255, .int .u8 255, .int .u8 255, .int .u8 255, .int .u8 255, .int .u8 255, .int .u8 255, .int .u8 255, .int .u8 255, .int .u8 1] 11 (Nat.le_refl _) (by decide) rfl
theorem five_row (w : World) : (w.alloc (.cells #[.int .u8 5] 5)).ownsRow w.heap.size 5 1 (.slice (some ⟨w.heap.size, 0, none⟩) 1 1) 1 (bs [5]) :=
  World.ownsRow_lit w #[.int .u8 5] 1 (Nat.le_refl _) (by decide) rfl
theorem acts_two (w : World) (d k d2 : Int) : (w.alloc (.cells #[.int .i64 d, .int .u64 0, .int .i64 k, .slice none 0 0, .slice none 0 0, .int .i64 d2, .int .u64 0, .int .i64 0, .slice none 0 0, .slice none 0 0] 40)).ownsRow w.heap.size 40 5 (.slice (some ⟨w.heap.size, 0, none⟩) 2 2) 2 (actCells [⟨d, 0, k, none, 0, 0, none, 0, 0⟩, ⟨d2, 0, 0, none, 0, 0, none, 0, 0⟩]) :=
  World.ownsRow_lit w #[.int .i64 d, .int .u64 0, .int .i64 k, .slice none 0 0, .slice none 0 0, .int .i64 d2, .int .u64 0, .int .i64 0, .slice none 0 0, .slice none 0 0] 2 (Nat.le_refl _) (by decide) rfl
theorem acts_one' (w : World) (d k : Int) : (w.alloc (.cells #[.int .i64 d, .int .u64 0, .int .i64 k, .slice none 0 0, .slice none 0 0] 40)).ownsRow w.heap.size 40 5 (.slice (some ⟨w.heap.size, 0, none⟩) 1 1) 1 (actCells [⟨d, 0, k, none, 0, 0, none, 0, 0⟩]) :=
  World.ownsRow_lit w #[.int .i64 d, .int .u64 0, .int .i64 k, .slice none 0 0, .slice none 0 0] 1 (Nat.le_refl _) (by decide) rfl
theorem act_ok_lit (w : World) (d k : Int) (hd : -9223372036854775808 ≤ d ∧ d ≤ 9223372036854775807) (hk : -9223372036854775808 ≤ k ∧ k ≤ 9223372036854775807) : ∃ bl ll, ActOK w ⟨d, 0, k, none, 0, 0, none, 0, 0⟩ bl ll :=
  ⟨[], [], ⟨Rd.zero, by simp, by simp, Rd.zero, by simp, by simp, hd, by simp, hk⟩⟩

theorem reads_two (A A2 : Option Addr) (n c : Nat) (l : List Nat) (d k d2 : Int) (Y : World) (q : Rd Y Y.heap.size 1 A n (bs l)) (hl : ∀ x ∈ l, x < 256) (hn : n ≤ c) (hc : c ≤ 9223372036854775807)
    (T : Rd Y Y.heap.size 5 A2 2 (actCells [⟨d, 0, k, none, 0, 0, none, 0, 0⟩, ⟨d2, 0, 0, none, 0, 0, none, 0, 0⟩])) (hd : -9223372036854775808 ≤ d ∧ d ≤ 9223372036854775807) (hk : -9223372036854775808 ≤ k ∧ k ≤ 9223372036854775807) (hd2 : -9223372036854775808 ≤ d2 ∧ d2 ≤ 9223372036854775807) :
    Calls Try.prog 5 #[.slice A n c, .slice A2 2 2] Y fun e w' => e = .returned (.bool true) ∧ Below Y.heap.size Y w' :=
  reads_any Y.heap.size A n c l A2 2 2 [⟨d, 0, k, none, 0, 0, none, 0, 0⟩, ⟨d2, 0, 0, none, 0, 0, none, 0, 0⟩] Y q hl hn hc T rfl rfl (by decide) (by
    intro a ha
    simp only [List.mem_cons, List.not_mem_nil, or_false] at ha
    rcases ha with rfl | rfl
    · exact act_ok_lit _ _ _ hd hk
    · exact act_ok_lit _ _ _ hd2 (by omega))
theorem reads_one (A A2 : Option Addr) (n c : Nat) (l : List Nat) (d k : Int) (Y : World) (q : Rd Y Y.heap.size 1 A n (bs l)) (hl : ∀ x ∈ l, x < 256) (hn : n ≤ c) (hc : c ≤ 9223372036854775807)
    (T : Rd Y Y.heap.size 5 A2 1 (actCells [⟨d, 0, k, none, 0, 0, none, 0, 0⟩])) (hd : -9223372036854775808 ≤ d ∧ d ≤ 9223372036854775807) (hk : -9223372036854775808 ≤ k ∧ k ≤ 9223372036854775807) :
    Calls Try.prog 5 #[.slice A n c, .slice A2 1 1] Y fun e w' => e = .returned (.bool true) ∧ Below Y.heap.size Y w' :=
  reads_any Y.heap.size A n c l A2 1 1 [⟨d, 0, k, none, 0, 0, none, 0, 0⟩] Y q hl hn hc T rfl rfl (by decide) (by
    intro a ha
    simp only [List.mem_cons, List.not_mem_nil, or_false] at ha
    subst ha
    exact act_ok_lit _ _ _ hd hk)

set_option maxRecDepth 100000 in
set_option maxHeartbeats 6400000 in
theorem known_any (w : World) : Calls Try.prog 8 #[] w fun e w' => e = .returned (.bool true) ∧ Below w.heap.size w w' := by
  obtain ⟨i0, hi0, hz0, hz1, hz2⟩ := info_parts Try.info40
  go_enter Try.func8, Try.ntmps8
  go_wp2
  go_loopw [1, 2, 3, 4, 5] (fun i _ _ _ _ wr => ∃ k : Nat, i = .int .i64 k ∧ k ≤ 64 ∧ Below w.heap.size w wr) (fun i _ _ _ _ _ => 64 - (intOf i).toNat)
  case atStart => exact ⟨0, rfl, by omega, Below.refl _ _⟩
  case round =>
    obtain ⟨k, rfl, hk, hbw⟩ := hrel
    by_cases hlt : k < 64
    · have hk0 : (0 : Int) ≤ (k : Int) := by omega
      go_wp2
      obtain ⟨v, ev, hvl⟩ := (U64.wrap (2 ^ k)).nat
      rw [ev]
      clear ev
      rw [decide_eq_true (show (k : Int) < 64 by omega)]
      go_loopw [3, 4, 5] (fun j _ _ wr => ∃ q : Nat, j = .int .i64 q ∧ q ≤ 4 ∧ Below w.heap.size w wr) (fun j _ _ _ => 4 - (intOf j).toNat)
      case atStart => exact ⟨0, rfl, by omega, hbw⟩
      case round =>
        clear hbw
        obtain ⟨q, rfl, hq, hbw⟩ := hrel
        by_cases hq4 : q < 4
        · obtain ⟨x, ex, hxl⟩ := (U64.wrap (IntKind.u64.wrap ((v : Int) + q) - 2)).nat
          have HX := Lib_hid ex
          clear ex
          have hten := enc_ten (v := x) (by omega)
          have hpos := enc_pos x
          have hby := enc_byte x
          have RP := rput_any 10 x wr hten (by omega) hxl
          obtain ⟨t, ht⟩ : ∃ t, t = enc x := ⟨_, rfl⟩
          rw [← ht] at hten hpos hby RP
          clear ht
          obtain ⟨N, hN⟩ : ∃ N, t.length = N + 1 := ⟨t.length - 1, by omega⟩
          rw [hN] at hten
          have HBY := Lib_hid hby
          have HNN := Lib_hid hN
          have hmd : ∃ A c, True := ⟨0, 0, trivial⟩
          clear hby hpos hmd hN
          go_wp2_with fail
          rw [HX.out]
          refine RP.mono ?_
          rintro e w1 ⟨A1, c1, rfl, ho1, hb1⟩
          rw [HNN.out] at ho1 ⊢
          clear RP
          obtain ⟨g, cap, hv, hgw, hgl⟩ := ho1.form (by omega)
          have hA : A1 = some ⟨g, 0, none⟩ := by injection hv
          subst hA
          clear hv
          have hcap := own_cap ho1
          have r1 := Rd.own ho1
          have G1 := gets_any x w1.heap.size _ (N + 1) c1 t 0 w1 hxl r1 HBY.out hcap.1 hcap.2 (Nat.le_refl _)
          have hbw1 := hbw.trans (hb1.mono hbw.size)
          go_wp2_with fail
          refine G1.mono ?_
          rintro e w2 ⟨rfl, hb2⟩
          clear G1
          have r2 := (r1.below hb2)
          have G2 := back_any x v w1.heap.size _ _ (N + 1) c1 (N + 1) c1 t t w2 hxl hvl r2 HBY.out r2 HBY.out hcap.1 hcap.2 hb2.size
          go_wp2_with fail
          refine G2.mono ?_
          rintro e w3 ⟨rfl, hb3⟩
          clear G2
          have r3 := r2.below (hb3.mono hb2.size)
          have hs13 := Nat.le_trans hb2.size hb3.size
          obtain ⟨D1, hd1, q1⟩ := slice_hi (k := N) r3 (by omega) hcap.1
          rw [← bs_take] at q1
          have G3 := fun a => gets_any x w1.heap.size D1 N c1 (t.take N) a w3 hxl q1 (fun y hy => HBY.out y (List.mem_of_mem_take hy)) (by omega) hcap.2 hs13
          have HG3 := Lib_hid G3
          clear G3 r1 r2 r3 q1
          have eN : ((N + 1 : Nat) : Int) - 1 = (N : Int) := by omega
          go_wp2_with fail
          refine (HG3.out _).mono ?_
          rintro e w4 ⟨rfl, hb4⟩
          clear HG3
          have ho4 := own_below (own_below (own_below ho1 hb2 (own_lt ho1)) hb3 (fun k hk => Nat.lt_of_lt_of_le (own_lt ho1 k hk) hb2.size)) hb4 (fun k hk => Nat.lt_of_lt_of_le (own_lt ho1 k hk) hs13)
          have hbw4 : Below wr.heap.size wr w4 := ((hb1.trans (hb2.mono hb1.size)).trans (hb3.mono (Nat.le_trans hb1.size hb2.size))).trans (hb4.mono (Nat.le_trans hb1.size hs13))
          clear ho1 hb1 hb2 hb3 hb4
          have hcell : w4.cell? ⟨g, N, none⟩ = some (.int .u8 (t.getD N 0 : Nat)) := by
            rw [ho4.cellAt _ (by omega), bs_get (by rw [HNN.out]; omega), List.getD_eq_getElem?_getD, List.getElem?_eq_getElem (by rw [HNN.out]; omega)]; rfl
          have hfr := ho4.frozenAt N
          have ⟨hs1, hs2⟩ := ho4.stored N (.int .u8 ((q * 64 : Nat) : Int))
          rw [← bs_set'] at hs1
          have hby2 : ∀ y ∈ t.set N (q * 64), y < 256 := by
            intro y hy
            rcases List.mem_or_eq_of_mem_set hy with hy | rfl
            · exact HBY.out y hy
            · omega
          have hbw5 := hbw4.grown hs2 hbw4.size (fun k hk => by injection hk with hk; omega)
          have hl5 : (t.set N (q * 64)).length = N + 1 := by rw [List.length_set]; exact HNN.out
          have HBY2 := Lib_hid hby2
          have HL5 := Lib_hid hl5
          have eV : Hid (((q * 64 : Nat) : Int) = (q : Int) * 64) := by unfold Hid; omega
          rw [eV.out] at hs1 hbw5
          clear hby2 hl5 hs2 ho4 hbw4
          generalize t.set N (q * 64) = t2 at *
          generalize t.getD N 0 = x0 at *
          go_wp2_with fail
          generalize w4.setCell ⟨g, N, none⟩ (.int .u8 ((q : Int) * 64)) = w5 at *
          have r5 := Rd.own hs1
          have G5 := gets_any x w5.heap.size _ (N + 1) c1 t2 0 w5 hxl r5 HBY2.out hcap.1 hcap.2 (Nat.le_refl _)
          clear hcell hfr
          refine G5.mono ?_
          rintro e w6 ⟨rfl, hb6⟩
          clear G5
          have ho6 := own_below hs1 hb6 (own_lt hs1)
          have hbw6 := hbw5.trans (hb6.mono hbw5.size)
          obtain ⟨i0, hi, hz0, hz1, hz2⟩ := info_parts Try.info5
          have hm1 : N + 1 + 1 ≤ maxLen := by unfold maxLen; omega
          have hm2 : (N + 1 + 1) * 1 ≤ 140737488355328 := by omega
          have hsB : ∀ o, wr.heap.size ≤ (w6.alloc o).heap.size := by intro o; have := hbw6.size; simp; omega
          clear r5 hs1 hb6 hbw5
          go_wp2_with (at_builtin; (refine wpList_appg (by rfl) _ _ 23 rfl wr.heap.size 5 i0 (.int .u8 0) 1 1 Try.underlying23 hi hz0 hz1 hz2 rfl (by decide) _ (N + 1) _ rfl (ho6.alloc _) (w6.heap.size + 1) (some ⟨w6.heap.size, 0, none⟩) 1 1 (bs [0]) rfl (Rd.newi w6 0 0 rfl 5) (bs_one _) hm1 hm2 (hsB _) ?_); intro v' w7 hown' hst; obtain ⟨A7, c7, rfl, _⟩ := own_form hown')
          have hbw7 : Below wr.heap.size wr w7 := (hbw6.alloc hbw6.size _).trans (hst.below (hsB _) (own_ge ho6))
          rw [← bs_append] at hown'
          have hcap7 := own_cap hown'
          have r7 := Rd.own hown'
          have hby7 : ∀ y ∈ t2 ++ [0], y < 256 := by
            intro y hy
            rcases List.mem_append.1 hy with hy | hy
            · exact HBY2.out y hy
            · simp at hy; omega
          have G7 := fun a => gets_any x w7.heap.size A7 (N + 1 + 1) c7 (t2 ++ [0]) a w7 hxl r7 hby7 hcap7.1 hcap7.2 (Nat.le_refl _)
          have HG7 := Lib_hid G7
          clear G7 hby7 r7 hown' hst ho6 hbw6 hsB
          go_wp2_with fail
          refine (HG7.out _).mono ?_
          rintro e w8 ⟨rfl, hb8⟩
          have hbw8 := hbw.trans ((hbw7.trans (hb8.mono hbw7.size)).mono hbw.size)
          clear HG7 hb8 hbw7
          go_wp2
          go_roundw
          case rel => exact ⟨q + 1, by go_num, by omega, hbw8⟩
          case measure => simp [intOf]; omega
        · go_wp2
          go_roundw
          case rel => exact ⟨k + 1, by go_num, by omega, hbw⟩
          case measure => simp [intOf]; omega
    · go_wp2
      clear hk hlt
      go_loopw [6, 7] (fun x i wr => ∃ kk k : Nat, x = .int .i64 kk ∧ i = .int .i64 k ∧ kk < 100003 ∧ k ≤ 60 ∧ Below w.heap.size w wr) (fun _ i _ => 60 - (intOf i).toNat)
      case atStart => exact ⟨1, 0, rfl, rfl, by omega, by omega, hbw⟩
      case round =>
        clear hbw
        obtain ⟨kk, i, rfl, rfl, hkk, hi, hbw0⟩ := hrel
        by_cases hlt : i < 60
        · rename World => wo
          go_wp2
          rw [decide_eq_true (show (i : Int) < 60 by omega)]
          go_loopw [6, 8, 9, 10] (fun x s8 s9 m w0 => ∃ (kk n nb : Nat) (A : Option Addr) (c : Nat) (A9 : Option Addr) (c9 : Nat) (xs : List ActV) (lb : List Nat), x = .int .i64 kk ∧ s8 = .slice A n c ∧ s9 = .slice A9 nb c9 ∧ m = .int .i64 n ∧ kk < 100003 ∧ n ≤ 20 ∧ nb ≤ 10 * n ∧
            PairK wo.heap.size 40 5 (.slice A n c) (.slice A9 nb c9) n nb xs lb w0 ∧ Below wo.heap.size wo w0) (fun _ _ _ m _ => 20 - (intOf m).toNat)
          case atStart => exact ⟨kk, 0, 0, none, 0, none, 0, [], [], rfl, rfl, rfl, rfl, hkk, by omega, by omega, PairK.nil, Below.refl _ _⟩
          case round =>
            rename World => w0
            clear hkk
            obtain ⟨kk, n, nb, A, c, A9, c9, xs, lb, rfl, rfl, rfl, rfl, hkk, hn, hnb, hK, hbw⟩ := hrel
            by_cases hn20 : n < 20
            · go_wp2
              refine wp_region_midJ 22 (fun a b => a.grownBy b (Value.slice A n c).ownBlock) (aPr w0.heap.size kk n wo.heap.size (.slice A n c) xs) (fun h k => h.trans k) (fun h => ⟨h.os, h.tape, h.output, h.size, fun i hi _ => h.block i hi⟩) (by kernel_rfl) (by kernel_rfl) (by kernel_rfl) rfl
                (fun i v w w' _ hb h => aPr_below hb i v h) (fun i v w w' hi _ hr h => aPr_far (.of_grown hr (own_lt hK.o8)) i v hi h) ?_ ?_
              · intro i o a wx hi hM hB hU hD
                have hi24 : i < 24 := (Array.getElem?_eq_some_iff.1 hi).1
                have hcase : i = 0 ∨ i = 1 ∨ i = 2 ∨ i = 3 ∨ i = 4 ∨ i = 5 ∨ i = 6 ∨ i = 7 ∨ i = 8 ∨ i = 9 ∨ i = 10 ∨ i = 11 ∨ i = 12 ∨ i = 13 ∨ i = 14 ∨ i = 15 ∨ i = 16 ∨ i = 17 ∨ i = 18 ∨ i = 19 ∨ i = 20 ∨ i = 21 ∨ i = 22 ∨ i = 23 := by omega
                clear hi24
                rcases hcase with rfl | rfl | rfl | rfl | rfl | rfl | rfl | rfl | rfl | rfl | rfl | rfl | rfl | rfl | rfl | rfl | rfl | rfl | rfl | rfl | rfl | rfl | rfl | rfl
                · obtain rfl := Option.some.inj hi
                  have e8 : a.tmps.getD 8 undef = .slice A n c := (hU 23 _ 8 rfl rfl (by kernel_rfl)).trans rfl
                  refine ⟨rfl, mid_step (.slice A n c) wx (fun K hK => ?_) ⟨_, rfl, rfl, not_j rfl (Below.refl _ _)⟩⟩
                  go_simp
                  exact hK
                · obtain rfl := Option.some.inj hi
                  have e6 : a.tmps.getD 6 undef = .int .i64 (kk : Nat) := (hM.other 6 (by decide +kernel)).trans rfl
                  refine ⟨rfl, mid_step (.int .i64 (kk : Nat)) wx (fun K hK => ?_) ⟨_, rfl, rfl, not_j rfl (Below.refl _ _)⟩⟩
                  go_simp
                  exact hK
                · obtain rfl := Option.some.inj hi
                  have e84 : a.tmps.getD 84 undef = .int .i64 (kk : Nat) := hD 1 (by kernel_rfl) _ 84 rfl rfl
                  refine ⟨rfl, mid_call (fun v w' => aPr w0.heap.size kk n wo.heap.size (.slice A n c) xs 2 v w' ∧ wx = w') (fun K hK => ?_) (fun v w' h => ⟨v, rfl, h.1, not_j rfl (by rw [← h.2]; exact Below.refl _ _)⟩)⟩
                  go_simp
                  exact hK _ _ ⟨⟨_, rfl, (tmod_in kk 4 (by decide)).1, (tmod_in kk 4 (by decide)).2⟩, rfl⟩
                · obtain rfl := Option.some.inj hi
                  have e6 : a.tmps.getD 6 undef = .int .i64 (kk : Nat) := (hM.other 6 (by decide +kernel)).trans rfl
                  refine ⟨rfl, mid_step (.int .i64 (kk : Nat)) wx (fun K hK => ?_) ⟨_, rfl, rfl, not_j rfl (Below.refl _ _)⟩⟩
                  go_simp
                  exact hK
                · obtain rfl := Option.some.inj hi
                  have e86 : a.tmps.getD 86 undef = .int .i64 (kk : Nat) := hD 3 (by kernel_rfl) _ 86 rfl rfl
                  refine ⟨rfl, mid_call (fun v w' => aPr w0.heap.size kk n wo.heap.size (.slice A n c) xs 4 v w' ∧ wx = w') (fun K hK => ?_) (fun v w' h => ⟨v, rfl, h.1, not_j rfl (by rw [← h.2]; exact Below.refl _ _)⟩)⟩
                  go_simp
                  first | exact hK _ _ ⟨⟨_, rfl, U64.wrap _⟩, rfl⟩ | exact hK _ _ ⟨⟨_, rfl, U64.mod _⟩, rfl⟩ | exact hK _ _ ⟨⟨_, rfl, by omega, by omega⟩, rfl⟩
                · obtain rfl := Option.some.inj hi
                  have e6 : a.tmps.getD 6 undef = .int .i64 (kk : Nat) := (hM.other 6 (by decide +kernel)).trans rfl
                  refine ⟨rfl, mid_step (.int .i64 (kk : Nat)) wx (fun K hK => ?_) ⟨_, rfl, rfl, not_j rfl (Below.refl _ _)⟩⟩
                  go_simp
                  exact hK
                · obtain rfl := Option.some.inj hi
                  have e88 : a.tmps.getD 88 undef = .int .i64 (kk : Nat) := hD 5 (by kernel_rfl) _ 88 rfl rfl
                  refine ⟨rfl, mid_call (fun v w' => aPr w0.heap.size kk n wo.heap.size (.slice A n c) xs 6 v w' ∧ wx = w') (fun K hK => ?_) (fun v w' h => ⟨v, rfl, h.1, not_j rfl (by rw [← h.2]; exact Below.refl _ _)⟩)⟩
                  go_simp
                  exact hK _ _ ⟨⟨_, rfl, (tmod_in kk 50 (by decide)).1, (tmod_in kk 50 (by decide)).2⟩, rfl⟩
                · obtain rfl := Option.some.inj hi
                  obtain ⟨z, e87, hz⟩ := hD 4 (by kernel_rfl) _ 87 rfl rfl
                  obtain ⟨d, e89, hd1, hd2⟩ := hD 6 (by kernel_rfl) _ 89 rfl rfl
                  obtain ⟨d, rfl⟩ := Int.eq_ofNat_of_zero_le hd1
                  refine ⟨rfl, mid_call (fun v w' => aPr w0.heap.size kk n wo.heap.size (.slice A n c) xs 7 v w' ∧ wx = w') (fun K hK => ?_) (fun v w' h => ⟨v, rfl, h.1, not_j rfl (by rw [← h.2]; exact Below.refl _ _)⟩)⟩
                  go_simp
                  first | exact hK _ _ ⟨⟨_, rfl, U64.wrap _⟩, rfl⟩ | exact hK _ _ ⟨⟨_, rfl, U64.mod _⟩, rfl⟩ | exact hK _ _ ⟨⟨_, rfl, by omega, by omega⟩, rfl⟩
                · obtain rfl := Option.some.inj hi
                  have e6 : a.tmps.getD 6 undef = .int .i64 (kk : Nat) := (hM.other 6 (by decide +kernel)).trans rfl
                  refine ⟨rfl, mid_step (.int .i64 (kk : Nat)) wx (fun K hK => ?_) ⟨_, rfl, rfl, not_j rfl (Below.refl _ _)⟩⟩
                  go_simp
                  exact hK
                · obtain rfl := Option.some.inj hi
                  have e91 : a.tmps.getD 91 undef = .int .i64 (kk : Nat) := hD 8 (by kernel_rfl) _ 91 rfl rfl
                  refine ⟨rfl, mid_call (fun v w' => aPr w0.heap.size kk n wo.heap.size (.slice A n c) xs 9 v w' ∧ wx = w') (fun K hK => ?_) (fun v w' h => ⟨v, rfl, h.1, not_j rfl (by rw [← h.2]; exact Below.refl _ _)⟩)⟩
                  go_simp
                  exact hK _ _ ⟨⟨_, rfl, (tmod_in kk 7 (by decide)).1, (tmod_in kk 7 (by decide)).2⟩, rfl⟩
                · obtain rfl := Option.some.inj hi
                  obtain ⟨d, e92, hd1, hd2⟩ := hD 9 (by kernel_rfl) _ 92 rfl rfl
                  refine ⟨rfl, mid_call (fun v w' => aPr w0.heap.size kk n wo.heap.size (.slice A n c) xs 10 v w' ∧ wx = w') (fun K hK => ?_) (fun v w' h => ⟨v, rfl, h.1, not_j rfl (by rw [← h.2]; exact Below.refl _ _)⟩)⟩
                  go_simp
                  rw [IntWalk.i64_in (d - 1) (by omega)]; exact hK _ _ ⟨⟨_, rfl, by omega, by omega⟩, rfl⟩
                · obtain rfl := Option.some.inj hi
                  have e6 : a.tmps.getD 6 undef = .int .i64 (kk : Nat) := (hM.other 6 (by decide +kernel)).trans rfl
                  refine ⟨rfl, mid_step (.int .i64 (kk : Nat)) wx (fun K hK => ?_) ⟨_, rfl, rfl, not_j rfl (Below.refl _ _)⟩⟩
                  go_simp
                  exact hK
                · obtain rfl := Option.some.inj hi
                  have e94 : a.tmps.getD 94 undef = .int .i64 (kk : Nat) := hD 11 (by kernel_rfl) _ 94 rfl rfl
                  refine ⟨rfl, mid_call (fun v w' => aPr w0.heap.size kk n wo.heap.size (.slice A n c) xs 12 v w' ∧ wx = w') (fun K hK => ?_) (fun v w' h => ⟨v, rfl, h.1, not_j rfl (by rw [← h.2]; exact Below.refl _ _)⟩)⟩
                  go_simp
                  exact hK _ _ ⟨⟨_, rfl, (tmod_in kk 5 (by decide)).1, (tmod_in kk 5 (by decide)).2⟩, rfl⟩
                · obtain rfl := Option.some.inj hi
                  obtain ⟨d, e95, hd1, hd2⟩ := hD 12 (by kernel_rfl) _ 95 rfl rfl
                  obtain ⟨m, rfl⟩ := Int.eq_ofNat_of_zero_le hd1
                  have hmk := make_run m (by omega) wx
                  have hrow := made_row w0.heap.size m wx (by omega) hM.rel.size
                  generalize madeCells #[.int .u8 0] m = cs at hmk hrow
                  refine ⟨rfl, mid_step (.slice (some ⟨wx.heap.size, 0, none⟩) m m) (wx.alloc (.cells cs 5)) (fun K hK => ?_) ⟨_, rfl, ⟨_, m, rfl, by omega, hrow⟩, not_j rfl (below_new _ _)⟩⟩
                  go_simp
                  exact hK
                · obtain rfl := Option.some.inj hi
                  have e6 : a.tmps.getD 6 undef = .int .i64 (kk : Nat) := (hM.other 6 (by decide +kernel)).trans rfl
                  refine ⟨rfl, mid_step (.int .i64 (kk : Nat)) wx (fun K hK => ?_) ⟨_, rfl, rfl, not_j rfl (Below.refl _ _)⟩⟩
                  go_simp
                  exact hK
                · obtain rfl := Option.some.inj hi
                  have e97 : a.tmps.getD 97 undef = .int .i64 (kk : Nat) := hD 14 (by kernel_rfl) _ 97 rfl rfl
                  refine ⟨rfl, mid_call (fun v w' => aPr w0.heap.size kk n wo.heap.size (.slice A n c) xs 15 v w' ∧ wx = w') (fun K hK => ?_) (fun v w' h => ⟨v, rfl, h.1, not_j rfl (by rw [← h.2]; exact Below.refl _ _)⟩)⟩
                  go_simp
                  first | exact hK _ _ ⟨⟨_, rfl, U64.wrap _⟩, rfl⟩ | exact hK _ _ ⟨⟨_, rfl, U64.mod _⟩, rfl⟩ | exact hK _ _ ⟨⟨_, rfl, by omega, by omega⟩, rfl⟩
                · obtain rfl := Option.some.inj hi
                  obtain ⟨z, e98, hz⟩ := hD 15 (by kernel_rfl) _ 98 rfl rfl
                  obtain ⟨z, rfl, hz2⟩ := hz.nat
                  skip
                  have f98 := e98
                  rw [Array.getD_eq_getD_getElem?] at f98
                  have hrow := u64_row w0.heap.size z 1 128 wx hM.rel.size
                  refine ⟨rfl, mid_step (.slice (some ⟨wx.heap.size, 0, none⟩) 3 3) (wx.alloc (.cells #[.int .u64 (z : Nat), .int .u64 1, .int .u64 128] 22)) (fun K hK => ?_) ⟨_, rfl, ⟨_, [z, 1, 128], rfl, (by intro x hx; simp at hx; omega), hrow⟩, not_j rfl (below_new _ _)⟩⟩
                  go_simp
                  exact hK
                · obtain rfl := Option.some.inj hi
                  have e6 : a.tmps.getD 6 undef = .int .i64 (kk : Nat) := (hM.other 6 (by decide +kernel)).trans rfl
                  refine ⟨rfl, mid_step (.int .i64 (kk : Nat)) wx (fun K hK => ?_) ⟨_, rfl, rfl, not_j rfl (Below.refl _ _)⟩⟩
                  go_simp
                  exact hK
                · obtain rfl := Option.some.inj hi
                  have e100 : a.tmps.getD 100 undef = .int .i64 (kk : Nat) := hD 17 (by kernel_rfl) _ 100 rfl rfl
                  refine ⟨rfl, mid_call (fun v w' => aPr w0.heap.size kk n wo.heap.size (.slice A n c) xs 18 v w' ∧ wx = w') (fun K hK => ?_) (fun v w' h => ⟨v, rfl, h.1, not_j rfl (by rw [← h.2]; exact Below.refl _ _)⟩)⟩
                  go_simp
                  exact hK _ _ ⟨⟨_, rfl, (tmod_in kk 4 (by decide)).1, (tmod_in kk 4 (by decide)).2⟩, rfl⟩
                · obtain rfl := Option.some.inj hi
                  obtain ⟨B1, l1, e99, hl1, hr1⟩ := hD 16 (by kernel_rfl) _ 99 rfl rfl
                  obtain ⟨d, e101, hd1, hd2⟩ := hD 18 (by kernel_rfl) _ 101 rfl rfl
                  obtain ⟨d, rfl⟩ := Int.eq_ofNat_of_zero_le hd1
                  obtain ⟨A2, hsl, hr2⟩ := slice_hi_u (k := d) hr1 (by omega) (Nat.le_refl 3)
                  refine ⟨rfl, mid_step (.slice A2 d 3) wx (fun K hK => ?_) ⟨_, rfl, ⟨A2, d, l1.take d, rfl, by omega, fun x hx => hl1 x (List.mem_of_mem_take hx), hr2⟩, not_j rfl (Below.refl _ _)⟩⟩
                  go_simp
                  exact hK
                · obtain rfl := Option.some.inj hi
                  obtain ⟨d, e85, hd1, hd2⟩ := hD 2 (by kernel_rfl) _ 85 rfl rfl
                  obtain ⟨z, e90, hz⟩ := hD 7 (by kernel_rfl) _ 90 rfl rfl
                  obtain ⟨z, rfl, hz2⟩ := hz.nat
                  obtain ⟨q, e93, hq1, hq2⟩ := hD 10 (by kernel_rfl) _ 93 rfl rfl
                  obtain ⟨B1, m1, e96, hm1, hr1⟩ := hD 13 (by kernel_rfl) _ 96 rfl rfl
                  obtain ⟨B2, m2, l2, e102, hm2, hl2, hr2⟩ := hD 19 (by kernel_rfl) _ 102 rfl rfl
                  have f85 := e85
                  rw [Array.getD_eq_getD_getElem?] at f85
                  have f90 := e90
                  rw [Array.getD_eq_getD_getElem?] at f90
                  have f93 := e93
                  rw [Array.getD_eq_getD_getElem?] at f93
                  have f96 := e96
                  rw [Array.getD_eq_getD_getElem?] at f96
                  have f102 := e102
                  rw [Array.getD_eq_getD_getElem?] at f102
                  refine ⟨rfl, mid_step (.agg #[.int .i64 d, .int .u64 (z : Nat), .int .i64 q, .slice B1 m1 m1, .slice B2 m2 3]) wx (fun K hK => ?_) ⟨_, rfl, ⟨⟨d, z, q, B1, m1, m1, B2, m2, 3⟩, rfl, ⟨⟨List.replicate m1 0, l2, ⟨hr1.1, (by intro x hx; rw [(List.mem_replicate.1 hx).2]; decide), ⟨Nat.le_refl _, by show m1 ≤ _; omega⟩, hr2.1, hl2, ⟨hm2, by show (3 : Nat) ≤ _; omega⟩, ⟨by show _ ≤ d; omega, by show d ≤ _; omega⟩, hz2, ⟨by show _ ≤ q; omega, by show q ≤ _; omega⟩⟩⟩, hr1.2, hr2.2⟩⟩, not_j rfl (Below.refl _ _)⟩⟩
                  go_simp
                  exact hK
                · obtain rfl := Option.some.inj hi
                  obtain ⟨x, e103, hx⟩ := hD 20 (by kernel_rfl) _ 103 rfl rfl
                  skip
                  have f103 := e103
                  rw [Array.getD_eq_getD_getElem?] at f103
                  have hrow := act_row w0.heap.size wx x hM.rel.size hx
                  refine ⟨rfl, mid_step (.slice (some ⟨wx.heap.size, 0, none⟩) 1 1) (wx.alloc (.cells #[.int .i64 x.d, .int .u64 x.v, .int .i64 x.k, .slice x.bA x.bn x.bc, .slice x.lA x.ln x.lc] 40)) (fun K hK => ?_) ⟨_, rfl, ⟨_, x, rfl, (by rw [show (wx.alloc (.cells #[.int .i64 x.d, .int .u64 x.v, .int .i64 x.k, .slice x.bA x.bn x.bc, .slice x.lA x.ln x.lc] 40)).heap.size = wx.heap.size + 1 by simp]; exact hrow.1), ⟨hM.rel.size, by simp⟩, hrow.2⟩, not_j rfl (below_new _ _)⟩⟩
                  go_simp
                  exact hK
                · obtain rfl := Option.some.inj hi
                  have e83 : a.tmps.getD 83 undef = .slice A n c := hD 0 (by kernel_rfl) _ 83 rfl rfl
                  obtain ⟨g, x, e104, hr1, hg, hx⟩ := hD 21 (by kernel_rfl) _ 104 rfl rfl
                  have hbl := hB rfl
                  have ho := own_below hK.o8 hbl (own_lt hK.o8)
                  refine ⟨rfl, wp_app (.tmp 83) (.tmp 104) 34 rfl wo.heap.size 40 i0 _ 5 72 Try.underlying34 hi0 hz0 hz1 hz2 rfl (by decide) (.slice A n c) n (actCells xs) e83 ho _ _ 1 1 (actCells [x]) e104 hr1 (act_one x) (by unfold maxLen; omega) (by omega) (Nat.le_trans hbw.size hbl.size) ?_⟩
                  intro v' w' h2 h3
                  obtain ⟨A', c', rfl, _⟩ := own_form h2
                  rw [← actCells_append] at h2
                  refine ⟨_, rfl, ⟨A', c', x, rfl, h2, ?_, ?_⟩, ?_⟩
                  · rcases h3.row with e | ⟨k, e, hk⟩
                    · exact .inl e
                    · exact .inr ⟨k, e, Nat.le_trans hbl.size hk⟩
                  · refine hx.keep h3.grow.size fun i hi hxi => ⟨⟨hxi, fun e => ?_⟩, h3.grow.block i hi fun e => ?_⟩
                    · rcases h3.row with e2 | ⟨k, e2, hk⟩
                      · have := own_lt hK.o8 i (e2.symm.trans e); omega
                      · rw [e2] at e; injection e with e; omega
                    · have := own_lt hK.o8 i e.symm; omega
                  · exact ⟨fun _ => h3.grow, fun e => absurd rfl e⟩
                · obtain rfl := Option.some.inj hi
                  obtain ⟨A', c', x, e105, ho, hr, hx⟩ := hD 22 (by kernel_rfl) _ 105 rfl rfl
                  rw [e105] at ho hr hx
                  refine ⟨rfl, mid_step (.slice A' (n + 1) c') wx (fun K hK => ?_) ⟨_, rfl, ⟨A', c', x, rfl, ho, hr, hx⟩, not_j rfl (Below.refl _ _)⟩⟩
                  go_simp
                  exact hK
              · intro a wx hM hD
                obtain ⟨A', c', x, e8, ho', hrow', hx⟩ := hD 23 (by decide) _ 8 rfl rfl
                rw [e8] at ho' hrow' hx
                have hK2 := hK.push8 ⟨hM.rel, hrow'⟩ ho' hx
                have hbw2 : Below wo.heap.size wo wx := hbw.grown hM.rel hbw.size (own_ge hK.o8)
                have hdf : a.defers = [] := hM.defers.trans rfl
                have ht := hM.frame _ 8 83 23 rfl (by decide) (Nat.le_of_ble_eq_true (by kernel_rfl)) (by kernel_rfl)
                simp only [List.take_succ_cons, List.take_zero, List.drop_succ_cons, List.drop_zero, List.cons_append, List.nil_append, List.range, List.range.loop, List.map, Nat.reduceAdd, Nat.reduceSub] at ht
                rw [e8] at ht
                generalize a.tmps.getD 83 undef = y83 at ht
                generalize a.tmps.getD 84 undef = y84 at ht
                generalize a.tmps.getD 85 undef = y85 at ht
                generalize a.tmps.getD 86 undef = y86 at ht
                generalize a.tmps.getD 87 undef = y87 at ht
                generalize a.tmps.getD 88 undef = y88 at ht
                generalize a.tmps.getD 89 undef = y89 at ht
                generalize a.tmps.getD 90 undef = y90 at ht
                generalize a.tmps.getD 91 undef = y91 at ht
                generalize a.tmps.getD 92 undef = y92 at ht
                generalize a.tmps.getD 93 undef = y93 at ht
                generalize a.tmps.getD 94 undef = y94 at ht
                generalize a.tmps.getD 95 undef = y95 at ht
                generalize a.tmps.getD 96 undef = y96 at ht
                generalize a.tmps.getD 97 undef = y97 at ht
                generalize a.tmps.getD 98 undef = y98 at ht
                generalize a.tmps.getD 99 undef = y99 at ht
                generalize a.tmps.getD 100 undef = y100 at ht
                generalize a.tmps.getD 101 undef = y101 at ht
                generalize a.tmps.getD 102 undef = y102 at ht
                generalize a.tmps.getD 103 undef = y103 at ht
                generalize a.tmps.getD 104 undef = y104 at ht
                generalize a.tmps.getD 105 undef = y105 at ht
                clear hD hM hK hbw ho' hrow' hx e8
                obtain ⟨t, df⟩ := a
                simp only at ht hdf
                subst ht hdf
                obtain ⟨i5, hi5, hy0, hy1, hy2⟩ := info_parts Try.info5
                have hten := enc_ten (v := kk % 200) (by omega)
                have hby := enc_byte (kk % 200)
                have RP := rput_any 10 (kk % 200) wx hten (by omega) (by omega)
                rw [show ((kk % 200 : Nat) : Int) = (kk : Int) % 200 by omega] at RP
                generalize enc (kk % 200) = t at *
                have HBY := Lib_hid hby
                clear hby
                go_wp2_with fail
                refine RP.mono ?_
                rintro e w1 ⟨A1, c1, rfl, ho1, hb1⟩
                clear RP
                have hK3 := hK2.below hb1
                have hbw3 := hbw2.trans (hb1.mono hbw2.size)
                have hm1 : nb + t.length ≤ maxLen := by unfold maxLen; omega
                have hm2 : (nb + t.length) * 1 ≤ 140737488355328 := by omega
                go_wp2_with (at_builtin; (refine wpList_app rfl _ _ 23 rfl wo.heap.size 5 i5 (.int .u8 0) 1 1 Try.underlying23 hi5 hy0 hy1 hy2 rfl (by decide) _ nb _ rfl hK3.o9 w1.heap.size A1 t.length c1 (bs t) rfl (Rd.own ho1) (bs_one _) hm1 hm2 hbw3.size ?_); intro v' w2 hown' hst; obtain ⟨A2, c2, rfl, _⟩ := own_form hown')
                rw [← bs_append] at hown'
                have hK4 := hK3.push9 hst hown' (by
                  intro y hy
                  rcases List.mem_append.1 hy with hy | hy
                  · exact hK3.b8 y hy
                  · exact HBY.out y hy)
                have hbw4 : Below wo.heap.size wo w2 := hbw3.grown hst.grow hbw3.size (own_ge hK3.o9)
                go_wp2
                go_roundw
                case rel => exact ⟨(kk * 31 + 7 * n + 11) % 100003, n + 1, nb + t.length, A', c', A2, c2, xs ++ [x], lb ++ t, by go_num, rfl, rfl, by go_num, by omega, by omega, by omega, hK4, hbw4⟩
                case measure => simp [intOf]; omega
            · obtain rfl : n = 20 := by omega
              clear hn hn20
              have hcap8 := own_cap hK.o8
              have hcap9 := own_cap hK.o9
              have WR := writes_any w0.heap.size A 20 c xs w0 (Rd.own hK.o8) hK.len rfl (by omega) (fun a ha => (hK.acts a ha).ok)
              go_wp2_with fail
              refine WR.mono ?_
              rintro e w1 ⟨rfl, hb1⟩
              clear WR
              have hK1 := hK.below hb1
              have hbw1 := hbw.trans (hb1.mono hbw.size)
              have RD := reads_any w1.heap.size A9 nb c9 lb A 20 c xs w1 (Rd.own hK1.o9) hK1.b8 hcap9.1 hcap9.2 (Rd.own hK1.o8) hK1.len rfl (by omega) (fun a ha => (hK1.acts a ha).ok)
              go_wp2_with fail
              refine RD.mono ?_
              rintro e w2 ⟨rfl, hb2⟩
              clear RD
              have hK2 := hK1.below hb2
              have hbw2 := hbw1.trans (hb2.mono hbw1.size)
              obtain ⟨b, off, x, rfl, _, _, c0, c1, c2, c3, c4⟩ := acts_at (Rd.own hK2.o8) hK2.len (i := i % 20) (by omega)
              have NA := none_any x.d x.v x.k x.bA x.lA x.bn x.bc x.ln x.lc w2
              clear hb1 hb2 hK hK1 hbw hbw1 hK2
              go_wp2_with fail
              refine NA.mono ?_
              rintro e w3 ⟨rfl, hb3⟩
              have hbw3 := hbw0.trans ((hbw2.trans (hb3.mono hbw2.size)).mono hbw0.size)
              go_wp2
              go_roundw
              case rel => exact ⟨kk, i + 1, rfl, by go_num, hkk, by omega, hbw3⟩
              case measure => simp [intOf]; omega
        · obtain rfl : i = 60 := by omega
          clear hlt hi hkk
          have F := full_row wr
          have hF := hbw0.trans ((below_new wr (.cells #[.int .u8 255, .int .u8 255, .int .u8 255, .int .u8 255, .int .u8 255, .int .u8 255, .int .u8 255, .int .u8 255, .int .u8 255, .int .u8 255, .int .u8 1] 5)).mono hbw0.size)
          go_wp2_with fail
          generalize wr.alloc (.cells #[.int .u8 255, .int .u8 255, .int .u8 255, .int .u8 255, .int .u8 255, .int .u8 255, .int .u8 255, .int .u8 255, .int .u8 255, .int .u8 255, .int .u8 1] 5) = W at *
          have r0 := Rd.own F
          have hby : ∀ x ∈ [255, 255, 255, 255, 255, 255, 255, 255, 255, 255, 1], x < 256 := by decide
          refine (gets_any 0 W.heap.size _ 11 11 [255, 255, 255, 255, 255, 255, 255, 255, 255, 255, 1] 0 W (by decide) r0 hby (by decide) (by decide) (Nat.le_refl _)).mono ?_
          rintro e w1 ⟨rfl, hb1⟩
          have r1 := r0.below hb1
          go_wp2_with fail
          refine (gets_any 0 W.heap.size _ 11 11 [255, 255, 255, 255, 255, 255, 255, 255, 255, 255, 1] 1 w1 (by decide) r1 hby (by decide) (by decide) hb1.size).mono ?_
          rintro e w2 ⟨rfl, hb2⟩
          have hb2 := hb1.trans (hb2.mono hb1.size)
          have r2 := r0.below hb2
          obtain ⟨D1, hd1, q1⟩ := slice_hi (k := 10) r2 (by decide) (Nat.le_refl _)
          have hd1' : ∀ wx, (Instr.slice 23 (.slice (some ⟨wr.heap.size, 0, none⟩) 11 11) none (some (.int .i64 10)) none).run Try.prog wx = .ok (.slice D1 10 11) wx := hd1
          rw [← bs_take] at q1
          go_wp2_with fail
          refine (gets_any 0 W.heap.size D1 10 11 _ 1 w2 (by decide) q1 (fun x hx => hby x (List.mem_of_mem_take hx)) (by decide) (by decide) hb2.size).mono ?_
          rintro e w3 ⟨rfl, hb3⟩
          have hb3 := hb2.trans (hb3.mono hb2.size)
          clear hd1 hd1' q1
          go_wp2_with fail
          refine (gets_any 0 W.heap.size none 0 0 [] 0 w3 (by decide) Rd.zero (by simp) (by decide) (by decide) hb3.size).mono ?_
          rintro e w4 ⟨rfl, hb4⟩
          have hb4 := hb3.trans (hb4.mono hb3.size)
          go_wp2_with fail
          refine (gets_any 0 W.heap.size none 0 0 [] 1 w4 (by decide) Rd.zero (by simp) (by decide) (by decide) hb4.size).mono ?_
          rintro e w5 ⟨rfl, hb5⟩
          have hb5 := hb4.trans (hb5.mono hb4.size)
          have r5 := r0.below hb5
          obtain ⟨D2, hd2, q2⟩ := slice_lo (j := 1) r5 (by decide) (Nat.le_refl _)
          have hd2' : ∀ wx, (Instr.slice 23 (.slice (some ⟨wr.heap.size, 0, none⟩) 11 11) (some (.int .i64 1)) none none).run Try.prog wx = .ok (.slice D2 10 10) wx := hd2
          rw [← bs_drop] at q2
          go_wp2_with fail
          have T6 := acts_two w5 2 0 0
          have hz6 := below_new w5 (Obj.cells #[Value.int .i64 2, Value.int .u64 0, Value.int .i64 0, Value.slice none 0 0, Value.slice none 0 0, Value.int .i64 0, Value.int .u64 0, Value.int .i64 0, Value.slice none 0 0, Value.slice none 0 0] 40)
          have q6 := q2.below (hz6.mono hb5.size)
          have hy6 := hb5.trans (hz6.mono hb5.size)
          generalize w5.alloc (Obj.cells #[Value.int .i64 2, Value.int .u64 0, Value.int .i64 0, Value.slice none 0 0, Value.slice none 0 0, Value.int .i64 0, Value.int .u64 0, Value.int .i64 0, Value.slice none 0 0, Value.slice none 0 0] 40) = W6 at *
          have RD6 := reads_two _ _ 10 10 _ _ _ _ W6 (q6.more hy6.size) (fun x hx => hby x (List.mem_of_mem_drop hx)) (by decide) (by decide) (Rd.own T6) (by decide) (by decide) (by decide)
          with_reducible refine RD6.mono ?_
          rintro e w6 ⟨rfl, hb6⟩
          have hb6 := hy6.trans (hb6.mono hy6.size)
          clear hd2 hd2' q2 q6 r0 r1 r2 r5 F
          have V7 := five_row w6
          have hx7 := hb6.trans ((below_new w6 (Obj.cells #[Value.int .u8 5] 5)).mono hb6.size)
          go_wp2_with fail
          have hX7 : (w6.alloc (Obj.cells #[Value.int .u8 5] 5)).heap.size = w6.heap.size + 1 := by simp
          generalize w6.alloc (Obj.cells #[Value.int .u8 5] 5) = X7 at *
          have T7 := acts_two X7 1 (-1) 0
          have hz7 := below_new X7 (Obj.cells #[Value.int .i64 1, Value.int .u64 0, Value.int .i64 (-1), Value.slice none 0 0, Value.slice none 0 0, Value.int .i64 0, Value.int .u64 0, Value.int .i64 0, Value.slice none 0 0, Value.slice none 0 0] 40)
          have q7 := (Rd.own V7).below hz7
          have hy7 := hx7.trans (hz7.mono hx7.size)
          generalize X7.alloc (Obj.cells #[Value.int .i64 1, Value.int .u64 0, Value.int .i64 (-1), Value.slice none 0 0, Value.slice none 0 0, Value.int .i64 0, Value.int .u64 0, Value.int .i64 0, Value.slice none 0 0, Value.slice none 0 0] 40) = Y7 at *
          have RD7 := reads_two _ _ 1 1 _ _ _ _ Y7 (q7.more hz7.size) (by decide) (by decide) (by decide) (Rd.own T7) (by decide) (by decide) (by decide)
          rw [hX7] at RD7
          clear hX7
          with_reducible refine RD7.mono ?_
          rintro e w7 ⟨rfl, hb7⟩
          have hb7 := hy7.trans (hb7.mono hy7.size)
          have V8 := five_row w7
          have hx8 := hb7.trans ((below_new w7 (Obj.cells #[Value.int .u8 5] 5)).mono hb7.size)
          go_wp2_with fail
          have hX8 : (w7.alloc (Obj.cells #[Value.int .u8 5] 5)).heap.size = w7.heap.size + 1 := by simp
          generalize w7.alloc (Obj.cells #[Value.int .u8 5] 5) = X8 at *
          have T8 := acts_one' X8 3 9223372036854775807
          have hz8 := below_new X8 (Obj.cells #[Value.int .i64 3, Value.int .u64 0, Value.int .i64 9223372036854775807, Value.slice none 0 0, Value.slice none 0 0] 40)
          have q8 := (Rd.own V8).below hz8
          have hy8 := hx8.trans (hz8.mono hx8.size)
          generalize X8.alloc (Obj.cells #[Value.int .i64 3, Value.int .u64 0, Value.int .i64 9223372036854775807, Value.slice none 0 0, Value.slice none 0 0] 40) = Y8 at *
          have RD8 := reads_one _ _ 1 1 _ _ _ Y8 (q8.more hz8.size) (by decide) (by decide) (by decide) (Rd.own T8) (by decide) (by decide)
          rw [hX8] at RD8
          clear hX8
          with_reducible refine RD8.mono ?_
          rintro e w8 ⟨rfl, hb8⟩
          have hb8 := hy8.trans (hb8.mono hy8.size)
          go_wp2_with fail
          refine (works_any w8).mono ?_
          rintro e w9 ⟨rfl, hb9⟩
          have hb9 := hF.trans ((hb8.trans (hb9.mono hb8.size)).mono hF.size)
          go_wp2
          go_ret
          exact ⟨rfl, hb9⟩

end Go.Proofs.Ytaafladmpdkfjaa
