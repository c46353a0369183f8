/-
  Layer 5: Parse, the program's. (Out of gen_vyx.py.)
  Layer 5: whether two records are the same: the program's.
  Layer 5: what was put and parsed, told and read, plainly.
-/
import Derived.Test.YtiiiklenhmhccaaGreatDoorZrSup
import Derived.Test.YtiiiklenhmhccaaGreatDoorZrVyw
import Derived.Deep.RegionHeld3
import Derived.Test.YtiiiklenhmhccaaGreatDoorZpVds
import Derived.Test.YtiiiklenhmhccaaGreatDoorZpVri
import Derived.Test.YtiiiklenhmhccaaGreatDoorZpVlk
import Derived.Test.YtiiiklenhmhccaaGreatDoorZpVcv

namespace Go.Proofs.YtiiiklenhmhccaaGreatDoor
open Go Go.RowKit
set_option linter.unusedVariables false
def ansP (k : Nat) (l : List Nat) : Rc × Nat := if 1 ≤ k ∧ k ≤ 7 then (match payB k l with | some r => (r, 0) | none => (Rc.zero 0, 5)) else (Rc.zero 0, 4)
def ParEnd (o : Rc × Nat) (m : Nat) (w : World) (e : Ending) (w' : World) : Prop :=
  ∃ r : Rv, e = .returned (.tuple #[r.val, .int .i64 (o.2 : Int)]) ∧ r.abs = o.1 ∧ RLies w' w.heap.size w'.heap.size r ∧ SpR w.heap.size r w' ∧ Below w.heap.size w w' ∧ 4 * r.es.length ≤ m + 4
theorem spr_zero (w : World) (lo : Nat) (k : Int) (h : lo ≤ w.heap.size) : SpR lo ⟨k, 0, 0, 0, 0, 0, .node 0 0 0 none 0 [], none, 0, []⟩ w :=
  ⟨lo, w, Nat.le_refl _, h, Nat.le_refl _, zero_shp _ _ _, zero_shp _ _ _, World.ownsRow_nil _ _ _ _, fun k hk => by cases hk⟩
theorem par_ret {Q : Ending → World → Prop} {W : World} {h0 : Nat} {z : Int} {x0 x1 x2 x3 x4 x5 x6 x7 x8 x9 x10 : Value} (HR : W.heap[h0]? = some (.cells #[x0, x1, x2, x3, x4, x5, x6, x7, x8, x9, x10] 30 (0, 0)))
    (HF : Q (.returned (.tuple #[.agg #[x0, x1, x2, x3, x4, x5, x6, x7, x8, x9, x10], .int .i64 z])) W)
    (tmps : Array Value) (h2 : tmps.getD 2 undef = .pointer (some ⟨h0, 0, none⟩)) (h3 : tmps.getD 3 undef = .int .i64 z) : bodyPost Tryz.prog Tryz.f30 Q .ret { tmps := tmps, defers := [] } W := by
  rw [Array.getD_eq_getD_getElem?] at h2 h3
  obtain ⟨d0, d1, d2, d3, d4, d5, d6, d7, d8, d9, d10⟩ := rec_cells HR
  exact bodyPost_ret (v := .tuple #[.agg #[x0, x1, x2, x3, x4, x5, x6, x7, x8, x9, x10], .int .i64 z]) (by simp [results, Tryz.results30, go_sem, h2, h3, d0, d1, d2, d3, d4, d5, d6, d7, d8, d9, d10]) rfl HF
set_option maxRecDepth 100000 in
set_option maxHeartbeats 6400000 in
theorem parse5_any (B : Nat) (k : Nat) (A : Option Addr) (n c : Nat) (l : List Nat) (w : World) (hk8 : k < 256) (hr : Rd w B 1 A n (bs l)) (hb8 : ∀ x ∈ l, x < 256) (hn : n ≤ 100000) (hB : B ≤ w.heap.size) :
    Calls Tryz.prog 30 #[.agg #[.int .u8 (k : Int), .slice A n c]] w (ParEnd (ansP k l) l.length w) := by
  have hf0 := heap_alloc_new w (.cells #[.int .u8 (k : Int), .slice A n c] 48)
  have hb0 := below_new w (.cells #[.int .u8 (k : Int), .slice A n c] 48)
  have hs0 : (w.alloc (.cells #[.int .u8 (k : Int), .slice A n c] 48)).heap.size = w.heap.size + 1 := by simp
  have hw1 := heap_alloc_new (w.alloc (.cells #[.int .u8 (k : Int), .slice A n c] 48)) (.cells #[.int .i64 0, .int .u64 0, .int .u64 0, .int .u64 0, .int .u64 0, .int .u64 0, .int .i64 0, .int .u64 0, .int .u64 0, .slice none 0 0, .slice none 0 0] 30)
  have hb1n := below_new (w.alloc (.cells #[.int .u8 (k : Int), .slice A n c] 48)) (.cells #[.int .i64 0, .int .u64 0, .int .u64 0, .int .u64 0, .int .u64 0, .int .u64 0, .int .i64 0, .int .u64 0, .int .u64 0, .slice none 0 0, .slice none 0 0] 30)
  have hs1 : ((w.alloc (.cells #[.int .u8 (k : Int), .slice A n c] 48)).alloc (.cells #[.int .i64 0, .int .u64 0, .int .u64 0, .int .u64 0, .int .u64 0, .int .u64 0, .int .i64 0, .int .u64 0, .int .u64 0, .slice none 0 0, .slice none 0 0] 30)).heap.size = w.heap.size + 1 + 1 := by simp
  have hf1 := (hb1n.block _ (by rw [hs0]; omega)).trans hf0
  have hb1 : Below w.heap.size w _ := hb0.trans (hb1n.mono (by rw [hs0]; omega))
  rw [hs0] at hw1
  clear hf0 hb0 hb1n hs0
  obtain ⟨w1, hw⟩ : ∃ w1, w1 = (w.alloc (.cells #[.int .u8 (k : Int), .slice A n c] 48)).alloc (.cells #[.int .i64 0, .int .u64 0, .int .u64 0, .int .u64 0, .int .u64 0, .int .u64 0, .int .i64 0, .int .u64 0, .int .u64 0, .slice none 0 0, .slice none 0 0] 30) := ⟨_, rfl⟩
  rw [← hw] at hw1 hb1 hs1 hf1
  have HLB : Hid (ansP k l = if 1 ≤ k ∧ k ≤ 7 then (match payB k l with | some r => (r, 0) | none => (Rc.zero 0, 5)) else (Rc.zero 0, 4)) := rfl
  have hKN : Rc.knownB (k : Nat) = decide (1 ≤ k ∧ k ≤ 7) := by unfold Rc.knownB; rw [Bool.eq_iff_iff]; simp; omega
  have HRD : Hid (∀ W, Below w.heap.size w W → Rd W B 1 A n (bs l)) := fun W hW => hr.below (hW.mono hB)
  have BADE : Hid (∀ z : Nat, ansP k l = (Rc.zero 0, z) → ∀ W, Below w.heap.size w W → W.heap[w.heap.size + 1]? = some (.cells #[.int .i64 0, .int .u64 0, .int .u64 0, .int .u64 0, .int .u64 0, .int .u64 0, .int .i64 0, .int .u64 0, .int .u64 0, .slice none 0 0, .slice none 0 0] 30 (0, 0)) →
      ParEnd (ansP k l) l.length w (.returned (.tuple #[.agg #[.int .i64 0, .int .u64 0, .int .u64 0, .int .u64 0, .int .u64 0, .int .u64 0, .int .i64 0, .int .u64 0, .int .u64 0, .slice none 0 0, .slice none 0 0], .int .i64 (z : Int)])) (put11 W (w.heap.size + 1) (.int .i64 0) (.int .u64 0) (.int .u64 0) (.int .u64 0) (.int .u64 0) (.int .u64 0) (.int .i64 0) (.int .u64 0) (.int .u64 0) (.slice none 0 0) (.slice none 0 0)) ∧
      (put11 W (w.heap.size + 1) (.int .i64 0) (.int .u64 0) (.int .u64 0) (.int .u64 0) (.int .u64 0) (.int .u64 0) (.int .i64 0) (.int .u64 0) (.int .u64 0) (.slice none 0 0) (.slice none 0 0)).heap[w.heap.size + 1]? = some (.cells #[.int .i64 0, .int .u64 0, .int .u64 0, .int .u64 0, .int .u64 0, .int .u64 0, .int .i64 0, .int .u64 0, .int .u64 0, .slice none 0 0, .slice none 0 0] 30 (0, 0))) := fun z hn W h1 h2 => by
    refine ⟨?_, put11_row _ _ _ _ _ _ _ _ _ _ _ h2⟩
    rw [hn]
    have hh := h1.trans ((put11_grow (g := w.heap.size + 1) (.int .i64 0) (.int .u64 0) (.int .u64 0) (.int .u64 0) (.int .u64 0) (.int .u64 0) (.int .i64 0) (.int .u64 0) (.int .u64 0) (.slice none 0 0) (.slice none 0 0) W (w.heap.size + 1)).below (B := w.heap.size) h1.size (by omega) (by omega))
    exact ⟨⟨0, 0, 0, 0, 0, 0, .node 0 0 0 none 0 [], none, 0, []⟩, rfl, abs_zero 0, rlies_zero _ _ _ 0 (by omega), spr_zero _ _ _ hh.size, hh, by simp⟩
  subst hw
  go_enter Tryz.func30, Tryz.ntmps30
  go_upto_region 1 with (fail)
  generalize (w.alloc (.cells #[.int .u8 (k : Int), .slice A n c] 48)).alloc (.cells #[.int .i64 0, .int .u64 0, .int .u64 0, .int .u64 0, .int .u64 0, .int .u64 0, .int .i64 0, .int .u64 0, .int .u64 0, .slice none 0 0, .slice none 0 0] 30) = w1 at *
  have c0 : w1.cell? ⟨w.heap.size, 0, none⟩ = some (.int .u8 (k : Int)) := cell_of_row w1 _ 0 _ _ _ hf1
  have ha4 := heap_alloc_new w1 (.cells #[.int .i64 (k : Int), .int .u64 0, .int .u64 0, .int .u64 0, .int .u64 0, .int .u64 0, .int .i64 0, .int .u64 0, .int .u64 0, .slice none 0 0, .slice none 0 0] 30)
  have hb4 := below_new w1 (.cells #[.int .i64 (k : Int), .int .u64 0, .int .u64 0, .int .u64 0, .int .u64 0, .int .u64 0, .int .i64 0, .int .u64 0, .int .u64 0, .slice none 0 0, .slice none 0 0] 30)
  have hw4 := (hb4.block _ (lt_of_block hw1)).trans hw1
  have hf4 := (hb4.block _ (lt_of_block hf1)).trans hf1
  have hb4' := hb1.trans (hb4.mono hb1.size)
  have hs4 : (w1.alloc (.cells #[.int .i64 (k : Int), .int .u64 0, .int .u64 0, .int .u64 0, .int .u64 0, .int .u64 0, .int .i64 0, .int .u64 0, .int .u64 0, .slice none 0 0, .slice none 0 0] 30)).heap.size = w1.heap.size + 1 := by simp
  clear hw1 hf1 hb4 hb1
  go_upto_region 2 with (fail)
  generalize w1.alloc (.cells #[.int .i64 (k : Int), .int .u64 0, .int .u64 0, .int .u64 0, .int .u64 0, .int .u64 0, .int .i64 0, .int .u64 0, .int .u64 0, .slice none 0 0, .slice none 0 0] 30) = w4 at *
  rw [hs1] at ha4 hs4
  clear hs1 c0
  have c0 := cell_of_row w4 _ 0 _ _ _ ha4
  simp at c0
  go_wp2_with fail
  refine (known_any k _).mono ?_
  rintro e w5 ⟨rfl, rfl⟩
  rw [hKN]
  by_cases hk0 : 1 ≤ k ∧ k ≤ 7
  rotate_left
  · have HN : Hid (ansP k l = (Rc.zero 0, 4)) := Lib_hid (by rw [HLB.out, if_neg hk0])
    obtain ⟨HX, HY⟩ := BADE.out 4 HN.out w5 hb4' hw4
    have HXX := Lib_hid HX
    have HYY := Lib_hid HY
    obtain ⟨e0, e1, e2, e3, e4, e5, e6, e7, e8, e9, e10⟩ := rec_cells hw4
    have y := fun i => frozen_of_row w5 (w.heap.size + 1) i _ _ hw4
    have y0 := y 0
    have y1 := y 1
    have y2 := y 2
    have y3 := y 3
    have y4 := y 4
    have y5 := y 5
    have y6 := y 6
    have y7 := y 7
    have y8 := y 8
    have y9 := y 9
    have y10 := y 10
    clear HX HY BADE HLB y hw4 ha4 HRD hr hf4 hb4'
    rw [decide_eq_false hk0]
    go_wp2
    show bodyPost _ _ _ _ _ (put11 w5 (w.heap.size + 1) (.int .i64 0) (.int .u64 0) (.int .u64 0) (.int .u64 0) (.int .u64 0) (.int .u64 0) (.int .i64 0) (.int .u64 0) (.int .u64 0) (.slice none 0 0) (.slice none 0 0))
    generalize put11 w5 (w.heap.size + 1) (.int .i64 0) (.int .u64 0) (.int .u64 0) (.int .u64 0) (.int .u64 0) (.int .u64 0) (.int .i64 0) (.int .u64 0) (.int .u64 0) (.slice none 0 0) (.slice none 0 0) = W4 at *
    exact par_ret HYY.out HXX.out _ rfl rfl
  · rw [decide_eq_true hk0]
    have hlb : ansP k l = match payB k l with | some r => (r, 0) | none => (Rc.zero 0, 5) := by rw [HLB.out, if_pos hk0]
    have HLB2 := Lib_hid hlb
    have f1 : w5.cell? ⟨w.heap.size, 1, none⟩ = some (.slice A n c) := cell_of_row w5 _ 1 _ _ _ hf4
    have RC := read5_any B A n c l w5 (HRD.out _ hb4') hb8 hn (Nat.le_trans hB hb4'.size)
    clear HLB hKN hlb c0 HRD hr hf4
    go_wp2_with fail
    refine RC.mono ?_
    rintro e w6 ⟨h, A5, c5, rfl, hh, hrr, hb5, hsep⟩
    have hg6 := heap_alloc_new w6 (.cells #[.pointer (some ⟨h, 0, none⟩), .bool false] 127)
    have hb6 := below_new w6 (.cells #[.pointer (some ⟨h, 0, none⟩), .bool false] 127)
    have ha5 := (hb5.block _ (lt_of_block ha4)).trans ha4
    have hw5 := (hb5.block _ (lt_of_block hw4)).trans hw4
    have ha6 := (hb6.block _ (lt_of_block ha5)).trans ha5
    have hw6 := (hb6.block _ (lt_of_block hw5)).trans hw5
    have hr6 := hrr.kept hb6
    have hhl := hrr.lt
    have hb5' := hb4'.trans (hb5.mono hb4'.size)
    have hs5 := hb5'.size
    have hb6' := hb5'.trans (hb6.mono hs5)
    have hs6 : (w6.alloc (.cells #[.pointer (some ⟨h, 0, none⟩), .bool false] 127)).heap.size = w6.heap.size + 1 := by simp
    have hlt4 := lt_of_block ha4
    have hb5z := hb5.size
    clear RC hrr hb5 hb5' hb6 ha5 hw5 ha4 hw4 hb4' f1
    go_upto_region 5 with (fail)
    generalize w6.alloc (.cells #[.pointer (some ⟨h, 0, none⟩), .bool false] 127) = w7 at *
    generalize w6.heap.size = g at *
    have c0 : w7.cell? ⟨w.heap.size + 1 + 1, 0, none⟩ = some (.int .i64 (k : Int)) := cell_of_row w7 _ 0 _ _ _ ha6
    go_wp2_with fail
    refine (partsof_any (k : Int) _).mono ?_
    rintro e w8 ⟨Ap, cp, rfl, hop, hb8'⟩
    have hT8 : Hid (TkS w7.heap.size (w.heap.size + 1 + 1) g h A5 l.length c5 l ⟨k, 0, 0, 0, 0, 0, .node 0 0 0 none 0 [], none, 0, []⟩ 0 0 false w8) :=
      ⟨(hb8'.block _ (lt_of_block ha6)).trans ha6, ⟨(hb8'.block _ (lt_of_block hg6)).trans hg6, hr6.kept hb8', hhl⟩, rlies_zero _ _ _ _ (by omega), by omega, by omega, by omega, by omega, fun ad e hn => by have := hsep ad e hn; omega, hb8'.size, spr_zero _ _ _ hb8'.size, by simp⟩
    have hw8 := (hb8'.block _ (lt_of_block hw6)).trans hw6
    have hb8w := hb6'.trans (hb8'.mono hb6'.size)
    have hs8 := hb8'.size
    have HPL : Hid (∀ q, q ∈ partsN (k : Int) 6 → q < 6) := fun q hq => partsN_lt hq
    have hpl := partsN_le (k : Int) 6
    have HPAY : Hid (payB k l = (goT l (Rc.zero (k : Int)) 0 (partsN (k : Int) 6)).bind fun x => if x.2 = l.length then some x.1 else none) := rfl
    clear hb6' hg6 ha6 hw6 hb8' c0 hr6 hsep
    have HX : Hid (∀ W, Grow3 w8 W (w.heap.size + 1 + 1) g h → W.heap[w.heap.size + 1]? = some (.cells #[.int .i64 0, .int .u64 0, .int .u64 0, .int .u64 0, .int .u64 0, .int .u64 0, .int .i64 0, .int .u64 0, .int .u64 0, .slice none 0 0, .slice none 0 0] 30 (0, 0)) ∧ Below w.heap.size w W ∧
        W.ownsRow w7.heap.size 102 6 (.slice Ap (partsN (k : Int) 6).length cp) (partsN (k : Int) 6).length (psL (partsN (k : Int) 6))) := fun W hG =>
      ⟨(hG.block _ (by omega) (by omega) (by omega) (by omega)).trans hw8, hb8w.trans (hG.below hb8w.size (by omega) (by omega) (by omega)), own_keep hop fun j hj => hG.block j (own_lt hop j hj) (by have := own_ge hop j hj; omega) (by have := own_ge hop j hj; omega) (by have := own_ge hop j hj; omega)⟩
    have RD : Hid (∀ (q : Nat), q < 6 → ∀ (r : Rv) (ac ee : Nat) (bad : Bool) (W : World), TkS w7.heap.size (w.heap.size + 1 + 1) g h A5 l.length c5 l r ac ee bad W → Calls Tryz.prog (mtakeF q) #[.pointer (some ⟨w.heap.size + 1 + 1, 0, none⟩), .pointer (some ⟨g, 0, none⟩)] W (TakEnd q w7.heap.size (w.heap.size + 1 + 1) g h A5 l.length c5 l r ac ee bad W)) := fun q hq r ac ee bad W hR =>
      take6_any q hq hR
    generalize hpp : partsN (k : Int) 6 = pl at *
    clear hw8 hop
    go_wp2
    go_loopw [25] (fun z wr => ∃ (i : Nat) (r : Rv) (ac ee : Nat) (bad : Bool), z = .int .i64 i ∧ i ≤ pl.length ∧ Hid (TkS w7.heap.size (w.heap.size + 1 + 1) g h A5 l.length c5 l r ac ee bad wr) ∧ Hid (Grow3 w8 wr (w.heap.size + 1 + 1) g h) ∧
      Hid (Took (goT l (Rc.zero (k : Int)) 0 (pl.take i)) 0 false r.abs ac ee bad)) (fun z _ => pl.length - (intOf z).toNat)
    case atStart => exact ⟨0, _, 0, 0, false, rfl, Nat.zero_le _, hT8, Grow3.refl _ _ _ _, ⟨fun hx => hx, fun hx => .inl ⟨by rw [abs_zero]; rfl, hx⟩⟩⟩
    case round =>
      clear hT8
      obtain ⟨i, r, ac, ee, bad, rfl, hi1, hR, hG, hI⟩ := hrel
      obtain ⟨hbx, hbw, hown⟩ := HX.out _ hG.out
      by_cases hlt : i < pl.length
      · obtain ⟨b, off, q, rfl, hq, d0, d1, d2, d3, d4, d5⟩ := ps_nth (Rd.own hown) hlt
        have hq6 := HPL.out q (List.mem_of_getElem? hq)
        have hcp := call_take hq6
        have HTK : Hid (pl.take (i + 1) = pl.take i ++ [q]) := take_one hq
        have hb5 := below_new wr (.cells #[.func (.func (mofF q)) #[] #[], .func (.func (memptyF q)) #[] #[], .func (.func (mputF q)) #[] #[], .func (.func (mtakeF q)) #[] #[], .func (.func (mtellF q)) #[] #[], .func (.func (mreadF q)) #[] #[]] 102)
        have hp5 := heap_alloc_new wr (.cells #[.func (.func (mofF q)) #[] #[], .func (.func (memptyF q)) #[] #[], .func (.func (mputF q)) #[] #[], .func (.func (mtakeF q)) #[] #[], .func (.func (mtellF q)) #[] #[], .func (.func (mreadF q)) #[] #[]] 102)
        have hR5 := hR.out.kept hb5
        have hG5 := hG.out.trans (Grow3.ofB hb5)
        have CP := RD.out q hq6 r ac ee bad _ hR5
        clear hR hG hbx hbw hown hq6 hb5 hq
        generalize mofF q = f1 at *
        generalize memptyF q = f2 at *
        generalize mputF q = f3 at *
        generalize mtakeF q = f4 at *
        generalize mtellF q = f5 at *
        generalize mreadF q = f6 at *
        go_upto_region 8 with (fail)
        generalize wr.alloc (.cells #[.func (.func f1) #[] #[], .func (.func f2) #[] #[], .func (.func f3) #[] #[], .func (.func f4) #[] #[], .func (.func f5) #[] #[], .func (.func f6) #[] #[]] 102) = w9 at *
        clear d0 d1 d2 d3 d4 d5
        have d3 : w9.cell? ⟨wr.heap.size, 3, none⟩ = some (.func (.func f4) #[] #[]) := cell_of_row w9 _ 3 _ _ _ hp5
        go_wp2_with fail
        refine CP.mono ?_
        rintro e w10 ⟨rfl, hG9, r', ac', ee', bad', hR', hk', ht'⟩
        have HI2 : Hid (Took (goT l (Rc.zero (k : Int)) 0 (pl.take (i + 1))) 0 false r'.abs ac' ee' bad') := by
          unfold Hid
          rw [HTK.out, goT_snoc]
          exact Took.bind (f := fun x : Rc × Nat => x.1.takeP l x.2 q) hI.out ht'
        have HG2 := Lib_hid (hG5.trans hG9)
        have HR2 := Lib_hid hR'
        clear CP d3 hG9 hR' ht' hI hR5 hG5 hp5
        go_wp2
        go_roundw
        case rel => exact ⟨i + 1, r', ac', ee', bad', by go_num, by omega, HR2, HG2, HI2⟩
        case measure => simp [intOf]; omega
      · obtain rfl : i = pl.length := by omega
        rw [List.take_length] at hI
        have hT := hR.out
        have GD := pgood_any hT.pl
        obtain ⟨c0, -, -, -⟩ := hT.pl.cells
        by_cases hg : GoodB ee bad
        · rw [show decide (GoodB ee bad) = true from decide_eq_true hg] at GD
          have hgo : goT l (Rc.zero (k : Int)) 0 pl = some (r.abs, ac) := by
            rcases hI.out.2 ⟨rfl, rfl⟩ with ⟨e1, _⟩ | ⟨_, e2⟩
            · exact e1
            · exact absurd hg e2
          have LF := left_any h A5 l.length c5 ac ee l wr hT.pl.rd
          have hpl2 := hT.pl.rd.place
          by_cases hend : ac = l.length
          · have HN : Hid (ansP k l = (r.abs, 0)) := by unfold Hid; rw [HLB2.out, HPAY.out, hgo]; simp [hend]
            have FIN : Hid (∀ W, Below wr.heap.size wr W → ParEnd (ansP k l) l.length w (.returned (.tuple #[r.val, .int .i64 0])) (put11 W (w.heap.size + 1) (.int .i64 r.kind) (.int .u64 (r.t : Int)) (.int .u64 (r.x : Int)) (.int .u64 (r.w : Int)) (.int .u64 (r.n : Int)) (.int .u64 (r.v : Int)) (.int .i64 r.p.kind) (.int .u64 (r.p.a : Int)) (.int .u64 (r.p.b : Int)) r.p.sl r.sl) ∧ W.heap[w.heap.size + 1 + 1]? = some (.cells r.arr 30 (0, 0)) ∧ W.heap[w.heap.size + 1]? = some (.cells #[.int .i64 0, .int .u64 0, .int .u64 0, .int .u64 0, .int .u64 0, .int .u64 0, .int .i64 0, .int .u64 0, .int .u64 0, .slice none 0 0, .slice none 0 0] 30 (0, 0))) := fun W hW => by
              have hT2 := hT.kept hW
              have hbW := hbw.trans (hW.mono hbw.size)
              have hGG := put11_grow (.int .i64 r.kind) (.int .u64 (r.t : Int)) (.int .u64 (r.x : Int)) (.int .u64 (r.w : Int)) (.int .u64 (r.n : Int)) (.int .u64 (r.v : Int)) (.int .i64 r.p.kind) (.int .u64 (r.p.a : Int)) (.int .u64 (r.p.b : Int)) r.p.sl r.sl W (g := w.heap.size + 1) (w.heap.size + 1)
              have hal := hT2.al
              have hbk : ∀ k, w7.heap.size ≤ k → k < W.heap.size → (put11 W (w.heap.size + 1) (.int .i64 r.kind) (.int .u64 (r.t : Int)) (.int .u64 (r.x : Int)) (.int .u64 (r.w : Int)) (.int .u64 (r.n : Int)) (.int .u64 (r.v : Int)) (.int .i64 r.p.kind) (.int .u64 (r.p.a : Int)) (.int .u64 (r.p.b : Int)) r.p.sl r.sl).heap[k]? = W.heap[k]? := fun k k1 k2 => hGG.block k k2 (by omega) (by omega)
              refine ⟨?_, hT2.box, (hW.block _ (lt_of_block hbx)).trans hbx⟩
              rw [HN.out]
              exact ⟨r, rfl, rfl, (hT2.lies.stay hGG.size hbk).more (by omega) (Nat.le_refl _), (hT2.sp.stay hGG.size hbk).more (by omega), hbW.trans (hGG.below (B := w.heap.size) hbW.size (by omega) (by omega)), hT2.few⟩
            clear HN hgo hI BADE HX hR hG hown HLB2 RD hT HPAY hbw hg
            have hle : ((l.length : Int) - ac) = 0 := by omega
            rw [hle] at LF
            go_upto_region 12 with (first | (go_at_call 63; refine GD.mono ?_; rintro en wx ⟨rfl, rfl⟩) | (go_at_call 64; refine LF.mono ?_; rintro en wy ⟨rfl, qq, rfl⟩))
            obtain ⟨HF, hax, hbx2⟩ := FIN.out (wx.drewN qq) (below_drew_ (Below.refl _ _))
            generalize wx.drewN qq = wz at *
            obtain ⟨k', t, x, wn, nn, v, p, A, c, es⟩ := r
            simp only [Rv.arr, Rv.val, Rv.sl, V.sl] at hax HF
            have HB2 : Hid ((put11 wz (w.heap.size + 1) (.int .i64 k') (.int .u64 (t : Int)) (.int .u64 (x : Int)) (.int .u64 (wn : Int)) (.int .u64 (nn : Int)) (.int .u64 (v : Int)) (.int .i64 p.kind) (.int .u64 (p.a : Int)) (.int .u64 (p.b : Int)) (.slice p.addr p.parts.length p.cap) (.slice A es.length c)).heap[w.heap.size + 1]? = some (.cells #[.int .i64 k', .int .u64 (t : Int), .int .u64 (x : Int), .int .u64 (wn : Int), .int .u64 (nn : Int), .int .u64 (v : Int), .int .i64 p.kind, .int .u64 (p.a : Int), .int .u64 (p.b : Int), .slice p.addr p.parts.length p.cap, .slice A es.length c] 30 (0, 0))) := put11_row _ _ _ _ _ _ _ _ _ _ _ hbx2
            have HFF := Lib_hid HF
            obtain ⟨d0, d1, d2, d3, d4, d5, d6, d7, d8, d9, d10⟩ := rec_cells hax
            obtain ⟨e0, e1, e2, e3, e4, e5, e6, e7, e8, e9, e10⟩ := rec_cells hbx2
            have y := fun i => frozen_of_row wz (w.heap.size + 1) i _ _ hbx2
            have y0 := y 0
            have y1 := y 1
            have y2 := y 2
            have y3 := y 3
            have y4 := y 4
            have y5 := y 5
            have y6 := y 6
            have y7 := y 7
            have y8 := y 8
            have y9 := y 9
            have y10 := y 10
            clear y hbx hbx2 hax FIN HF GD LF
            generalize p.addr = pA at *
            generalize p.parts.length = pn at *
            generalize p.cap = pc at *
            generalize p.kind = pk at *
            generalize (p.a : Int) = pa at *
            generalize (p.b : Int) = pb at *
            generalize es.length = en at *
            go_wp2
            show bodyPost _ _ _ _ _ (put11 wz (w.heap.size + 1) (.int .i64 k') (.int .u64 (t : Int)) (.int .u64 (x : Int)) (.int .u64 (wn : Int)) (.int .u64 (nn : Int)) (.int .u64 (v : Int)) (.int .i64 pk) (.int .u64 pa) (.int .u64 pb) (.slice pA pn pc) (.slice A en c))
            generalize put11 wz (w.heap.size + 1) (.int .i64 k') (.int .u64 (t : Int)) (.int .u64 (x : Int)) (.int .u64 (wn : Int)) (.int .u64 (nn : Int)) (.int .u64 (v : Int)) (.int .i64 pk) (.int .u64 pa) (.int .u64 pb) (.slice pA pn pc) (.slice A en c) = W4 at *
            exact par_ret HB2.out HFF.out _ rfl rfl
          · have HN : Hid (ansP k l = (Rc.zero 0, 5)) := by unfold Hid; rw [HLB2.out, HPAY.out, hgo]; simp [hend]
            have hgt : (0 : Int) < (l.length : Int) - ac := by omega
            generalize (l.length : Int) - ac = lf at *
            have FIN : Hid (∀ W, Below wr.heap.size wr W → W.heap[w.heap.size + 1]? = some (.cells #[.int .i64 0, .int .u64 0, .int .u64 0, .int .u64 0, .int .u64 0, .int .u64 0, .int .i64 0, .int .u64 0, .int .u64 0, .slice none 0 0, .slice none 0 0] 30 (0, 0)) ∧ Below w.heap.size w W) := fun W hW => ⟨(hW.block _ (lt_of_block hbx)).trans hbx, hbw.trans (hW.mono hbw.size)⟩
            clear hgo hI HX hR hG hown HLB2 RD hT HPAY hbw hg hbx
            go_upto_region 11 with (first | (go_at_call 63; refine GD.mono ?_; rintro en wx ⟨rfl, rfl⟩) | (go_at_call 64; refine LF.mono ?_; rintro en wy ⟨rfl, qq, rfl⟩))
            obtain ⟨hbx, hbw⟩ := FIN.out (wx.drewN qq) (below_drew_ (Below.refl _ _))
            generalize wx.drewN qq = wz at *
            obtain ⟨HX2, HY2⟩ := BADE.out 5 HN.out wz hbw hbx
            have HXX := Lib_hid HX2
            have HYY := Lib_hid HY2
            obtain ⟨e0, e1, e2, e3, e4, e5, e6, e7, e8, e9, e10⟩ := rec_cells hbx
            have y := fun i => frozen_of_row wz (w.heap.size + 1) i _ _ hbx
            have y0 := y 0
            have y1 := y 1
            have y2 := y 2
            have y3 := y 3
            have y4 := y 4
            have y5 := y 5
            have y6 := y 6
            have y7 := y 7
            have y8 := y 8
            have y9 := y 9
            have y10 := y 10
            clear HX2 HY2 BADE HN y hbx hbw FIN GD LF
            go_wp2
            show bodyPost _ _ _ _ _ (put11 wz (w.heap.size + 1) (.int .i64 0) (.int .u64 0) (.int .u64 0) (.int .u64 0) (.int .u64 0) (.int .u64 0) (.int .i64 0) (.int .u64 0) (.int .u64 0) (.slice none 0 0) (.slice none 0 0))
            generalize put11 wz (w.heap.size + 1) (.int .i64 0) (.int .u64 0) (.int .u64 0) (.int .u64 0) (.int .u64 0) (.int .u64 0) (.int .i64 0) (.int .u64 0) (.int .u64 0) (.slice none 0 0) (.slice none 0 0) = W4 at *
            exact par_ret HYY.out HXX.out _ rfl rfl
        · rw [show decide (GoodB ee bad) = false from decide_eq_false hg] at GD
          have hgo : goT l (Rc.zero (k : Int)) 0 pl = none := by
            rcases hI.out.2 ⟨rfl, rfl⟩ with ⟨_, e1⟩ | ⟨e2, _⟩
            · exact absurd e1 hg
            · exact e2
          have HN : Hid (ansP k l = (Rc.zero 0, 5)) := by unfold Hid; rw [HLB2.out, HPAY.out, hgo]; rfl
          obtain ⟨HX2, HY2⟩ := BADE.out 5 HN.out wr hbw hbx
          have HXX := Lib_hid HX2
          have HYY := Lib_hid HY2
          obtain ⟨e0, e1, e2, e3, e4, e5, e6, e7, e8, e9, e10⟩ := rec_cells hbx
          have y := fun i => frozen_of_row wr (w.heap.size + 1) i _ _ hbx
          have y0 := y 0
          have y1 := y 1
          have y2 := y 2
          have y3 := y 3
          have y4 := y 4
          have y5 := y 5
          have y6 := y 6
          have y7 := y 7
          have y8 := y 8
          have y9 := y 9
          have y10 := y 10
          clear HX2 HY2 BADE HX hR hG hown HLB2 RD HN hI y hbx hbw hT hgo
          go_wp2_with (go_at_call 63; refine GD.mono ?_; rintro en wx ⟨rfl, rfl⟩)
          show bodyPost _ _ _ _ _ (put11 _ (w.heap.size + 1) (.int .i64 0) (.int .u64 0) (.int .u64 0) (.int .u64 0) (.int .u64 0) (.int .u64 0) (.int .i64 0) (.int .u64 0) (.int .u64 0) (.slice none 0 0) (.slice none 0 0))
          generalize put11 _ (w.heap.size + 1) (.int .i64 0) (.int .u64 0) (.int .u64 0) (.int .u64 0) (.int .u64 0) (.int .u64 0) (.int .i64 0) (.int .u64 0) (.int .u64 0) (.slice none 0 0) (.slice none 0 0) = W4 at *
          exact par_ret HYY.out HXX.out _ rfl rfl
end Go.Proofs.YtiiiklenhmhccaaGreatDoor

namespace Go.Proofs.YtiiiklenhmhccaaGreatDoor
open Go Go.RowKit
set_option linter.unusedVariables false
set_option maxRecDepth 100000 in
set_option maxHeartbeats 3200000 in
theorem equalE_any (es fs : List En) (A A' : Option Addr) (c c' hi hi' : Nat) (w : World) (hr : Rd w hi 4 A es.length (enCells es)) (hr' : Rd w hi' 4 A' fs.length (enCells fs)) (hl : es.length ≤ 1000000000) (hl' : fs.length ≤ 1000000000) :
    Calls Tryz.prog 55 #[.slice A es.length c, .slice A' fs.length c'] w fun e w' => e = .returned (.bool (decide (es = fs))) ∧ Below w.heap.size w w' := by
  by_cases hne : es.length = fs.length
  · have HF : Hid (∀ (b : Bool), b = decide (es = fs) → Ending.returned (.bool b) = .returned (.bool (decide (es = fs)))) := fun b h => by rw [h]
    have HQ : Hid (∀ (i : Nat) (x y : En), es[i]? = some x → fs[i]? = some y → x ≠ y → false = decide (es = fs)) := fun i x y h1 h2 h3 => by
      have : es ≠ fs := fun e => by rw [e, h2] at h1; exact h3 (Option.some.inj h1).symm
      simp [this]
    have HA : Hid (es.take es.length = fs.take es.length → true = decide (es = fs)) := fun h => by
      rw [List.take_length, hne, List.take_length] at h
      simp [h]
    have HR := Lib_hid (And.intro hr hr')
    have hnei : ((es.length : Int) != (fs.length : Int)) = false := by simp [hne]
    clear hr hr'
    generalize decide (es = fs) = z at *
    go_enter Tryz.func55, Tryz.ntmps55
    go_wp2
    go_loopw [13] (fun v wr => ∃ i : Nat, v = .int .i64 i ∧ i ≤ es.length ∧ Hid (es.take i = fs.take i) ∧ Hid (∃ q, wr = w.drewN q)) (fun v _ => es.length - (intOf v).toNat)
    case atStart => exact ⟨0, rfl, Nat.zero_le _, rfl, ⟨0, rfl⟩⟩
    case round =>
      obtain ⟨i, rfl, hi1, hI, hW⟩ := hrel
      obtain ⟨q, rfl⟩ := hW.out
      by_cases hlt : i < es.length
      · obtain ⟨b, off, x, rfl, hbh, he, d0, d1, d2, d3⟩ := en_nth HR.out.1 hlt
        obtain ⟨b', off', y, rfl, hbh', he', f0, f1, f2, f3⟩ := en_nth HR.out.2 (show i < fs.length by omega)
        have hlt' : (i : Int) < (fs.length : Int) := by omega
        have hlti : (i : Int) < (es.length : Int) := by omega
        by_cases hxy : x = y
        · subst hxy
          have HI2 : Hid (es.take (i + 1) = fs.take (i + 1)) := by
            unfold Hid
            rw [take_one he, take_one he', hI.out]
          clear hI he he' hnei hne
          go_wp2
          go_quiet (fail)
          all_goals
            go_wp2
            go_roundw
            case rel => exact ⟨i + 1, by go_num, by omega, HI2, ⟨_, rfl⟩⟩
            case measure => simp [intOf]; omega
        · have HZ := Lib_hid (HQ.out i x y he he' hxy)
          obtain ⟨x1, x2, x3, x4⟩ := x
          obtain ⟨y1, y2, y3, y4⟩ := y
          simp only at d0 d1 d2 d3 f0 f1 f2 f3
          have hc : x1 ≠ y1 ∨ (x1 = y1 ∧ x2 ≠ y2) ∨ (x1 = y1 ∧ x2 = y2 ∧ x3 ≠ y3) ∨ (x1 = y1 ∧ x2 = y2 ∧ x3 = y3 ∧ x4 ≠ y4) := by
            by_cases e1 : x1 = y1
            · by_cases e2 : x2 = y2
              · by_cases e3 : x3 = y3
                · by_cases e4 : x4 = y4
                  · exact absurd (by rw [e1, e2, e3, e4]) hxy
                  · exact .inr (.inr (.inr ⟨e1, e2, e3, e4⟩))
                · exact .inr (.inr (.inl ⟨e1, e2, e3⟩))
              · exact .inr (.inl ⟨e1, e2⟩)
            · exact .inl e1
          clear HQ
          rcases hc with h | ⟨rfl, h⟩ | ⟨rfl, rfl, h⟩ | ⟨rfl, rfl, rfl, h⟩
          · have hb : ((x1 : Int) == (y1 : Int)) = false := by simp; omega
            clear h
            clear hI he he' hnei hne hxy
            go_wp2
            go_quiet (fail)
            all_goals
              go_wp2
              go_ret
              exact ⟨HF.out false HZ.out, by exact below_drew_ (below_drew_ (Below.refl _ _))⟩
          · have hb : ((x2 : Int) == (y2 : Int)) = false := by simp; omega
            clear h
            clear hI he he' hnei hne hxy
            go_wp2
            go_quiet (fail)
            all_goals
              go_wp2
              go_ret
              exact ⟨HF.out false HZ.out, by exact below_drew_ (below_drew_ (Below.refl _ _))⟩
          · have hb : ((x3 : Int) == (y3 : Int)) = false := by simp; omega
            clear h
            clear hI he he' hnei hne hxy
            go_wp2
            go_quiet (fail)
            all_goals
              go_wp2
              go_ret
              exact ⟨HF.out false HZ.out, by exact below_drew_ (below_drew_ (Below.refl _ _))⟩
          · have hb : (x4 == y4) = false := by simp [h]
            clear h
            clear hI he he' hnei hne hxy
            go_wp2
            go_quiet (fail)
            all_goals
              go_wp2
              go_ret
              exact ⟨HF.out false HZ.out, by exact below_drew_ (below_drew_ (Below.refl _ _))⟩
      · obtain rfl : i = es.length := by omega
        have HZ := Lib_hid (HA.out hI.out)
        clear hI HR HQ hnei
        go_wp2
        go_ret
        exact ⟨HF.out true HZ.out, below_drew_ (Below.refl _ _)⟩
  · have hd : decide (es = fs) = false := by simp; exact fun e => hne (by rw [e])
    have hnei : ((es.length : Int) != (fs.length : Int)) = true := by simp; omega
    rw [hd]
    clear hr hr'
    go_enter Tryz.func55, Tryz.ntmps55
    go_wp2
    go_ret
    exact ⟨rfl, Below.refl _ _⟩
set_option maxRecDepth 100000 in
set_option maxHeartbeats 3200000 in
theorem msame5_any (r u : Rv) (w : World) (lo hi lo' hi' : Nat) (hL : RLies w lo hi r) (hhi : hi ≤ w.heap.size) (hL' : RLies w lo' hi' u) (hhi' : hi' ≤ w.heap.size) (hl : r.es.length ≤ 1000000000) (hl' : u.es.length ≤ 1000000000) :
    Calls Tryz.prog 20 #[r.val, u.val] w fun e w' => e = .returned (.bool (r.abs.sameB u.abs)) ∧ Below w.heap.size w w' := by
  have PS : Hid (∀ W, Below w.heap.size w W → Calls Tryz.prog 54 #[r.p.val, u.p.val] W fun e w' => e = .returned (.bool (r.p.abs.sameB u.p.abs)) ∧ Below W.heap.size W w') := fun W hW => psame_any r.p u.p W lo hi lo' hi' (hL.p.under (hW.mono hhi)) (Nat.le_trans hhi hW.size) (hL'.p.under (hW.mono hhi')) (Nat.le_trans hhi' hW.size)
  have EQ : Hid (∀ W, Below w.heap.size w W → Calls Tryz.prog 55 #[.slice r.A r.es.length r.c, .slice u.A u.es.length u.c] W fun e w' => e = .returned (.bool (decide (r.es = u.es))) ∧ Below W.heap.size W w') := fun W hW => equalE_any r.es u.es r.A u.A r.c u.c hi hi' W (hL.es.below (hW.mono hhi)) (hL'.es.below (hW.mono hhi')) hl hl'
  have HSB : Hid (r.abs.sameB u.abs = (decide (r.es = u.es) && (decide (r.kind = u.kind) && decide (r.t = u.t) && decide (r.x = u.x) && decide (r.w = u.w ∧ r.n = u.n) && decide (r.v = u.v) && r.p.abs.sameB u.p.abs))) := rfl
  clear hL hL' hl hl' hhi hhi'
  generalize r.abs.sameB u.abs = z at *
  generalize hep : r.p.abs.sameB u.p.abs = zp at *
  obtain ⟨k, t, x, wn, nn, v, p, A, c, es⟩ := r
  obtain ⟨k', t', x', wn', nn', v', p', A', c', es'⟩ := u
  simp only [Rv.val, Rv.arr, Rv.sl, V.sl, V.val] at PS EQ HSB hep ⊢
  clear hep
  generalize p.addr = pA at *
  generalize p.parts.length = pn at *
  generalize p.cap = pc at *
  generalize p.kind = pk at *
  generalize (p.a : Int) = pa at *
  generalize (p.b : Int) = pb at *
  generalize p'.addr = pA' at *
  generalize p'.parts.length = pn' at *
  generalize p'.cap = pc' at *
  generalize p'.kind = pk' at *
  generalize (p'.a : Int) = pa' at *
  generalize (p'.b : Int) = pb' at *
  generalize hze : decide (es = es') = ze at *
  have h1 := heap_alloc_new w (.cells #[.int .i64 k, .int .u64 (t : Int), .int .u64 (x : Int), .int .u64 (wn : Int), .int .u64 (nn : Int), .int .u64 (v : Int), .int .i64 pk, .int .u64 pa, .int .u64 pb, .slice pA pn pc, .slice A es.length c] 30)
  have b1 := below_new w (.cells #[.int .i64 k, .int .u64 (t : Int), .int .u64 (x : Int), .int .u64 (wn : Int), .int .u64 (nn : Int), .int .u64 (v : Int), .int .i64 pk, .int .u64 pa, .int .u64 pb, .slice pA pn pc, .slice A es.length c] 30)
  have s1 : (w.alloc (.cells #[.int .i64 k, .int .u64 (t : Int), .int .u64 (x : Int), .int .u64 (wn : Int), .int .u64 (nn : Int), .int .u64 (v : Int), .int .i64 pk, .int .u64 pa, .int .u64 pb, .slice pA pn pc, .slice A es.length c] 30)).heap.size = w.heap.size + 1 := by simp
  have h2 := heap_alloc_new (w.alloc (.cells #[.int .i64 k, .int .u64 (t : Int), .int .u64 (x : Int), .int .u64 (wn : Int), .int .u64 (nn : Int), .int .u64 (v : Int), .int .i64 pk, .int .u64 pa, .int .u64 pb, .slice pA pn pc, .slice A es.length c] 30)) (.cells #[.int .i64 k', .int .u64 (t' : Int), .int .u64 (x' : Int), .int .u64 (wn' : Int), .int .u64 (nn' : Int), .int .u64 (v' : Int), .int .i64 pk', .int .u64 pa', .int .u64 pb', .slice pA' pn' pc', .slice A' es'.length c'] 30)
  have b2 := below_new (w.alloc (.cells #[.int .i64 k, .int .u64 (t : Int), .int .u64 (x : Int), .int .u64 (wn : Int), .int .u64 (nn : Int), .int .u64 (v : Int), .int .i64 pk, .int .u64 pa, .int .u64 pb, .slice pA pn pc, .slice A es.length c] 30)) (.cells #[.int .i64 k', .int .u64 (t' : Int), .int .u64 (x' : Int), .int .u64 (wn' : Int), .int .u64 (nn' : Int), .int .u64 (v' : Int), .int .i64 pk', .int .u64 pa', .int .u64 pb', .slice pA' pn' pc', .slice A' es'.length c'] 30)
  replace h1 := (b2.block _ (lt_of_block h1)).trans h1
  rw [s1] at h2
  have bw := b1.trans (b2.mono b1.size)
  clear b1 b2 s1 hze
  have PS2 := PS.out _ bw
  go_enter Tryz.func20, Tryz.ntmps20
  go_upto_region 1 with (fail)
  generalize (w.alloc (.cells #[.int .i64 k, .int .u64 (t : Int), .int .u64 (x : Int), .int .u64 (wn : Int), .int .u64 (nn : Int), .int .u64 (v : Int), .int .i64 pk, .int .u64 pa, .int .u64 pb, .slice pA pn pc, .slice A es.length c] 30)).alloc (.cells #[.int .i64 k', .int .u64 (t' : Int), .int .u64 (x' : Int), .int .u64 (wn' : Int), .int .u64 (nn' : Int), .int .u64 (v' : Int), .int .i64 pk', .int .u64 pa', .int .u64 pb', .slice pA' pn' pc', .slice A' es'.length c'] 30) = w1 at *
  obtain ⟨c0, c1, c2, c3, c4, c5, c6, c7, c8, c9, c10⟩ := rec_cells h1
  obtain ⟨f0, f1, f2, f3, f4, f5, f6, f7, f8, f9, f10⟩ := rec_cells h2
  by_cases hnum : t = t' ∧ x = x' ∧ (wn = wn' ∧ nn = nn') ∧ v = v' ∧ k = k'
  · obtain ⟨rfl, rfl, ⟨rfl, rfl⟩, rfl, rfl⟩ := hnum
    have HZ : Hid (z = (ze && zp)) := by unfold Hid; rw [HSB.out]; simp
    clear HSB
    go_wp2_with fail
    refine PS2.mono ?_
    rintro e w2 ⟨rfl, hb2⟩
    have hbw2 := bw.trans (hb2.mono bw.size)
    have EQ2 := EQ.out w2 hbw2
    replace h1 := (hb2.block _ (lt_of_block h1)).trans h1
    replace h2 := (hb2.block _ (lt_of_block h2)).trans h2
    clear c0 c1 c2 c3 c4 c5 c6 c7 c8 c9 c10 f0 f1 f2 f3 f4 f5 f6 f7 f8 f9 f10 bw hb2 PS PS2 EQ
    obtain ⟨c0, c1, c2, c3, c4, c5, c6, c7, c8, c9, c10⟩ := rec_cells h1
    obtain ⟨f0, f1, f2, f3, f4, f5, f6, f7, f8, f9, f10⟩ := rec_cells h2
    cases zp with
    | false =>
      have HZ2 : Hid (z = false) := by unfold Hid; rw [HZ.out]; simp
      clear HZ EQ2
      go_wp2
      go_ret
      exact ⟨by rw [HZ2.out]; rfl, hbw2⟩
    | true =>
      have HZ2 : Hid (z = ze) := by unfold Hid; rw [HZ.out]; simp
      clear HZ
      go_wp2_with fail
      refine EQ2.mono ?_
      rintro e w3 ⟨rfl, hb3⟩
      have hbw3 := hbw2.trans (hb3.mono hbw2.size)
      clear EQ2 hb3 hbw2 h1 h2 c0 c1 c2 c3 c4 c5 c6 c7 c8 c9 c10 f0 f1 f2 f3 f4 f5 f6 f7 f8 f9 f10
      go_wp2
      go_ret
      exact ⟨by rw [HZ2.out]; rfl, hbw3⟩
  · have HZ : Hid (z = false) := by
      unfold Hid
      rw [HSB.out]
      cases ze with
      | false => rfl
      | true =>
        cases zp with
        | false => simp
        | true =>
          simp only [Bool.true_and, Bool.and_true]
          simp only [Bool.and_eq_false_iff, decide_eq_false_iff_not]
          by_cases e1 : t = t'
          · by_cases e2 : x = x'
            · by_cases e3 : wn = wn' ∧ nn = nn'
              · by_cases e4 : v = v'
                · by_cases e5 : k = k'
                  · exact absurd ⟨e1, e2, e3, e4, e5⟩ hnum
                  · simp [e5]
                · simp [e4]
              · simp [e3]
            · simp [e2]
          · simp [e1]
    have hcase : ((t : Int) == (t' : Int)) = false ∨ (t = t' ∧ ((x : Int) == (x' : Int)) = false) ∨ (t = t' ∧ x = x' ∧ ((wn : Int) == (wn' : Int)) = false) ∨ (t = t' ∧ x = x' ∧ wn = wn' ∧ ((nn : Int) == (nn' : Int)) = false) ∨ (t = t' ∧ x = x' ∧ wn = wn' ∧ nn = nn' ∧ ((v : Int) == (v' : Int)) = false) ∨ (t = t' ∧ x = x' ∧ wn = wn' ∧ nn = nn' ∧ v = v' ∧ (k == k') = false) := by
      by_cases e1 : t = t'
      · by_cases e2 : x = x'
        · by_cases e3 : wn = wn'
          · by_cases e6 : nn = nn'
            · by_cases e4 : v = v'
              · by_cases e5 : k = k'
                · exact absurd ⟨e1, e2, ⟨e3, e6⟩, e4, e5⟩ hnum
                · exact .inr (.inr (.inr (.inr (.inr ⟨e1, e2, e3, e6, e4, by simp [e5]⟩))))
              · exact .inr (.inr (.inr (.inr (.inl ⟨e1, e2, e3, e6, by simp; omega⟩))))
            · exact .inr (.inr (.inr (.inl ⟨e1, e2, e3, by simp; omega⟩)))
          · exact .inr (.inr (.inl ⟨e1, e2, by simp; omega⟩))
        · exact .inr (.inl ⟨e1, by simp; omega⟩)
      · exact .inl (by simp; omega)
    clear hnum HSB PS EQ PS2 h1 h2
    rcases hcase with h | ⟨rfl, h⟩ | ⟨rfl, rfl, h⟩ | ⟨rfl, rfl, rfl, h⟩ | ⟨rfl, rfl, rfl, rfl, h⟩ | ⟨rfl, rfl, rfl, rfl, rfl, h⟩
    all_goals
      go_wp2
      all_goals
        go_ret
        exact ⟨by rw [HZ.out]; rfl, bw⟩
end Go.Proofs.YtiiiklenhmhccaaGreatDoor

namespace Go.Proofs.YtiiiklenhmhccaaGreatDoor
open Go Go.RowKit
set_option linter.unusedVariables false
theorem RLies.okR {w : World} {lo hi : Nat} {r : Rv} (h : RLies w lo hi r) : r.abs.okR :=
  ⟨by have := h.t; show r.t < _; omega, by have := h.x; show r.x < _; omega, by have := h.wn; show r.w < _; omega, by have := h.n; show r.n < _; omega, by have := h.v; show r.v < _; omega, lies_ok r.p h.p, h.ok⟩
theorem ents_stand_len : ∀ es : List En, 4 * es.length ≤ (es.flatMap En.stand).length
  | [] => by simp
  | e :: es => by
    have h := ents_stand_len es
    have h1 := enc_pos e.x
    have h2 := enc_pos e.w
    have h3 := enc_pos e.n
    have h4 : e.stand.length = (enc e.x).length + (enc e.w).length + (enc e.n).length + 1 := by simp [En.stand, encs]; omega
    simp only [List.length_cons, List.flatMap_cons, List.length_append]
    omega
theorem stand_few {r : Rc} (h : r.rightB = true) : 4 * r.es.length ≤ r.stand.length := by
  by_cases h5 : r.kind = 5
  · have hp : partsN r.kind 6 = [0, 4, 5] := by rw [h5]; decide
    unfold Rc.stand Rc.standN
    rw [hp]
    have := ents_stand_len r.es
    have e5 : r.standP 5 = enc r.es.length ++ r.es.flatMap En.stand := rfl
    simp only [List.flatMap_cons, List.flatMap_nil, List.length_append, e5]
    omega
  · have he := (right_shape h).2.1 5 (by omega) (by unfold ofB; simp [h5])
    have he2 : r.es = [] := by unfold Rc.emptyB at he; simpa using he
    rw [he2]
    simp
theorem right_count {r : Rc} (h : r.rightB = true) : r.p.count ≤ 32 := by
  by_cases h5 : r.kind = 5
  · exact (right_all ((right_shape h).2.2 h5)).2
  · have he := (right_shape h).2.1 4 (by omega) (by unfold ofB; simp [h5])
    have he2 : r.p.sameB (.node 0 0 0 []) = true := by unfold Rc.emptyB at he; simpa using he
    rw [(sameB_iff _ _).1 he2]
    decide
theorem lineB_few {s : List UInt8} {r : Rc} (h : lineB s = some r) : r.es.length ≤ s.length + 1 := by
  rw [← lineD_eq] at h
  unfold lineD at h
  split at h
  · cases h
  · obtain ⟨r', h1, h2⟩ := Option.bind_eq_some_iff.1 h
    split at h2
    · injection h2 with h2
      subst h2
      unfold looseL at h1
      repeat' split at h1
      · injection h1 with h1; subst h1
        show (0 : Nat) ≤ _; omega
      · injection h1 with h1; subst h1
        show (0 : Nat) ≤ _; omega
      · injection h1 with h1; subst h1
        show (0 : Nat) ≤ _; omega
      · obtain ⟨p, h3, h4⟩ := Option.bind_eq_some_iff.1 h1
        obtain ⟨es, h5, rfl⟩ := Option.map_eq_some_iff.1 h4
        have h6 := lentsL_len h5
        have h7 := cutsL_len 32 s
        rw [List.length_drop] at h6
        show es.length ≤ _
        omega
      · injection h1 with h1; subst h1
        show (0 : Nat) ≤ _; omega
    · cases h2
theorem back_parse {r : Rc} (h : r.rightB = true) (ok : r.okR) (hs : r.p.put.length < 18446744073709551616) (hn : r.es.length < 18446744073709551616) : ansP (frD r).1 (frD r).2 = (r, 0) ∧ erD r = 0 := by
  have h17 := (right_shape h).1
  unfold frD erD ansP
  rw [if_pos h, if_pos h]
  simp only
  rw [if_pos (by omega), pay_stand h ok hs hn (by omega)]
  exact ⟨rfl, trivial⟩
theorem back_line {r : Rc} (h : r.rightB = true) (ok : r.okR) : ansR (lineB r.text) = (r, 0) := by
  unfold Rc.text
  rw [if_pos h, line_tell h ok]
  rfl
theorem sameR_iff {r q : Rc} : r.sameB q = true ↔ r = q := by
  unfold Rc.sameB
  obtain ⟨k, t, x, w, n, v, p, es⟩ := r
  obtain ⟨k', t', x', w', n', v', p', es'⟩ := q
  simp only [Bool.and_eq_true, decide_eq_true_eq, sameB_iff, Rc.mk.injEq]
  constructor
  · rintro ⟨h1, ⟨⟨⟨⟨h2, h3⟩, h4⟩, h5, h6⟩, h7⟩, h8⟩
    exact ⟨h2, h3, h4, h5, h6, h7, h8, h1⟩
  · rintro ⟨h2, h3, h4, h5, h6, h7, h8, h1⟩
    exact ⟨h1, ⟨⟨⟨⟨h2, h3⟩, h4⟩, h5, h6⟩, h7⟩, h8⟩
theorem both_alike {r q : Rc} (h : r.rightB = true) (ok : r.okR) (hs : r.p.put.length < 18446744073709551616) (hn : r.es.length < 18446744073709551616) (h' : q.rightB = true) (ok' : q.okR) (hs' : q.p.put.length < 18446744073709551616) (hn' : q.es.length < 18446744073709551616) :
    (decide (frD r = frD q) = r.sameB q) ∧ (decide (r.text = q.text) = r.sameB q) := by
  have h17 := (right_shape h).1
  have h17' := (right_shape h').1
  constructor
  · rw [Bool.eq_iff_iff, decide_eq_true_iff, sameR_iff]
    refine ⟨fun e => ?_, fun e => by rw [e]⟩
    unfold frD at e
    rw [if_pos h, if_pos h'] at e
    injection e with e1 e2
    exact standR_inj h ok hs hn h' ok' hs' hn' (by omega) e2
  · rw [Bool.eq_iff_iff, decide_eq_true_iff, sameR_iff]
    refine ⟨fun e => ?_, fun e => by rw [e]⟩
    unfold Rc.text at e
    rw [if_pos h, if_pos h'] at e
    exact tellR_inj h ok h' ok' e
theorem parse_back {k : Nat} {l : List Nat} (hb : ∀ x ∈ l, x < 256) {x : Rc} {z : Nat} (h : ansP k l = (x, z)) (hz : z = 0) : x.rightB = true ∧ frD x = (k, l) ∧ erD x = 0 ∧ 4 * x.es.length ≤ l.length := by
  subst hz
  unfold ansP at h
  split at h
  · rename_i hk
    cases hp : payB k l with
    | none => rw [hp] at h; injection h with _ h; cases h
    | some r =>
      rw [hp] at h
      injection h with h _
      subst h
      obtain ⟨h1, h2, h3, h4⟩ := pay_some hb hk hp
      have hf := stand_few h1
      rw [h4] at hf
      refine ⟨h1, ?_, ?_, hf⟩
      · unfold frD
        rw [if_pos h1, h3, h4]
        simp
      · unfold erD
        rw [if_pos h1]
  · injection h with _ h; cases h
theorem line_back {s : List UInt8} {y : Rc} {z : Nat} (h : ansR (lineB s) = (y, z)) (hz : z = 0) : y.rightB = true ∧ y.text = s ∧ y.es.length ≤ s.length + 1 := by
  subst hz
  cases hl : lineB s with
  | none => rw [hl] at h; injection h with _ h; cases h
  | some r =>
    rw [hl] at h
    injection h with h _
    subst h
    obtain ⟨h1, -, h3⟩ := line_some hl
    refine ⟨h1, ?_, lineB_few hl⟩
    unfold Rc.text
    rw [if_pos h1, h3]
theorem bytes_list (a : List UInt8) : (⟨a.toArray⟩ : ByteArray).toList = a := by rw [ByteArray.toList_eq]
theorem standN_short {w : World} {lo hi : Nat} {r : Rv} (h : RLies w lo hi r) (hlen : r.es.length ≤ 100) : ∀ l : List Nat, (r.abs.standN l).length ≤ 3300 * l.length
  | [] => by simp [Rc.standN]
  | i :: l => by
    have h1 := standN_short h hlen l
    have h2 := standP_len h hlen i
    unfold Rc.standN at h1 ⊢
    rw [List.flatMap_cons, List.length_append, List.length_cons]
    omega
theorem stand_short {w : World} {lo hi : Nat} {r : Rv} (h : RLies w lo hi r) (hlen : r.es.length ≤ 100) : r.abs.stand.length ≤ 100000 := by
  have h1 := standN_short h hlen (partsN r.abs.kind 6)
  have h2 := partsN_le r.abs.kind 6
  unfold Rc.stand
  omega
end Go.Proofs.YtiiiklenhmhccaaGreatDoor
