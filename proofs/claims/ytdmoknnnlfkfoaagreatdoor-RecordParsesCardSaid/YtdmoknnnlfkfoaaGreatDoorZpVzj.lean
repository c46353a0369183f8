/-
  Layer 5: Parse, the program's. (Out of gen_vyx.py.)
  Layer 5: the document's Parse. (Out of gen_vzj.py.)
-/
import Derived.Test.YtdmoknnnlfkfoaaGreatDoorZpVyw
import Derived.Test.YtdmoknnnlfkfoaaGreatDoorZpVzi

namespace Go.Proofs.YtdmoknnnlfkfoaaGreatDoor
open Go Go.RowKit
set_option linter.unusedVariables false
def ansP (k : Nat) (l : List Nat) : Rc × Nat := if 1 ≤ k ∧ k ≤ 7 then (match payB k l with | some r => (r, 0) | none => (Rc.zero 0, 5)) else (Rc.zero 0, 4)
def ParEnd (o : Rc × Nat) (m : Nat) (w : World) (e : Ending) (w' : World) : Prop :=
  ∃ r : Rv, e = .returned (.tuple #[r.val, .int .i64 (o.2 : Int)]) ∧ r.abs = o.1 ∧ RLies w' w.heap.size w'.heap.size r ∧ SpR w.heap.size r w' ∧ Below w.heap.size w w' ∧ 4 * r.es.length ≤ m + 4
theorem spr_zero (w : World) (lo : Nat) (k : Int) (h : lo ≤ w.heap.size) : SpR lo ⟨k, 0, 0, 0, 0, 0, .node 0 0 0 none 0 [], none, 0, []⟩ w :=
  ⟨lo, w, Nat.le_refl _, h, Nat.le_refl _, zero_shp _ _ _, zero_shp _ _ _, World.ownsRow_nil _ _ _ _, fun k hk => by cases hk⟩
theorem par_ret {Q : Ending → World → Prop} {W : World} {h0 : Nat} {z : Int} {x0 x1 x2 x3 x4 x5 x6 x7 x8 x9 x10 : Value} (HR : W.heap[h0]? = some (.cells #[x0, x1, x2, x3, x4, x5, x6, x7, x8, x9, x10] 47 (0, 0)))
    (HF : Q (.returned (.tuple #[.agg #[x0, x1, x2, x3, x4, x5, x6, x7, x8, x9, x10], .int .i64 z])) W)
    (tmps : Array Value) (h2 : tmps.getD 2 undef = .pointer (some ⟨h0, 0, none⟩)) (h3 : tmps.getD 3 undef = .int .i64 z) : bodyPost Tryz.prog Tryz.f8 Q .ret { tmps := tmps, defers := [] } W := by
  rw [Array.getD_eq_getD_getElem?] at h2 h3
  obtain ⟨d0, d1, d2, d3, d4, d5, d6, d7, d8, d9, d10⟩ := rec_cells HR
  exact bodyPost_ret (v := .tuple #[.agg #[x0, x1, x2, x3, x4, x5, x6, x7, x8, x9, x10], .int .i64 z]) (by simp [results, Tryz.results8, go_sem, h2, h3, d0, d1, d2, d3, d4, d5, d6, d7, d8, d9, d10]) rfl HF
set_option maxRecDepth 100000 in
set_option maxHeartbeats 6400000 in
theorem parse5_any (B : Nat) (k : Nat) (A : Option Addr) (n c : Nat) (l : List Nat) (w : World) (hk8 : k < 256) (hr : Rd w B 1 A n (bs l)) (hb8 : ∀ x ∈ l, x < 256) (hn : n ≤ 100000) (hB : B ≤ w.heap.size) :
    Calls Tryz.prog 8 #[.agg #[.int .u8 (k : Int), .slice A n c]] w (ParEnd (ansP k l) l.length w) := by
  have hf0 := heap_alloc_new w (.cells #[.int .u8 (k : Int), .slice A n c] 24)
  have hb0 := below_new w (.cells #[.int .u8 (k : Int), .slice A n c] 24)
  have hs0 : (w.alloc (.cells #[.int .u8 (k : Int), .slice A n c] 24)).heap.size = w.heap.size + 1 := by simp
  have hw1 := heap_alloc_new (w.alloc (.cells #[.int .u8 (k : Int), .slice A n c] 24)) (.cells #[.int .i64 0, .int .u64 0, .int .u64 0, .int .u64 0, .int .u64 0, .int .u64 0, .int .i64 0, .int .u64 0, .int .u64 0, .slice none 0 0, .slice none 0 0] 47)
  have hb1n := below_new (w.alloc (.cells #[.int .u8 (k : Int), .slice A n c] 24)) (.cells #[.int .i64 0, .int .u64 0, .int .u64 0, .int .u64 0, .int .u64 0, .int .u64 0, .int .i64 0, .int .u64 0, .int .u64 0, .slice none 0 0, .slice none 0 0] 47)
  have hs1 : ((w.alloc (.cells #[.int .u8 (k : Int), .slice A n c] 24)).alloc (.cells #[.int .i64 0, .int .u64 0, .int .u64 0, .int .u64 0, .int .u64 0, .int .u64 0, .int .i64 0, .int .u64 0, .int .u64 0, .slice none 0 0, .slice none 0 0] 47)).heap.size = w.heap.size + 1 + 1 := by simp
  have hf1 := (hb1n.block _ (by rw [hs0]; omega)).trans hf0
  have hb1 : Below w.heap.size w _ := hb0.trans (hb1n.mono (by rw [hs0]; omega))
  rw [hs0] at hw1
  clear hf0 hb0 hb1n hs0
  obtain ⟨w1, hw⟩ : ∃ w1, w1 = (w.alloc (.cells #[.int .u8 (k : Int), .slice A n c] 24)).alloc (.cells #[.int .i64 0, .int .u64 0, .int .u64 0, .int .u64 0, .int .u64 0, .int .u64 0, .int .i64 0, .int .u64 0, .int .u64 0, .slice none 0 0, .slice none 0 0] 47) := ⟨_, rfl⟩
  rw [← hw] at hw1 hb1 hs1 hf1
  have HLB : Hid (ansP k l = if 1 ≤ k ∧ k ≤ 7 then (match payB k l with | some r => (r, 0) | none => (Rc.zero 0, 5)) else (Rc.zero 0, 4)) := rfl
  have hKN : Rc.knownB (k : Nat) = decide (1 ≤ k ∧ k ≤ 7) := by unfold Rc.knownB; rw [Bool.eq_iff_iff]; simp; omega
  have HRD : Hid (∀ W, Below w.heap.size w W → Rd W B 1 A n (bs l)) := fun W hW => hr.below (hW.mono hB)
  have BADE : Hid (∀ z : Nat, ansP k l = (Rc.zero 0, z) → ∀ W, Below w.heap.size w W → W.heap[w.heap.size + 1]? = some (.cells #[.int .i64 0, .int .u64 0, .int .u64 0, .int .u64 0, .int .u64 0, .int .u64 0, .int .i64 0, .int .u64 0, .int .u64 0, .slice none 0 0, .slice none 0 0] 47 (0, 0)) →
      ParEnd (ansP k l) l.length w (.returned (.tuple #[.agg #[.int .i64 0, .int .u64 0, .int .u64 0, .int .u64 0, .int .u64 0, .int .u64 0, .int .i64 0, .int .u64 0, .int .u64 0, .slice none 0 0, .slice none 0 0], .int .i64 (z : Int)])) (put11 W (w.heap.size + 1) (.int .i64 0) (.int .u64 0) (.int .u64 0) (.int .u64 0) (.int .u64 0) (.int .u64 0) (.int .i64 0) (.int .u64 0) (.int .u64 0) (.slice none 0 0) (.slice none 0 0)) ∧
      (put11 W (w.heap.size + 1) (.int .i64 0) (.int .u64 0) (.int .u64 0) (.int .u64 0) (.int .u64 0) (.int .u64 0) (.int .i64 0) (.int .u64 0) (.int .u64 0) (.slice none 0 0) (.slice none 0 0)).heap[w.heap.size + 1]? = some (.cells #[.int .i64 0, .int .u64 0, .int .u64 0, .int .u64 0, .int .u64 0, .int .u64 0, .int .i64 0, .int .u64 0, .int .u64 0, .slice none 0 0, .slice none 0 0] 47 (0, 0))) := fun z hn W h1 h2 => by
    refine ⟨?_, put11_row _ _ _ _ _ _ _ _ _ _ _ h2⟩
    rw [hn]
    have hh := h1.trans ((put11_grow (g := w.heap.size + 1) (.int .i64 0) (.int .u64 0) (.int .u64 0) (.int .u64 0) (.int .u64 0) (.int .u64 0) (.int .i64 0) (.int .u64 0) (.int .u64 0) (.slice none 0 0) (.slice none 0 0) W (w.heap.size + 1)).below (B := w.heap.size) h1.size (by omega) (by omega))
    exact ⟨⟨0, 0, 0, 0, 0, 0, .node 0 0 0 none 0 [], none, 0, []⟩, rfl, abs_zero 0, rlies_zero _ _ _ 0 (by omega), spr_zero _ _ _ hh.size, hh, by simp⟩
  subst hw
  go_enter Tryz.func8, Tryz.ntmps8
  go_upto_region 1 with (fail)
  generalize (w.alloc (.cells #[.int .u8 (k : Int), .slice A n c] 24)).alloc (.cells #[.int .i64 0, .int .u64 0, .int .u64 0, .int .u64 0, .int .u64 0, .int .u64 0, .int .i64 0, .int .u64 0, .int .u64 0, .slice none 0 0, .slice none 0 0] 47) = w1 at *
  have c0 : w1.cell? ⟨w.heap.size, 0, none⟩ = some (.int .u8 (k : Int)) := cell_of_row w1 _ 0 _ _ _ hf1
  have ha4 := heap_alloc_new w1 (.cells #[.int .i64 (k : Int), .int .u64 0, .int .u64 0, .int .u64 0, .int .u64 0, .int .u64 0, .int .i64 0, .int .u64 0, .int .u64 0, .slice none 0 0, .slice none 0 0] 47)
  have hb4 := below_new w1 (.cells #[.int .i64 (k : Int), .int .u64 0, .int .u64 0, .int .u64 0, .int .u64 0, .int .u64 0, .int .i64 0, .int .u64 0, .int .u64 0, .slice none 0 0, .slice none 0 0] 47)
  have hw4 := (hb4.block _ (lt_of_block hw1)).trans hw1
  have hf4 := (hb4.block _ (lt_of_block hf1)).trans hf1
  have hb4' := hb1.trans (hb4.mono hb1.size)
  have hs4 : (w1.alloc (.cells #[.int .i64 (k : Int), .int .u64 0, .int .u64 0, .int .u64 0, .int .u64 0, .int .u64 0, .int .i64 0, .int .u64 0, .int .u64 0, .slice none 0 0, .slice none 0 0] 47)).heap.size = w1.heap.size + 1 := by simp
  clear hw1 hf1 hb4 hb1
  go_upto_region 2 with (fail)
  generalize w1.alloc (.cells #[.int .i64 (k : Int), .int .u64 0, .int .u64 0, .int .u64 0, .int .u64 0, .int .u64 0, .int .i64 0, .int .u64 0, .int .u64 0, .slice none 0 0, .slice none 0 0] 47) = w4 at *
  rw [hs1] at ha4 hs4
  clear hs1 c0
  have c0 := cell_of_row w4 _ 0 _ _ _ ha4
  simp at c0
  go_wp2_with fail
  refine (known_any k _).mono ?_
  rintro e w5 ⟨rfl, rfl⟩
  rw [hKN]
  by_cases hk0 : 1 ≤ k ∧ k ≤ 7
  rotate_left
  · have HN : Hid (ansP k l = (Rc.zero 0, 4)) := Lib_hid (by rw [HLB.out, if_neg hk0])
    obtain ⟨HX, HY⟩ := BADE.out 4 HN.out w5 hb4' hw4
    have HXX := Lib_hid HX
    have HYY := Lib_hid HY
    obtain ⟨e0, e1, e2, e3, e4, e5, e6, e7, e8, e9, e10⟩ := rec_cells hw4
    have y := fun i => frozen_of_row w5 (w.heap.size + 1) i _ _ hw4
    have y0 := y 0
    have y1 := y 1
    have y2 := y 2
    have y3 := y 3
    have y4 := y 4
    have y5 := y 5
    have y6 := y 6
    have y7 := y 7
    have y8 := y 8
    have y9 := y 9
    have y10 := y 10
    clear HX HY BADE HLB y hw4 ha4 HRD hr hf4 hb4'
    rw [decide_eq_false hk0]
    go_wp2
    show bodyPost _ _ _ _ _ (put11 w5 (w.heap.size + 1) (.int .i64 0) (.int .u64 0) (.int .u64 0) (.int .u64 0) (.int .u64 0) (.int .u64 0) (.int .i64 0) (.int .u64 0) (.int .u64 0) (.slice none 0 0) (.slice none 0 0))
    generalize put11 w5 (w.heap.size + 1) (.int .i64 0) (.int .u64 0) (.int .u64 0) (.int .u64 0) (.int .u64 0) (.int .u64 0) (.int .i64 0) (.int .u64 0) (.int .u64 0) (.slice none 0 0) (.slice none 0 0) = W4 at *
    exact par_ret HYY.out HXX.out _ rfl rfl
  · rw [decide_eq_true hk0]
    have hlb : ansP k l = match payB k l with | some r => (r, 0) | none => (Rc.zero 0, 5) := by rw [HLB.out, if_pos hk0]
    have HLB2 := Lib_hid hlb
    have f1 : w5.cell? ⟨w.heap.size, 1, none⟩ = some (.slice A n c) := cell_of_row w5 _ 1 _ _ _ hf4
    have RC := read5_any B A n c l w5 (HRD.out _ hb4') hb8 hn (Nat.le_trans hB hb4'.size)
    clear HLB hKN hlb c0 HRD hr hf4
    go_wp2_with fail
    refine RC.mono ?_
    rintro e w6 ⟨h, A5, c5, rfl, hh, hrr, hb5, hsep⟩
    have hg6 := heap_alloc_new w6 (.cells #[.pointer (some ⟨h, 0, none⟩), .bool false] 77)
    have hb6 := below_new w6 (.cells #[.pointer (some ⟨h, 0, none⟩), .bool false] 77)
    have ha5 := (hb5.block _ (lt_of_block ha4)).trans ha4
    have hw5 := (hb5.block _ (lt_of_block hw4)).trans hw4
    have ha6 := (hb6.block _ (lt_of_block ha5)).trans ha5
    have hw6 := (hb6.block _ (lt_of_block hw5)).trans hw5
    have hr6 := hrr.kept hb6
    have hhl := hrr.lt
    have hb5' := hb4'.trans (hb5.mono hb4'.size)
    have hs5 := hb5'.size
    have hb6' := hb5'.trans (hb6.mono hs5)
    have hs6 : (w6.alloc (.cells #[.pointer (some ⟨h, 0, none⟩), .bool false] 77)).heap.size = w6.heap.size + 1 := by simp
    have hlt4 := lt_of_block ha4
    have hb5z := hb5.size
    clear RC hrr hb5 hb5' hb6 ha5 hw5 ha4 hw4 hb4' f1
    go_upto_region 5 with (fail)
    generalize w6.alloc (.cells #[.pointer (some ⟨h, 0, none⟩), .bool false] 77) = w7 at *
    generalize w6.heap.size = g at *
    have c0 : w7.cell? ⟨w.heap.size + 1 + 1, 0, none⟩ = some (.int .i64 (k : Int)) := cell_of_row w7 _ 0 _ _ _ ha6
    go_wp2_with fail
    refine (partsof_any (k : Int) _).mono ?_
    rintro e w8 ⟨Ap, cp, rfl, hop, hb8'⟩
    have hT8 : Hid (TkS w7.heap.size (w.heap.size + 1 + 1) g h A5 l.length c5 l ⟨k, 0, 0, 0, 0, 0, .node 0 0 0 none 0 [], none, 0, []⟩ 0 0 false w8) :=
      ⟨(hb8'.block _ (lt_of_block ha6)).trans ha6, ⟨(hb8'.block _ (lt_of_block hg6)).trans hg6, hr6.kept hb8', hhl⟩, rlies_zero _ _ _ _ (by omega), by omega, by omega, by omega, by omega, fun ad e hn => by have := hsep ad e hn; omega, hb8'.size, spr_zero _ _ _ hb8'.size, by simp⟩
    have hw8 := (hb8'.block _ (lt_of_block hw6)).trans hw6
    have hb8w := hb6'.trans (hb8'.mono hb6'.size)
    have hs8 := hb8'.size
    have HPL : Hid (∀ q, q ∈ partsN (k : Int) 6 → q < 6) := fun q hq => partsN_lt hq
    have hpl := partsN_le (k : Int) 6
    have HPAY : Hid (payB k l = (goT l (Rc.zero (k : Int)) 0 (partsN (k : Int) 6)).bind fun x => if x.2 = l.length then some x.1 else none) := rfl
    clear hb6' hg6 ha6 hw6 hb8' c0 hr6 hsep
    have HX : Hid (∀ W, Grow3 w8 W (w.heap.size + 1 + 1) g h → W.heap[w.heap.size + 1]? = some (.cells #[.int .i64 0, .int .u64 0, .int .u64 0, .int .u64 0, .int .u64 0, .int .u64 0, .int .i64 0, .int .u64 0, .int .u64 0, .slice none 0 0, .slice none 0 0] 47 (0, 0)) ∧ Below w.heap.size w W ∧
        W.ownsRow w7.heap.size 86 6 (.slice Ap (partsN (k : Int) 6).length cp) (partsN (k : Int) 6).length (psL (partsN (k : Int) 6))) := fun W hG =>
      ⟨(hG.block _ (by omega) (by omega) (by omega) (by omega)).trans hw8, hb8w.trans (hG.below hb8w.size (by omega) (by omega) (by omega)), own_keep hop fun j hj => hG.block j (own_lt hop j hj) (by have := own_ge hop j hj; omega) (by have := own_ge hop j hj; omega) (by have := own_ge hop j hj; omega)⟩
    have RD : Hid (∀ (q : Nat), q < 6 → ∀ (r : Rv) (ac ee : Nat) (bad : Bool) (W : World), TkS w7.heap.size (w.heap.size + 1 + 1) g h A5 l.length c5 l r ac ee bad W → Calls Tryz.prog (mtakeF q) #[.pointer (some ⟨w.heap.size + 1 + 1, 0, none⟩), .pointer (some ⟨g, 0, none⟩)] W (TakEnd q w7.heap.size (w.heap.size + 1 + 1) g h A5 l.length c5 l r ac ee bad W)) := fun q hq r ac ee bad W hR =>
      take6_any q hq hR
    generalize hpp : partsN (k : Int) 6 = pl at *
    clear hw8 hop
    go_wp2
    go_loopw [25] (fun z wr => ∃ (i : Nat) (r : Rv) (ac ee : Nat) (bad : Bool), z = .int .i64 i ∧ i ≤ pl.length ∧ Hid (TkS w7.heap.size (w.heap.size + 1 + 1) g h A5 l.length c5 l r ac ee bad wr) ∧ Hid (Grow3 w8 wr (w.heap.size + 1 + 1) g h) ∧
      Hid (Took (goT l (Rc.zero (k : Int)) 0 (pl.take i)) 0 false r.abs ac ee bad)) (fun z _ => pl.length - (intOf z).toNat)
    case atStart => exact ⟨0, _, 0, 0, false, rfl, Nat.zero_le _, hT8, Grow3.refl _ _ _ _, ⟨fun hx => hx, fun hx => .inl ⟨by rw [abs_zero]; rfl, hx⟩⟩⟩
    case round =>
      clear hT8
      obtain ⟨i, r, ac, ee, bad, rfl, hi1, hR, hG, hI⟩ := hrel
      obtain ⟨hbx, hbw, hown⟩ := HX.out _ hG.out
      by_cases hlt : i < pl.length
      · obtain ⟨b, off, q, rfl, hq, d0, d1, d2, d3, d4, d5⟩ := ps_nth (Rd.own hown) hlt
        have hq6 := HPL.out q (List.mem_of_getElem? hq)
        have hcp := call_take hq6
        have HTK : Hid (pl.take (i + 1) = pl.take i ++ [q]) := take_one hq
        have hb5 := below_new wr (.cells #[.func (.func (mofF q)) #[] #[], .func (.func (memptyF q)) #[] #[], .func (.func (mputF q)) #[] #[], .func (.func (mtakeF q)) #[] #[], .func (.func (mtellF q)) #[] #[], .func (.func (mreadF q)) #[] #[]] 86)
        have hp5 := heap_alloc_new wr (.cells #[.func (.func (mofF q)) #[] #[], .func (.func (memptyF q)) #[] #[], .func (.func (mputF q)) #[] #[], .func (.func (mtakeF q)) #[] #[], .func (.func (mtellF q)) #[] #[], .func (.func (mreadF q)) #[] #[]] 86)
        have hR5 := hR.out.kept hb5
        have hG5 := hG.out.trans (Grow3.ofB hb5)
        have CP := RD.out q hq6 r ac ee bad _ hR5
        clear hR hG hbx hbw hown hq6 hb5 hq
        generalize mofF q = f1 at *
        generalize memptyF q = f2 at *
        generalize mputF q = f3 at *
        generalize mtakeF q = f4 at *
        generalize mtellF q = f5 at *
        generalize mreadF q = f6 at *
        go_upto_region 8 with (fail)
        generalize wr.alloc (.cells #[.func (.func f1) #[] #[], .func (.func f2) #[] #[], .func (.func f3) #[] #[], .func (.func f4) #[] #[], .func (.func f5) #[] #[], .func (.func f6) #[] #[]] 86) = w9 at *
        clear d0 d1 d2 d3 d4 d5
        have d3 : w9.cell? ⟨wr.heap.size, 3, none⟩ = some (.func (.func f4) #[] #[]) := cell_of_row w9 _ 3 _ _ _ hp5
        go_wp2_with fail
        refine CP.mono ?_
        rintro e w10 ⟨rfl, hG9, r', ac', ee', bad', hR', hk', ht'⟩
        have HI2 : Hid (Took (goT l (Rc.zero (k : Int)) 0 (pl.take (i + 1))) 0 false r'.abs ac' ee' bad') := by
          unfold Hid
          rw [HTK.out, goT_snoc]
          exact Took.bind (f := fun x : Rc × Nat => x.1.takeP l x.2 q) hI.out ht'
        have HG2 := Lib_hid (hG5.trans hG9)
        have HR2 := Lib_hid hR'
        clear CP d3 hG9 hR' ht' hI hR5 hG5 hp5
        go_wp2
        go_roundw
        case rel => exact ⟨i + 1, r', ac', ee', bad', by go_num, by omega, HR2, HG2, HI2⟩
        case measure => simp [intOf]; omega
      · obtain rfl : i = pl.length := by omega
        rw [List.take_length] at hI
        have hT := hR.out
        have GD := pgood_any hT.pl
        obtain ⟨c0, -, -, -⟩ := hT.pl.cells
        by_cases hg : GoodB ee bad
        · rw [show decide (GoodB ee bad) = true from decide_eq_true hg] at GD
          have hgo : goT l (Rc.zero (k : Int)) 0 pl = some (r.abs, ac) := by
            rcases hI.out.2 ⟨rfl, rfl⟩ with ⟨e1, _⟩ | ⟨_, e2⟩
            · exact e1
            · exact absurd hg e2
          have LF := left_any h A5 l.length c5 ac ee l wr hT.pl.rd
          have hpl2 := hT.pl.rd.place
          by_cases hend : ac = l.length
          · have HN : Hid (ansP k l = (r.abs, 0)) := by unfold Hid; rw [HLB2.out, HPAY.out, hgo]; simp [hend]
            have FIN : Hid (∀ W, Below wr.heap.size wr W → ParEnd (ansP k l) l.length w (.returned (.tuple #[r.val, .int .i64 0])) (put11 W (w.heap.size + 1) (.int .i64 r.kind) (.int .u64 (r.t : Int)) (.int .u64 (r.x : Int)) (.int .u64 (r.w : Int)) (.int .u64 (r.n : Int)) (.int .u64 (r.v : Int)) (.int .i64 r.p.kind) (.int .u64 (r.p.a : Int)) (.int .u64 (r.p.b : Int)) r.p.sl r.sl) ∧ W.heap[w.heap.size + 1 + 1]? = some (.cells r.arr 47 (0, 0)) ∧ W.heap[w.heap.size + 1]? = some (.cells #[.int .i64 0, .int .u64 0, .int .u64 0, .int .u64 0, .int .u64 0, .int .u64 0, .int .i64 0, .int .u64 0, .int .u64 0, .slice none 0 0, .slice none 0 0] 47 (0, 0))) := fun W hW => by
              have hT2 := hT.kept hW
              have hbW := hbw.trans (hW.mono hbw.size)
              have hGG := put11_grow (.int .i64 r.kind) (.int .u64 (r.t : Int)) (.int .u64 (r.x : Int)) (.int .u64 (r.w : Int)) (.int .u64 (r.n : Int)) (.int .u64 (r.v : Int)) (.int .i64 r.p.kind) (.int .u64 (r.p.a : Int)) (.int .u64 (r.p.b : Int)) r.p.sl r.sl W (g := w.heap.size + 1) (w.heap.size + 1)
              have hal := hT2.al
              have hbk : ∀ k, w7.heap.size ≤ k → k < W.heap.size → (put11 W (w.heap.size + 1) (.int .i64 r.kind) (.int .u64 (r.t : Int)) (.int .u64 (r.x : Int)) (.int .u64 (r.w : Int)) (.int .u64 (r.n : Int)) (.int .u64 (r.v : Int)) (.int .i64 r.p.kind) (.int .u64 (r.p.a : Int)) (.int .u64 (r.p.b : Int)) r.p.sl r.sl).heap[k]? = W.heap[k]? := fun k k1 k2 => hGG.block k k2 (by omega) (by omega)
              refine ⟨?_, hT2.box, (hW.block _ (lt_of_block hbx)).trans hbx⟩
              rw [HN.out]
              exact ⟨r, rfl, rfl, (hT2.lies.stay hGG.size hbk).more (by omega) (Nat.le_refl _), (hT2.sp.stay hGG.size hbk).more (by omega), hbW.trans (hGG.below (B := w.heap.size) hbW.size (by omega) (by omega)), hT2.few⟩
            clear HN hgo hI BADE HX hR hG hown HLB2 RD hT HPAY hbw hg
            have hle : ((l.length : Int) - ac) = 0 := by omega
            rw [hle] at LF
            go_upto_region 12 with (first | (go_at_call 26; refine GD.mono ?_; rintro en wx ⟨rfl, rfl⟩) | (go_at_call 27; refine LF.mono ?_; rintro en wy ⟨rfl, qq, rfl⟩))
            obtain ⟨HF, hax, hbx2⟩ := FIN.out (wx.drewN qq) (below_drew_ (Below.refl _ _))
            generalize wx.drewN qq = wz at *
            obtain ⟨k', t, x, wn, nn, v, p, A, c, es⟩ := r
            simp only [Rv.arr, Rv.val, Rv.sl, V.sl] at hax HF
            have HB2 : Hid ((put11 wz (w.heap.size + 1) (.int .i64 k') (.int .u64 (t : Int)) (.int .u64 (x : Int)) (.int .u64 (wn : Int)) (.int .u64 (nn : Int)) (.int .u64 (v : Int)) (.int .i64 p.kind) (.int .u64 (p.a : Int)) (.int .u64 (p.b : Int)) (.slice p.addr p.parts.length p.cap) (.slice A es.length c)).heap[w.heap.size + 1]? = some (.cells #[.int .i64 k', .int .u64 (t : Int), .int .u64 (x : Int), .int .u64 (wn : Int), .int .u64 (nn : Int), .int .u64 (v : Int), .int .i64 p.kind, .int .u64 (p.a : Int), .int .u64 (p.b : Int), .slice p.addr p.parts.length p.cap, .slice A es.length c] 47 (0, 0))) := put11_row _ _ _ _ _ _ _ _ _ _ _ hbx2
            have HFF := Lib_hid HF
            obtain ⟨d0, d1, d2, d3, d4, d5, d6, d7, d8, d9, d10⟩ := rec_cells hax
            obtain ⟨e0, e1, e2, e3, e4, e5, e6, e7, e8, e9, e10⟩ := rec_cells hbx2
            have y := fun i => frozen_of_row wz (w.heap.size + 1) i _ _ hbx2
            have y0 := y 0
            have y1 := y 1
            have y2 := y 2
            have y3 := y 3
            have y4 := y 4
            have y5 := y 5
            have y6 := y 6
            have y7 := y 7
            have y8 := y 8
            have y9 := y 9
            have y10 := y 10
            clear y hbx hbx2 hax FIN HF GD LF
            generalize p.addr = pA at *
            generalize p.parts.length = pn at *
            generalize p.cap = pc at *
            generalize p.kind = pk at *
            generalize (p.a : Int) = pa at *
            generalize (p.b : Int) = pb at *
            generalize es.length = en at *
            go_wp2
            show bodyPost _ _ _ _ _ (put11 wz (w.heap.size + 1) (.int .i64 k') (.int .u64 (t : Int)) (.int .u64 (x : Int)) (.int .u64 (wn : Int)) (.int .u64 (nn : Int)) (.int .u64 (v : Int)) (.int .i64 pk) (.int .u64 pa) (.int .u64 pb) (.slice pA pn pc) (.slice A en c))
            generalize put11 wz (w.heap.size + 1) (.int .i64 k') (.int .u64 (t : Int)) (.int .u64 (x : Int)) (.int .u64 (wn : Int)) (.int .u64 (nn : Int)) (.int .u64 (v : Int)) (.int .i64 pk) (.int .u64 pa) (.int .u64 pb) (.slice pA pn pc) (.slice A en c) = W4 at *
            exact par_ret HB2.out HFF.out _ rfl rfl
          · have HN : Hid (ansP k l = (Rc.zero 0, 5)) := by unfold Hid; rw [HLB2.out, HPAY.out, hgo]; simp [hend]
            have hgt : (0 : Int) < (l.length : Int) - ac := by omega
            generalize (l.length : Int) - ac = lf at *
            have FIN : Hid (∀ W, Below wr.heap.size wr W → W.heap[w.heap.size + 1]? = some (.cells #[.int .i64 0, .int .u64 0, .int .u64 0, .int .u64 0, .int .u64 0, .int .u64 0, .int .i64 0, .int .u64 0, .int .u64 0, .slice none 0 0, .slice none 0 0] 47 (0, 0)) ∧ Below w.heap.size w W) := fun W hW => ⟨(hW.block _ (lt_of_block hbx)).trans hbx, hbw.trans (hW.mono hbw.size)⟩
            clear hgo hI HX hR hG hown HLB2 RD hT HPAY hbw hg hbx
            go_upto_region 11 with (first | (go_at_call 26; refine GD.mono ?_; rintro en wx ⟨rfl, rfl⟩) | (go_at_call 27; refine LF.mono ?_; rintro en wy ⟨rfl, qq, rfl⟩))
            obtain ⟨hbx, hbw⟩ := FIN.out (wx.drewN qq) (below_drew_ (Below.refl _ _))
            generalize wx.drewN qq = wz at *
            obtain ⟨HX2, HY2⟩ := BADE.out 5 HN.out wz hbw hbx
            have HXX := Lib_hid HX2
            have HYY := Lib_hid HY2
            obtain ⟨e0, e1, e2, e3, e4, e5, e6, e7, e8, e9, e10⟩ := rec_cells hbx
            have y := fun i => frozen_of_row wz (w.heap.size + 1) i _ _ hbx
            have y0 := y 0
            have y1 := y 1
            have y2 := y 2
            have y3 := y 3
            have y4 := y 4
            have y5 := y 5
            have y6 := y 6
            have y7 := y 7
            have y8 := y 8
            have y9 := y 9
            have y10 := y 10
            clear HX2 HY2 BADE HN y hbx hbw FIN GD LF
            go_wp2
            show bodyPost _ _ _ _ _ (put11 wz (w.heap.size + 1) (.int .i64 0) (.int .u64 0) (.int .u64 0) (.int .u64 0) (.int .u64 0) (.int .u64 0) (.int .i64 0) (.int .u64 0) (.int .u64 0) (.slice none 0 0) (.slice none 0 0))
            generalize put11 wz (w.heap.size + 1) (.int .i64 0) (.int .u64 0) (.int .u64 0) (.int .u64 0) (.int .u64 0) (.int .u64 0) (.int .i64 0) (.int .u64 0) (.int .u64 0) (.slice none 0 0) (.slice none 0 0) = W4 at *
            exact par_ret HYY.out HXX.out _ rfl rfl
        · rw [show decide (GoodB ee bad) = false from decide_eq_false hg] at GD
          have hgo : goT l (Rc.zero (k : Int)) 0 pl = none := by
            rcases hI.out.2 ⟨rfl, rfl⟩ with ⟨_, e1⟩ | ⟨e2, _⟩
            · exact absurd e1 hg
            · exact e2
          have HN : Hid (ansP k l = (Rc.zero 0, 5)) := by unfold Hid; rw [HLB2.out, HPAY.out, hgo]; rfl
          obtain ⟨HX2, HY2⟩ := BADE.out 5 HN.out wr hbw hbx
          have HXX := Lib_hid HX2
          have HYY := Lib_hid HY2
          obtain ⟨e0, e1, e2, e3, e4, e5, e6, e7, e8, e9, e10⟩ := rec_cells hbx
          have y := fun i => frozen_of_row wr (w.heap.size + 1) i _ _ hbx
          have y0 := y 0
          have y1 := y 1
          have y2 := y 2
          have y3 := y 3
          have y4 := y 4
          have y5 := y 5
          have y6 := y 6
          have y7 := y 7
          have y8 := y 8
          have y9 := y 9
          have y10 := y 10
          clear HX2 HY2 BADE HX hR hG hown HLB2 RD HN hI y hbx hbw hT hgo
          go_wp2_with (go_at_call 26; refine GD.mono ?_; rintro en wx ⟨rfl, rfl⟩)
          show bodyPost _ _ _ _ _ (put11 _ (w.heap.size + 1) (.int .i64 0) (.int .u64 0) (.int .u64 0) (.int .u64 0) (.int .u64 0) (.int .u64 0) (.int .i64 0) (.int .u64 0) (.int .u64 0) (.slice none 0 0) (.slice none 0 0))
          generalize put11 _ (w.heap.size + 1) (.int .i64 0) (.int .u64 0) (.int .u64 0) (.int .u64 0) (.int .u64 0) (.int .u64 0) (.int .i64 0) (.int .u64 0) (.int .u64 0) (.slice none 0 0) (.slice none 0 0) = W4 at *
          exact par_ret HYY.out HXX.out _ rfl rfl
end Go.Proofs.YtdmoknnnlfkfoaaGreatDoor

namespace Go.Proofs.YtdmoknnnlfkfoaaGreatDoor
open Go Go.RowKit
set_option linter.unusedVariables false
theorem dend_zero {w W : World} (h : Below w.heap.size w W) (z : Nat) : DEnd (Rc.zero 0, z) w (.returned (.tuple #[.agg #[.int .i64 0, .int .u64 0, .int .u64 0, .int .u64 0, .int .u64 0, .int .u64 0, .int .i64 0, .int .u64 0, .int .u64 0, .slice none 0 0, .slice none 0 0], .int .i64 (z : Int)])) (put11 W (w.heap.size + 1) (.int .i64 0) (.int .u64 0) (.int .u64 0) (.int .u64 0) (.int .u64 0) (.int .u64 0) (.int .i64 0) (.int .u64 0) (.int .u64 0) (.slice none 0 0) (.slice none 0 0)) := by
  have hh := h.trans ((put11_grow (g := w.heap.size + 1) (.int .i64 0) (.int .u64 0) (.int .u64 0) (.int .u64 0) (.int .u64 0) (.int .u64 0) (.int .i64 0) (.int .u64 0) (.int .u64 0) (.slice none 0 0) (.slice none 0 0) W (w.heap.size + 1)).below (B := w.heap.size) h.size (by omega) (by omega))
  exact ⟨⟨0, 0, 0, 0, 0, 0, .node 0 0 0 none 0 [], none, 0, []⟩, rfl, abs_zero 0, rlies_zero _ _ _ 0 (by omega), hh⟩
theorem dpz_ret {Q : Ending → World → Prop} {W : World} {h0 : Nat} {z : Int} {x0 x1 x2 x3 x4 x5 x6 x7 x8 x9 x10 : Value} (HR : W.heap[h0]? = some (.cells #[x0, x1, x2, x3, x4, x5, x6, x7, x8, x9, x10] 37 (0, 0)))
    (HF : Q (.returned (.tuple #[.agg #[x0, x1, x2, x3, x4, x5, x6, x7, x8, x9, x10], .int .i64 z])) W)
    (tmps : Array Value) (h2 : tmps.getD 2 undef = .pointer (some ⟨h0, 0, none⟩)) (h3 : tmps.getD 3 undef = .int .i64 z) : bodyPost Tryz.prog Tryz.f7 Q .ret { tmps := tmps, defers := [] } W := by
  rw [Array.getD_eq_getD_getElem?] at h2 h3
  obtain ⟨d0, d1, d2, d3, d4, d5, d6, d7, d8, d9, d10⟩ := rec_cells HR
  exact bodyPost_ret (v := .tuple #[.agg #[x0, x1, x2, x3, x4, x5, x6, x7, x8, x9, x10], .int .i64 z]) (by simp [results, Tryz.results7, go_sem, h2, h3, d0, d1, d2, d3, d4, d5, d6, d7, d8, d9, d10]) rfl HF
set_option maxRecDepth 100000 in
set_option maxHeartbeats 6400000 in
theorem drparse5_any (k : Nat) (l : List Nat) (w : World) (hk : k < 256) (hb : ∀ x ∈ l, x < 256) (hl : l.length ≤ 1000) :
    Calls Tryz.prog 7 #[.agg #[.int .u8 (k : Int), .string (str l)]] w (DEnd (ansP k l) w) := by
  have hf1 := (Below.heap_alloc (w.alloc (.cells #[.int .u8 (k : Int), .string (str l)] 27)) (.cells #[.int .i64 0, .int .u64 0, .int .u64 0, .int .u64 0, .int .u64 0, .int .u64 0, .int .i64 0, .int .u64 0, .int .u64 0, .slice none 0 0, .slice none 0 0] 37) w.heap.size (by simp)).trans (heap_alloc_new w (.cells #[.int .u8 (k : Int), .string (str l)] 27))
  have ho1 := heap_alloc_new (w.alloc (.cells #[.int .u8 (k : Int), .string (str l)] 27)) (.cells #[.int .i64 0, .int .u64 0, .int .u64 0, .int .u64 0, .int .u64 0, .int .u64 0, .int .i64 0, .int .u64 0, .int .u64 0, .slice none 0 0, .slice none 0 0] 37)
  rw [World.size_alloc] at ho1
  have hb1 : Below w.heap.size w ((w.alloc (.cells #[.int .u8 (k : Int), .string (str l)] 27)).alloc (.cells #[.int .i64 0, .int .u64 0, .int .u64 0, .int .u64 0, .int .u64 0, .int .u64 0, .int .i64 0, .int .u64 0, .int .u64 0, .slice none 0 0, .slice none 0 0] 37)) := (below_new w (.cells #[.int .u8 (k : Int), .string (str l)] 27)).trans ((below_new (w.alloc (.cells #[.int .u8 (k : Int), .string (str l)] 27)) (.cells #[.int .i64 0, .int .u64 0, .int .u64 0, .int .u64 0, .int .u64 0, .int .u64 0, .int .i64 0, .int .u64 0, .int .u64 0, .slice none 0 0, .slice none 0 0] 37)).mono (by simp))
  have HAN : Hid (ansP k l = if 1 ≤ k ∧ k ≤ 7 then (match payB k l with | some r => (r, 0) | none => (Rc.zero 0, 5)) else (Rc.zero 0, 4)) := rfl
  have PA : Hid (1 ≤ k → k ≤ 7 → ∀ W : World, Calls Tryz.prog 22 #[.int .i64 (k : Int), .string (str l)] W fun e w' => ∃ (k2 : Int) (t2 x2 wn2 nn2 v2 : Nat) (p2 : V) (A2 : Option Addr) (c2 : Nat) (es2 : List En) (ok : Bool), e = .returned (.tuple #[.agg #[.int .i64 k2, .int .u64 (t2 : Int), .int .u64 (x2 : Int), .int .u64 (wn2 : Int), .int .u64 (nn2 : Int), .int .u64 (v2 : Int), .int .i64 p2.kind, .int .u64 (p2.a : Int), .int .u64 (p2.b : Int), .slice p2.addr p2.parts.length p2.cap, .slice A2 es2.length c2], .bool ok]) ∧ ((ok = true ∧ payB k l = some (Rv.abs ⟨k2, t2, x2, wn2, nn2, v2, p2, A2, c2, es2⟩)) ∨ (ok = false ∧ payB k l = none)) ∧ RLies w' W.heap.size w'.heap.size ⟨k2, t2, x2, wn2, nn2, v2, p2, A2, c2, es2⟩ ∧ Below W.heap.size W w') := fun h1 h7 W =>
    (dparse_any k l W h1 h7 hb hl).mono fun e w' ⟨⟨k2, t2, x2, wn2, nn2, v2, p2, A2, c2, es2⟩, ok, he, h⟩ => ⟨k2, t2, x2, wn2, nn2, v2, p2, A2, c2, es2, ok, he, h⟩
  clear hb
  go_enter Tryz.func7, Tryz.ntmps7
  go_upto_region 1 with (fail)
  generalize (w.alloc (.cells #[.int .u8 (k : Int), .string (str l)] 27)).alloc (.cells #[.int .i64 0, .int .u64 0, .int .u64 0, .int .u64 0, .int .u64 0, .int .u64 0, .int .i64 0, .int .u64 0, .int .u64 0, .slice none 0 0, .slice none 0 0] 37) = w2 at *
  have c0 : w2.cell? ⟨w.heap.size, 0, none⟩ = some (.int .u8 (k : Int)) := cell_of_row w2 _ 0 _ _ _ hf1
  have c1 : w2.cell? ⟨w.heap.size, 1, none⟩ = some (.string (str l)) := cell_of_row w2 _ 1 _ _ _ hf1
  by_cases h1 : 1 ≤ k
  rotate_left
  · have q1 : (k : Int) < 1 := by omega
    have HN : ansP k l = (Rc.zero 0, 4) := by rw [HAN.out, if_neg (by omega)]
    have hox := ho1
    have hbW := hb1
    have HXX : Hid (DEnd (ansP k l) w (.returned (.tuple #[.agg #[.int .i64 0, .int .u64 0, .int .u64 0, .int .u64 0, .int .u64 0, .int .u64 0, .int .i64 0, .int .u64 0, .int .u64 0, .slice none 0 0, .slice none 0 0], .int .i64 4])) (put11 w2 (w.heap.size + 1) (.int .i64 0) (.int .u64 0) (.int .u64 0) (.int .u64 0) (.int .u64 0) (.int .u64 0) (.int .i64 0) (.int .u64 0) (.int .u64 0) (.slice none 0 0) (.slice none 0 0))) := by unfold Hid; rw [HN]; exact dend_zero hbW 4
    have HYY : Hid ((put11 w2 (w.heap.size + 1) (.int .i64 0) (.int .u64 0) (.int .u64 0) (.int .u64 0) (.int .u64 0) (.int .u64 0) (.int .i64 0) (.int .u64 0) (.int .u64 0) (.slice none 0 0) (.slice none 0 0)).heap[w.heap.size + 1]? = some (.cells #[.int .i64 0, .int .u64 0, .int .u64 0, .int .u64 0, .int .u64 0, .int .u64 0, .int .i64 0, .int .u64 0, .int .u64 0, .slice none 0 0, .slice none 0 0] 37 (0, 0))) := put11_row _ _ _ _ _ _ _ _ _ _ _ hox
    obtain ⟨e0, e1, e2, e3, e4, e5, e6, e7, e8, e9, e10⟩ := rec_cells hox
    have y := fun i => frozen_of_row w2 (w.heap.size + 1) i _ _ hox
    have y0 := y 0
    have y1 := y 1
    have y2 := y 2
    have y3 := y 3
    have y4 := y 4
    have y5 := y 5
    have y6 := y 6
    have y7 := y 7
    have y8 := y 8
    have y9 := y 9
    have y10 := y 10
    clear y
    clear hox hbW ho1 hb1 hf1 PA HAN HN h1
    go_wp2
    show bodyPost _ _ _ _ _ (put11 w2 (w.heap.size + 1) (.int .i64 0) (.int .u64 0) (.int .u64 0) (.int .u64 0) (.int .u64 0) (.int .u64 0) (.int .i64 0) (.int .u64 0) (.int .u64 0) (.slice none 0 0) (.slice none 0 0))
    generalize put11 w2 (w.heap.size + 1) (.int .i64 0) (.int .u64 0) (.int .u64 0) (.int .u64 0) (.int .u64 0) (.int .u64 0) (.int .i64 0) (.int .u64 0) (.int .u64 0) (.slice none 0 0) (.slice none 0 0) = W4 at *
    exact dpz_ret HYY.out HXX.out _ rfl rfl
  · have q1 : ¬ (k : Int) < 1 := by omega
    by_cases h7 : k ≤ 7
    rotate_left
    · have q7 : (7 : Int) < (k : Int) := by omega
      have HN : ansP k l = (Rc.zero 0, 4) := by rw [HAN.out, if_neg (by omega)]
      have hox := ho1
      have hbW := hb1
      have HXX : Hid (DEnd (ansP k l) w (.returned (.tuple #[.agg #[.int .i64 0, .int .u64 0, .int .u64 0, .int .u64 0, .int .u64 0, .int .u64 0, .int .i64 0, .int .u64 0, .int .u64 0, .slice none 0 0, .slice none 0 0], .int .i64 4])) (put11 w2 (w.heap.size + 1) (.int .i64 0) (.int .u64 0) (.int .u64 0) (.int .u64 0) (.int .u64 0) (.int .u64 0) (.int .i64 0) (.int .u64 0) (.int .u64 0) (.slice none 0 0) (.slice none 0 0))) := by unfold Hid; rw [HN]; exact dend_zero hbW 4
      have HYY : Hid ((put11 w2 (w.heap.size + 1) (.int .i64 0) (.int .u64 0) (.int .u64 0) (.int .u64 0) (.int .u64 0) (.int .u64 0) (.int .i64 0) (.int .u64 0) (.int .u64 0) (.slice none 0 0) (.slice none 0 0)).heap[w.heap.size + 1]? = some (.cells #[.int .i64 0, .int .u64 0, .int .u64 0, .int .u64 0, .int .u64 0, .int .u64 0, .int .i64 0, .int .u64 0, .int .u64 0, .slice none 0 0, .slice none 0 0] 37 (0, 0))) := put11_row _ _ _ _ _ _ _ _ _ _ _ hox
      obtain ⟨e0, e1, e2, e3, e4, e5, e6, e7, e8, e9, e10⟩ := rec_cells hox
      have y := fun i => frozen_of_row w2 (w.heap.size + 1) i _ _ hox
      have y0 := y 0
      have y1 := y 1
      have y2 := y 2
      have y3 := y 3
      have y4 := y 4
      have y5 := y 5
      have y6 := y 6
      have y7 := y 7
      have y8 := y 8
      have y9 := y 9
      have y10 := y 10
      clear y
      clear hox hbW ho1 hb1 hf1 PA HAN HN h1 h7
      go_wp2
      show bodyPost _ _ _ _ _ (put11 w2 (w.heap.size + 1) (.int .i64 0) (.int .u64 0) (.int .u64 0) (.int .u64 0) (.int .u64 0) (.int .u64 0) (.int .i64 0) (.int .u64 0) (.int .u64 0) (.slice none 0 0) (.slice none 0 0))
      generalize put11 w2 (w.heap.size + 1) (.int .i64 0) (.int .u64 0) (.int .u64 0) (.int .u64 0) (.int .u64 0) (.int .u64 0) (.int .i64 0) (.int .u64 0) (.int .u64 0) (.slice none 0 0) (.slice none 0 0) = W4 at *
      exact dpz_ret HYY.out HXX.out _ rfl rfl
    · have q7 : ¬ (7 : Int) < (k : Int) := by omega
      have CP := PA.out h1 h7 w2
      have HA2 : Hid (ansP k l = match payB k l with | some r => (r, 0) | none => (Rc.zero 0, 5)) := by unfold Hid; rw [HAN.out, if_pos ⟨h1, h7⟩]
      clear PA HAN
      go_wp2_with fail
      refine CP.mono ?_
      rintro e w3 ⟨k2, t2, x2, wn2, nn2, v2, p2, A2, c2, es2, ok, rfl, hok, hL, hb3⟩
      have hq4 := heap_alloc_new w3 (.cells #[.int .i64 k2, .int .u64 (t2 : Int), .int .u64 (x2 : Int), .int .u64 (wn2 : Int), .int .u64 (nn2 : Int), .int .u64 (v2 : Int), .int .i64 p2.kind, .int .u64 (p2.a : Int), .int .u64 (p2.b : Int), .slice p2.addr p2.parts.length p2.cap, .slice A2 es2.length c2] 37)
      have hb4 := below_new w3 (.cells #[.int .i64 k2, .int .u64 (t2 : Int), .int .u64 (x2 : Int), .int .u64 (wn2 : Int), .int .u64 (nn2 : Int), .int .u64 (v2 : Int), .int .i64 p2.kind, .int .u64 (p2.a : Int), .int .u64 (p2.b : Int), .slice p2.addr p2.parts.length p2.cap, .slice A2 es2.length c2] 37)
      have hox := (hb4.block _ (by have := hb3.size; have := lt_of_block ho1; omega)).trans ((hb3.block _ (lt_of_block ho1)).trans ho1)
      have hs2 := lt_of_block ho1
      have hs3 := hb3.size
      have hbW : Below w.heap.size w (w3.alloc (.cells #[.int .i64 k2, .int .u64 (t2 : Int), .int .u64 (x2 : Int), .int .u64 (wn2 : Int), .int .u64 (nn2 : Int), .int .u64 (v2 : Int), .int .i64 p2.kind, .int .u64 (p2.a : Int), .int .u64 (p2.b : Int), .slice p2.addr p2.parts.length p2.cap, .slice A2 es2.length c2] 37)) := hb1.trans ((hb3.mono (by omega)).trans (hb4.mono (by omega)))
      have hLm := (hL.under hb4).more (Nat.le_refl _) hb4.size
      clear c0 c1 ho1 hb1 hf1 CP hL hb3 hb4
      go_upto_region 4 with (fail)
      generalize w3.alloc (.cells #[.int .i64 k2, .int .u64 (t2 : Int), .int .u64 (x2 : Int), .int .u64 (wn2 : Int), .int .u64 (nn2 : Int), .int .u64 (v2 : Int), .int .i64 p2.kind, .int .u64 (p2.a : Int), .int .u64 (p2.b : Int), .slice p2.addr p2.parts.length p2.cap, .slice A2 es2.length c2] 37) = w4 at *
      cases ok with
      | false =>
        have HN : ansP k l = (Rc.zero 0, 5) := by rw [HA2.out, (hok.resolve_left fun h => by cases h.1).2]
        have HNN := Lib_hid HN
        clear HN hq4 hLm hok HA2
        generalize p2.addr = pA at *
        have HXX : Hid (DEnd (ansP k l) w (.returned (.tuple #[.agg #[.int .i64 0, .int .u64 0, .int .u64 0, .int .u64 0, .int .u64 0, .int .u64 0, .int .i64 0, .int .u64 0, .int .u64 0, .slice none 0 0, .slice none 0 0], .int .i64 5])) (put11 w4 (w.heap.size + 1) (.int .i64 0) (.int .u64 0) (.int .u64 0) (.int .u64 0) (.int .u64 0) (.int .u64 0) (.int .i64 0) (.int .u64 0) (.int .u64 0) (.slice none 0 0) (.slice none 0 0))) := by unfold Hid; rw [HNN.out]; exact dend_zero hbW 5
        have HYY : Hid ((put11 w4 (w.heap.size + 1) (.int .i64 0) (.int .u64 0) (.int .u64 0) (.int .u64 0) (.int .u64 0) (.int .u64 0) (.int .i64 0) (.int .u64 0) (.int .u64 0) (.slice none 0 0) (.slice none 0 0)).heap[w.heap.size + 1]? = some (.cells #[.int .i64 0, .int .u64 0, .int .u64 0, .int .u64 0, .int .u64 0, .int .u64 0, .int .i64 0, .int .u64 0, .int .u64 0, .slice none 0 0, .slice none 0 0] 37 (0, 0))) := put11_row _ _ _ _ _ _ _ _ _ _ _ hox
        obtain ⟨e0, e1, e2, e3, e4, e5, e6, e7, e8, e9, e10⟩ := rec_cells hox
        have y := fun i => frozen_of_row w4 (w.heap.size + 1) i _ _ hox
        have y0 := y 0
        have y1 := y 1
        have y2 := y 2
        have y3 := y 3
        have y4 := y 4
        have y5 := y 5
        have y6 := y 6
        have y7 := y 7
        have y8 := y 8
        have y9 := y 9
        have y10 := y 10
        clear y
        clear hox hbW HNN
        go_wp2
        show bodyPost _ _ _ _ _ (put11 w4 (w.heap.size + 1) (.int .i64 0) (.int .u64 0) (.int .u64 0) (.int .u64 0) (.int .u64 0) (.int .u64 0) (.int .i64 0) (.int .u64 0) (.int .u64 0) (.slice none 0 0) (.slice none 0 0))
        generalize put11 w4 (w.heap.size + 1) (.int .i64 0) (.int .u64 0) (.int .u64 0) (.int .u64 0) (.int .u64 0) (.int .u64 0) (.int .i64 0) (.int .u64 0) (.int .u64 0) (.slice none 0 0) (.slice none 0 0) = W4 at *
        exact dpz_ret HYY.out HXX.out _ rfl rfl
      | true =>
        have HN : Hid (ansP k l = (Rv.abs ⟨k2, t2, x2, wn2, nn2, v2, p2, A2, c2, es2⟩, 0)) := by unfold Hid; rw [HA2.out, (hok.resolve_right fun h => by cases h.1).2]
        have HXX : Hid (DEnd (ansP k l) w (.returned (.tuple #[.agg #[.int .i64 k2, .int .u64 (t2 : Int), .int .u64 (x2 : Int), .int .u64 (wn2 : Int), .int .u64 (nn2 : Int), .int .u64 (v2 : Int), .int .i64 p2.kind, .int .u64 (p2.a : Int), .int .u64 (p2.b : Int), .slice p2.addr p2.parts.length p2.cap, .slice A2 es2.length c2], .int .i64 0])) (put11 w4 (w.heap.size + 1) (.int .i64 k2) (.int .u64 (t2 : Int)) (.int .u64 (x2 : Int)) (.int .u64 (wn2 : Int)) (.int .u64 (nn2 : Int)) (.int .u64 (v2 : Int)) (.int .i64 p2.kind) (.int .u64 (p2.a : Int)) (.int .u64 (p2.b : Int)) (.slice p2.addr p2.parts.length p2.cap) (.slice A2 es2.length c2))) := by
          have hGG := put11_grow (.int .i64 k2) (.int .u64 (t2 : Int)) (.int .u64 (x2 : Int)) (.int .u64 (wn2 : Int)) (.int .u64 (nn2 : Int)) (.int .u64 (v2 : Int)) (.int .i64 p2.kind) (.int .u64 (p2.a : Int)) (.int .u64 (p2.b : Int)) (.slice p2.addr p2.parts.length p2.cap) (.slice A2 es2.length c2) w4 (g := w.heap.size + 1) (w.heap.size + 1)
          unfold Hid
          rw [HN.out]
          refine ⟨⟨k2, t2, x2, wn2, nn2, v2, p2, A2, c2, es2⟩, rfl, rfl, ?_, hbW.trans (hGG.below (B := w.heap.size) hbW.size (by omega) (by omega))⟩
          have hsz := hGG.size
          rw [put11_size]
          exact RLies.more (RLies.keep (lo := w2.heap.size) (hi := w4.heap.size) hLm fun q q1 q2 => World.cell?_of_block (put11_else _ _ _ _ _ _ _ _ _ _ _ _ (by omega))) (by omega) (Nat.le_refl _)
        have HYY : Hid ((put11 w4 (w.heap.size + 1) (.int .i64 k2) (.int .u64 (t2 : Int)) (.int .u64 (x2 : Int)) (.int .u64 (wn2 : Int)) (.int .u64 (nn2 : Int)) (.int .u64 (v2 : Int)) (.int .i64 p2.kind) (.int .u64 (p2.a : Int)) (.int .u64 (p2.b : Int)) (.slice p2.addr p2.parts.length p2.cap) (.slice A2 es2.length c2)).heap[w.heap.size + 1]? = some (.cells #[.int .i64 k2, .int .u64 (t2 : Int), .int .u64 (x2 : Int), .int .u64 (wn2 : Int), .int .u64 (nn2 : Int), .int .u64 (v2 : Int), .int .i64 p2.kind, .int .u64 (p2.a : Int), .int .u64 (p2.b : Int), .slice p2.addr p2.parts.length p2.cap, .slice A2 es2.length c2] 37 (0, 0))) := put11_row _ _ _ _ _ _ _ _ _ _ _ hox
        obtain ⟨d0, d1, d2, d3, d4, d5, d6, d7, d8, d9, d10⟩ := rec_cells hq4
        obtain ⟨e0, e1, e2, e3, e4, e5, e6, e7, e8, e9, e10⟩ := rec_cells hox
        have y := fun i => frozen_of_row w4 (w.heap.size + 1) i _ _ hox
        have y0 := y 0
        have y1 := y 1
        have y2 := y 2
        have y3 := y 3
        have y4 := y 4
        have y5 := y 5
        have y6 := y 6
        have y7 := y 7
        have y8 := y 8
        have y9 := y 9
        have y10 := y 10
        clear y
        clear hox hbW hq4 hLm hok HA2 HN
        generalize p2.addr = pA at *
        generalize p2.parts.length = pn at *
        generalize p2.cap = pc at *
        generalize p2.kind = pk at *
        generalize (p2.a : Int) = pa at *
        generalize (p2.b : Int) = pb at *
        generalize es2.length = en at *
        go_wp2
        show bodyPost _ _ _ _ _ (put11 w4 (w.heap.size + 1) (.int .i64 k2) (.int .u64 (t2 : Int)) (.int .u64 (x2 : Int)) (.int .u64 (wn2 : Int)) (.int .u64 (nn2 : Int)) (.int .u64 (v2 : Int)) (.int .i64 pk) (.int .u64 pa) (.int .u64 pb) (.slice pA pn pc) (.slice A2 en c2))
        generalize put11 w4 (w.heap.size + 1) (.int .i64 k2) (.int .u64 (t2 : Int)) (.int .u64 (x2 : Int)) (.int .u64 (wn2 : Int)) (.int .u64 (nn2 : Int)) (.int .u64 (v2 : Int)) (.int .i64 pk) (.int .u64 pa) (.int .u64 pb) (.slice pA pn pc) (.slice A2 en c2) = W4 at *
        exact dpz_ret HYY.out HXX.out _ rfl rfl
end Go.Proofs.YtdmoknnnlfkfoaaGreatDoor
