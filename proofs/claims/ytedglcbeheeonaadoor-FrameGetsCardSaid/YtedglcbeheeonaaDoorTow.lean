/-
  The contract of the statement's told: the walk.
-/
import Derived.Test.YtedglcbeheeonaaDoorTol
import Derived.Test.YtedglcbeheeonaaDoorInx
namespace Go.Proofs.YtedglcbeheeonaaDoor
open Go Go.RowKit Go.Shelf
set_option linter.unusedVariables false

attribute [local go_sem] Oper.semAt_some

def ToI (w : World) (aw : Value) (t0 r most : Int) (pre : List Ev) (W : World) : Prop := ToB w aw t0 r most (pre.length : Int) true false W
def ToX (w : World) (aw : Value) (t0 r most : Int) (cc : Code) (pre : List Ev) (W : World) : Prop := cc = .ret ∧ ∃ k, ToB w aw t0 r most k true true W

/-- What holds of the values of the region that asks of a frame. -/
def tPr (S n : Nat) (aw aw2 : Value) (x : Ev) (i : Nat) (v : Value) (w : World) : Prop :=
  match i with
  | 0 => v = .bool true
  | 1 => v = .bool true
  | 2 => v = .int .i64 0
  | 3 => v = .bool true
  | 4 => v = .bool true
  | 5 => v = .bool true
  | 6 => v = .agg #[.int .u8 (x.k : Int), .slice x.A x.p.length x.c, .int .i64 (x.f : Int), .int .i64 (x.t : Int)]
  | 7 => ∃ g, v = .slice (some ⟨g, 0, none⟩) 1 1 ∧ S ≤ g ∧ w.heap[g]? = some (.cells #[.int .u8 (x.k : Int), .slice x.A x.p.length x.c, .int .i64 (x.f : Int), .int .i64 (x.t : Int)] 59 (0, 0))
  | 8 => v = aw
  | 9 => v = .int .i64 n
  | 10 => v = .int .i64 n
  | 11 => v = .int .i64 ((n : Int) + 1)
  | 12 => v = aw2
  | 13 => v = .bool true
  | 14 => v = .bool true
  | _ => True
theorem same_set {xs : List Ev} {X : World} {g : Nat} {v : Value} {T : TypeId} (h : X.heap[g]? = some (.cells #[v] T (0, 0))) : PB xs X (X.setCell ⟨g, 0, none⟩ v) := by
  have hg := grown_set X g 0 v
  refine ⟨hg.os, hg.tape, hg.output, hg.size, fun k hk _ => ?_⟩
  by_cases e : k = g
  · subst e
    rw [h, Joins.block_setCell h]
    rfl
  · exact hg.block k hk (fun e2 => by injection e2 with e2; exact e e2)
theorem tPr_keep {S n : Nat} {aw aw2 : Value} {x : Ev} {X Y : World} (hx : ∀ g, x.sl.ownBlock = some g → g < S) (h : PB [x] X Y) : ∀ i v, tPr S n aw aw2 x i v X → tPr S n aw aw2 x i v Y := by
  intro i v hv
  unfold tPr at hv ⊢
  split at hv <;> first | exact hv | skip
  obtain ⟨g, e, hg, hb⟩ := hv
  refine ⟨g, e, hg, (h.blk g (Array.getElem?_eq_some_iff.1 hb).1 fun y hy e => ?_).trans hb⟩
  obtain rfl : y = x := by simpa using hy
  have := hx g e
  omega

/-- At told's end. -/
theorem told_fin {w X : World} {aw : Value} {t0 r most k : Int} {H : Nat} (hH : w.heap.size + 7 ≤ H) (h : ToB w aw t0 r most k true true X) (hD : X.heap[H]? = some (.deferred (some []))) :
    ∀ tmps : Array Value, tmps.getD 10 undef = .pointer (some ⟨w.heap.size + 4, 0, none⟩) →
      bodyPostM Fence.wide 3 Tryd.prog Tryd.f23 (fun e w' => e = .returned (.bool true) ∧ Below w.heap.size w w') .ret { tmps := tmps, defers := [{ target := .collected H, args := #[] }] } X := by
  intro tmps t2
  rw [Array.getD_eq_getD_getElem?] at t2
  have hg := grownBy_putObj' X H (.deferred none)
  have h2 := h.grown hH hg
  have c2 := cell_of_row _ (w.heap.size + 4) 0 _ _ _ h2.b4
  have hb2 := h2.b
  refine ⟨by simp, .inl ⟨_, _, rfl, run_takeDeferred hD, ?_⟩⟩
  generalize X.putObj H (.deferred none) = Y at *
  exact ⟨.bool true, by simp [results, Tryd.results23, go_sem, t2, c2], rfl, hb2⟩

set_option maxRecDepth 100000 in
set_option maxHeartbeats 4000000 in
theorem told_any (B : Nat) (Ax : Option Addr) (cx : Nat) (l : List Nat) (Aw : Option Addr) (cw : Nat) (ds : List Dv) (t0 r : Nat) (most : Int) (w : World) (hT : Tab w) (hr : Rd w w.heap.size 1 Ax l.length (bs l)) (hA : ∀ ad, Ax = some ad → ad.block < w.heap.size) (hb8 : ∀ x ∈ l, x < 256)
    (hcx : l.length ≤ cx ∧ cx ≤ 9223372036854775807) (hn : l.length ≤ 1000000) (hw : Rd w B 4 Aw ds.length (pdCells ds)) (hB : B ≤ w.heap.size) (hcw : ds.length ≤ cw ∧ cw ≤ 9223372036854775807) (hs : splitS l = (ds, t0, r)) :
    Calls Tryd.prog 23 #[.func (.func 32) #[.agg #[.slice Ax l.length cx, .int .i64 0]] #[], .slice Aw ds.length cw, .int .i64 (t0 : Int), .int .i64 (r : Int), .int .i64 most] w fun e w' => e = .returned (.bool true) ∧ Below w.heap.size w w' := by
  have hdl : ds.length ≤ l.length + 1 := by
    have := evs_len l (l.length + 1) 0
    rw [show evs l (l.length + 1) 0 = splitS l from rfl, hs] at this
    exact this
  let os : List Obj := [.cells #[.slice Aw ds.length cw] 40, .cells #[.int .i64 (t0 : Int)] 3, .cells #[.int .i64 (r : Int)] 41, .cells #[.int .i64 most] 3, .cells #[.bool false] 4, .cells #[.int .i64 0] 3, .cells #[.bool true] 4]
  obtain ⟨W7, hW7⟩ : ∃ W7, W7 = os.foldl World.alloc w := ⟨_, rfl⟩
  obtain ⟨hb7, hs7⟩ := allocs_below os w
  rw [← hW7] at hb7 hs7
  replace hs7 : W7.heap.size = w.heap.size + 7 := hs7
  have hI7 : ToI w (.slice Aw ds.length cw) t0 r most [] W7 := by
    have g := fun i o h => allocs_get os w i o h
    rw [← hW7] at g
    exact ⟨g 0 _ rfl, g 1 _ rfl, g 2 _ rfl, g 3 _ rfl, g 4 _ rfl, g 5 _ rfl, g 6 _ rfl, hb7⟩
  have hT7 := hT.below hb7 hT.1
  have hr7 : Rd W7 W7.heap.size 1 Ax l.length (bs l) := (hr.below hb7).more hb7.size
  have hA7 : ∀ ad, Ax = some ad → ad.block < W7.heap.size := fun ad e => Nat.lt_of_lt_of_le (hA ad e) hb7.size
  simp only [os, List.foldl_cons, List.foldl_nil] at hW7
  have nf : ∀ wx, (binOp .eql 44 (.func (.func 32) #[.agg #[.slice Ax l.length cx, .int .i64 0]] #[]) .nilFunc).run Tryd.prog wx = .ok (.bool false) wx := fun wx => by kernel_rfl
  have HW7 := Lib_hid hW7
  have HS := Lib_hid hs
  have HWD := Lib_hid hw
  have HBS := Lib_hid hs7
  clear hW7 hs hw
  refine (callsIn_wide (n := 3)).1 (callsIn_of_wp_marks Tryd.func23 rfl trivial ?_ rfl)
  simp only [Tryd.ntmps23, List.size_toArray, List.length_cons, List.length_nil, Nat.reduceAdd, Nat.reduceSub, Array.replicate_succ, Array.replicate_zero, List.push_toArray, List.append_toArray, List.nil_append, List.cons_append]
  gi_wp2
  rw [← (show W7 = _ from HW7.out)]
  refine range_tell (m := 3) rfl rfl hT7 hr7 hA7 hb8 hcx (by omega) (ToI w (.slice Aw ds.length cw) t0 r most) (ToX w (.slice Aw ds.length cw) t0 r most) (fun s X Y r h g1 g2 hg => h.grown (by rw [HBS.out] at g1; omega) hg) (fun cc s X Y r h g1 g2 hg => ⟨h.1, let ⟨k, h2⟩ := h.2; ⟨k, h2.grown (by rw [HBS.out] at g1; omega) hg⟩⟩)
    hI7 ?round ?done ?stop
  case round =>
    intro pre x W0 W hI0 hgr hlt hox hpt
    have hI : ToI w (.slice Aw ds.length cw) t0 r most pre W := hI0.grown (by rw [HBS.out]; omega) hgr
    have hlen := hpt.len
    rw [List.length_append, List.length_singleton] at hlen
    have hnx := hpt.next HS.out
    simp only [Ev.enc, Ev.val]
    gi_wp2
    refine ⟨?_, fun w₂ hg2 => ?_⟩
    · exact ⟨by simp, fun k hk _ => heap_alloc_old W _ hk⟩
    have hW2 := hgr.size
    have hz2' := hg2.size
    rw [World.size_alloc] at hz2'
    have hz0 := hI.size
    have h7 := HBS.out
    have hI2 : ToB w (.slice Aw ds.length cw) t0 r most (pre.length : Int) true false w₂ := (ToB.below hI (below_new W _)).grown (by omega) hg2
    have fp := (hg2.block W.heap.size (by simp) (fun e => by injection e with e; omega)).trans (heap_alloc_new W _)
    have hbl : Below w.heap.size w w₂ := hI2.b
    have c0 := cell_of_row w₂ _ 0 _ _ _ hI2.b0
    have c1 : w₂.cell? ⟨w.heap.size + 1, 0, none⟩ = some (.int .i64 (t0 : Int)) := cell_of_row w₂ _ 0 _ _ _ hI2.b1
    have c2 : w₂.cell? ⟨w.heap.size + 1 + 1, 0, none⟩ = some (.int .i64 (r : Int)) := cell_of_row w₂ _ 0 _ _ _ hI2.b2
    have c3 : w₂.cell? ⟨w.heap.size + 1 + 1 + 1, 0, none⟩ = some (.int .i64 most) := cell_of_row w₂ _ 0 _ _ _ hI2.b3
    have c4 : w₂.cell? ⟨w.heap.size + 1 + 1 + 1 + 1, 0, none⟩ = some (.bool false) := cell_of_row w₂ _ 0 _ _ _ hI2.b4
    have c5 : w₂.cell? ⟨w.heap.size + 1 + 1 + 1 + 1 + 1, 0, none⟩ = some (.int .i64 (pre.length : Int)) := cell_of_row w₂ _ 0 _ _ _ hI2.b5
    have c6 : w₂.cell? ⟨w.heap.size + 1 + 1 + 1 + 1 + 1 + 1, 0, none⟩ = some (.bool true) := cell_of_row w₂ _ 0 _ _ _ hI2.b6
    have f4 : w₂.frozen? ⟨w.heap.size + 1 + 1 + 1 + 1, 0, none⟩ = false := frozen_of_row w₂ _ 0 _ _ hI2.b4
    have f5 : w₂.frozen? ⟨w.heap.size + 1 + 1 + 1 + 1 + 1, 0, none⟩ = false := frozen_of_row w₂ _ 0 _ _ hI2.b5
    have f6 : w₂.frozen? ⟨w.heap.size + 1 + 1 + 1 + 1 + 1 + 1, 0, none⟩ = false := frozen_of_row w₂ _ 0 _ _ hI2.b6
    have p0 : w₂.cell? ⟨W.heap.size, 0, none⟩ = some (.int .u8 (x.k : Int)) := cell_of_row w₂ _ 0 _ _ _ fp
    have p1 : w₂.cell? ⟨W.heap.size, 1, none⟩ = some (.slice x.A x.p.length x.c) := cell_of_row w₂ _ 1 _ _ _ fp
    have p2 : w₂.cell? ⟨W.heap.size, 2, none⟩ = some (.int .i64 (x.f : Int)) := cell_of_row w₂ _ 2 _ _ _ fp
    have p3 : w₂.cell? ⟨W.heap.size, 3, none⟩ = some (.int .i64 (x.t : Int)) := cell_of_row w₂ _ 3 _ _ _ fp
    have HIN := Lib_hid hI2
    clear hI2
    -- behind the asking: one more is counted, and asked whether that is enough
    have KEND : Hid (∀ X, ToB w (.slice Aw ds.length cw) t0 r most (pre.length : Int) true false X → KeepD Ax W7.heap.size w₂ X →
        X.cell? ⟨w.heap.size + 1 + 1 + 1, 0, none⟩ = some (.int .i64 most) ∧ X.cell? ⟨w.heap.size + 1 + 1 + 1 + 1, 0, none⟩ = some (.bool false) ∧ X.cell? ⟨w.heap.size + 1 + 1 + 1 + 1 + 1, 0, none⟩ = some (.int .i64 (pre.length : Int)) ∧ X.cell? ⟨w.heap.size + 1 + 1 + 1 + 1 + 1 + 1, 0, none⟩ = some (.bool true) ∧
        X.frozen? ⟨w.heap.size + 1 + 1 + 1 + 1, 0, none⟩ = false ∧ X.frozen? ⟨w.heap.size + 1 + 1 + 1 + 1 + 1, 0, none⟩ = false ∧
        (KeepD Ax W7.heap.size w₂ (X.setCell ⟨w.heap.size + 1 + 1 + 1 + 1 + 1, 0, none⟩ (.int .i64 ((pre.length : Int) + 1))) ∧ ToI w (.slice Aw ds.length cw) t0 r most (pre ++ [x]) (X.setCell ⟨w.heap.size + 1 + 1 + 1 + 1 + 1, 0, none⟩ (.int .i64 ((pre.length : Int) + 1)))) ∧
        (KeepD Ax W7.heap.size w₂ ((X.setCell ⟨w.heap.size + 1 + 1 + 1 + 1 + 1, 0, none⟩ (.int .i64 ((pre.length : Int) + 1))).setCell ⟨w.heap.size + 1 + 1 + 1 + 1, 0, none⟩ (.bool true)) ∧ ToX w (.slice Aw ds.length cw) t0 r most .ret (pre ++ [x]) ((X.setCell ⟨w.heap.size + 1 + 1 + 1 + 1 + 1, 0, none⟩ (.int .i64 ((pre.length : Int) + 1))).setCell ⟨w.heap.size + 1 + 1 + 1 + 1, 0, none⟩ (.bool true)))) := by
      intro X hX hK
      have s5 := hX.set5 ((pre.length : Int) + 1)
      have s4 := s5.set4 true
      have g5 := grown_set X (w.heap.size + 5) 0 (.int .i64 ((pre.length : Int) + 1))
      have g4 := grown_set (X.setCell ⟨w.heap.size + 5, 0, none⟩ (.int .i64 ((pre.length : Int) + 1))) (w.heap.size + 4) 0 (.bool true)
      have hz5 := g5.size
      have ne : ∀ kk, (kk = 0 ∨ (∃ ad, Ax = some ad ∧ kk = ad.block) ∨ (W7.heap.size ≤ kk ∧ kk < W7.heap.size + 3)) → kk ≠ w.heap.size + 4 ∧ kk ≠ w.heap.size + 5 := by
        rintro kk (rfl | ⟨ad, e2, rfl⟩ | h)
        · have := hT.1; omega
        · have := hA ad e2; omega
        · omega
      have k5 : KeepD Ax W7.heap.size w₂ (X.setCell ⟨w.heap.size + 5, 0, none⟩ (.int .i64 ((pre.length : Int) + 1))) := hK.trans ⟨g5.size, fun kk hk hx => g5.block kk hk (fun e => by injection e with e; exact (ne kk hx).2 e)⟩
      have k4 := k5.trans ⟨g4.size, fun kk hk hx => g4.block kk hk (fun e => by injection e with e; exact (ne kk hx).1 e)⟩
      have hl : ((pre ++ [x]).length : Int) = (pre.length : Int) + 1 := by simp
      exact ⟨cell_of_row X _ 0 _ _ _ hX.b3, cell_of_row X _ 0 _ _ _ hX.b4, cell_of_row X _ 0 _ _ _ hX.b5, cell_of_row X _ 0 _ _ _ hX.b6, frozen_of_row X _ 0 _ _ hX.b4, frozen_of_row X _ 0 _ _ hX.b5, ⟨k5, by unfold ToI; rw [hl]; exact s5⟩, k4, rfl, _, s4⟩
    rcases hnx with ⟨hx0, hxl, hxd⟩ | ⟨hr0, rfl, hxl⟩
    · obtain ⟨k, p, PA, pc, f, t, r'⟩ := x
      simp only at hx0 p0 p1 p2 p3
      subst hx0
      obtain ⟨A5, hsl, hr5⟩ := slice_pd (j := pre.length) (k := pre.length + 1) HWD.out (by omega) (by omega) hcw.1 hcw.2
      rw [pd_part hxd, show pre.length + 1 - pre.length = 1 by omega] at hr5
      rw [show pre.length + 1 - pre.length = 1 by omega] at hsl
      have hwr : IntKind.i64.wrap ((pre.length : Int) + 1) = (pre.length : Int) + 1 := IntWalk.i64_in _ (by omega)
      have hsl' : ∀ wx, (Instr.slice 40 (.slice Aw ds.length cw) (some (.int .i64 (pre.length : Int))) (some (.int .i64 ((pre.length : Int) + 1))) none).run Tryd.prog wx = .ok (.slice A5 1 (cw - pre.length)) wx := fun wx => by
        have := hsl wx
        rwa [show ((pre.length + 1 : Nat) : Int) = (pre.length : Int) + 1 by omega] at this
      have hox0 := hox rfl
      obtain ⟨o1, o2, o3⟩ := hox0
      have hpl : ∀ kk, (Value.slice PA p.length pc).ownBlock = some kk → W0.heap.size ≤ kk ∧ kk < W.heap.size := fun kk e => ⟨own_ge o1 kk e, own_lt o1 kk e⟩
      have hpay : ∀ X, (∀ kk, (Value.slice PA p.length pc).ownBlock = some kk → X.heap[kk]? = W.heap[kk]?) → PayOK X w.heap.size ⟨k, p, PA, pc, f, t, 0⟩ := fun X hX =>
        ⟨own_base (own_keep o1 hX) (fun kk e => by have := (hpl kk e).1; omega), o2, o3⟩
      have hk2 : ∀ kk, kk < W.heap.size → kk ≠ w.heap.size + 7 + 1 → w₂.heap[kk]? = W.heap[kk]? := fun kk h1 h2 => (hg2.block kk (by simp; omega) (fun e => by injection e with e; omega)).trans (heap_alloc_old W _ h1)
      have HC : Hid (∀ X, PB [⟨k, p, PA, pc, f, t, 0⟩] w₂ X → ToB w (.slice Aw ds.length cw) t0 r most (pre.length : Int) true false X ∧ X.heap[W.heap.size]? = some (.cells #[.int .u8 (k : Int), .slice PA p.length pc, .int .i64 (f : Int), .int .i64 (t : Int)] 59 (0, 0)) ∧ w₂.heap.size ≤ X.heap.size) := fun X hpb => by
        have key : ∀ kk, kk < w₂.heap.size → (∀ g, (Value.slice PA p.length pc).ownBlock = some g → g ≠ kk) → X.heap[kk]? = w₂.heap[kk]? := fun kk h1 h2 =>
          hpb.blk kk h1 (fun x hx e => by
            obtain rfl : x = ⟨k, p, PA, pc, f, t, 0⟩ := by simpa using hx
            exact h2 kk e rfl)
        have hb5 := hpb.below (B := w.heap.size) hbl.size (fun x hx kk e => by
            obtain rfl : x = ⟨k, p, PA, pc, f, t, 0⟩ := by simpa using hx
            have := (hpl kk e).1; omega)
        exact ⟨HIN.out.keep (fun i h1 h2 => key i (by omega) (fun g hg e => by have := (hpl g hg).1; omega)) (hbl.trans hb5), (key _ (by omega) (fun g hg e => by have := (hpl g hg).2; omega)).trans fp, hpb.size⟩
      have HSL := Lib_hid hsl'
      have HSP : Hid (∀ X g, Below w₂.heap.size w₂ X → w₂.heap.size ≤ g → X.heap[g]? = some (.cells #[.int .u8 (k : Int), .slice PA p.length pc, .int .i64 (f : Int), .int .i64 (t : Int)] 59 (0, 0)) → Calls Tryd.prog 22 #[.slice (some ⟨g, 0, none⟩) 1 1, .slice A5 1 (cw - pre.length)] X fun e w' => e = .returned (.bool true) ∧ PB [⟨k, p, PA, pc, f, t, 0⟩] X w') := by
        intro X g hX hg hgb
        refine splaced_any w.heap.size (g + 1) (some ⟨g, 0, none⟩) 1 1 A5 1 (cw - pre.length) [⟨k, p, PA, pc, f, t, 0⟩] [(k, p, f, t)] X ⟨rfl, fun _ => ⟨_, rfl, by simp, fun j u hu => ?_⟩⟩ (Array.getElem?_eq_some_iff.1 hgb).1 ?_ (Nat.le_trans hbl.size hX.size) ?_ ?_ (List.pairwise_singleton _ _) rfl (by omega)
        · rw [add_plain, Nat.zero_add, cell_of_row X g j _ _ _ hgb, ← hu]; simp [plCells, Ev.cells]
        · exact Rd.more ((hr5.below (hbl.mono hB)).below (hX.mono (Nat.le_trans hB hbl.size))) hB
        · intro x hx
          obtain rfl : x = ⟨k, p, PA, pc, f, t, 0⟩ := by simpa using hx
          exact hpay _ fun kk e => (hX.block kk (by have := (hpl kk e).2; omega)).trans (hk2 kk (hpl kk e).2 (by have := (hpl kk e).1; omega))
        · intro x hx g' hg' ad e _
          obtain rfl : x = ⟨k, p, PA, pc, f, t, 0⟩ := by simpa using hx
          injection e with e
          subst e
          have := (hpl g' hg').2
          show g ≠ g'
          omega
      have KOUT : Hid (∀ X, PB [⟨k, p, PA, pc, f, t, 0⟩] w₂ X → KeepD Ax W7.heap.size w₂ X) := fun X hX => ⟨hX.size, fun kk hk1 hk3 => hX.blk kk hk1 fun x hx e => by
        obtain rfl : x = ⟨k, p, PA, pc, f, t, 0⟩ := by simpa using hx
        have h9 := hpl kk e
        rcases hk3 with rfl | ⟨ad, e2, rfl⟩ | h
        · have := hT.1; omega
        · have := hA ad e2; omega
        · omega⟩
      have HPL := Lib_hid hpl
      clear hsl hsl' hox o1 hpay hpl hk2 hr5
      gi_wp2_with fail
      refine wpIn_region_midJ 13 (PB [⟨k, p, PA, pc, f, t, 0⟩]) (tPr w₂.heap.size pre.length (.slice Aw ds.length cw) (.slice A5 1 (cw - pre.length)) ⟨k, p, PA, pc, f, t, 0⟩) (fun h k => h.trans k) (fun h => PB.under h) (by kernel_rfl) (by kernel_rfl) (by kernel_rfl) rfl (by kernel_rfl) ?_ ?_ ?_
      · exact fun i v X Y _ hR hp => tPr_keep (fun g hg => by have := (HPL.out g hg).2; omega) hR i v hp
      · intro i o a wx hi hM hB hU hD
        have hi16 : i < 16 := (Array.getElem?_eq_some_iff.1 hi).1
        have hcase : i = 0 ∨ i = 1 ∨ i = 2 ∨ i = 3 ∨ i = 4 ∨ i = 5 ∨ i = 6 ∨ i = 7 ∨ i = 8 ∨ i = 9 ∨ i = 10 ∨ i = 11 ∨ i = 12 ∨ i = 13 ∨ i = 14 ∨ i = 15 := by omega
        clear hi16
        have HSZ : Hid (a.tmps.size = 102) := Lib_hid hM.tmps
        obtain ⟨hbx, hpx, hzx⟩ := HC.out wx hM.rel
        have c0 := cell_of_row wx _ 0 _ _ _ hbx.b0
        have c5 : wx.cell? ⟨w.heap.size + 1 + 1 + 1 + 1 + 1, 0, none⟩ = some (.int .i64 (pre.length : Int)) := cell_of_row wx _ 0 _ _ _ hbx.b5
        have c6 : wx.cell? ⟨w.heap.size + 1 + 1 + 1 + 1 + 1 + 1, 0, none⟩ = some (.bool true) := cell_of_row wx _ 0 _ _ _ hbx.b6
        have f6 : wx.frozen? ⟨w.heap.size + 1 + 1 + 1 + 1 + 1 + 1, 0, none⟩ = false := frozen_of_row wx _ 0 _ _ hbx.b6
        have p0 : wx.cell? ⟨W.heap.size, 0, none⟩ = some (.int .u8 (k : Int)) := cell_of_row wx _ 0 _ _ _ hpx
        have p1 : wx.cell? ⟨W.heap.size, 1, none⟩ = some (.slice PA p.length pc) := cell_of_row wx _ 1 _ _ _ hpx
        have p2 : wx.cell? ⟨W.heap.size, 2, none⟩ = some (.int .i64 (f : Int)) := cell_of_row wx _ 2 _ _ _ hpx
        have p3 : wx.cell? ⟨W.heap.size, 3, none⟩ = some (.int .i64 (t : Int)) := cell_of_row wx _ 3 _ _ _ hpx
        have e12 : a.tmps.getD 12 undef = .pointer (some ⟨w.heap.size + 1 + 1 + 1 + 1 + 1 + 1, 0, none⟩) := (hM.other 12 (by decide +kernel)).trans rfl
        have e11 : a.tmps.getD 11 undef = .pointer (some ⟨w.heap.size + 1 + 1 + 1 + 1 + 1, 0, none⟩) := (hM.other 11 (by decide +kernel)).trans rfl
        have e6 : a.tmps.getD 6 undef = .pointer (some ⟨w.heap.size, 0, none⟩) := (hM.other 6 (by decide +kernel)).trans rfl
        have e13 : a.tmps.getD 13 undef = .pointer (some ⟨W.heap.size, 0, none⟩) := (hM.other 13 (by decide +kernel)).trans rfl
        have e14 : a.tmps.getD 14 undef = .int .i64 0 := (hM.other 14 (by decide +kernel)).trans rfl
        rcases hcase with rfl | rfl | rfl | rfl | rfl | rfl | rfl | rfl | rfl | rfl | rfl | rfl | rfl | rfl | rfl | rfl
        · obtain rfl := Option.some.inj hi
          refine ⟨rfl, mid_step (.bool true) wx (fun K hK => ?_) ⟨_, rfl, rfl, ahead_j (by omega) (Below.refl _ _)⟩⟩
          go_simp
          exact hK
        · obtain rfl := Option.some.inj hi
          have e24 : a.tmps.getD 24 undef = .bool true := hD 0 (by kernel_rfl) _ 24 rfl rfl
          refine ⟨rfl, mid_step (.bool true) wx (fun K hK => ?_) ⟨_, rfl, rfl, ahead_j (by omega) (Below.refl _ _)⟩⟩
          go_simp
          exact hK
        · obtain rfl := Option.some.inj hi
          have e25 : a.tmps.getD 25 undef = .bool true := hD 1 (by kernel_rfl) _ 25 rfl rfl
          refine ⟨wanted_b rfl rfl (by rw [HSZ.out]; decide) e25, mid_step (.int .i64 0) wx (fun K hK => ?_) ⟨_, rfl, rfl, ahead_j (by omega) (Below.refl _ _)⟩⟩
          go_simp
          exact hK
        · obtain rfl := Option.some.inj hi
          have e25 : a.tmps.getD 25 undef = .bool true := hD 1 (by kernel_rfl) _ 25 rfl rfl
          have e26 : a.tmps.getD 26 undef = .int .i64 0 := hD 2 (by kernel_rfl) _ 26 rfl rfl
          refine ⟨wanted_b rfl rfl (by rw [HSZ.out]; decide) e25, mid_step (.bool true) wx (fun K hK => ?_) ⟨_, rfl, rfl, ahead_j (by omega) (Below.refl _ _)⟩⟩
          go_simp
          exact hK
        · obtain rfl := Option.some.inj hi
          have e25 : a.tmps.getD 25 undef = .bool true := hD 1 (by kernel_rfl) _ 25 rfl rfl
          have e27 : a.tmps.getD 27 undef = .bool true := hD 3 (by kernel_rfl) _ 27 rfl rfl
          refine ⟨rfl, mid_step (.bool true) wx (fun K hK => ?_) ⟨_, rfl, rfl, ahead_j (by omega) (Below.refl _ _)⟩⟩
          go_simp
          exact hK
        · obtain rfl := Option.some.inj hi
          have e28 : a.tmps.getD 28 undef = .bool true := hD 4 (by kernel_rfl) _ 28 rfl rfl
          refine ⟨rfl, mid_step (.bool true) wx (fun K hK => ?_) ⟨_, rfl, rfl, ahead_j (by omega) (Below.refl _ _)⟩⟩
          go_simp
          exact hK
        · obtain rfl := Option.some.inj hi
          have e29 : a.tmps.getD 29 undef = .bool true := hD 5 (by kernel_rfl) _ 29 rfl rfl
          refine ⟨wanted_b rfl rfl (by rw [HSZ.out]; decide) e29, mid_step (.agg #[.int .u8 (k : Int), .slice PA p.length pc, .int .i64 (f : Int), .int .i64 (t : Int)]) wx (fun K hK => ?_) ⟨_, rfl, rfl, ahead_j (by omega) (Below.refl _ _)⟩⟩
          go_simp
          exact hK
        · obtain rfl := Option.some.inj hi
          have e29 : a.tmps.getD 29 undef = .bool true := hD 5 (by kernel_rfl) _ 29 rfl rfl
          have e30 : a.tmps.getD 30 undef = .agg #[.int .u8 (k : Int), .slice PA p.length pc, .int .i64 (f : Int), .int .i64 (t : Int)] := hD 6 (by kernel_rfl) _ 30 rfl rfl
          have e30' := e30
          rw [Array.getD_eq_getD_getElem?] at e30'
          refine ⟨wanted_b rfl rfl (by rw [HSZ.out]; decide) e29, mid_step (.slice (some ⟨wx.heap.size, 0, none⟩) 1 1) (wx.alloc (.cells #[.int .u8 (k : Int), .slice PA p.length pc, .int .i64 (f : Int), .int .i64 (t : Int)] 59)) (fun K hK => ?_) ⟨_, rfl, ⟨_, rfl, hzx, heap_alloc_new wx _⟩, ahead_j (by omega) (below_new wx _)⟩⟩
          go_simp
          exact hK
        · obtain rfl := Option.some.inj hi
          have e29 : a.tmps.getD 29 undef = .bool true := hD 5 (by kernel_rfl) _ 29 rfl rfl
          refine ⟨wanted_b rfl rfl (by rw [HSZ.out]; decide) e29, mid_step (.slice Aw ds.length cw) wx (fun K hK => ?_) ⟨_, rfl, rfl, ahead_j (by omega) (Below.refl _ _)⟩⟩
          go_simp
          exact hK
        · obtain rfl := Option.some.inj hi
          have e29 : a.tmps.getD 29 undef = .bool true := hD 5 (by kernel_rfl) _ 29 rfl rfl
          refine ⟨wanted_b rfl rfl (by rw [HSZ.out]; decide) e29, mid_step (.int .i64 (pre.length : Int)) wx (fun K hK => ?_) ⟨_, rfl, rfl, ahead_j (by omega) (Below.refl _ _)⟩⟩
          go_simp
          exact hK
        · obtain rfl := Option.some.inj hi
          have e29 : a.tmps.getD 29 undef = .bool true := hD 5 (by kernel_rfl) _ 29 rfl rfl
          refine ⟨wanted_b rfl rfl (by rw [HSZ.out]; decide) e29, mid_step (.int .i64 (pre.length : Int)) wx (fun K hK => ?_) ⟨_, rfl, rfl, ahead_j (by omega) (Below.refl _ _)⟩⟩
          go_simp
          exact hK
        · obtain rfl := Option.some.inj hi
          have e29 : a.tmps.getD 29 undef = .bool true := hD 5 (by kernel_rfl) _ 29 rfl rfl
          have e34 : a.tmps.getD 34 undef = .int .i64 (pre.length : Int) := hD 10 (by kernel_rfl) _ 34 rfl rfl
          refine ⟨wanted_b rfl rfl (by rw [HSZ.out]; decide) e29, mid_step (.int .i64 ((pre.length : Int) + 1)) wx (fun K hK => ?_) ⟨_, rfl, rfl, ahead_j (by omega) (Below.refl _ _)⟩⟩
          go_simp
          exact hK
        · obtain rfl := Option.some.inj hi
          have e29 : a.tmps.getD 29 undef = .bool true := hD 5 (by kernel_rfl) _ 29 rfl rfl
          have e32 : a.tmps.getD 32 undef = .slice Aw ds.length cw := hD 8 (by kernel_rfl) _ 32 rfl rfl
          have e33 : a.tmps.getD 33 undef = .int .i64 (pre.length : Int) := hD 9 (by kernel_rfl) _ 33 rfl rfl
          have e35 : a.tmps.getD 35 undef = .int .i64 ((pre.length : Int) + 1) := hD 11 (by kernel_rfl) _ 35 rfl rfl
          have hsl := HSL.out
          refine ⟨wanted_b rfl rfl (by rw [HSZ.out]; decide) e29, mid_step (.slice A5 1 (cw - pre.length)) wx (fun K hK => ?_) ⟨_, rfl, rfl, ahead_j (by omega) (Below.refl _ _)⟩⟩
          go_simp
          exact hK
        · obtain rfl := Option.some.inj hi
          have e29 : a.tmps.getD 29 undef = .bool true := hD 5 (by kernel_rfl) _ 29 rfl rfl
          obtain ⟨g, e31, hgS, hgb⟩ := hD 7 (by kernel_rfl) _ 31 rfl rfl
          have e36 : a.tmps.getD 36 undef = .slice A5 1 (cw - pre.length) := hD 12 (by kernel_rfl) _ 36 rfl rfl
          have hB' := hB rfl
          refine ⟨wanted_b rfl rfl (by rw [HSZ.out]; decide) e29, mid_call (fun v w' => v = .bool true ∧ PB [⟨k, p, PA, pc, f, t, 0⟩] wx w') (fun K hK => ?_) (fun v w' h => ⟨v, rfl, h.1, behind_j (by omega) h.2⟩)⟩
          have SP := HSP.out wx g hB' hgS hgb
          clear hB' hgb hB hU hD
          go_simp
          refine SP.mono ?_
          rintro e w' ⟨rfl, hpb⟩
          exact hK _ _ ⟨rfl, hpb⟩
        · obtain rfl := Option.some.inj hi
          have e29 : a.tmps.getD 29 undef = .bool true := hD 5 (by kernel_rfl) _ 29 rfl rfl
          have e37 : a.tmps.getD 37 undef = .bool true := hD 13 (by kernel_rfl) _ 37 rfl rfl
          refine ⟨rfl, mid_step (.bool true) wx (fun K hK => ?_) ⟨_, rfl, rfl, behind_j (by omega) (PB.refl _ _)⟩⟩
          go_simp
          exact hK
        · obtain rfl := Option.some.inj hi
          have e38 : a.tmps.getD 38 undef = .bool true := hD 14 (by kernel_rfl) _ 38 rfl rfl
          refine ⟨rfl, mid_step undef (wx.setCell ⟨w.heap.size + 1 + 1 + 1 + 1 + 1 + 1, 0, none⟩ (.bool true)) (fun K hK => ?_) ⟨_, rfl, trivial, behind_j (by omega) (same_set hbx.b6)⟩⟩
          go_simp
          exact hK
      · intro a wx hM hD
        clear c0 c1 c2 c3 c4 c5 c6 f4 f5 f6 p0 p1 p2 p3 fp
        obtain ⟨hbx, hpx, hzx⟩ := HC.out wx hM.rel
        have hKD : KeepD Ax W7.heap.size w₂ wx := KOUT.out _ hM.rel
        have hdf : a.defers = [] := hM.defers.trans rfl
        have ht := hM.frame _ 5 24 15 rfl (by decide) (Nat.le_of_ble_eq_true (by kernel_rfl)) (by kernel_rfl)
        simp only [List.take_succ_cons, List.take_zero, List.drop_succ_cons, List.drop_zero, List.cons_append, List.nil_append, List.range, List.range.loop, List.map, Nat.reduceAdd, Nat.reduceSub] at ht
        generalize a.tmps.getD 5 undef = y5 at ht
        generalize a.tmps.getD 24 undef = y24 at ht
        generalize a.tmps.getD 25 undef = y25 at ht
        generalize a.tmps.getD 26 undef = y26 at ht
        generalize a.tmps.getD 27 undef = y27 at ht
        generalize a.tmps.getD 28 undef = y28 at ht
        generalize a.tmps.getD 29 undef = y29 at ht
        generalize a.tmps.getD 30 undef = y30 at ht
        generalize a.tmps.getD 31 undef = y31 at ht
        generalize a.tmps.getD 32 undef = y32 at ht
        generalize a.tmps.getD 33 undef = y33 at ht
        generalize a.tmps.getD 34 undef = y34 at ht
        generalize a.tmps.getD 35 undef = y35 at ht
        generalize a.tmps.getD 36 undef = y36 at ht
        generalize a.tmps.getD 37 undef = y37 at ht
        generalize a.tmps.getD 38 undef = y38 at ht
        clear hM hD
        obtain ⟨tm, df⟩ := a
        simp only at hdf ht
        subst hdf ht
        have hKI := KEND.out _ hbx hKD
        clear hbx hKD hpx HC HSL HSP
        obtain ⟨c3, c4, c5, c6, f4, f5, hK1, hK2⟩ := hKI
        have HK1 := Lib_hid hK1
        have HK2' := Lib_hid hK2
        clear hK1 hK2
        gi_wp2
        all_goals first | exact HK2'.out | exact HK1.out
    · have g6 := grown_set w₂ (w.heap.size + 6) 0 (.bool true)
      have hK6 : KeepD Ax W7.heap.size w₂ (w₂.setCell ⟨w.heap.size + 6, 0, none⟩ (.bool true)) := ⟨g6.size, fun kk hk hx => g6.block kk hk (fun e => by
        injection e with e
        rcases hx with rfl | ⟨ad, e2, rfl⟩ | h
        · have := hT.1; omega
        · have := hA ad e2; omega
        · omega)⟩
      have hKI := KEND.out _ (HIN.out.set6 true) hK6
      obtain ⟨-, -, -, -, -, -, hK1, hK2⟩ := hKI
      rw [hxl] at hK1 hK2
      have HK1 := Lib_hid hK1
      have HK2' := Lib_hid hK2
      have hrz : ((r : Int) != 0) = true := by simp; omega
      have hlz : ((pre.length : Int) == (ds.length : Int)) = true := by simp; omega
      clear hK1 hK2 hK6 g6
      simp only [Ev.bad, List.length_nil, show ((0 : Nat) : Int) = 0 from rfl] at p0 p1 p2 p3 HK1 HK2' ⊢
      gi_wp2
      all_goals first | exact HK2'.out | exact HK1.out
  case done =>
    intro xs W hF hI hD
    have h7 := HBS.out
    have hcase : (r = 0 ∧ xs.length = ds.length) ∨ (r ≠ 0 ∧ xs.length = ds.length + 1) := by
      rcases hF with ⟨_, h⟩ | ⟨gs, e, r', h1, rfl, _, h⟩
      · rw [HS.out] at h
        injection h with h1 h2
        injection h2 with h2 h3
        exact .inl ⟨h3, by rw [h1]; simp⟩
      · rw [HS.out] at h
        injection h with h1' h2
        injection h2 with h2 h3
        exact .inr ⟨by rw [h3]; exact h1, by rw [h1']; simp⟩
    have hI2 : ToB w (.slice Aw ds.length cw) t0 r most (xs.length : Int) true false W := hI
    have hlen : xs.length ≤ 1000002 := by omega
    have c0 := cell_of_row W _ 0 _ _ _ hI2.b0
    have c2 : W.cell? ⟨w.heap.size + 1 + 1, 0, none⟩ = some (.int .i64 (r : Int)) := cell_of_row W _ 0 _ _ _ hI2.b2
    have c4 : W.cell? ⟨w.heap.size + 1 + 1 + 1 + 1, 0, none⟩ = some (.bool false) := cell_of_row W _ 0 _ _ _ hI2.b4
    have c5 : W.cell? ⟨w.heap.size + 1 + 1 + 1 + 1 + 1, 0, none⟩ = some (.int .i64 (xs.length : Int)) := cell_of_row W _ 0 _ _ _ hI2.b5
    have c6 : W.cell? ⟨w.heap.size + 1 + 1 + 1 + 1 + 1 + 1, 0, none⟩ = some (.bool true) := cell_of_row W _ 0 _ _ _ hI2.b6
    have f4 : W.frozen? ⟨w.heap.size + 1 + 1 + 1 + 1, 0, none⟩ = false := frozen_of_row W _ 0 _ _ hI2.b4
    have hg := grown_set W (w.heap.size + 4) 0 (.bool true)
    have HFE := Lib_hid (told_fin (H := W7.heap.size) (by omega) (hI2.set4 true) ((hg.block _ (Array.getElem?_eq_some_iff.1 hD).1 (fun e => by injection e with e; omega)).trans hD))
    clear hI hI2 hD hF hg
    rcases hcase with ⟨h1, h2⟩ | ⟨h1, h2⟩
    · have hd1 : ((r : Int) != 0) = false := by simp; omega
      have hd2 : ((xs.length : Int) == (ds.length : Int)) = true := by simp; omega
      clear h1 h2
      gi_wp2
      exact HFE.out _ rfl
    · have hd1 : ((r : Int) != 0) = true := by simp; omega
      have hd2 : ((xs.length : Int) == (ds.length : Int) + 1) = true := by simp; omega
      clear h1 h2
      gi_wp2
      exact HFE.out _ rfl
  case stop =>
    rintro cc pre W hPt ⟨rfl, k, hB⟩ hD
    have HFE := Lib_hid (told_fin (H := W7.heap.size) (by rw [HBS.out]; exact Nat.le_refl _) hB hD)
    clear hB hD
    gi_wp2
    exact HFE.out _ rfl

end Go.Proofs.YtedglcbeheeonaaDoor
