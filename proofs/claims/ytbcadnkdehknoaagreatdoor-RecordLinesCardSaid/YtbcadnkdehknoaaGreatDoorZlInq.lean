/-
  Layer 5: versions: Cmp on both sides, docs.Version.
  A region that draws its order, by what holds of each operation's value: shown once for each operation, from any state in which the operations that it waits for are done; so it holds for every order. No program is named here.
  A region that draws its order, by what holds while some of its operations are done: shown once for each operation. No program is named here.
  A region that draws its order and ends with a tail in one forced order (a store, an append): what is ahead of the tail may call, and make memory. No program is named here.
-/
import Derived.Test.YtbcadnkdehknoaaGreatDoorZlVta
import Derived.Test.YtbcadnkdehknoaaGreatDoorTrw
import Derived.Deep.RegionHeld3
import Derived.Test.YtbcadnkdehknoaaGreatDoorMem
import Derived.Orders

namespace Go.Proofs.YtbcadnkdehknoaaGreatDoor
open Go Go.RowKit
set_option linter.unusedVariables false

/-- -1, 0, 1. -/
def cmpN (a b : Nat) : Int := if a < b then -1 else if b < a then 1 else 0
def cmpV (a b c d : Nat) : Int := if cmpN a c = 0 then cmpN b d else cmpN a c

theorem isnan_any (a : Nat) (w : World) : Calls Tryz.prog 90 #[.int .u64 (a : Int)] w fun e w' => e = .returned (.bool false) ∧ w' = w := by
  go_enter Tryz.func90, Tryz.ntmps90
  go_wp2
  go_ret
  exact ⟨ret_b (by simp), rfl⟩

theorem compare_any (a b : Nat) (w : World) : Calls Tryz.prog 59 #[.int .u64 (a : Int), .int .u64 (b : Int)] w fun e w' => e = .returned (.int .i64 (cmpN a b)) ∧ w' = w := by
  rcases Nat.lt_trichotomy a b with h | h | h
  · have HC : Hid (cmpN a b = -1) := by unfold cmpN Hid; rw [if_pos h]
    have h1 : (a : Int) < b := by omega
    go_enter Tryz.func59, Tryz.ntmps59
    go_wp2_with fail
    refine (isnan_any a _).mono ?_
    rintro e w1 ⟨rfl, rfl⟩
    go_wp2_with fail
    refine (isnan_any b _).mono ?_
    rintro e w2 ⟨rfl, rfl⟩
    go_wp2
    go_ret
    exact ⟨ret_i HC.out.symm, rfl⟩
  · subst h
    have HC : Hid (cmpN a a = 0) := by unfold cmpN Hid; rw [if_neg (by omega), if_neg (by omega)]
    have h1 : ¬ (a : Int) < a := by omega
    go_enter Tryz.func59, Tryz.ntmps59
    go_wp2_with fail
    refine (isnan_any a _).mono ?_
    rintro e w1 ⟨rfl, rfl⟩
    go_wp2_with fail
    refine (isnan_any a _).mono ?_
    rintro e w2 ⟨rfl, rfl⟩
    go_wp2
    go_ret
    exact ⟨ret_i HC.out.symm, rfl⟩
  · have HC : Hid (cmpN a b = 1) := by unfold cmpN Hid; rw [if_neg (by omega), if_pos h]
    have h1 : ¬ (a : Int) < b := by omega
    have h2 : (b : Int) < a := by omega
    go_enter Tryz.func59, Tryz.ntmps59
    go_wp2_with fail
    refine (isnan_any a _).mono ?_
    rintro e w1 ⟨rfl, rfl⟩
    go_wp2_with fail
    refine (isnan_any b _).mono ?_
    rintro e w2 ⟨rfl, rfl⟩
    go_wp2
    go_ret
    exact ⟨ret_i HC.out.symm, rfl⟩

theorem or_any (b : Nat) (x y : Int) (w : World) (c0 : w.cell? ⟨b, 0, none⟩ = some (.int .i64 x)) (c1 : w.cell? ⟨b, 1, none⟩ = some (.int .i64 y)) :
    Calls Tryz.prog 58 #[.slice (some ⟨b, 0, none⟩) 2 2] w fun e w' => e = .returned (.int .i64 (if x = 0 then y else x)) ∧ w' = w := by
  have HO : Hid ((x ≠ 0 → (if x = 0 then y else x) = x) ∧ (x = 0 → (if x = 0 then y else x) = y)) := ⟨fun h => if_neg h, fun h => if_pos h⟩
  generalize (if x = 0 then y else x) = r at *
  go_enter Tryz.func58, Tryz.ntmps58
  go_wp2
  go_loop [8] (fun z => ∃ i : Nat, z = .int .i64 i ∧ i ≤ 2 ∧ Hid ((1 ≤ i → x = 0) ∧ (2 ≤ i → y = 0))) (fun z => 2 - (intOf z).toNat)
  case atStart => exact ⟨0, rfl, by omega, ⟨fun h => absurd h (by omega), fun h => absurd h (by omega)⟩⟩
  case round =>
    obtain ⟨i, rfl, hi, hz⟩ := hrel
    have : i = 0 ∨ i = 1 ∨ i = 2 := by omega
    rcases this with rfl | rfl | rfl
    · by_cases h : x = 0
      · subst h
        go_wp2
        go_round
        case rel => exact ⟨1, rfl, by omega, ⟨fun _ => by trivial, fun h => absurd h (by omega)⟩⟩
        case measure => simp [intOf]
      · have hx : (x != 0) = true := by simp [h]
        have HR := Lib_hid (HO.out.1 h)
        go_wp2
        go_ret
        exact ⟨ret_i HR.out.symm, rfl⟩
    · have hx0 := hz.out.1 (by omega)
      have HR := Lib_hid (HO.out.2 hx0)
      by_cases h : y = 0
      · have HY := Lib_hid h
        subst h
        go_wp2
        go_round
        case rel => exact ⟨2, rfl, by omega, ⟨fun _ => hx0, fun _ => by trivial⟩⟩
        case measure => simp [intOf]
      · have hx : (y != 0) = true := by simp [h]
        go_wp2
        go_ret
        exact ⟨ret_i HR.out.symm, rfl⟩
    · have hx0 := hz.out.1 (by omega)
      have hy0 := hz.out.2 (by omega)
      have HR := Lib_hid ((HO.out.2 hx0).trans hy0)
      go_wp2
      go_ret
      exact ⟨ret_i HR.out.symm, rfl⟩

theorem docver_any (a b : Nat) (w : World) : Calls Tryz.prog 23 #[.agg #[.int .u64 (a : Int), .int .u64 (b : Int)]] w fun e w' => e = .returned (.agg #[.int .u64 (a : Int), .int .u64 (b : Int)]) ∧ Below w.heap.size w w' := by
  have hsz : (Tryz.prog.info? 33).map (·.size) = some 2 := by kernel_rfl
  have hb := (below_new w (.cells #[.int .u64 (a : Int), .int .u64 (b : Int)] 24)).alloc (by simp) (.cells #[.int .u64 (a : Int), .int .u64 (b : Int)] 33)
  have hh := heap_alloc_new (w.alloc (.cells #[.int .u64 (a : Int), .int .u64 (b : Int)] 24)) (.cells #[.int .u64 (a : Int), .int .u64 (b : Int)] 33)
  rw [show (w.alloc (.cells #[.int .u64 (a : Int), .int .u64 (b : Int)] 24)).heap.size = w.heap.size + 1 by simp] at hh
  go_enter Tryz.func23, Tryz.ntmps23
  go_wp2
  exact bodyPost_ret (results_cell_row (p := 2) (ty := 33) rfl _ _ (w.heap.size + 1) 33 #[.int .u64 (a : Int), .int .u64 (b : Int)] (0, 0) _ rfl hh Tryz.underlying33 rfl hsz) rfl ⟨rfl, hb⟩

theorem cmpV_eq {a b c d : Nat} (h : a = c ∧ b = d) : cmpV a b c d = 0 := by
  obtain ⟨rfl, rfl⟩ := h
  simp [cmpV, cmpN]
theorem cmpV_lt {a b c d : Nat} (h : a < c ∨ a = c ∧ b < d) : cmpV a b c d = -1 := by
  rcases h with h | ⟨rfl, h⟩
  · simp [cmpV, cmpN, h]
  · simp [cmpV, cmpN, h]
theorem cmpV_gt {a b c d : Nat} (h : ¬ (a = c ∧ b = d)) (h2 : ¬ (a < c ∨ a = c ∧ b < d)) : cmpV a b c d = 1 := by
  by_cases he : a = c
  · subst he
    have h3 : d < b := by omega
    have h4 : ¬ b < d := by omega
    simp [cmpV, cmpN, h3, h4]
  · have h3 : c < a := by omega
    have h4 : ¬ a < c := by omega
    simp [cmpV, cmpN, h3, h4]

set_option maxRecDepth 100000 in
set_option maxHeartbeats 1600000 in
theorem rcmp5_any (a b c d : Nat) (w : World) : Calls Tryz.prog 25 #[.agg #[.int .u64 (a : Int), .int .u64 (b : Int)], .agg #[.int .u64 (c : Int), .int .u64 (d : Int)]] w fun e w' => e = .returned (.int .i64 (cmpV a b c d)) ∧ Below w.heap.size w w' := by
  have PF : Hid (∀ z, z = cmpV a b c d → Ending.returned (.int .i64 z) = .returned (.int .i64 (cmpV a b c d)) ∧ Below w.heap.size w ((w.alloc (.cells #[.int .u64 (a : Int), .int .u64 (b : Int)] 33)).alloc (.cells #[.int .u64 (c : Int), .int .u64 (d : Int)] 33))) := fun z h => ⟨ret_i h, (below_new w _).alloc (by simp) _⟩
  by_cases h1 : a = c
  · by_cases h2 : b = d
    · have HC := Lib_hid (cmpV_eq ⟨h1, h2⟩)
      subst h1 h2
      go_enter Tryz.func25, Tryz.ntmps25
      go_wp2
      go_ret
      exact PF.out _ HC.out.symm
    · by_cases h3 : b < d
      · have HC := Lib_hid (cmpV_lt (.inr ⟨h1, h3⟩))
        subst h1
        have h4 : (b : Int) < d := by omega
        have h5 : ¬ (a : Int) < a := by omega
        go_enter Tryz.func25, Tryz.ntmps25
        go_wp2
        go_ret
        exact PF.out _ HC.out.symm
      · have HC := Lib_hid (cmpV_gt (a := a) (b := b) (c := c) (d := d) (by omega) (by omega))
        subst h1
        have h4 : ¬ (b : Int) < d := by omega
        have h5 : ¬ (a : Int) < a := by omega
        go_enter Tryz.func25, Tryz.ntmps25
        go_wp2
        go_ret
        exact PF.out _ HC.out.symm
  · by_cases h3 : a < c
    · have HC := Lib_hid (cmpV_lt (b := b) (d := d) (.inl h3))
      have h4 : (a : Int) < c := by omega
      go_enter Tryz.func25, Tryz.ntmps25
      go_wp2
      go_ret
      exact PF.out _ HC.out.symm
    · have HC := Lib_hid (cmpV_gt (a := a) (b := b) (c := c) (d := d) (by omega) (by omega))
      have h4 : ¬ (a : Int) < c := by omega
      go_enter Tryz.func25, Tryz.ntmps25
      go_wp2
      go_ret
      exact PF.out _ HC.out.symm


end Go.Proofs.YtbcadnkdehknoaaGreatDoor

namespace Go.Proofs.YtbcadnkdehknoaaGreatDoor
open Go Go.RowKit
set_option linter.unusedVariables false

section
variable {P : Program} {ops : Array Oper} {Q : Exit → Act → World → Prop} {Pr : Nat → Value → World → Prop} {a0 : Act} {w0 : World}

/-- The slots that a region's operations write. -/
def dsts (ops : Array Oper) : List Tmp := ops.toList.filterMap (·.dst)

/-- In the middle of a region. -/
structure Mid (ops : Array Oper) (Pr : Nat → Value → World → Prop) (a0 : Act) (w0 : World) (a : Act) (w : World) : Prop where
  tmps : a.tmps.size = a0.tmps.size
  defers : a.defers = a0.defers
  below : Below w0.heap.size w0 w
  other : ∀ s, s ∉ dsts ops → a.tmps.getD s undef = a0.tmps.getD s undef

def Done (ops : Array Oper) (Pr : Nat → Value → World → Prop) (i : Nat) (a : Act) (w : World) : Prop := ∀ o d, ops[i]? = some o → o.dst = some d → Pr i (a.tmps.getD d undef) w

theorem mem_dsts {i : Nat} {o : Oper} {d : Tmp} (h : ops[i]? = some o) (hd : o.dst = some d) : d ∈ dsts ops := by
  unfold dsts
  rw [List.mem_filterMap]
  refine ⟨o, ?_, hd⟩
  have : ops.toList[i]? = some o := by simpa using h
  exact List.mem_of_getElem? this
theorem dst_inj (hnd : (dsts ops).Nodup) {i j : Nat} {o o' : Oper} {d : Tmp} (h : ops[i]? = some o) (h' : ops[j]? = some o') (hd : o.dst = some d) (hd' : o'.dst = some d) : i = j := by
  obtain ⟨l⟩ := ops
  simp only [List.getElem?_toArray] at h h'
  unfold dsts at hnd
  simp only at hnd
  induction l generalizing i j with
  | nil => simp at h
  | cons x l ih =>
    cases hx : x.dst with
    | none =>
      rw [List.filterMap_cons_none hx] at hnd
      cases i with
      | zero => simp at h; subst h; rw [hx] at hd; cases hd
      | succ i =>
        cases j with
        | zero => simp at h'; subst h'; rw [hx] at hd'; cases hd'
        | succ j => rw [ih (i := i) (j := j) hnd (by simpa using h) (by simpa using h')]
    | some e =>
      rw [List.filterMap_cons_some hx, List.nodup_cons] at hnd
      cases i with
      | zero =>
        simp at h
        subst h
        rw [hx] at hd
        cases j with
        | zero => rfl
        | succ j =>
          exfalso
          injection hd with hd
          subst hd
          exact hnd.1 (List.mem_filterMap.2 ⟨o', List.mem_of_getElem? (by simpa using h'), hd'⟩)
      | succ i =>
        cases j with
        | zero =>
          exfalso
          simp at h'
          subst h'
          rw [hx] at hd'
          injection hd' with hd'
          subst hd'
          exact hnd.1 (List.mem_filterMap.2 ⟨o, List.mem_of_getElem? (by simpa using h), hd⟩)
        | succ j => rw [ih (i := i) (j := j) hnd.2 (by simpa using h) (by simpa using h')]

theorem put_getD_ne {a : Act} {dst : Option Tmp} {v : Value} {s : Tmp} (h : dst ≠ some s) : (a.put dst v).tmps.getD s undef = a.tmps.getD s undef := by
  cases dst with
  | none => rfl
  | some d =>
    have : d ≠ s := fun e => h (by rw [e])
    simp [Act.put, Array.getD_eq_getD_getElem?, this]
theorem put_getD_eq {a : Act} {v : Value} {d : Tmp} (h : d < a.tmps.size) : (a.put (some d) v).tmps.getD d undef = v := by
  simp [Act.put, Array.getD_eq_getD_getElem?, h]
theorem put_size {a : Act} {dst : Option Tmp} {v : Value} : (a.put dst v).tmps.size = a.tmps.size := by cases dst <;> simp [Act.put]
theorem put_defers' {a : Act} {dst : Option Tmp} {v : Value} : (a.put dst v).defers = a.defers := by cases dst <;> simp [Act.put]

/-- All operations are done, when none is ready. -/
theorem all_listed (hback : ∀ (i : Nat) (o : Oper), ops[i]? = some o → ∀ e ∈ o.after, e.on < i) {listed : Array Bool} (hs : listed.size = ops.size) (hr : Region.ready .any ops listed = []) : ∀ i, i < ops.size → listed.getD i false = true := by
  intro i
  induction i using Nat.strongRecOn with
  | ind i ih =>
    intro hi
    cases h : listed.getD i false with
    | true => rfl
    | false =>
      exfalso
      have hm : i ∈ Region.ready .any ops listed := by
        rw [mem_ready]
        refine ⟨?_, ops[i], Array.getElem?_eq_getElem hi, fun e he _ => ih e.on (hback i _ (Array.getElem?_eq_getElem hi) e he) ?_⟩
        · have hi' : i < listed.size := by omega
          rw [Array.getD_eq_getD_getElem?, Array.getElem?_eq_getElem hi'] at h ⊢
          exact h
        · have := hback i _ (Array.getElem?_eq_getElem hi) e he
          omega
      rw [hr] at hm
      cases hm

theorem wpAny_mid (hnd : (dsts ops).Nodup) (hlt : ∀ d ∈ dsts ops, d < a0.tmps.size) (hback : ∀ (i : Nat) (o : Oper), ops[i]? = some o → ∀ e ∈ o.after, e.on < i)
    (hst : ∀ i v w w', Below w0.heap.size w0 w → Below w.heap.size w w' → Pr i v w → Pr i v w')
    (hop : ∀ i o a w, ops[i]? = some o → Mid ops Pr a0 w0 a w → (∀ e ∈ o.after, Region.binds .any e = true → Done ops Pr e.on a w) →
      Region.wanted o (yielded ops a.tmps) = true ∧ o.wp P a w (fun a' w' => ∃ v, a' = a.put o.dst v ∧ Pr i v w' ∧ Below w.heap.size w w') Q)
    (hend : ∀ a w, Mid ops Pr a0 w0 a w → (∀ i, i < ops.size → Done ops Pr i a w) → Q .normal a w) :
    ∀ (fuel : Nat) (listed : Array Bool) (a : Act) (w : World), listed.size = ops.size → listed.toList.count false ≤ fuel → Mid ops Pr a0 w0 a w → (∀ i, listed.getD i false = true → Done ops Pr i a w) → wpAny P .any ops Q fuel listed a w := by
  intro fuel
  induction fuel with
  | zero =>
    intro listed a w hs hc hM hD
    have hall : ∀ i, i < ops.size → listed.getD i false = true := by
      intro i hi
      cases h : listed.getD i false with
      | true => rfl
      | false =>
        exfalso
        have hi' : i < listed.size := by omega
        rw [Array.getD_eq_getD_getElem?, Array.getElem?_eq_getElem hi'] at h
        have : false ∈ listed.toList := by
          rw [← h]; simp
        have := List.count_pos_iff.2 this
        omega
    refine ⟨?_, hend a w hM fun i hi => hD i (hall i hi)⟩
    apply List.eq_nil_iff_forall_not_mem.2
    intro j hj
    rw [mem_ready] at hj
    obtain ⟨h1, o, ho, _⟩ := hj
    have hlt := (Array.getElem?_eq_some_iff.1 ho).1
    have h2 := hall j hlt
    have hi' : j < listed.size := by omega
    rw [Array.getD_eq_getD_getElem?, Array.getElem?_eq_getElem hi'] at h1 h2
    simp at h1 h2
    rw [h1] at h2; cases h2
  | succ fuel ih =>
    intro listed a w hs hc hM hD
    refine ⟨fun hr => hend a w hM fun i hi => hD i (all_listed hback hs hr i hi), fun i hi => ?_⟩
    rw [mem_ready] at hi
    obtain ⟨h1, o, ho, haf⟩ := hi
    have hlt' := (Array.getElem?_eq_some_iff.1 ho).1
    have hi' : i < listed.size := by omega
    obtain ⟨hw, hwp⟩ := hop i o a w ho hM fun e he hb => hD e.on (haf e he hb)
    unfold wpOp
    rw [ho]
    simp only [hw, if_true]
    refine .inl (Oper.wp_mono ?_ hwp)
    rintro a' w' ⟨v, rfl, hv, hbl⟩
    have hbl0 : Below w0.heap.size w0 w' := hM.below.trans (hbl.mono hM.below.size)
    refine ih _ _ _ (by simpa using hs) ?_ ⟨?_, ?_, hbl0, ?_⟩ ?_
    · have hf : listed.toList[i]'(by simpa using hi') = false := by
        rw [Array.getD_eq_getD_getElem?, Array.getElem?_eq_getElem hi'] at h1
        simpa using h1
      have : (listed.setIfInBounds i true).toList = listed.toList.set i true := by simp
      rw [this, List.count_set (by simpa using hi'), hf]
      have hpos : 0 < listed.toList.count false := List.count_pos_iff.2 (by rw [← hf]; exact List.getElem_mem _)
      have e1 : ((false == false) = true) := rfl
      have e2 : ¬ ((true == false) = true) := by decide
      rw [if_pos e1, if_neg e2]
      omega
    · rw [put_size]; exact hM.tmps
    · rw [put_defers']; exact hM.defers
    · intro s hsd
      rw [put_getD_ne (fun e => hsd (mem_dsts ho e))]
      exact hM.other s hsd
    · intro j hj
      by_cases hji : j = i
      · subst hji
        intro o' d ho' hd
        obtain rfl : o' = o := Option.some.inj (ho'.symm.trans ho)
        rw [hd, put_getD_eq (by rw [hM.tmps]; exact hlt d (mem_dsts ho hd))]
        exact hv
      · have hj2 : listed.getD j false = true := by
          rw [Array.getD_eq_getD_getElem?, Array.getElem?_setIfInBounds] at hj
          have : ¬ i = j := fun e => hji e.symm
          simp only [this, if_false] at hj
          rw [Array.getD_eq_getD_getElem?]
          exact hj
        intro o' d ho' hd
        rw [put_getD_ne (fun e => hji (dst_inj hnd ho' ho hd e))]
        exact hst j _ w w' hM.below hbl (hD j hj2 o' d ho' hd)

/-- The region's operations: each writes a slot of its own below N, and waits for earlier ones alone. -/
def regionOk (ops : Array Oper) (N : Nat) : Bool :=
  decide (dsts ops).Nodup && (dsts ops).all (fun d => decide (d < N)) && (List.range ops.size).all fun i => ((ops[i]?).map fun o => o.after.all fun e => decide (e.on < i)).getD true
theorem regionOk_back {N : Nat} (h : regionOk ops N = true) (i : Nat) (o : Oper) (ho : ops[i]? = some o) : ∀ e ∈ o.after, e.on < i := by
  simp only [regionOk, Bool.and_eq_true] at h
  have hlt := (Array.getElem?_eq_some_iff.1 ho).1
  have := (List.all_eq_true.1 h.2) i (by rw [List.mem_range]; exact hlt)
  rw [ho] at this
  intro e he
  simp only [Option.map_some, Option.getD_some] at this
  have h2 := (Array.all_eq_true_iff_forall_mem.1 this) e he
  simpa using h2

/-- An operation that ends with the value v, in the world w'. -/
theorem mid_step {o : Oper} {a : Act} {w : World} {K0 : Act → World → Prop} (v : Value) (w' : World) (h : ∀ K : Act → World → Prop, K (a.put o.dst v) w' → o.wp P a w K Q) (hK : K0 (a.put o.dst v) w') : o.wp P a w K0 Q := h K0 hK

/-- An operation that ends with some value, in some world, of which R holds. -/
theorem mid_call {o : Oper} {a : Act} {w : World} {K0 : Act → World → Prop} (R : Value → World → Prop) (h : ∀ K : Act → World → Prop, (∀ v w', R v w' → K (a.put o.dst v) w') → o.wp P a w K Q) (hK : ∀ v w', R v w' → K0 (a.put o.dst v) w') : o.wp P a w K0 Q := h K0 hK

theorem below_drew1 (w : World) : Below w.heap.size w { w with drawn := w.drawn + 1 } := ⟨rfl, rfl, rfl, Nat.le_refl _, fun _ _ => rfl⟩

/-- A REGION THAT DRAWS ITS ORDER, BY WHAT HOLDS OF EACH OPERATION'S VALUE. -/
theorem wp_region_mid {id N : Nat} (Pr : Nat → Value → World → Prop) (hm : P.follows .mixedOrders = true) (hok : regionOk ops N = true) (hN : a0.tmps.size = N)
    (hst : ∀ i v w w', Below w0.heap.size w0 w → Below w.heap.size w w' → Pr i v w → Pr i v w')
    (hop : ∀ i o a w, ops[i]? = some o → Mid ops Pr a0 w0 a w → (∀ j, (o.after.any fun e => e.on == j && Region.binds .any e) = true → Done ops Pr j a w) →
      Region.wanted o (yielded ops a.tmps) = true ∧ o.wp P a w (fun a' w' => ∃ v, a' = a.put o.dst v ∧ Pr i v w' ∧ Below w.heap.size w w') Q)
    (hend : ∀ a w, Mid ops Pr a0 w0 a w → (∀ i, i < ops.size → Done ops Pr i a w) → Q .normal a w) :
    (Code.region id ops true).wp P Q a0 w0 := by
  have hok' := hok
  simp only [regionOk, Bool.and_eq_true, decide_eq_true_eq] at hok'
  refine wp_region_any hm (wpAny_mid hok'.1.1 (fun d hd => by rw [hN]; simpa using (List.all_eq_true.1 hok'.1.2) d hd) (regionOk_back hok) hst (fun i o a w ho hM hD => hop i o a w ho hM fun j hj => ?_) hend _ _ _ _ (by simp) ?_ ⟨rfl, rfl, below_drew1 w0, fun _ _ => rfl⟩ ?_)
  · rw [← Array.any_toList, List.any_eq_true] at hj
    obtain ⟨e, he, hj⟩ := hj
    have he := Array.mem_toList_iff.1 he
    simp only [Bool.and_eq_true, beq_iff_eq] at hj
    rw [← hj.1]
    exact hD e he hj.2
  · simp
  · intro i hi
    exfalso
    rw [Array.getD_eq_getD_getElem?, Array.getElem?_replicate] at hi
    split at hi <;> simp at hi
end

end Go.Proofs.YtbcadnkdehknoaaGreatDoor

namespace Go.Proofs.YtbcadnkdehknoaaGreatDoor
open Go Go.RowKit
set_option linter.unusedVariables false

section
variable {P : Program} {ops : Array Oper} {Q : Exit → Act → World → Prop} {a0 : Act} {w0 : World}

/-- One more is done. -/
def more (L : Nat → Bool) (i : Nat) : Nat → Bool := fun k => if k = i then true else L k

theorem wpAny_gen (I : (Nat → Bool) → Act → World → Prop) (hback : ∀ (i : Nat) (o : Oper), ops[i]? = some o → ∀ e ∈ o.after, e.on < i)
    (hop : ∀ i o L a w, ops[i]? = some o → L i = false → I L a w → (∀ e ∈ o.after, Region.binds .any e = true → L e.on = true) →
      Region.wanted o (yielded ops a.tmps) = true ∧ o.wp P a w (fun a' w' => I (more L i) a' w') Q)
    (hend : ∀ L a w, I L a w → (∀ i, i < ops.size → L i = true) → Q .normal a w) :
    ∀ (fuel : Nat) (listed : Array Bool) (a : Act) (w : World), listed.size = ops.size → listed.toList.count false ≤ fuel → I (fun k => listed.getD k false) a w → wpAny P .any ops Q fuel listed a w := by
  intro fuel
  induction fuel with
  | zero =>
    intro listed a w hs hc hI
    have hall : ∀ i, i < ops.size → listed.getD i false = true := by
      intro i hi
      cases h : listed.getD i false with
      | true => rfl
      | false =>
        exfalso
        have hi' : i < listed.size := by omega
        rw [Array.getD_eq_getD_getElem?, Array.getElem?_eq_getElem hi'] at h
        have : false ∈ listed.toList := by
          rw [← h]; simp
        have := List.count_pos_iff.2 this
        omega
    refine ⟨?_, hend _ a w hI hall⟩
    apply List.eq_nil_iff_forall_not_mem.2
    intro j hj
    rw [mem_ready] at hj
    obtain ⟨h1, o, ho, _⟩ := hj
    have hlt := (Array.getElem?_eq_some_iff.1 ho).1
    have h2 := hall j hlt
    have hi' : j < listed.size := by omega
    rw [Array.getD_eq_getD_getElem?, Array.getElem?_eq_getElem hi'] at h1 h2
    simp at h1 h2
    rw [h1] at h2; cases h2
  | succ fuel ih =>
    intro listed a w hs hc hI
    refine ⟨fun hr => hend _ a w hI (all_listed hback hs hr), fun i hi => ?_⟩
    rw [mem_ready] at hi
    obtain ⟨h1, o, ho, haf⟩ := hi
    have hlt' := (Array.getElem?_eq_some_iff.1 ho).1
    have hi' : i < listed.size := by omega
    have h1' : listed.getD i false = false := by
      rw [Array.getD_eq_getD_getElem?, Array.getElem?_eq_getElem hi'] at h1 ⊢
      exact h1
    obtain ⟨hw, hwp⟩ := hop i o (fun k => listed.getD k false) a w ho h1' hI fun e he hb => haf e he hb
    unfold wpOp
    rw [ho]
    simp only [hw, if_true]
    refine .inl (Oper.wp_mono ?_ hwp)
    intro a' w' hI'
    refine ih _ _ _ (by simpa using hs) ?_ ?_
    · have hf : listed.toList[i]'(by simpa using hi') = false := by
        rw [Array.getD_eq_getD_getElem?, Array.getElem?_eq_getElem hi'] at h1
        simpa using h1
      have : (listed.setIfInBounds i true).toList = listed.toList.set i true := by simp
      rw [this, List.count_set (by simpa using hi'), hf]
      have hpos : 0 < listed.toList.count false := List.count_pos_iff.2 (by rw [← hf]; exact List.getElem_mem _)
      have e1 : ((false == false) = true) := rfl
      have e2 : ¬ ((true == false) = true) := by decide
      rw [if_pos e1, if_neg e2]
      omega
    · have e : (fun k => (listed.setIfInBounds i true).getD k false) = more (fun k => listed.getD k false) i := by
        funext k
        unfold more
        rw [Array.getD_eq_getD_getElem?, Array.getElem?_setIfInBounds]
        by_cases hk : k = i
        · subst hk; simp [hi']
        · rw [if_neg (fun e => hk e.symm), if_neg hk]
          simp [Array.getD_eq_getD_getElem?]
      rw [e]
      exact hI'

/-- A REGION THAT DRAWS ITS ORDER, BY WHAT HOLDS WHILE SOME OF ITS OPERATIONS ARE DONE. -/
theorem wp_region_gen {id N : Nat} (I : (Nat → Bool) → Act → World → Prop) (hm : P.follows .mixedOrders = true) (hok : regionOk ops N = true)
    (hst : I (fun _ => false) a0 { w0 with drawn := w0.drawn + 1 })
    (hop : ∀ i o L a w, ops[i]? = some o → L i = false → I L a w → (∀ j, (o.after.any fun e => e.on == j && Region.binds .any e) = true → L j = true) →
      Region.wanted o (yielded ops a.tmps) = true ∧ o.wp P a w (fun a' w' => I (more L i) a' w') Q)
    (hend : ∀ L a w, I L a w → (∀ i, i < ops.size → L i = true) → Q .normal a w) :
    (Code.region id ops true).wp P Q a0 w0 := by
  refine wp_region_any hm (wpAny_gen I (regionOk_back hok) (fun i o L a w ho h1 hI hD => hop i o L a w ho h1 hI fun j hj => ?_) hend _ _ _ _ (by simp) ?_ ?_)
  · rw [← Array.any_toList, List.any_eq_true] at hj
    obtain ⟨e, he, hj⟩ := hj
    have he := Array.mem_toList_iff.1 he
    simp only [Bool.and_eq_true, beq_iff_eq] at hj
    rw [← hj.1]
    exact hD e he hj.2
  · simp
  · have e : (fun k => (Array.replicate ops.size false).getD k false) = fun _ => false := by
      funext k
      rw [Array.getD_eq_getD_getElem?, Array.getElem?_replicate]
      split <;> rfl
    rw [e]
    exact hst
/-- The same, told of the frame that the region begins with. -/
theorem wp_region_gen2 {id N : Nat} (I : Act → (Nat → Bool) → Act → World → Prop) (hm : P.follows .mixedOrders = true) (hok : regionOk ops N = true)
    (hst : I a0 (fun _ => false) a0 { w0 with drawn := w0.drawn + 1 })
    (hop : ∀ i o L a w, ops[i]? = some o → L i = false → I a0 L a w → (∀ j, (o.after.any fun e => e.on == j && Region.binds .any e) = true → L j = true) →
      Region.wanted o (yielded ops a.tmps) = true ∧ o.wp P a w (fun a' w' => I a0 (more L i) a' w') Q)
    (hend : ∀ L a w, I a0 L a w → (∀ i, i < ops.size → L i = true) → Q .normal a w) :
    (Code.region id ops true).wp P Q a0 w0 := wp_region_gen (I a0) hm hok hst hop hend
theorem wpAny_gen3 (I : (Nat → Bool) → Act → World → Prop) (hback : ∀ (i : Nat) (o : Oper), ops[i]? = some o → ∀ e ∈ o.after, e.on < i)
    (hop : ∀ i o L a w, ops[i]? = some o → L i = false → I L a w → (∀ e ∈ o.after, Region.binds .any e = true → L e.on = true) →
      (Region.wanted o (yielded ops a.tmps) = true ∧ o.wp P a w (fun a' w' => I (more L i) a' w') Q) ∨ (Region.wanted o (yielded ops a.tmps) = false ∧ I (more L i) (a.put o.dst undef) w))
    (hend : ∀ L a w, I L a w → (∀ i, i < ops.size → L i = true) → Q .normal a w) :
    ∀ (fuel : Nat) (listed : Array Bool) (a : Act) (w : World), listed.size = ops.size → listed.toList.count false ≤ fuel → I (fun k => listed.getD k false) a w → wpAny P .any ops Q fuel listed a w := by
  intro fuel
  induction fuel with
  | zero =>
    intro listed a w hs hc hI
    have hall : ∀ i, i < ops.size → listed.getD i false = true := by
      intro i hi
      cases h : listed.getD i false with
      | true => rfl
      | false =>
        exfalso
        have hi' : i < listed.size := by omega
        rw [Array.getD_eq_getD_getElem?, Array.getElem?_eq_getElem hi'] at h
        have : false ∈ listed.toList := by
          rw [← h]; simp
        have := List.count_pos_iff.2 this
        omega
    refine ⟨?_, hend _ a w hI hall⟩
    apply List.eq_nil_iff_forall_not_mem.2
    intro j hj
    rw [mem_ready] at hj
    obtain ⟨h1, o, ho, _⟩ := hj
    have hlt := (Array.getElem?_eq_some_iff.1 ho).1
    have h2 := hall j hlt
    have hi' : j < listed.size := by omega
    rw [Array.getD_eq_getD_getElem?, Array.getElem?_eq_getElem hi'] at h1 h2
    simp at h1 h2
    rw [h1] at h2; cases h2
  | succ fuel ih =>
    intro listed a w hs hc hI
    refine ⟨fun hr => hend _ a w hI (all_listed hback hs hr), fun i hi => ?_⟩
    rw [mem_ready] at hi
    obtain ⟨h1, o, ho, haf⟩ := hi
    have hlt' := (Array.getElem?_eq_some_iff.1 ho).1
    have hi' : i < listed.size := by omega
    have h1' : listed.getD i false = false := by
      rw [Array.getD_eq_getD_getElem?, Array.getElem?_eq_getElem hi'] at h1 ⊢
      exact h1
    have hnext : ∀ a' w', I (more (fun k => listed.getD k false) i) a' w' → wpAny P .any ops Q fuel (listed.setIfInBounds i true) a' w' := by
      intro a' w' hI'
      refine ih _ _ _ (by simpa using hs) ?_ ?_
      · have hf : listed.toList[i]'(by simpa using hi') = false := by
          rw [Array.getD_eq_getD_getElem?, Array.getElem?_eq_getElem hi'] at h1
          simpa using h1
        have : (listed.setIfInBounds i true).toList = listed.toList.set i true := by simp
        rw [this, List.count_set (by simpa using hi'), hf]
        have hpos : 0 < listed.toList.count false := List.count_pos_iff.2 (by rw [← hf]; exact List.getElem_mem _)
        have e1 : ((false == false) = true) := rfl
        have e2 : ¬ ((true == false) = true) := by decide
        rw [if_pos e1, if_neg e2]
        omega
      · have e : (fun k => (listed.setIfInBounds i true).getD k false) = more (fun k => listed.getD k false) i := by
          funext k
          unfold more
          rw [Array.getD_eq_getD_getElem?, Array.getElem?_setIfInBounds]
          by_cases hk : k = i
          · subst hk; simp [hi']
          · rw [if_neg (fun e => hk e.symm), if_neg hk]
            simp [Array.getD_eq_getD_getElem?]
        rw [e]
        exact hI'
    unfold wpOp
    rw [ho]
    rcases hop i o (fun k => listed.getD k false) a w ho h1' hI fun e he hb => haf e he hb with ⟨hw, hwp⟩ | ⟨hw, hI'⟩
    · simp only [hw, if_true]
      exact .inl (Oper.wp_mono hnext hwp)
    · simp only [hw]
      exact hnext _ _ hI'

/-- What an operation's slot holds, when it is done. -/
def Fixed (ops : Array Oper) (V : Nat → Value) (k : Nat) (a : Act) : Prop := ∀ o d, ops[k]? = some o → o.dst = some d → a.tmps.getD d undef = V k

/-- A REGION THAT DRAWS ITS ORDER, WHOSE OPERATIONS EACH HAVE ONE VALUE, WHATEVER THE ORDER; one that is not wanted has none. -/
theorem wp_region_fix {id N : Nat} (V : Nat → Value) (hm : P.follows .mixedOrders = true) (hok : regionOk ops N = true) (hN : a0.tmps.size = N)
    (hop : ∀ i o a w, ops[i]? = some o → Below w0.heap.size w0 w → (∀ s, s ∉ dsts ops → a.tmps.getD s undef = a0.tmps.getD s undef) → (∀ k, (o.after.any fun e => e.on == k && Region.binds .any e) = true → Fixed ops V k a) →
      (Region.wanted o (yielded ops a.tmps) = true ∧ o.wp P a w (fun a' w' => a' = a.put o.dst (V i) ∧ Below w.heap.size w w') Q) ∨ (Region.wanted o (yielded ops a.tmps) = false ∧ V i = undef))
    (hend : ∀ a w, a.tmps.size = a0.tmps.size → a.defers = a0.defers → (∀ s, s ∉ dsts ops → a.tmps.getD s undef = a0.tmps.getD s undef) → Below w0.heap.size w0 w → (∀ k, k < ops.size → Fixed ops V k a) → Q .normal a w) :
    (Code.region id ops true).wp P Q a0 w0 := by
  have hok' := hok
  simp only [regionOk, Bool.and_eq_true, decide_eq_true_eq] at hok'
  have hput : ∀ (i : Nat) (o : Oper) (L : Nat → Bool) (a : Act) (w w' : World), ops[i]? = some o → (a.tmps.size = a0.tmps.size ∧ a.defers = a0.defers ∧ (∀ s, s ∉ dsts ops → a.tmps.getD s undef = a0.tmps.getD s undef) ∧ Below w0.heap.size w0 w ∧ ∀ k, L k = true → Fixed ops V k a) → Below w.heap.size w w' →
      ((a.put o.dst (V i)).tmps.size = a0.tmps.size ∧ (a.put o.dst (V i)).defers = a0.defers ∧ (∀ s, s ∉ dsts ops → (a.put o.dst (V i)).tmps.getD s undef = a0.tmps.getD s undef) ∧ Below w0.heap.size w0 w' ∧ ∀ k, more L i k = true → Fixed ops V k (a.put o.dst (V i))) := by
    intro i o L a w w' ho ⟨h1, h2, h3, h4, h5⟩ hb
    refine ⟨put_size.trans h1, put_defers'.trans h2, fun s hs => (put_getD_ne (fun e => hs (mem_dsts ho e))).trans (h3 s hs), h4.trans (hb.mono h4.size), fun k hk o' d ho' hd => ?_⟩
    by_cases hki : k = i
    · subst hki
      obtain rfl : o' = o := Option.some.inj (ho'.symm.trans ho)
      rw [hd, put_getD_eq (by rw [h1, hN]; simpa using (List.all_eq_true.1 hok'.1.2) d (mem_dsts ho hd))]
    · have hk' : L k = true := by unfold more at hk; rwa [if_neg hki] at hk
      rw [put_getD_ne (fun e => hki (dst_inj hok'.1.1 ho' ho hd e))]
      exact h5 k hk' o' d ho' hd
  refine wp_region_any hm (wpAny_gen3 (fun L a w => a.tmps.size = a0.tmps.size ∧ a.defers = a0.defers ∧ (∀ s, s ∉ dsts ops → a.tmps.getD s undef = a0.tmps.getD s undef) ∧ Below w0.heap.size w0 w ∧ ∀ k, L k = true → Fixed ops V k a) (regionOk_back hok) (fun i o L a w ho h1 hI hD => ?_) (fun L a w hI hall => hend a w hI.1 hI.2.1 hI.2.2.1 hI.2.2.2.1 fun k hk => hI.2.2.2.2 k (hall k hk)) _ _ _ _ (by simp) ?_ ?_)
  · have hD' : ∀ k, (o.after.any fun e => e.on == k && Region.binds .any e) = true → Fixed ops V k a := fun k hj => by
      rw [← Array.any_toList, List.any_eq_true] at hj
      obtain ⟨e, he, hj⟩ := hj
      have he := Array.mem_toList_iff.1 he
      simp only [Bool.and_eq_true, beq_iff_eq] at hj
      rw [← hj.1]
      exact hI.2.2.2.2 _ (hD e he hj.2)
    rcases hop i o a w ho hI.2.2.2.1 hI.2.2.1 hD' with ⟨hw, hwp⟩ | ⟨hw, hv⟩
    · refine .inl ⟨hw, Oper.wp_mono ?_ hwp⟩
      rintro a' w' ⟨rfl, hb⟩
      exact hput i o L a w w' ho hI hb
    · refine .inr ⟨hw, ?_⟩
      have := hput i o L a w w ho hI (Below.refl _ _)
      rwa [hv] at this
  · simp
  · have e : (fun k => (Array.replicate ops.size false).getD k false) = fun _ => false := by
      funext k
      rw [Array.getD_eq_getD_getElem?, Array.getElem?_replicate]
      split <;> rfl
    rw [e]
    exact ⟨rfl, rfl, fun _ _ => rfl, below_drew1 w0, fun k hk => by cases hk⟩
end

theorem yielded_bool {ops : Array Oper} {a : Act} {j : Nat} {o : Oper} {d : Tmp} {b : Bool} (ho : ops[j]? = some o) (hd : o.dst = some d) (h : a.tmps.getD d undef = .bool b) : yielded ops a.tmps j = some b := by
  unfold yielded
  rw [ho, Option.bind_some, hd, Option.bind_some]
  rw [Array.getD_eq_getD_getElem?] at h
  cases ht : a.tmps[d]? with
  | none => rw [ht] at h; cases h
  | some v => rw [ht] at h; simp only [Option.getD_some] at h; subst h; rfl
theorem yielded_undef {ops : Array Oper} {a : Act} {j : Nat} {o : Oper} {d : Tmp} (ho : ops[j]? = some o) (hd : o.dst = some d) (h : a.tmps.getD d undef = undef) : yielded ops a.tmps j = none := by
  unfold yielded
  rw [ho, Option.bind_some, hd, Option.bind_some]
  rw [Array.getD_eq_getD_getElem?] at h
  cases ht : a.tmps[d]? with
  | none => rfl
  | some v => rw [ht] at h; simp only [Option.getD_some] at h; subst h; rfl
theorem wanted_yes {ops : Array Oper} {a : Act} {o o' : Oper} (j : Nat) (d : Tmp) {b : Bool} (hg : o.guard = some (j, b)) (ho : ops[j]? = some o') (hd : o'.dst = some d) (h : a.tmps.getD d undef = .bool b) : Region.wanted o (yielded ops a.tmps) = true := by
  unfold Region.wanted
  rw [hg]
  simp only
  rw [yielded_bool ho hd h]
  simp
theorem wanted_no {ops : Array Oper} {a : Act} {o o' : Oper} (j : Nat) (d : Tmp) {b b' : Bool} (hg : o.guard = some (j, b)) (ho : ops[j]? = some o') (hd : o'.dst = some d) (h : a.tmps.getD d undef = .bool b') (hne : b' ≠ b) : Region.wanted o (yielded ops a.tmps) = false := by
  unfold Region.wanted
  rw [hg]
  simp only
  rw [yielded_bool ho hd h]
  simpa using hne
theorem wanted_none {ops : Array Oper} {a : Act} {o o' : Oper} (j : Nat) (d : Tmp) {b : Bool} (hg : o.guard = some (j, b)) (ho : ops[j]? = some o') (hd : o'.dst = some d) (h : a.tmps.getD d undef = undef) : Region.wanted o (yielded ops a.tmps) = false := by
  unfold Region.wanted
  rw [hg]
  simp only
  rw [yielded_undef ho hd h]
  rfl

theorem act_puts {a : Act} : ∀ (l : List (Nat × Value)) (b : Act), a.tmps.size = b.tmps.size → a.defers = b.defers → (∀ s v, (s, v) ∈ l → s < b.tmps.size ∧ a.tmps.getD s undef = v) → (∀ s, s ∉ l.map (·.1) → a.tmps.getD s undef = b.tmps.getD s undef) →
    a = l.foldl (fun c x => c.put (some x.1) x.2) b
  | [], b, h1, h2, _, h4 => by
    obtain ⟨t, d⟩ := a
    obtain ⟨t', d'⟩ := b
    simp only at h1 h2 h4
    subst h2
    have : t = t' := by
      apply Array.ext h1
      intro i hi hi'
      have := h4 i (by simp)
      rw [Array.getD_eq_getD_getElem?, Array.getD_eq_getD_getElem?, Array.getElem?_eq_getElem hi, Array.getElem?_eq_getElem hi'] at this
      simpa using this
    rw [this]; rfl
  | x :: l, b, h1, h2, h3, h4 => by
    rw [List.foldl_cons]
    refine act_puts l (b.put (some x.1) x.2) (by rw [put_size]; exact h1) (by rw [put_defers']; exact h2) (fun s v hm => by rw [put_size]; exact h3 s v (by simp [hm])) fun s hs => ?_
    by_cases e : s = x.1
    · subst e
      obtain ⟨k1, k2⟩ := h3 x.1 x.2 (by simp)
      rw [put_getD_eq k1, k2]
    · rw [put_getD_ne (fun e' => e (by injection e' with e'; exact e'.symm))]
      exact h4 s (by simp at hs ⊢; exact ⟨e, hs⟩)

end Go.Proofs.YtbcadnkdehknoaaGreatDoor

namespace Go.Proofs.YtbcadnkdehknoaaGreatDoor
open Go Go.RowKit
set_option linter.unusedVariables false

section
variable {P : Program} {ops : Array Oper} {Q : Exit → Act → World → Prop} {Pr : Nat → Value → World → Prop} {a0 : Act} {w0 : World}

/-- Does operation i wait for operation k, by way of at most so many others? -/
def reachB (ops : Array Oper) : Nat → Nat → Nat → Bool
  | 0, _, _ => false
  | f + 1, i, k => match ops[i]? with
    | none => false
    | some o => o.after.any fun e => Region.binds .any e && (decide (e.on = k) || reachB ops f e.on k)
theorem reach_listed {listed : Array Bool} (hC : ∀ j o, ops[j]? = some o → listed.getD j false = true → ∀ e ∈ o.after, Region.binds .any e = true → listed.getD e.on false = true) :
    ∀ (f i k : Nat) (o : Oper), ops[i]? = some o → (∀ e ∈ o.after, Region.binds .any e = true → listed.getD e.on false = true) → reachB ops f i k = true → listed.getD k false = true := by
  intro f
  induction f with
  | zero => intro i k o ho hd h; cases h
  | succ f ih =>
    intro i k o ho hd h
    unfold reachB at h
    rw [ho] at h
    simp only at h
    rw [← Array.any_toList, List.any_eq_true] at h
    obtain ⟨e, he, h4⟩ := h
    have he := Array.mem_toList_iff.1 he
    rw [Bool.and_eq_true, Bool.or_eq_true, decide_eq_true_eq] at h4
    have hl := hd e he h4.1
    rcases h4.2 with h5 | h5
    · rw [← h5]; exact hl
    · cases hoe : ops[e.on]? with
      | none =>
        exfalso
        cases f with
        | zero => cases h5
        | succ f => unfold reachB at h5; rw [hoe] at h5; cases h5
      | some o' => exact ih e.on k o' hoe (hC e.on o' hoe hl) h5

theorem wpAny_tail (m : Nat) (hback : ∀ (i : Nat) (o : Oper), ops[i]? = some o → ∀ e ∈ o.after, e.on < i)
    (htail : ∀ (i : Nat) (o : Oper), ops[i]? = some o → m ≤ i → ∀ k, k < i → reachB ops 9 i k = true) :
    ∀ (l : List Oper) (k fuel : Nat) (listed : Array Bool) (a : Act) (w : World), (∀ j, l[j]? = ops[k + j]?) → m ≤ k → listed.size = ops.size → (∀ i, i < k → i < ops.size → listed.getD i false = true) → (∀ i, k ≤ i → i < ops.size → listed.getD i true = false) →
      l.length ≤ fuel → wpList P ops Q l a w → wpAny P .any ops Q fuel listed a w := by
  intro l
  induction l with
  | nil =>
    intro k fuel listed a w hl hk hs h1 h2 hf h
    have hn : ops.size ≤ k := by
      have := hl 0
      rw [List.getElem?_nil, Nat.add_zero] at this
      exact Array.getElem?_eq_none_iff.1 this.symm
    have hr : Region.ready .any ops listed = [] := by
      apply List.eq_nil_iff_forall_not_mem.2
      intro j hj
      rw [mem_ready] at hj
      obtain ⟨hj1, o, ho, _⟩ := hj
      have hlt := (Array.getElem?_eq_some_iff.1 ho).1
      have h3 := h1 j (by omega) hlt
      have hi' : j < listed.size := by omega
      rw [Array.getD_eq_getD_getElem?, Array.getElem?_eq_getElem hi'] at hj1 h3
      simp at hj1 h3
      rw [hj1] at h3; cases h3
    cases fuel with
    | zero => exact ⟨hr, h⟩
    | succ f => exact ⟨fun _ => h, fun i hi => by rw [hr] at hi; cases hi⟩
  | cons o l ih =>
    intro k fuel listed a w hl hk hs h1 h2 hf h
    have h0 : ops[k]? = some o := by simpa using (hl 0).symm
    have hkn := (Array.getElem?_eq_some_iff.1 h0).1
    obtain ⟨f, rfl⟩ : ∃ f, fuel = f + 1 := ⟨fuel - 1, by simp at hf; omega⟩
    refine ⟨fun hr => ?_, fun i hi => ?_⟩
    · exfalso
      have hm : k ∈ Region.ready .any ops listed := by
        rw [mem_ready]
        exact ⟨h2 k (Nat.le_refl _) hkn, o, h0, fun e he _ => h1 e.on (hback k o h0 e he) (by have := hback k o h0 e he; omega)⟩
      rw [hr] at hm
      cases hm
    · rw [mem_ready] at hi
      obtain ⟨hi1, o', ho', haf⟩ := hi
      have hin := (Array.getElem?_eq_some_iff.1 ho').1
      have hik : i = k := by
        rcases Nat.lt_trichotomy i k with hlt | rfl | hgt
        · exfalso
          have h3 := h1 i hlt hin
          have hi' : i < listed.size := by omega
          rw [Array.getD_eq_getD_getElem?, Array.getElem?_eq_getElem hi'] at hi1 h3
          simp at hi1 h3
          rw [hi1] at h3; cases h3
        · rfl
        · exfalso
          have hC : ∀ j o, ops[j]? = some o → listed.getD j false = true → ∀ e ∈ o.after, Region.binds .any e = true → listed.getD e.on false = true := fun j oj hj hjl e he _ => by
            have hjn := (Array.getElem?_eq_some_iff.1 hj).1
            have hjk : j < k := by
              rcases Nat.lt_or_ge j k with h | h
              · exact h
              · exfalso
                have h4 := h2 j h hjn
                have hi' : j < listed.size := by omega
                rw [Array.getD_eq_getD_getElem?, Array.getElem?_eq_getElem hi'] at hjl h4
                simp at hjl h4
                rw [hjl] at h4; cases h4
            have := hback j oj hj e he
            exact h1 e.on (by omega) (by omega)
          have h3 := reach_listed hC 9 i k o' ho' haf (htail i o' ho' (by omega) k hgt)
          have h4 := h2 k (Nat.le_refl _) hkn
          have hi' : k < listed.size := by omega
          rw [Array.getD_eq_getD_getElem?, Array.getElem?_eq_getElem hi'] at h3 h4
          simp at h3 h4
          rw [h3] at h4; cases h4
      subst hik
      have hw : wpOp P ops Q i (wpList P ops Q l) a w := by unfold wpOp; simp only [h0]; exact h
      refine wpOp_mono (fun a' w' h' => ih (i + 1) f _ a' w' (fun j => by have := hl (j + 1); simpa [Nat.add_assoc, Nat.add_comm 1 j] using this) (by omega) (by simpa using hs) (fun j hj hjn => ?_) (fun j hj hjn => ?_) (by simp at hf; omega) h') hw
      · rw [Array.getD_eq_getD_getElem?, Array.getElem?_setIfInBounds]
        by_cases hji : i = j
        · subst hji; simp [show i < listed.size by omega]
        · rw [if_neg hji]
          have := h1 j (by omega) hjn
          rwa [Array.getD_eq_getD_getElem?] at this
      · rw [Array.getD_eq_getD_getElem?, Array.getElem?_setIfInBounds, if_neg (by omega)]
        have := h2 j (by omega) hjn
        rwa [Array.getD_eq_getD_getElem?] at this

theorem wpAny_midT (m : Nat) (hmn : m ≤ ops.size) (hnd : (dsts ops).Nodup) (hlt : ∀ d ∈ dsts ops, d < a0.tmps.size) (hback : ∀ (i : Nat) (o : Oper), ops[i]? = some o → ∀ e ∈ o.after, e.on < i)
    (htail : ∀ (i : Nat) (o : Oper), ops[i]? = some o → m ≤ i → ∀ k, k < i → reachB ops 9 i k = true)
    (hst : ∀ i v w w', Below w0.heap.size w0 w → Below w.heap.size w w' → Pr i v w → Pr i v w')
    (hop : ∀ i o a w, i < m → ops[i]? = some o → Mid ops Pr a0 w0 a w → (∀ e ∈ o.after, Region.binds .any e = true → Done ops Pr e.on a w) →
      Region.wanted o (yielded ops a.tmps) = true ∧ o.wp P a w (fun a' w' => ∃ v, a' = a.put o.dst v ∧ Pr i v w' ∧ Below w.heap.size w w') Q)
    (hend : ∀ a w, Mid ops Pr a0 w0 a w → (∀ s, (∃ (i : Nat) (o : Oper), m ≤ i ∧ ops[i]? = some o ∧ o.dst = some s) → a.tmps.getD s undef = a0.tmps.getD s undef) → (∀ i, i < m → Done ops Pr i a w) → wpList P ops Q (ops.toList.drop m) a w) :
    ∀ (fuel : Nat) (listed : Array Bool) (a : Act) (w : World), listed.size = ops.size → listed.toList.count false ≤ fuel → (∀ i, m ≤ i → i < ops.size → listed.getD i true = false) → (∀ j o, ops[j]? = some o → listed.getD j false = true → ∀ e ∈ o.after, Region.binds .any e = true → listed.getD e.on false = true) → Mid ops Pr a0 w0 a w → (∀ s, (∃ (i : Nat) (o : Oper), m ≤ i ∧ ops[i]? = some o ∧ o.dst = some s) → a.tmps.getD s undef = a0.tmps.getD s undef) →
      (∀ i, listed.getD i false = true → Done ops Pr i a w) → wpAny P .any ops Q fuel listed a w := by
  intro fuel
  induction fuel with
  | zero =>
    intro listed a w hs hc hT hC hM hU hD
    have hc0 : listed.toList.count false = 0 := by omega
    have hall : ∀ i, i < ops.size → listed.getD i false = true := by
      intro i hi
      cases h : listed.getD i false with
      | true => rfl
      | false =>
        exfalso
        have hi' : i < listed.size := by omega
        rw [Array.getD_eq_getD_getElem?, Array.getElem?_eq_getElem hi'] at h
        have : false ∈ listed.toList := by
          rw [← h]; simp
        have := List.count_pos_iff.2 this
        omega
    have hmn2 : m = ops.size := by
      rcases Nat.lt_or_ge m ops.size with h | h
      · exfalso
        have h1 := hT m (Nat.le_refl _) h
        have h2 := hall m h
        have hi' : m < listed.size := by omega
        rw [Array.getD_eq_getD_getElem?, Array.getElem?_eq_getElem hi'] at h1 h2
        simp at h1 h2
        rw [h1] at h2; cases h2
      · omega
    refine wpAny_tail m hback htail (ops.toList.drop m) m 0 listed a w (fun j => by rw [List.getElem?_drop]; simp) (Nat.le_refl _) hs (fun i hi hin => hall i hin) hT (by simp; omega) (hend a w hM hU fun i hi => hD i (hall i (by omega)))
  | succ fuel ih =>
    intro listed a w hs hc hT hC hM hU hD
    by_cases hall : ∀ k, k < m → listed.getD k false = true
    · refine wpAny_tail m hback htail (ops.toList.drop m) m (fuel + 1) listed a w (fun j => by rw [List.getElem?_drop]; simp) (Nat.le_refl _) hs (fun i hi hin => hall i hi) hT ?_ (hend a w hM hU fun i hi => hD i (hall i hi))
      have h1 : (listed.toList.drop m).count false ≤ listed.toList.count false := (List.drop_sublist m _).count_le _
      have h2 : (listed.toList.drop m).count false = (listed.toList.drop m).length := by
        refine List.count_eq_length.2 fun b hb => ?_
        obtain ⟨j, hj⟩ := List.mem_iff_getElem?.1 hb
        rw [List.getElem?_drop] at hj
        have hj2 := (List.getElem?_eq_some_iff.1 hj).1
        have h3 := hT (m + j) (by omega) (by simp at hj2; omega)
        rw [Array.getD_eq_getD_getElem?] at h3
        have h4 : listed[m + j]? = some b := by simpa using hj
        rw [h4] at h3
        exact h3.symm
      simp only [List.length_drop, Array.length_toList] at h2 ⊢
      omega
    · refine ⟨fun hr => absurd (fun k hk => all_listed hback hs hr k (by omega)) hall, fun i hi => ?_⟩
      rw [mem_ready] at hi
      obtain ⟨h1, o, ho, haf⟩ := hi
      have hlt' := (Array.getElem?_eq_some_iff.1 ho).1
      have hi' : i < listed.size := by omega
      have him : i < m := by
        rcases Nat.lt_or_ge i m with h | h
        · exact h
        · exfalso
          refine hall fun k hk => ?_
          exact reach_listed hC 9 i k o ho haf (htail i o ho h k (by omega))
      obtain ⟨hw, hwp⟩ := hop i o a w him ho hM fun e he hb => hD e.on (haf e he hb)
      unfold wpOp
      rw [ho]
      simp only [hw, if_true]
      refine .inl (Oper.wp_mono ?_ hwp)
      rintro a' w' ⟨v, rfl, hv, hbl⟩
      have hbl0 : Below w0.heap.size w0 w' := hM.below.trans (hbl.mono hM.below.size)
      refine ih _ _ _ (by simpa using hs) ?_ (fun j hj hjn => ?_) (fun j oj hoj hjl e he hb => ?_) ⟨?_, ?_, hbl0, ?_⟩ ?_ ?_
      · have hf : listed.toList[i]'(by simpa using hi') = false := by
          rw [Array.getD_eq_getD_getElem?, Array.getElem?_eq_getElem hi'] at h1
          simpa using h1
        have : (listed.setIfInBounds i true).toList = listed.toList.set i true := by simp
        rw [this, List.count_set (by simpa using hi'), hf]
        have hpos : 0 < listed.toList.count false := List.count_pos_iff.2 (by rw [← hf]; exact List.getElem_mem _)
        have e1 : ((false == false) = true) := rfl
        have e2 : ¬ ((true == false) = true) := by decide
        rw [if_pos e1, if_neg e2]
        omega
      · rw [Array.getD_eq_getD_getElem?, Array.getElem?_setIfInBounds, if_neg (by omega)]
        have := hT j hj hjn
        rwa [Array.getD_eq_getD_getElem?] at this
      · have hset : ∀ k, (listed.setIfInBounds i true).getD k false = if k = i then true else listed.getD k false := by
          intro k
          rw [Array.getD_eq_getD_getElem?, Array.getElem?_setIfInBounds, Array.getD_eq_getD_getElem?]
          by_cases hk : k = i
          · subst hk; simp [hi']
          · have : ¬ i = k := fun e => hk e.symm
            simp [hk, this]
        rw [hset] at hjl ⊢
        by_cases hei : e.on = i
        · rw [if_pos hei]
        · rw [if_neg hei]
          by_cases hji : j = i
          · subst hji
            obtain rfl : oj = o := Option.some.inj (hoj.symm.trans ho)
            exact haf e he hb
          · rw [if_neg hji] at hjl
            exact hC j oj hoj hjl e he hb
      · rw [put_size]; exact hM.tmps
      · rw [put_defers']; exact hM.defers
      · intro s hsd
        rw [put_getD_ne (fun e => hsd (mem_dsts ho e))]
        exact hM.other s hsd
      · rintro s ⟨j, o', hj, ho', hd⟩
        rw [put_getD_ne (fun e => by have := dst_inj hnd ho ho' e hd; omega)]
        exact hU s ⟨j, o', hj, ho', hd⟩
      · intro j hj
        by_cases hji : j = i
        · subst hji
          intro o' d ho' hd
          obtain rfl : o' = o := Option.some.inj (ho'.symm.trans ho)
          rw [hd, put_getD_eq (by rw [hM.tmps]; exact hlt d (mem_dsts ho hd))]
          exact hv
        · have hj2 : listed.getD j false = true := by
            rw [Array.getD_eq_getD_getElem?, Array.getElem?_setIfInBounds] at hj
            have : ¬ i = j := fun e => hji e.symm
            simp only [this, if_false] at hj
            rw [Array.getD_eq_getD_getElem?]
            exact hj
          intro o' d ho' hd
          rw [put_getD_ne (fun e => hji (dst_inj hnd ho' ho hd e))]
          exact hst j _ w w' hM.below hbl (hD j hj2 o' d ho' hd)

/-- The tail's operations: each waits for all that are ahead of it. -/
def tailOk (ops : Array Oper) (m : Nat) : Bool :=
  decide (m ≤ ops.size) && (List.range ops.size).all fun i => decide (i < m) || (List.range i).all fun k => reachB ops 9 i k
/-- A REGION THAT DRAWS ITS ORDER, WITH A TAIL: ahead of the tail by what holds of each operation's value, whatever the order; the tail walked in its order. -/
theorem wp_region_midT {id N : Nat} (m : Nat) (Pr : Nat → Value → World → Prop) (hm : P.follows .mixedOrders = true) (hok : regionOk ops N = true) (htl : tailOk ops m = true) (hN : a0.tmps.size = N)
    (hst : ∀ i v w w', Below w0.heap.size w0 w → Below w.heap.size w w' → Pr i v w → Pr i v w')
    (hop : ∀ i o a w, i < m → ops[i]? = some o → Mid ops Pr a0 w0 a w → (∀ j, (o.after.any fun e => e.on == j && Region.binds .any e) = true → Done ops Pr j a w) →
      Region.wanted o (yielded ops a.tmps) = true ∧ o.wp P a w (fun a' w' => ∃ v, a' = a.put o.dst v ∧ Pr i v w' ∧ Below w.heap.size w w') Q)
    (hend : ∀ a w, Mid ops Pr a0 w0 a w → (∀ s, (∃ (i : Nat) (o : Oper), m ≤ i ∧ ops[i]? = some o ∧ o.dst = some s) → a.tmps.getD s undef = a0.tmps.getD s undef) → (∀ i, i < m → Done ops Pr i a w) → wpList P ops Q (ops.toList.drop m) a w) :
    (Code.region id ops true).wp P Q a0 w0 := by
  have hok' := hok
  simp only [regionOk, Bool.and_eq_true, decide_eq_true_eq] at hok'
  simp only [tailOk, Bool.and_eq_true, decide_eq_true_eq] at htl
  have htail : ∀ (i : Nat) (o : Oper), ops[i]? = some o → m ≤ i → ∀ k, k < i → reachB ops 9 i k = true := fun i o ho hi k hk => by
    have h1 := List.all_eq_true.1 htl.2 i (by simpa using (Array.getElem?_eq_some_iff.1 ho).1)
    rw [Bool.or_eq_true] at h1
    have h2 := h1.resolve_left (by simp; omega)
    exact List.all_eq_true.1 h2 k (by simpa using hk)
  refine wp_region_any hm (wpAny_midT m htl.1 hok'.1.1 (fun d hd => by rw [hN]; simpa using (List.all_eq_true.1 hok'.1.2) d hd) (regionOk_back hok) htail hst (fun i o a w hi ho hM hD => hop i o a w hi ho hM fun j hj => ?_) hend _ _ _ _ (by simp) ?_ (fun i _ hin => by simp [hin]) (fun j oj hj hjl => ?_) ⟨rfl, rfl, below_drew1 w0, fun _ _ => rfl⟩ (fun _ _ => rfl) ?_)
  · rw [← Array.any_toList, List.any_eq_true] at hj
    obtain ⟨e, he, hj⟩ := hj
    have he := Array.mem_toList_iff.1 he
    simp only [Bool.and_eq_true, beq_iff_eq] at hj
    rw [← hj.1]
    exact hD e he hj.2
  · simp
  · exfalso
    rw [Array.getD_eq_getD_getElem?, Array.getElem?_replicate] at hjl
    split at hjl <;> simp at hjl
  · intro i hi
    exfalso
    rw [Array.getD_eq_getD_getElem?, Array.getElem?_replicate] at hi
    split at hi <;> simp at hi
end

end Go.Proofs.YtbcadnkdehknoaaGreatDoor
