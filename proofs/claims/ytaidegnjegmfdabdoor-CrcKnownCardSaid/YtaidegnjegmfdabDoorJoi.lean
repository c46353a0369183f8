/-
  The statement's function CrcJoins returns true, for every input.
-/
import Derived.Test.YtaidegnjegmfdabDoorWrk
import Derived.WalkLawsBesides
import Derived.Test.YtaidegnjegmfdabDoorInv
import Derived.OneCell
import Derived.Laws.MakeOwn
namespace Go.Proofs.YtaidegnjegmfdabDoor
open Go Go.RowKit
set_option linter.unusedVariables false

/-- Sum of one row whose slice lies in block g. -/
theorem sum_in {w0 W : World} {B g : Nat} {A : Option Addr} {n c : Nat} {l : List Nat} (hK : Below w0.heap.size w0 W) (hT : Tab w0) (hr : Rd w0 B 1 A n (bs l)) (hb : ∀ x ∈ l, x < 256) (hnc : n ≤ c) (hc : c ≤ 9223372036854775807) (hB : B ≤ w0.heap.size)
    (hg : W.heap[g]? = some (.cells #[.slice A n c] 23 (0, 0))) :
    Calls Tryd.prog 19 #[.slice (some ⟨g, 0, none⟩) 1 1] W fun e w' => e = .returned (.int .u32 (crcN l : Nat)) ∧ Below W.heap.size W w' := by
  have hgl := lt_of_block hg
  have hrd : Rd W W.heap.size 1 (some ⟨g, 0, none⟩) 1 [.slice A n c] := by
    refine ⟨rfl, fun _ => ⟨_, rfl, hgl, fun j u hu => ?_⟩⟩
    obtain rfl : j = 0 := by
      cases j with
      | zero => rfl
      | succ j => simp at hu
    have := Joins.cell_of_block hg 0
    simp at hu
    subst hu
    simpa [Addr.add] using this
  have G := sum_any W.heap.size _ 1 1 [.slice A n c] [l] W (hT.below hK hT.1) hrd ((Rws.one (hr.below (hK.mono hB)) hb hnc hc).more (Nat.le_trans hB hK.size)) (Nat.le_refl _) (by omega)
  simp only [List.flatten_cons, List.flatten_nil, List.append_nil] at G
  exact G

/-- A guard that holds. -/
theorem wanted_true {ops : Array Oper} {o oj : Oper} {a : Act} {j d : Nat} (hg : o.guard = some (j, true)) (hj : ops[j]? = some oj) (hd : oj.dst = some d) (hv : a.tmps.getD d undef = .bool true) (hlt : d < a.tmps.size) : Region.wanted o (yielded ops a.tmps) = true := by
  have h2 : a.tmps[d]? = some (.bool true) := by
    rw [Array.getElem?_eq_getElem hlt]
    rw [Array.getD_eq_getD_getElem?, Array.getElem?_eq_getElem hlt] at hv
    exact congrArg some hv
  unfold Region.wanted
  rw [hg]
  unfold yielded
  simp only [hj, Option.bind_some, hd]
  change ((match a.tmps[d]? with | some (.bool b) => some b | _ => none) == some true) = true
  rw [h2]
  rfl

theorem wpList_min3 {P : Program} {w : World} {ops : Array Oper} {rest : List Oper} {o : Oper} {a : Act} {Q : Exit → Act → World → Prop} (hgd : o.guard = none) (x y z : Operand) (t : TypeId)
    (ho : o.op = .call { callee := .builtin .min, args := #[x, y, z], argTypes := #[t, t, t] }) (p q r n : Int) (hx : a.eval x = .int .i64 p) (hy : a.eval y = .int .i64 q) (hz : a.eval z = .int .i64 r)
    (hn : (if r < (if q < p then q else p) then r else (if q < p then q else p)) = n)
    (h : wpList P ops Q rest (a.put o.dst (.int .i64 n)) w) : wpList P ops Q (o :: rest) a w :=
  wpList_plain hgd fun _ hK => by
    unfold Oper.wp execOp
    simp only [ho, resolve, invoke, builtin, Sem.run_bind, Sem.run_pure, Result.andThen_ok, List.map_toArray, List.map_cons, List.map_nil, hx, hy, hz, run_min_int3, hn]
    exact hK _ _ h

theorem made_bytes (n : Nat) : (madeCells #[.int .u8 0] n).toList = bs (List.replicate n 0) := by
  unfold madeCells bs
  apply List.ext_getElem
  · simp
  · intro i h1 h2
    simp [Nat.mod_one]
/-- The first k bytes of m are those of the three rows joined. -/
def Joined (l1 l2 l3 m : List Nat) (k : Nat) : Prop := (∀ x ∈ m, x < 256) ∧ ∀ j, j < k → m.getD j 0 = l1.getD j 0 ^^^ l2.getD j 0 ^^^ l3.getD j 0

theorem byte_at {l : List Nat} (h : ∀ x ∈ l, x < 256) (k : Nat) : l.getD k 0 < 256 := by
  rw [List.getD_eq_getElem?_getD]
  by_cases hk : k < l.length
  · rw [List.getElem?_eq_getElem hk]; exact h _ (List.getElem_mem _)
  · rw [List.getElem?_eq_none (by omega)]; decide
theorem bs_set' (m : List Nat) (k x : Nat) : bs (m.set k x) = (bs m).set k (.int .u8 (x : Int)) := by simp [bs, List.map_set]
theorem Joined.succ {l1 l2 l3 m : List Nat} {k : Nat} (h : Joined l1 l2 l3 m k) (hk : k < m.length) (hb : l1.getD k 0 ^^^ l2.getD k 0 ^^^ l3.getD k 0 < 256) :
    Joined l1 l2 l3 (m.set k (l1.getD k 0 ^^^ l2.getD k 0 ^^^ l3.getD k 0)) (k + 1) :=
  ⟨fun x hx => by
    rcases List.mem_or_eq_of_mem_set hx with hx | rfl
    · exact h.1 x hx
    · exact hb, fun j hj => by
    rw [getD_set _ _ _ _ hk]
    by_cases e : j = k
    · rw [if_pos e, e]
    · rw [if_neg e]; exact h.2 j (by omega)⟩
theorem Joined.all {l1 l2 l3 m : List Nat} {n : Nat} (h : Joined l1 l2 l3 m n) (hm : m.length = n) (h1 : n ≤ l1.length) (h2 : n ≤ l2.length) (h3 : n ≤ l3.length) :
    m = List.zipWith (· ^^^ ·) (List.zipWith (· ^^^ ·) (l1.take n) (l2.take n)) (l3.take n) := by
  apply List.ext_getElem
  · simp; omega
  · intro i hi1 hi2
    have := h.2 i (by omega)
    simp only [List.getD_eq_getElem?_getD] at this
    rw [List.getElem?_eq_getElem (by omega), List.getElem?_eq_getElem (by omega), List.getElem?_eq_getElem (by omega), List.getElem?_eq_getElem (by omega)] at this
    simpa using this

/-- What holds of each operation's value in the last statement's region. -/
def jPr (h0 : Nat) (v8 v0 v1 v2 d1 d2 d3 : Value) (k s0 s1 s2 s3 s12 : Nat) : Nat → Value → World → Prop
  | 0, v, _ => v = v8
  | 1, v, w => ∃ g, v = .slice (some ⟨g, 0, none⟩) 1 1 ∧ w.heap[g]? = some (.cells #[v8] 23 (0, 0)) ∧ h0 ≤ g
  | 2, v, _ => v = .int .u32 (s0 : Nat)
  | 3, v, _ => v = v0
  | 4, v, _ => v = .int .i64 (k : Nat)
  | 5, v, _ => v = d1
  | 6, v, w => ∃ g, v = .slice (some ⟨g, 0, none⟩) 1 1 ∧ w.heap[g]? = some (.cells #[d1] 23 (0, 0)) ∧ h0 ≤ g
  | 7, v, _ => v = .int .u32 (s1 : Nat)
  | 8, v, _ => v = v1
  | 9, v, _ => v = .int .i64 (k : Nat)
  | 10, v, _ => v = d2
  | 11, v, w => ∃ g, v = .slice (some ⟨g, 0, none⟩) 1 1 ∧ w.heap[g]? = some (.cells #[d2] 23 (0, 0)) ∧ h0 ≤ g
  | 12, v, _ => v = .int .u32 (s2 : Nat)
  | 13, v, _ => v = .int .u32 (s12 : Nat)
  | 14, v, _ => v = v2
  | 15, v, _ => v = .int .i64 (k : Nat)
  | 16, v, _ => v = d3
  | 17, v, w => ∃ g, v = .slice (some ⟨g, 0, none⟩) 1 1 ∧ w.heap[g]? = some (.cells #[d3] 23 (0, 0)) ∧ h0 ≤ g
  | 18, v, _ => v = .int .u32 (s3 : Nat)
  | 19, v, _ => v = .int .u32 (s0 : Nat)
  | _, v, _ => v = .bool true

theorem jPr_stable {w0 : World} {h0 : Nat} {v8 v0 v1 v2 d1 d2 d3 : Value} {k s0 s1 s2 s3 s12 : Nat} : ∀ i v w w', Below w0.heap.size w0 w → Below w.heap.size w w' → jPr h0 v8 v0 v1 v2 d1 d2 d3 k s0 s1 s2 s3 s12 i v w → jPr h0 v8 v0 v1 v2 d1 d2 d3 k s0 s1 s2 s3 s12 i v w' := by
  intro i v w w' _ hb h
  have st : ∀ (x : Value), (∃ g, v = .slice (some ⟨g, 0, none⟩) 1 1 ∧ w.heap[g]? = some (.cells #[x] 23 (0, 0)) ∧ h0 ≤ g) → (∃ g, v = .slice (some ⟨g, 0, none⟩) 1 1 ∧ w'.heap[g]? = some (.cells #[x] 23 (0, 0)) ∧ h0 ≤ g) := by
    rintro x ⟨g, e, hg, h⟩
    exact ⟨g, e, (hb.block g (lt_of_block hg)).trans hg, h⟩
  by_cases h1 : i = 1
  · subst h1; exact st _ h
  by_cases h6 : i = 6
  · subst h6; exact st _ h
  by_cases h11 : i = 11
  · subst h11; exact st _ h
  by_cases h17 : i = 17
  · subst h17; exact st _ h
  unfold jPr at h ⊢
  split <;> simp_all

set_option maxRecDepth 100000 in
set_option maxHeartbeats 3200000 in
theorem joins_any (B : Nat) (A1 A2 A3 : Option Addr) (n1 n2 n3 c1 c2 c3 : Nat) (l1 l2 l3 : List Nat) (w : World) (hT : Tab w) (h1 : Rd w B 1 A1 n1 (bs l1)) (h2 : Rd w B 1 A2 n2 (bs l2)) (h3 : Rd w B 1 A3 n3 (bs l3))
    (hb1 : ∀ x ∈ l1, x < 256) (hb2 : ∀ x ∈ l2, x < 256) (hb3 : ∀ x ∈ l3, x < 256) (hn1 : n1 ≤ c1) (hc1 : c1 ≤ 9223372036854775807) (hn2 : n2 ≤ c2) (hc2 : c2 ≤ 9223372036854775807) (hn3 : n3 ≤ c3) (hc3 : c3 ≤ 9223372036854775807) (hB : B ≤ w.heap.size) :
    Calls Tryd.prog 6 #[.slice A1 n1 c1, .slice A2 n2 c2, .slice A3 n3 c3] w fun e w' => e = .returned (.bool true) ∧ Below w.heap.size w w' := by
  have HW := Lib_hid (works_any w hT)
  have HB1 := Lib_hid hb1
  have HB2 := Lib_hid hb2
  have HB3 := Lib_hid hb3
  clear hb1 hb2 hb3
  obtain ⟨n, ha, hb, hc, hq⟩ : ∃ n : Nat, n ≤ n1 ∧ n ≤ n2 ∧ n ≤ n3 ∧ (if (n3 : Int) < (if (n2 : Int) < (n1 : Int) then (n2 : Int) else (n1 : Int)) then (n3 : Int) else (if (n2 : Int) < (n1 : Int) then (n2 : Int) else (n1 : Int))) = (n : Int) := by
    by_cases h12 : (n2 : Int) < n1
    · by_cases h13 : (n3 : Int) < n2
      · exact ⟨n3, by omega, by omega, by omega, by rw [if_pos h12, if_pos h13]⟩
      · exact ⟨n2, by omega, by omega, by omega, by rw [if_pos h12, if_neg h13]⟩
    · by_cases h13 : (n3 : Int) < n1
      · exact ⟨n3, by omega, by omega, by omega, by rw [if_neg h12, if_pos h13]⟩
      · exact ⟨n1, by omega, by omega, by omega, by rw [if_neg h12, if_neg h13]⟩
  have HQ := Lib_hid hq
  clear hq
  by_cases h400 : 400 < n
  · go_enter Tryd.func6, Tryd.ntmps6
    go_wp2_with (refine wpList_min3 rfl (.tmp 11) (.tmp 13) (.tmp 15) 3 rfl n1 n2 n3 n rfl rfl rfl HQ.out ?_)
    refine HW.out.mono ?_
    rintro e w1 ⟨rfl, hb1⟩
    go_wp2
    go_ret
    exact ⟨rfl, hb1⟩
  obtain ⟨i0, hi, hz0, hz1, hz2⟩ := info_parts Tryd.info5
  have hmk : ∀ wx, (Instr.makeSlice 23 (.int .i64 n) (.int .i64 n)).run Tryd.prog wx = .ok (.slice (some ⟨wx.heap.size, 0, none⟩) n n) (wx.alloc (.cells (madeCells #[.int .u8 0] n) 5)) := by
    intro wx
    have := run_make (P := Tryd.prog) wx 23 5 i0 (.int .u8 0) Tryd.underlying23 hi hz0 .i64 .i64 (n : Int) (n : Int) (by omega) (by omega) (by rw [hz2]; omega) (by omega)
    rw [hz1, show (Value.int .u8 0).cells = #[.int .u8 0] from rfl] at this
    simpa using this
  have hown : (w.alloc (.cells (madeCells #[.int .u8 0] n) 5)).ownsRow w.heap.size 5 1 (.slice (some ⟨w.heap.size, 0, none⟩) n n) n (bs (List.replicate n 0)) := by
    have := World.ownsRow_lit (base := w.heap.size) (e := 5) (size := 1) w (madeCells #[.int .u8 0] n) n (Nat.le_refl _) (by unfold maxLen; omega) (by rw [size_madeCells]; omega)
    rwa [made_bytes] at this
  have HO := Lib_hid hown
  clear hown
  generalize madeCells #[.int .u8 0] n = cs at *
  · go_enter Tryd.func6, Tryd.ntmps6
    go_wp2_with (refine wpList_min3 rfl (.tmp 11) (.tmp 13) (.tmp 15) 3 rfl n1 n2 n3 n rfl rfl rfl HQ.out ?_)
    go_loopw [9] (fun i wr => ∃ (k : Nat) (m : List Nat), i = .int .i64 k ∧ k ≤ n ∧ m.length = n ∧ Joined l1 l2 l3 m k ∧ wr.ownsRow w.heap.size 5 1 (.slice (some ⟨w.heap.size, 0, none⟩) n n) n (bs m) ∧ Below w.heap.size w wr) (fun i _ => n - (intOf i).toNat)
    case atStart => exact ⟨0, List.replicate n 0, rfl, Nat.zero_le _, List.length_replicate .., ⟨fun x hx => by rw [(List.mem_replicate.1 hx).2]; decide, fun j hj => by omega⟩, HO.out, below_new _ _⟩
    case round =>
      obtain ⟨k, m, rfl, hk, hml, hJ, ho, hbw⟩ := hrel
      have q1 := h1.below (hbw.mono hB)
      have q2 := h2.below (hbw.mono hB)
      have q3 := h3.below (hbw.mono hB)
      by_cases hlt : k < n
      · obtain ⟨ad1, rfl, hx1, cc1⟩ := q1.byte (k := k) (by omega)
        obtain ⟨ad2, rfl, hx2, cc2⟩ := q2.byte (k := k) (by omega)
        obtain ⟨ad3, rfl, hx3, cc3⟩ := q3.byte (k := k) (by omega)
        have b1 := byte_at HB1.out k
        have b2 := byte_at HB2.out k
        have b3 := byte_at HB3.out k
        have e12 := u8_xor_nat _ _ b1 b2
        have b12 : l1.getD k 0 ^^^ l2.getD k 0 < 256 := Nat.xor_lt_two_pow (n := 8) b1 b2
        have e123 := u8_xor_nat _ _ b12 b3
        have b123 : l1.getD k 0 ^^^ l2.getD k 0 ^^^ l3.getD k 0 < 256 := Nat.xor_lt_two_pow (n := 8) b12 b3
        have hJ2 := hJ.succ (k := k) (by omega) b123
        have ⟨hs1, hs2⟩ := ho.stored k (.int .u8 ((l1.getD k 0 ^^^ l2.getD k 0 ^^^ l3.getD k 0 : Nat) : Int))
        rw [← bs_set'] at hs1
        have hbw2 := (hbw.grown hs2 hbw.size (own_ge ho)).drew
        have hml2 : (m.set k (l1.getD k 0 ^^^ l2.getD k 0 ^^^ l3.getD k 0)).length = n := by rw [List.length_set]; exact hml
        have hcell : wr.cell? ⟨w.heap.size, k, none⟩ = some (.int .u8 (m.getD k 0 : Nat)) := by
          rw [ho.cellAt _ (by omega), bs_get (by omega), List.getD_eq_getElem?_getD, List.getElem?_eq_getElem (by omega)]; rfl
        have hfr := ho.frozenAt k
        have HJ := Lib_hid hJ
        have HJ2 := Lib_hid hJ2
        have HM2 := Lib_hid hml2
        have HH1 := Lib_hid hs1.drew
        have HH2 := Lib_hid hbw2
        clear hJ hJ2 hml2 hs1 hs2 hbw2 ho q1 q2 q3 h1 h2 h3
        generalize m.getD k 0 = x0 at *
        generalize l1.getD k 0 ^^^ l2.getD k 0 ^^^ l3.getD k 0 = x123 at *
        generalize l1.getD k 0 ^^^ l2.getD k 0 = x12 at *
        generalize l1.getD k 0 = x1 at *
        generalize l2.getD k 0 = x2 at *
        generalize l3.getD k 0 = x3 at *
        go_wp2
        go_region
        go_wp2
        go_roundw
        case rel => exact ⟨k + 1, _, by go_num, by omega, HM2.out, HJ2.out, HH1.out, HH2.out⟩
        case measure => simp [intOf]; omega
      · obtain rfl : k = n := by omega
        have hl1 := q1.count
        have hl2 := q2.count
        have hl3 := q3.count
        obtain ⟨D1, hs1, r1⟩ := slice_hi (k := k) q1 (by omega) hn1
        obtain ⟨D2, hs2, r2⟩ := slice_hi (k := k) q2 (by omega) hn2
        obtain ⟨D3, hs3, r3⟩ := slice_hi (k := k) q3 (by omega) hn3
        rw [← bs_take] at r1 r2 r3
        have t1 : ∀ x ∈ l1.take k, x < 256 := fun x hx => HB1.out x (List.mem_of_mem_take hx)
        have t2 : ∀ x ∈ l2.take k, x < 256 := fun x hx => HB2.out x (List.mem_of_mem_take hx)
        have t3 : ∀ x ∈ l3.take k, x < 256 := fun x hx => HB3.out x (List.mem_of_mem_take hx)
        have hall := crcN_join (l1.take k) (l2.take k) (l3.take k) t1 t2 t3 (by simp; omega) (by simp; omega)
        rw [← hJ.all hml (by omega) (by omega) (by omega)] at hall
        have e12 := u32_xor_nat (crcN (l1.take k)) (crcN (l2.take k)) (crcN_lt _) (crcN_lt _)
        have e123 := u32_xor_nat (crcN (l1.take k) ^^^ crcN (l2.take k)) (crcN (l3.take k)) (Nat.xor_lt_two_pow (n := 32) (crcN_lt _) (crcN_lt _)) (crcN_lt _)
        rw [← hall] at e123
        have hTr := hT.below hbw hT.1
        have G0 := fun g W hK hg => sum_in (w0 := wr) (W := W) (g := g) (c := k) hK hTr (Rd.own ho) hJ.1 (Nat.le_refl _) (by omega) (Nat.le_refl _) hg
        have G1 := fun g W hK hg => sum_in (w0 := wr) (W := W) (g := g) (c := c1) hK hTr r1 t1 (by omega) hc1 (Nat.le_trans hB hbw.size) hg
        have G2 := fun g W hK hg => sum_in (w0 := wr) (W := W) (g := g) (c := c2) hK hTr r2 t2 (by omega) hc2 (Nat.le_trans hB hbw.size) hg
        have G3 := fun g W hK hg => sum_in (w0 := wr) (W := W) (g := g) (c := c3) hK hTr r3 t3 (by omega) hc3 (Nat.le_trans hB hbw.size) hg
        have GW := fun w1 W (hK : Below wr.heap.size wr w1) (hW : Below w1.heap.size w1 W) => works_any W (hTr.below (hK.trans (hW.mono hK.size)) hTr.1)
        have HG0 := Lib_hid G0
        have HG1 := Lib_hid G1
        have HG2 := Lib_hid G2
        have HG3 := Lib_hid G3
        have HGW := Lib_hid GW
        clear G0 G1 G2 G3 GW hall t1 t2 t3 r1 r2 r3 hJ ho q1 q2 q3 h1 h2 h3 hl1 hl2 hl3 hml
        generalize crcN (l1.take k) ^^^ crcN (l2.take k) = s12 at *
        generalize crcN (l1.take k) = s1 at *
        generalize crcN (l2.take k) = s2 at *
        generalize crcN (l3.take k) = s3 at *
        generalize crcN m = s0 at *
        go_wp2
        refine wp_region_mid (jPr wr.heap.size (.slice (some ⟨w.heap.size, 0, none⟩) k k) (.slice A1 n1 c1) (.slice A2 n2 c2) (.slice A3 n3 c3) (.slice D1 k c1) (.slice D2 k c2) (.slice D3 k c3) k s0 s1 s2 s3 s12) (by kernel_rfl) (by kernel_rfl) rfl jPr_stable ?_ ?_
        · intro i o a wx hi hM hD
          have hi25 : i < 25 := (Array.getElem?_eq_some_iff.1 hi).1
          have hcase : i = 0 ∨ i = 1 ∨ i = 2 ∨ i = 3 ∨ i = 4 ∨ i = 5 ∨ i = 6 ∨ i = 7 ∨ i = 8 ∨ i = 9 ∨ i = 10 ∨ i = 11 ∨ i = 12 ∨ i = 13 ∨ i = 14 ∨ i = 15 ∨ i = 16 ∨ i = 17 ∨ i = 18 ∨ i = 19 ∨ i = 20 ∨ i = 21 ∨ i = 22 ∨ i = 23 ∨ i = 24 := by omega
          clear hi25
          rcases hcase with rfl | rfl | rfl | rfl | rfl | rfl | rfl | rfl | rfl | rfl | rfl | rfl | rfl | rfl | rfl | rfl | rfl | rfl | rfl | rfl | rfl | rfl | rfl | rfl | rfl
          · obtain rfl := Option.some.inj hi
            have e8 : a.tmps.getD 8 undef = .slice (some ⟨w.heap.size, 0, none⟩) k k := (hM.other 8 (by decide +kernel)).trans rfl
            refine ⟨rfl, mid_step (.slice (some ⟨w.heap.size, 0, none⟩) k k) wx (fun K hK => ?_) ⟨_, rfl, rfl, Below.refl _ _⟩⟩
            go_simp
            exact hK
          · obtain rfl := Option.some.inj hi
            have e44 : a.tmps.getD 44 undef = .slice (some ⟨w.heap.size, 0, none⟩) k k := hD 0 (by kernel_rfl) _ 44 rfl rfl
            have f44 := e44
            rw [Array.getD_eq_getD_getElem?] at f44
            refine ⟨rfl, mid_step (.slice (some ⟨wx.heap.size, 0, none⟩) 1 1) (wx.alloc (.cells #[.slice (some ⟨w.heap.size, 0, none⟩) k k] 23)) (fun K hK => ?_) ⟨_, rfl, ⟨_, rfl, heap_alloc_new _ _, hM.below.size⟩, below_new _ _⟩⟩
            go_simp
            exact hK
          · obtain rfl := Option.some.inj hi
            obtain ⟨g, e45, hg, _⟩ := hD 1 (by kernel_rfl) _ 45 rfl rfl
            refine ⟨rfl, mid_call (fun v w' => v = .int .u32 (s0 : Nat) ∧ Below wx.heap.size wx w') (fun K hK => ?_) (fun v w' h => ⟨v, rfl, h.1, h.2⟩)⟩
            go_simp
            refine (HG0.out g wx hM.below hg).mono ?_
            rintro e w' ⟨rfl, hb'⟩
            exact hK _ _ ⟨rfl, hb'⟩
          · obtain rfl := Option.some.inj hi
            have e0 : a.tmps.getD 0 undef = .slice A1 n1 c1 := (hM.other 0 (by decide +kernel)).trans rfl
            refine ⟨rfl, mid_step (.slice A1 n1 c1) wx (fun K hK => ?_) ⟨_, rfl, rfl, Below.refl _ _⟩⟩
            go_simp
            exact hK
          · obtain rfl := Option.some.inj hi
            have e7 : a.tmps.getD 7 undef = .int .i64 (k : Nat) := (hM.other 7 (by decide +kernel)).trans rfl
            refine ⟨rfl, mid_step (.int .i64 (k : Nat)) wx (fun K hK => ?_) ⟨_, rfl, rfl, Below.refl _ _⟩⟩
            go_simp
            exact hK
          · obtain rfl := Option.some.inj hi
            have e47 : a.tmps.getD 47 undef = .slice A1 n1 c1 := hD 3 (by kernel_rfl) _ 47 rfl rfl
            have e48 : a.tmps.getD 48 undef = .int .i64 (k : Nat) := hD 4 (by kernel_rfl) _ 48 rfl rfl
            refine ⟨rfl, mid_step (.slice D1 k c1) wx (fun K hK => ?_) ⟨_, rfl, rfl, Below.refl _ _⟩⟩
            go_simp
            exact hK
          · obtain rfl := Option.some.inj hi
            have e49 : a.tmps.getD 49 undef = .slice D1 k c1 := hD 5 (by kernel_rfl) _ 49 rfl rfl
            have f49 := e49
            rw [Array.getD_eq_getD_getElem?] at f49
            refine ⟨rfl, mid_step (.slice (some ⟨wx.heap.size, 0, none⟩) 1 1) (wx.alloc (.cells #[.slice D1 k c1] 23)) (fun K hK => ?_) ⟨_, rfl, ⟨_, rfl, heap_alloc_new _ _, hM.below.size⟩, below_new _ _⟩⟩
            go_simp
            exact hK
          · obtain rfl := Option.some.inj hi
            obtain ⟨g, e50, hg, _⟩ := hD 6 (by kernel_rfl) _ 50 rfl rfl
            refine ⟨rfl, mid_call (fun v w' => v = .int .u32 (s1 : Nat) ∧ Below wx.heap.size wx w') (fun K hK => ?_) (fun v w' h => ⟨v, rfl, h.1, h.2⟩)⟩
            go_simp
            refine (HG1.out g wx hM.below hg).mono ?_
            rintro e w' ⟨rfl, hb'⟩
            exact hK _ _ ⟨rfl, hb'⟩
          · obtain rfl := Option.some.inj hi
            have e1 : a.tmps.getD 1 undef = .slice A2 n2 c2 := (hM.other 1 (by decide +kernel)).trans rfl
            refine ⟨rfl, mid_step (.slice A2 n2 c2) wx (fun K hK => ?_) ⟨_, rfl, rfl, Below.refl _ _⟩⟩
            go_simp
            exact hK
          · obtain rfl := Option.some.inj hi
            have e7 : a.tmps.getD 7 undef = .int .i64 (k : Nat) := (hM.other 7 (by decide +kernel)).trans rfl
            refine ⟨rfl, mid_step (.int .i64 (k : Nat)) wx (fun K hK => ?_) ⟨_, rfl, rfl, Below.refl _ _⟩⟩
            go_simp
            exact hK
          · obtain rfl := Option.some.inj hi
            have e52 : a.tmps.getD 52 undef = .slice A2 n2 c2 := hD 8 (by kernel_rfl) _ 52 rfl rfl
            have e53 : a.tmps.getD 53 undef = .int .i64 (k : Nat) := hD 9 (by kernel_rfl) _ 53 rfl rfl
            refine ⟨rfl, mid_step (.slice D2 k c2) wx (fun K hK => ?_) ⟨_, rfl, rfl, Below.refl _ _⟩⟩
            go_simp
            exact hK
          · obtain rfl := Option.some.inj hi
            have e54 : a.tmps.getD 54 undef = .slice D2 k c2 := hD 10 (by kernel_rfl) _ 54 rfl rfl
            have f54 := e54
            rw [Array.getD_eq_getD_getElem?] at f54
            refine ⟨rfl, mid_step (.slice (some ⟨wx.heap.size, 0, none⟩) 1 1) (wx.alloc (.cells #[.slice D2 k c2] 23)) (fun K hK => ?_) ⟨_, rfl, ⟨_, rfl, heap_alloc_new _ _, hM.below.size⟩, below_new _ _⟩⟩
            go_simp
            exact hK
          · obtain rfl := Option.some.inj hi
            obtain ⟨g, e55, hg, _⟩ := hD 11 (by kernel_rfl) _ 55 rfl rfl
            refine ⟨rfl, mid_call (fun v w' => v = .int .u32 (s2 : Nat) ∧ Below wx.heap.size wx w') (fun K hK => ?_) (fun v w' h => ⟨v, rfl, h.1, h.2⟩)⟩
            go_simp
            refine (HG2.out g wx hM.below hg).mono ?_
            rintro e w' ⟨rfl, hb'⟩
            exact hK _ _ ⟨rfl, hb'⟩
          · obtain rfl := Option.some.inj hi
            have e51 : a.tmps.getD 51 undef = .int .u32 (s1 : Nat) := hD 7 (by kernel_rfl) _ 51 rfl rfl
            have e56 : a.tmps.getD 56 undef = .int .u32 (s2 : Nat) := hD 12 (by kernel_rfl) _ 56 rfl rfl
            refine ⟨rfl, mid_step (.int .u32 (s12 : Nat)) wx (fun K hK => ?_) ⟨_, rfl, rfl, Below.refl _ _⟩⟩
            go_simp
            exact hK
          · obtain rfl := Option.some.inj hi
            have e2 : a.tmps.getD 2 undef = .slice A3 n3 c3 := (hM.other 2 (by decide +kernel)).trans rfl
            refine ⟨rfl, mid_step (.slice A3 n3 c3) wx (fun K hK => ?_) ⟨_, rfl, rfl, Below.refl _ _⟩⟩
            go_simp
            exact hK
          · obtain rfl := Option.some.inj hi
            have e7 : a.tmps.getD 7 undef = .int .i64 (k : Nat) := (hM.other 7 (by decide +kernel)).trans rfl
            refine ⟨rfl, mid_step (.int .i64 (k : Nat)) wx (fun K hK => ?_) ⟨_, rfl, rfl, Below.refl _ _⟩⟩
            go_simp
            exact hK
          · obtain rfl := Option.some.inj hi
            have e58 : a.tmps.getD 58 undef = .slice A3 n3 c3 := hD 14 (by kernel_rfl) _ 58 rfl rfl
            have e59 : a.tmps.getD 59 undef = .int .i64 (k : Nat) := hD 15 (by kernel_rfl) _ 59 rfl rfl
            refine ⟨rfl, mid_step (.slice D3 k c3) wx (fun K hK => ?_) ⟨_, rfl, rfl, Below.refl _ _⟩⟩
            go_simp
            exact hK
          · obtain rfl := Option.some.inj hi
            have e60 : a.tmps.getD 60 undef = .slice D3 k c3 := hD 16 (by kernel_rfl) _ 60 rfl rfl
            have f60 := e60
            rw [Array.getD_eq_getD_getElem?] at f60
            refine ⟨rfl, mid_step (.slice (some ⟨wx.heap.size, 0, none⟩) 1 1) (wx.alloc (.cells #[.slice D3 k c3] 23)) (fun K hK => ?_) ⟨_, rfl, ⟨_, rfl, heap_alloc_new _ _, hM.below.size⟩, below_new _ _⟩⟩
            go_simp
            exact hK
          · obtain rfl := Option.some.inj hi
            obtain ⟨g, e61, hg, _⟩ := hD 17 (by kernel_rfl) _ 61 rfl rfl
            refine ⟨rfl, mid_call (fun v w' => v = .int .u32 (s3 : Nat) ∧ Below wx.heap.size wx w') (fun K hK => ?_) (fun v w' h => ⟨v, rfl, h.1, h.2⟩)⟩
            go_simp
            refine (HG3.out g wx hM.below hg).mono ?_
            rintro e w' ⟨rfl, hb'⟩
            exact hK _ _ ⟨rfl, hb'⟩
          · obtain rfl := Option.some.inj hi
            have e57 : a.tmps.getD 57 undef = .int .u32 (s12 : Nat) := hD 13 (by kernel_rfl) _ 57 rfl rfl
            have e62 : a.tmps.getD 62 undef = .int .u32 (s3 : Nat) := hD 18 (by kernel_rfl) _ 62 rfl rfl
            refine ⟨rfl, mid_step (.int .u32 (s0 : Nat)) wx (fun K hK => ?_) ⟨_, rfl, rfl, Below.refl _ _⟩⟩
            go_simp
            exact hK
          · obtain rfl := Option.some.inj hi
            have e46 : a.tmps.getD 46 undef = .int .u32 (s0 : Nat) := hD 2 (by kernel_rfl) _ 46 rfl rfl
            have e63 : a.tmps.getD 63 undef = .int .u32 (s0 : Nat) := hD 19 (by kernel_rfl) _ 63 rfl rfl
            refine ⟨rfl, mid_step (.bool true) wx (fun K hK => ?_) ⟨_, rfl, rfl, Below.refl _ _⟩⟩
            go_simp
            exact hK
          · obtain rfl := Option.some.inj hi
            have e64 : a.tmps.getD 64 undef = .bool true := hD 20 (by kernel_rfl) _ 64 rfl rfl
            refine ⟨rfl, mid_step (.bool true) wx (fun K hK => ?_) ⟨_, rfl, rfl, Below.refl _ _⟩⟩
            go_simp
            exact hK
          · obtain rfl := Option.some.inj hi
            have e65 : a.tmps.getD 65 undef = .bool true := hD 21 (by kernel_rfl) _ 65 rfl rfl
            refine ⟨wanted_true rfl rfl rfl e65 (by rw [hM.tmps]; show 65 < 68; decide), mid_call (fun v w' => v = .bool true ∧ Below wx.heap.size wx w') (fun K hK => ?_) (fun v w' h => ⟨v, rfl, h.1, h.2⟩)⟩
            go_simp
            refine (HGW.out wx wx hM.below (Below.refl _ _)).mono ?_
            rintro e w' ⟨rfl, hb'⟩
            exact hK _ _ ⟨rfl, hb'⟩
          · obtain rfl := Option.some.inj hi
            have e65 : a.tmps.getD 65 undef = .bool true := hD 21 (by kernel_rfl) _ 65 rfl rfl
            have e66 : a.tmps.getD 66 undef = .bool true := hD 22 (by kernel_rfl) _ 66 rfl rfl
            refine ⟨rfl, mid_step (.bool true) wx (fun K hK => ?_) ⟨_, rfl, rfl, Below.refl _ _⟩⟩
            go_simp
            exact hK
          · obtain rfl := Option.some.inj hi
            have e67 : a.tmps.getD 67 undef = .bool true := hD 23 (by kernel_rfl) _ 67 rfl rfl
            refine ⟨rfl, mid_step (.bool true) wx (fun K hK => ?_) ⟨_, rfl, rfl, Below.refl _ _⟩⟩
            go_simp
            exact hK
        · intro a wx hM hD
          have e6 : a.tmps.getD 6 undef = .bool true := hD 24 (by decide) _ 6 rfl rfl
          rw [Array.getD_eq_getD_getElem?] at e6
          have hdf := hM.defers
          have hbw2 : Below w.heap.size w wx := hbw.trans (hM.below.mono hbw.size)
          go_wp2
          exact bodyPost_ret (v := .bool true) (by simp [results, Tryd.results6, go_sem, e6]) hdf ⟨rfl, hbw2⟩

end Go.Proofs.YtaidegnjegmfdabDoor
