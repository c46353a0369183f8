/-
  Layer 7: tables of pairs: the order of pairs (comparePairs), rising of the program.
-/
import Derived.Test.YtidlpiamiglppaaIpp
import Derived.Test.YtidlpiamiglppaaItr
namespace Go.Proofs.Ytidlpiamiglppaa
open Go Go.RowKit Go.Sort
set_option linter.unusedVariables false

/-- A step that draws, and lays new blocks; no more. -/
def Gr (w w' : World) : Prop := ∃ q os, w' = grow (w.drewN q) os
theorem Gr.refl (w : World) : Gr w w := ⟨0, #[], by rw [grow_empty]; rfl⟩
theorem Gr.trans {a b c : World} (h : Gr a b) (k : Gr b c) : Gr a c := by
  obtain ⟨q, os, rfl⟩ := h
  obtain ⟨q', os', rfl⟩ := k
  refine ⟨q + q', os ++ os', ?_⟩
  rw [← grow_grow]
  unfold grow World.drewN
  simp [Nat.add_assoc]
theorem Gr.drewN (w : World) (q : Nat) : Gr w (w.drewN q) := ⟨q, #[], by rw [grow_empty]⟩
theorem Gr.drew (w : World) : Gr w w.drew := Gr.drewN w 1
theorem Gr.alloc (w : World) (o : Obj) : Gr w (w.alloc o) := ⟨0, #[o], by rw [alloc_eq_grow]; rfl⟩
theorem Gr.below {w w' : World} (h : Gr w w') : RowKit.Below w.heap.size w w' := by
  obtain ⟨q, os, rfl⟩ := h
  exact ⟨rfl, rfl, rfl, by rw [size_grow]; exact Nat.le_add_right _ _, fun k hk => heap_grow_old (w.drewN q) os hk⟩

/-- The first that is not 0. -/
def orN (a b : Int) : Int := if a = 0 then b else a
theorem cmpP_or (a b : PP) : cmpP a b = orN (cmpN a.1 b.1) (cmpN a.2 b.2) := by
  unfold cmpP orN cmpN
  by_cases h1 : a.1 < b.1
  · have : lessP a b = true := lessP_iff.2 (.inl h1)
    simp [this, h1]
  · by_cases h2 : b.1 < a.1
    · have e1 : lessP a b = false := by cases h : lessP a b with | false => rfl | true => rw [lessP_iff] at h; omega
      have e2 : lessP b a = true := lessP_iff.2 (.inl h2)
      simp [e1, e2, h1, h2]
    · have h3 : a.1 = b.1 := by omega
      by_cases h4 : a.2 < b.2
      · have : lessP a b = true := lessP_iff.2 (.inr ⟨h3, h4⟩)
        simp [this, h1, h2, h4]
      · by_cases h5 : b.2 < a.2
        · have e1 : lessP a b = false := by cases h : lessP a b with | false => rfl | true => rw [lessP_iff] at h; omega
          have e2 : lessP b a = true := lessP_iff.2 (.inr ⟨h3.symm, h5⟩)
          simp [e1, e2, h1, h2, h4, h5]
        · have e1 : lessP a b = false := by cases h : lessP a b with | false => rfl | true => rw [lessP_iff] at h; omega
          have e2 : lessP b a = false := by cases h : lessP b a with | false => rfl | true => rw [lessP_iff] at h; omega
          simp [e1, e2, h1, h2, h4, h5]

theorem por_any (a b : Int) (g : Nat) (w : World) (k0 : w.cell? ⟨g, 0, none⟩ = some (.int .i64 a)) (k1 : w.cell? ⟨g, 1, none⟩ = some (.int .i64 b)) :
    Calls Try.prog 51 #[.slice (some ⟨g, 0, none⟩) 2 2] w fun e w' => e = .returned (.int .i64 (orN a b)) ∧ w = w' := by
  obtain ⟨r, hr⟩ : ∃ r, r = orN a b := ⟨_, rfl⟩
  rw [← hr]
  have HR := Lib_hid hr
  clear hr
  go_enter Try.func51, Try.ntmps51
  go_wp2
  go_loop [8] (fun x => ∃ k : Nat, x = .int .i64 k ∧ k ≤ 2 ∧ Hid ((1 ≤ k → a = 0) ∧ (2 ≤ k → b = 0))) (fun x => 2 - (intOf x).toNat)
  case atStart => exact ⟨0, rfl, by omega, (fun h => absurd h (by omega)), (fun h => absurd h (by omega))⟩
  case round =>
    obtain ⟨k, rfl, hk, hh⟩ := hrel
    rcases Nat.lt_trichotomy k 1 with hk1 | rfl | hk1
    · obtain rfl : k = 0 := by omega
      clear hh hk hk1
      by_cases ha : a = 0
      · have HA := Lib_hid ha
        have hd : (a != 0) = false := by simpa using ha
        clear ha
        go_wp2
        go_round
        case rel => exact ⟨1, by go_num, by omega, (fun _ => HA.out), (fun h => absurd h (by omega))⟩
        case measure => simp [intOf]
      · have hd : (a != 0) = true := by simpa using ha
        have e : r = a := by rw [HR.out]; unfold orN; rw [if_neg ha]
        subst e
        clear ha HR
        go_wp2
        go_ret
        exact ⟨rfl, rfl⟩
    · have ha := hh.out.1 (by omega)
      have HA := Lib_hid ha
      clear hk hh
      by_cases hb : b = 0
      · have HB := Lib_hid hb
        have hd : (b != 0) = false := by simpa using hb
        clear ha hb
        go_wp2
        go_round
        case rel => exact ⟨2, by go_num, by omega, (fun _ => HA.out), (fun _ => HB.out)⟩
        case measure => simp [intOf]
      · have hd : (b != 0) = true := by simpa using hb
        have e : r = b := by rw [HR.out]; unfold orN; rw [if_pos ha]
        subst e
        clear ha hb HR HA
        go_wp2
        go_ret
        exact ⟨rfl, rfl⟩
    · obtain rfl : k = 2 := by omega
      have ha := hh.out.1 (by omega)
      have hb := hh.out.2 (by omega)
      have e : r = 0 := by rw [HR.out]; unfold orN; rw [if_pos ha, hb]
      subst e
      clear ha hb hk hk1 hh HR
      go_wp2
      go_ret
      exact ⟨rfl, rfl⟩

theorem below_drew1 (w : World) : RowKit.Below w.heap.size w w.drew := ⟨rfl, rfl, rfl, Nat.le_refl _, fun _ _ => rfl⟩

set_option maxRecDepth 100000 in
theorem pcompare_any (a b : PP) (w : World) : Calls Try.prog 41 #[pv a, pv b] w fun e w' => e = .returned (.int .i64 (cmpP a b)) ∧ Gr w w' := by
  rw [cmpP_or]
  obtain ⟨W, hW⟩ : ∃ W, W = (w.alloc (.cells #[.int .u64 (a.1 : Int), .int .u64 (a.2 : Int)] 59)).alloc (.cells #[.int .u64 (b.1 : Int), .int .u64 (b.2 : Int)] 59) := ⟨_, rfl⟩
  have hg : Gr w W := by rw [hW]; exact (Gr.alloc _ _).trans (Gr.alloc _ _)
  have hs0 : (w.alloc (.cells #[.int .u64 (a.1 : Int), .int .u64 (a.2 : Int)] 59)).heap.size = w.heap.size + 1 := by simp
  have b1 := (below_new (w.alloc (.cells #[.int .u64 (a.1 : Int), .int .u64 (a.2 : Int)] 59)) (.cells #[.int .u64 (b.1 : Int), .int .u64 (b.2 : Int)] 59)).block w.heap.size (by omega)
  have b2 := heap_alloc_new (w.alloc (.cells #[.int .u64 (a.1 : Int), .int .u64 (a.2 : Int)] 59)) (.cells #[.int .u64 (b.1 : Int), .int .u64 (b.2 : Int)] 59)
  rw [heap_alloc_new w] at b1
  rw [hs0] at b2
  rw [← hW] at b1 b2
  have k0 := cell_of_row W w.heap.size 0 _ _ _ b1
  have k1 := cell_of_row W w.heap.size 1 _ _ _ b1
  have k2 := cell_of_row W (w.heap.size + 1) 0 _ _ _ b2
  have k3 := cell_of_row W (w.heap.size + 1) 1 _ _ _ b2
  simp at k0 k1 k2 k3
  have hsW : W.heap.size = w.heap.size + 2 := by rw [hW]; simp
  have HC := Lib_hid (fun (x y : Nat) (V : World) => ucmp_any x y V)
  have OR : Hid (∀ (x y : Int), Calls Try.prog 51 #[.slice (some ⟨W.heap.size, 0, none⟩) 2 2] (W.alloc (.cells #[.int .i64 x, .int .i64 y] 3)).drew fun e w' => e = .returned (.int .i64 (orN x y)) ∧ (W.alloc (.cells #[.int .i64 x, .int .i64 y] 3)).drew = w') := fun x y =>
    por_any x y _ _ (cell_of_row (W.alloc (.cells #[.int .i64 x, .int .i64 y] 3)) _ 0 _ _ _ (heap_alloc_new W (.cells #[.int .i64 x, .int .i64 y] 3))) (cell_of_row (W.alloc (.cells #[.int .i64 x, .int .i64 y] 3)) _ 1 _ _ _ (heap_alloc_new W (.cells #[.int .i64 x, .int .i64 y] 3)))
  have HG := Lib_hid hg
  have HW := Lib_hid hW
  clear hg hW b1 b2 hs0
  unfold pv
  generalize a.1 = a1 at *
  generalize a.2 = a2 at *
  generalize b.1 = x1 at *
  generalize b.2 = x2 at *
  go_enter Try.func41, Try.ntmps41
  go_upto_region 1 with (fail)
  rw [← HW.out]
  have hlt : w.heap.size + 1 < W.heap.size := by omega
  have KS : Hid (∀ V, RowKit.Below W.heap.size W V → V.cell? ⟨w.heap.size, 0, none⟩ = some (.int .u64 (a1 : Int)) ∧ V.cell? ⟨w.heap.size, 1, none⟩ = some (.int .u64 (a2 : Int)) ∧ V.cell? ⟨w.heap.size + 1, 0, none⟩ = some (.int .u64 (x1 : Int)) ∧ V.cell? ⟨w.heap.size + 1, 1, none⟩ = some (.int .u64 (x2 : Int))) := fun V hV =>
    ⟨(hV.cell (p := ⟨w.heap.size, 0, none⟩) (by show w.heap.size < _; omega)).trans k0, (hV.cell (p := ⟨w.heap.size, 1, none⟩) (by show w.heap.size < _; omega)).trans k1, (hV.cell (p := ⟨w.heap.size + 1, 0, none⟩) hlt).trans k2, (hV.cell (p := ⟨w.heap.size + 1, 1, none⟩) hlt).trans k3⟩
  have b0 := below_drew1 W
  clear HW hsW
  go_region_held3 (fun V => V.cell? ⟨w.heap.size, 0, none⟩ = some (.int .u64 (a1 : Int)) ∧ V.cell? ⟨w.heap.size, 1, none⟩ = some (.int .u64 (a2 : Int)) ∧ V.cell? ⟨w.heap.size + 1, 0, none⟩ = some (.int .u64 (x1 : Int)) ∧ V.cell? ⟨w.heap.size + 1, 1, none⟩ = some (.int .u64 (x2 : Int)))
    (first | exact ⟨k0, k1, k2, k3⟩ | exact KS.out _ b0 | exact KS.out _ (b0.alloc (Nat.le_refl _) _))
    ((first | (go_at_call 35; ((with_reducible refine (HC.out _ _ _).mono ?_); rintro e ws ⟨rfl, rfl⟩)) | (go_at_call 51; ((with_reducible refine (OR.out _ _).mono ?_); rintro e ws ⟨rfl, rfl⟩))))
  all_goals
    have hgf := Lib_hid (HG.out.trans ((Gr.alloc W (.cells #[.int .i64 (cmpN a1 x1), .int .i64 (cmpN a2 x2)] 3)).trans (Gr.drew _)))
    go_wp2
    go_ret
    exact ⟨rfl, hgf.out⟩

set_option maxRecDepth 100000 in
/-- The literal that rising hands to the sort. -/
theorem pless_any {W : World} {bc bs p n c g off i j : Nat} {x y : PP} (hi : i < n) (hj : j < n) (hn : n ≤ c ∧ c ≤ 9223372036854775807)
    (k0 : W.cell? ⟨bc, 0, none⟩ = some (.func (.func 41) #[] #[])) (k1 : W.cell? ⟨bs, 0, none⟩ = some (.pointer (some ⟨p, 0, none⟩)))
    (k2 : W.cell? ⟨p, 0, none⟩ = some (.slice (some ⟨g, off, none⟩) n c)) (k3 : W.cell? ⟨g, off + i * 2, none⟩ = some (.int .u64 (x.1 : Int))) (k4 : W.cell? ⟨g, off + i * 2 + 1, none⟩ = some (.int .u64 (x.2 : Int)))
    (k5 : W.cell? ⟨g, off + j * 2, none⟩ = some (.int .u64 (y.1 : Int))) (k6 : W.cell? ⟨g, off + j * 2 + 1, none⟩ = some (.int .u64 (y.2 : Int))) :
    Calls Try.prog 50 #[.int .i64 (i : Int), .int .i64 (j : Int), .pointer (some ⟨bc, 0, none⟩), .pointer (some ⟨bs, 0, none⟩)] W fun e w' => e = .returned (.int .i64 (cmpP x y)) ∧ Gr W w' := by
  have hi1 : (i : Int) < (n : Int) := by omega
  have hj1 : (j : Int) < (n : Int) := by omega
  have hi0 : (0 : Int) ≤ (i : Int) := by omega
  have hj0 : (0 : Int) ≤ (j : Int) := by omega
  have eg : ∀ args wx, (callFunc 41 args).run Try.prog wx = .ok (.enter 41 args) wx := enters_of Try.func41 (by kernel_rfl) rfl
  have HC : Hid (∀ V : World, Calls Try.prog 41 #[.agg #[.int .u64 (x.1 : Int), .int .u64 (x.2 : Int)], .agg #[.int .u64 (y.1 : Int), .int .u64 (y.2 : Int)]] V fun e w' => e = .returned (.int .i64 (cmpP x y)) ∧ Gr V w') := fun V => pcompare_any x y V
  have q := fun (a : Addr) (v : Value) (h : W.cell? a = some v) => World.block_lt_of_cell? W a h
  have KS : Hid (∀ V, RowKit.Below W.heap.size W V → V.cell? ⟨bc, 0, none⟩ = some (.func (.func 41) #[] #[]) ∧ V.cell? ⟨bs, 0, none⟩ = some (.pointer (some ⟨p, 0, none⟩)) ∧ V.cell? ⟨p, 0, none⟩ = some (.slice (some ⟨g, off, none⟩) n c) ∧ V.cell? ⟨g, off + i * 2, none⟩ = some (.int .u64 (x.1 : Int)) ∧ V.cell? ⟨g, off + i * 2 + 1, none⟩ = some (.int .u64 (x.2 : Int)) ∧ V.cell? ⟨g, off + j * 2, none⟩ = some (.int .u64 (y.1 : Int)) ∧ V.cell? ⟨g, off + j * 2 + 1, none⟩ = some (.int .u64 (y.2 : Int))) := fun V hV =>
    ⟨(hV.cell (q _ _ k0)).trans k0, (hV.cell (q _ _ k1)).trans k1, (hV.cell (q _ _ k2)).trans k2, (hV.cell (q _ _ k3)).trans k3, (hV.cell (q _ _ k4)).trans k4, (hV.cell (q _ _ k5)).trans k5, (hV.cell (q _ _ k6)).trans k6⟩
  have b0 := below_drew1 W
  clear q
  generalize cmpP x y = r at *
  generalize (x.1 : Int) = x1 at *
  generalize (x.2 : Int) = x2 at *
  generalize (y.1 : Int) = y1 at *
  generalize (y.2 : Int) = y2 at *
  go_enter Try.func50, Try.ntmps50
  go_wp2
  go_region_held3 (fun V => V.cell? ⟨bc, 0, none⟩ = some (.func (.func 41) #[] #[]) ∧ V.cell? ⟨bs, 0, none⟩ = some (.pointer (some ⟨p, 0, none⟩)) ∧ V.cell? ⟨p, 0, none⟩ = some (.slice (some ⟨g, off, none⟩) n c) ∧ V.cell? ⟨g, off + i * 2, none⟩ = some (.int .u64 x1) ∧ V.cell? ⟨g, off + i * 2 + 1, none⟩ = some (.int .u64 x2) ∧ V.cell? ⟨g, off + j * 2, none⟩ = some (.int .u64 y1) ∧ V.cell? ⟨g, off + j * 2 + 1, none⟩ = some (.int .u64 y2))
    (first | exact KS.out _ b0 | exact KS.out _ (Below.refl _ _) | exact KS.out _ hbs)
    ((first | (go_at_call 41; ((with_reducible refine (HC.out _).mono ?_); rintro e ws ⟨rfl, hgr⟩; have hbs := b0.trans (hgr.below.mono b0.size)))))
  all_goals
    have hgf := Lib_hid ((Gr.drew W).trans hgr)
    clear hgr hbs
    go_wp2
    go_ret
    exact ⟨rfl, hgf.out⟩

/-- What the sort wants of the literal. -/
theorem pcmp_lays {w wr : World} {p c m : Nat} {A : Option Addr} {mb : Option Nat} {l : List PP} (h : Tab kP w p A c mb l) (hm : l.length = m + 1) {g bc bs : Nat} (hw : wr.heap.size > g) (hgp : w.heap.size ≤ g) (hk : ∀ k, k < w.heap.size → wr.heap[k]? = w.heap[k]?)
    (k0 : wr.cell? ⟨bc, 0, none⟩ = some (.func (.func 41) #[] #[])) (k1 : wr.cell? ⟨bs, 0, none⟩ = some (.pointer (some ⟨p, 0, none⟩))) (n0 : bc ≠ g) (n1 : bs ≠ g) :
    CmpLays1 Try.prog 50 #[.pointer (some ⟨bc, 0, none⟩), .pointer (some ⟨bs, 0, none⟩)] (encF m) (cfP l m) g 0 (rowF m).size wr := by
  intro q os dk hs x y
  have hx : x.val < l.length := by rw [hm]; exact x.isLt
  have hy : y.val < l.length := by rw [hm]; exact y.isLt
  have r : Rd w w.heap.size 2 A l.length (pc l) := h.rd
  obtain ⟨b, off, hA, hb, c3, c4⟩ := p_at r hx
  obtain ⟨b', off', e, _, c5, c6⟩ := p_at r hy
  rw [hA] at e
  cases e
  have hbk : ∀ k, k < wr.heap.size → k ≠ g → (sortWorld (encF m) wr g 0 q dk os).heap[k]? = wr.heap[k]? := fun k h1 h2 => sortWorld_block wr g q dk os h1 h2
  have hold : ∀ a : Addr, a.block < w.heap.size → (sortWorld (encF m) wr g 0 q dk os).cell? a = w.cell? a := fun a ha => World.cell?_of_block ((hbk _ (by omega) (by omega)).trans (hk _ ha))
  have hp : p < w.heap.size := h.lt p (.inl rfl)
  have hbox : ∀ (b : Nat) (v : Value), wr.cell? ⟨b, 0, none⟩ = some v → b ≠ g → (sortWorld (encF m) wr g 0 q dk os).cell? ⟨b, 0, none⟩ = some v := fun b v hv hne => (World.cell?_of_block (hbk b (World.block_lt_of_cell? _ _ hv) hne)).trans hv
  have h2 := (hold ⟨p, 0, none⟩ hp).trans h.c0
  rw [hA] at h2
  exact pless_any (W := sortWorld (encF m) wr g 0 q dk os) (x := at0 l x.val) (y := at0 l y.val) hx hy h.cap (hbox _ _ k0 n0) (hbox _ _ k1 n1) h2 ((hold _ hb).trans c3) ((hold _ hb).trans c4) ((hold _ hb).trans c5) ((hold _ hb).trans c6)

set_option maxRecDepth 100000 in
set_option maxHeartbeats 800000 in
theorem prising_any {w : World} {p c : Nat} {A : Option Addr} {mb : Option Nat} {l : List PP} (h : Tab kP w p A c mb l) (hl : l.length ≤ 1000000000) :
    Calls Try.prog 40 #[.pointer (some ⟨p, 0, none⟩), .func (.func 41) #[] #[]] w (IntsEnd (IsRising l) l.length w) := by
  obtain ⟨n, hn⟩ : ∃ n, n = l.length := ⟨_, rfl⟩
  have hn9 : n ≤ 1000000000 := by omega
  have c0 := h.c0
  rw [← hn] at c0
  have hpl := h.lt p (.inl rfl)
  obtain ⟨W1, hW1⟩ : ∃ W1, W1 = (w.alloc (.cells #[.pointer (some ⟨p, 0, none⟩)] 88)).alloc (.cells #[.func (.func 41) #[] #[]] 81) := ⟨_, rfl⟩
  have hs1 : W1.heap.size = w.heap.size + 2 := by rw [hW1]; simp
  have hb1 : Below w.heap.size w W1 := by rw [hW1]; exact (below_new w _).alloc (by simp) _
  have k0 : W1.cell? ⟨w.heap.size + 1, 0, none⟩ = some (.func (.func 41) #[] #[]) := by rw [hW1]; exact cell_of_row _ _ 0 _ _ _ (by have hh := heap_alloc_new (w.alloc (.cells #[.pointer (some ⟨p, 0, none⟩)] 88)) (.cells #[.func (.func 41) #[] #[]] 81); rw [show (w.alloc (.cells #[.pointer (some ⟨p, 0, none⟩)] 88)).heap.size = w.heap.size + 1 by simp] at hh; exact hh)
  have k1 : W1.cell? ⟨w.heap.size, 0, none⟩ = some (.pointer (some ⟨p, 0, none⟩)) := by
    rw [hW1]
    refine (World.cell?_of_block ((below_new _ _).block w.heap.size (by simp))).trans (cell_of_row _ _ 0 _ _ _ (heap_alloc_new w _))
  have MK := make_ints n hn9
  have OW := own_ints n hn9 W1
  have hb2 := below_new W1 (.cells (madeCells #[.int .i64 0] n) 3)
  have hs2 : (W1.alloc (.cells (madeCells #[.int .i64 0] n) 3)).heap.size = w.heap.size + 3 := by simp [hs1]
  rw [hs1] at hb2 OW
  rw [← filled_zero] at OW
  have c0' := (hb1.cell (p := ⟨p, 0, none⟩) hpl).trans c0
  have HH := Lib_hid h
  have HN := Lib_hid hn
  have HW := Lib_hid (And.intro hW1 (And.intro hb1 hs1))
  have HK := Lib_hid (And.intro k0 k1)
  have HS2 := Lib_hid hs2
  clear h hW1 hb1 hs1 k0 k1 hl hs2 hn
  go_enter Try.func40, Try.ntmps40
  go_upto_region 2 with (fail)
  rw [← HW.out.1]
  have HS3 := Lib_hid (HS2.out)
  generalize hg : w.heap.size + 2 = g at OW hb2
  generalize W1.alloc (.cells (madeCells #[.int .i64 0] n) 3) = W2 at *
  have HG := Lib_hid hg
  try rw [hg]
  clear hg MK c0 c0' hpl
  go_wp2
  go_loopw [15] (fun i wr => ∃ k : Nat, i = .int .i64 k ∧ k ≤ n ∧ wr.ownsRow g 3 1 (.slice (some ⟨g, 0, none⟩) n n) n (ic (filled n k)) ∧ Below g W1 wr) (fun i _ => n - (intOf i).toNat)
  case atStart => exact ⟨0, rfl, Nat.zero_le _, OW, hb2⟩
  case round =>
    clear OW hb2
    obtain ⟨k, rfl, hk, ho, hbw⟩ := hrel
    by_cases hlt : k < n
    · have hki : (k : Int) < (n : Int) := by omega
      have hk0 : (0 : Int) ≤ (k : Int) := by omega
      have ⟨hs1, hs2⟩ := ho.stored k (.int .i64 (k : Int))
      rw [ic_set, filled_set hlt] at hs1
      have hfr := ho.frozenAt k
      have hcl := (ho.cellAt k (by omega)).trans (ic_get (by rw [filled_length hk]; exact hlt))
      have hsz : W1.heap.size = g := by rw [HW.out.2.2, HG.out]
      have hbw3 := hbw.grown hs2 (by have := hbw.size; omega) (own_ge ho)
      clear ho hs2 hbw hsz
      go_wp2
      go_roundw
      case rel => exact ⟨k + 1, by go_num, by omega, hs1, hbw3⟩
      case measure => simp [intOf]; omega
    · obtain rfl : k = n := by omega
      rw [filled_all] at ho
      have hwsz := hbw.size
      have hgs : w.heap.size + 2 = g := HG.out
      have hW1s : W1.heap.size = g := by rw [HW.out.2.2, hgs]
      have hblk : g < wr.heap.size := (own_lt ho g rfl)
      have hbw0 : Below w.heap.size w wr := HW.out.2.1.trans (hbw.mono (by omega))
      have q0 := (hbw.cell (p := ⟨w.heap.size + 1, 0, none⟩) (show w.heap.size + 1 < g by omega)).trans HK.out.1
      have q1 := (hbw.cell (p := ⟨w.heap.size, 0, none⟩) (show w.heap.size < g by omega)).trans HK.out.2
      have eg : ∀ args wx, (callFunc 50 args).run Try.prog wx = .ok (.enter 50 args) wx := enters_of Try.func50 (by kernel_rfl) rfl
      have HO := Lib_hid ho
      have HB := Lib_hid (And.intro hbw0 (And.intro hblk hgs))
      rcases k with _ | m
      · have S := fun W => AnyF.slices_SortFunc_none (P := Try.prog) (ρ := Try.sortL_ren) { Try.sortL with } (some ⟨g, 0, none⟩) 0 (.func (.func 50) #[] #[.pointer (some ⟨w.heap.size + 1, 0, none⟩), .pointer (some ⟨w.heap.size, 0, none⟩)]) W
        change ∀ W, Calls Try.prog 46 _ _ _ at S
        have HS := Lib_hid S
        clear S ho hbw hbw0 q0 q1 hwsz hgs hW1s hblk hk hlt
        go_wp2_with fail
        refine (HS.out _).mono ?_
        rintro e w2 ⟨rfl, rfl⟩
        go_wp2
        go_ret
        have hl0 : l = [] := List.eq_nil_of_length_eq_zero HN.out.symm
        refine ⟨some ⟨g, 0, none⟩, 0, [], by rw [hl0]; exact ⟨by simp, List.Pairwise.nil⟩, by rw [hl0]; rfl, ?_, HB.out.1⟩
        rw [← HN.out]
        exact own_base HO.out (fun b hb => by have : g = b := (by injection hb); have := HB.out.2.2; omega)
      · have hm := HN.out.symm
        have CL := pcmp_lays HH.out hm (wr := wr) (g := g) (bc := w.heap.size + 1) (bs := w.heap.size) hblk (by omega) (fun b hb => hbw0.block b hb) q0 q1 (by omega) (by omega)
        have S := Any.slices_SortFunc Try.sortL (encF m) (fun _ => rfl) (cfP l m) (swo_cfP l m) 50 #[.pointer (some ⟨w.heap.size + 1, 0, none⟩), .pointer (some ⟨w.heap.size, 0, none⟩)] g 0 (m + 1) (rowF m) wr eg CL (holds_rowF ho) hblk (by rw [rowF_size]; omega)
        rw [show (rowF m).size = m + 1 from rowF_size m] at S
        change Calls Try.prog 46 _ _ _ at S
        have HS := Lib_hid S
        clear S CL ho hbw hbw0 q0 q1 hwsz hgs hW1s hblk hk hlt hm
        go_wp2_with fail
        refine HS.out.mono ?_
        rintro e w2 ⟨rfl, d', q, os, hp, hs, hw2⟩
        have hsz : d'.size = m + 1 := hp.1.trans (rowF_size m)
        have HR : Hid (IsRising l (d'.toList.map Fin.val)) := rising_of_sorted HH.out.nd HN.out.symm (by rw [rowF_size]; exact hp) (by rw [rowF_size]; exact hs)
        have HO2 := Lib_hid (own_sorted HO.out d' hsz q os)
        have HB2 := Lib_hid (HB.out.1.trans (sortWorld_below wr g q d' os HB.out.1.size (by have := HB.out.2.2; omega)))
        rw [← hw2] at HO2 HB2
        have HZ := Lib_hid hsz
        clear hp hs hw2 hsz
        go_wp2
        go_ret
        refine ⟨some ⟨g, 0, none⟩, m + 1, d'.toList.map Fin.val, HR.out, by rw [← HN.out]; rfl, ?_, HB2.out⟩
        rw [← HN.out]
        exact own_base HO2.out (fun b hb => by have : g = b := (by injection hb); have := HB.out.2.2; omega)

end Go.Proofs.Ytidlpiamiglppaa
