/-
  Layer 13: an edge put into a row of edges (rows.put), and the two that call it.
-/
import Derived.Test.YtopecdkkmbpnbaaGgc
namespace Go.Proofs.Ytopecdkkmbpnbaa
open Go Go.RowKit Go.Maps
set_option linter.unusedVariables false

theorem rd_edge (w : World) (p : Ed) (cs : Array Value) (t : TypeId) (g : Nat) (hg : g = w.heap.size) (hcs : cs.toList = eC p) : Rd (w.alloc (.cells cs t)) (w.heap.size + 1) 3 (some ⟨g, 0, none⟩) 1 (ec [p]) := by
  subst hg
  have h2 : cs.toList.length = 3 := by rw [hcs]; rfl
  have ho := World.ownsRow_lit (base := w.heap.size) (e := t) (size := 3) w cs 1 (Nat.le_refl _) (by decide) (by simpa using h2)
  rw [hcs, ← ec_one1] at ho
  exact (Rd.own ho).more (by simp)
theorem ec_new (w : World) (q : Ed) (t : TypeId) : Rd (w.alloc (.cells #[.int .i64 q.1, .int .i64 q.2.1, .int .i64 q.2.2] t)) (w.heap.size + 1) 3 (some ⟨w.heap.size, 0, none⟩) 1 (ec [q]) :=
  rd_edge w q _ t _ rfl rfl

theorem HalfEnd.later {w w1 w' : World} {N g c : Nat} {S' : Nat → Sl2} {R' : Nat → List Ed} {tg tg' : Nat → Nat} (h : HalfEnd w1 w' N g S' R' tg tg' c) (t : Turns (fun k => tg k % 2 = c % 2 ∧ 3 ≤ tg k) w w1) : HalfEnd w w' N g S' R' tg tg' c :=
  ⟨h.half, fun k hk => h.old k (by have := t.size; omega), h.al, t.trans h.turns fun k hk => .inl hk⟩
theorem own_form' {w : World} {b n size : Nat} {e : TypeId} {v : Value} {xs : List Value} (h : w.ownsRow b e size v n xs) : ∃ A c, v = .slice A n c := by
  rcases h.2 with ⟨rfl, rfl⟩ | ⟨g, cap, cur, rfl, _⟩
  · exact ⟨_, _, rfl⟩
  · exact ⟨_, _, rfl⟩

set_option maxRecDepth 100000 in
set_option maxHeartbeats 1600000 in
theorem rput_any {w : World} {N g c n : Nat} {S : Nat → Sl2} {R : Nat → List Ed} {tg : Nat → Nat} (h : Half w N g S R tg c) (hc : 3 ≤ c) (hn : n < N) (hN : N ≤ 65536) (hal : ∀ k, w.heap.size ≤ k → tg k = 0) (e : Ed) (hl : (R n).length ≤ 1000000000) :
    Calls Try.prog 63 #[.slice (some ⟨g, 0, none⟩) N N, .int .i64 (n : Int), eV e] w fun r w' => r = .returned (.int .i64 ((R n).length : Int)) ∧ ∃ v tg', HalfEnd w w' N g (upS S n v) (upR R n (R n ++ [e])) tg tg' c := by
  obtain ⟨i0, hi, hz0, hz1, hz2⟩ := info_parts Try.infoE
  have hb0 := below_new w (.cells #[.int .i64 e.1, .int .i64 e.2.1, .int .i64 e.2.2] 39)
  have hbx := heap_alloc_new w (.cells #[.int .i64 e.1, .int .i64 e.2.1, .int .i64 e.2.2] 39)
  have hsz : (w.alloc (.cells #[.int .i64 e.1, .int .i64 e.2.1, .int .i64 e.2.2] 39)).heap.size = w.heap.size + 1 := by simp
  have h1 : Half (w.alloc (.cells #[.int .i64 e.1, .int .i64 e.2.1, .int .i64 e.2.2] 39)) N g S R tg c := h.turn hc (fun _ _ => rfl) (fun k hk _ _ => hb0.block k hk)
  have hm1 : (R n).length + 1 ≤ maxLen := by unfold maxLen; omega
  have hm2 : ((R n).length + 1) * 24 ≤ 140737488355328 := by omega
  have c0 := h1.cell hn
  unfold sv at c0
  have hcap := own_cap (h.row n hn)
  have hgl := h1.glt
  have hnI : (n : Int) < (N : Int) := by omega
  have hn0 : (0 : Int) ≤ (n : Int) := by omega
  have HT := Lib_hid h1
  have HL := Lib_hid (And.intro hl (And.intro hN (And.intro hc (And.intro hn hal))))
  have HW : Hid ((w.alloc (.cells #[.int .i64 e.1, .int .i64 e.2.1, .int .i64 e.2.2] 39)).heap[w.heap.size]? = some (.cells #[.int .i64 e.1, .int .i64 e.2.1, .int .i64 e.2.2] 39 (0, 0)) ∧ Turns (fun k => tg k % 2 = c % 2 ∧ 3 ≤ tg k) w (w.alloc (.cells #[.int .i64 e.1, .int .i64 e.2.1, .int .i64 e.2.2] 39))) := ⟨hbx, turns_alloc _ _ _⟩
  have hgw := h.glt
  clear h h1 hb0 hbx hl hN hc hal
  go_enter Try.func63, Try.ntmps63
  unfold eV
  go_upto_region 1 with (fail)
  have hgl2 : w.heap.size < (w.alloc (.cells #[.int .i64 e.1, .int .i64 e.2.1, .int .i64 e.2.2] 39)).heap.size := by omega
  have HS := Lib_hid hsz
  clear hsz
  generalize w.alloc (.cells #[.int .i64 e.1, .int .i64 e.2.1, .int .i64 e.2.2] 39) = W at *
  have e0 : W.cell? ⟨w.heap.size, 0, none⟩ = some (.int .i64 e.1) := cell_of_row _ _ 0 _ _ _ HW.out.1
  have e1 : W.cell? ⟨w.heap.size, 1, none⟩ = some (.int .i64 e.2.1) := cell_of_row _ _ 1 _ _ _ HW.out.1
  have e2 : W.cell? ⟨w.heap.size, 2, none⟩ = some (.int .i64 e.2.2) := cell_of_row _ _ 2 _ _ _ HW.out.1
  have HTd : Hid (Half W.drew N g S R tg c) := ⟨HT.out.top, HT.out.row, HT.out.tgt, HT.out.tgr⟩
  have hw0 := HTd.out.row n HL.out.2.2.2.1
  have ho1 := own_below hw0 (below_new W.drew (.cells #[.int .i64 e.1, .int .i64 e.2.1, .int .i64 e.2.2] 39)) (own_lt hw0)
  have hr1 := ec_new W.drew e 39
  have hbs : 0 ≤ (W.drew.alloc (.cells #[.int .i64 e.1, .int .i64 e.2.1, .int .i64 e.2.2] 39)).heap.size := Nat.zero_le _
  have HO := Lib_hid (And.intro ho1 hr1)
  have PU0 : Hid (∀ (w6 : World) (A6 : Option Addr) (c6 : Nat), w6.ownsRow 0 39 3 (.slice A6 ((R n).length + 1) c6) ((R n).length + 1) (ec (R n) ++ ec [e]) → Stp (W.drew.alloc (.cells #[.int .i64 e.1, .int .i64 e.2.1, .int .i64 e.2.2] 39)) w6 (.slice (S n).1 (R n).length (S n).2) (.slice A6 ((R n).length + 1) c6) →
      ∃ tg', HalfEnd w (w6.setCell ⟨g, n, none⟩ (.slice A6 ((R n).length + 1) c6)) N g (upS S n (A6, c6)) (upR R n (R n ++ [e])) tg tg' c ∧ w6.frozen? ⟨g, n, none⟩ = false ∧ g < w6.heap.size ∧ (∃ v, w6.cell? ⟨g, n, none⟩ = some v)) := fun w6 A6 c6 ho hst => by
    have hst2 := (Stp.alloc W.drew (.cells #[.int .i64 e.1, .int .i64 e.2.1, .int .i64 e.2.2] 39) (.slice (S n).1 (R n).length (S n).2)).trans hst
    have hlen : (R n ++ [e]).length = (R n).length + 1 := by simp
    obtain ⟨tg', P⟩ := HTd.out.put (w1 := w6) (l' := R n ++ [e]) (v := (A6, c6)) HL.out.2.2.1 HL.out.2.2.2.1 (fun k hk => HL.out.2.2.2.2 k (by have := HS.out; have hk : W.heap.size ≤ k := hk; omega)) (by rw [hlen]; exact hst2) (by rw [hlen, ec_append]; exact ho)
    rw [hlen] at P
    have hg0 : some g ≠ ob (S n).1 := fun e => by
      have h1 := HTd.out.tgr n HL.out.2.2.2.1 g e.symm
      have h2 := HTd.out.tgt
      omega
    have hgl := HTd.out.glt
    have hb : w6.heap[g]? = W.drew.heap[g]? := hst2.grow.block g hgl (by rw [ob_eq]; exact hg0)
    have hcc : w6.cell? ⟨g, n, none⟩ = W.drew.cell? ⟨g, n, none⟩ := World.cell?_of_block hb
    have tp : w6.ownsRow 0 34 1 (.slice (some ⟨g, 0, none⟩) N N) N (rowsL N S R) := own_keep HTd.out.top fun k e => by
      have : g = k := by injection e
      subst this
      exact hb
    exact ⟨tg', P.later (HW.out.2.trans (Turns.drewN (Turns.refl (fun k => tg k % 2 = c % 2 ∧ 3 ≤ tg k) _) 1) (fun k hk => .inl hk)), tp.frozenAt n, own_lt tp g rfl, ⟨_, hcc.trans (HTd.out.cell HL.out.2.2.2.1)⟩⟩
  clear ho1 hr1 hw0 HT
  generalize (S n).1 = A at *
  generalize (S n).2 = cp at *
  generalize hkk : (R n).length = k at *
  have HKK := Lib_hid hkk
  clear hkk
  go_region_law
    ((refine step_app rfl (.tmp 12) (.tmp 14) 34 rfl 0 39 i0 (.agg #[.int .i64 0, .int .i64 0, .int .i64 0]) 3 24 Try.underlying34 hi hz0 hz1 hz2 rfl (by decide) (.slice A k cp) k (ec (R n)) (by go_simp) HO.out.1 (W.heap.size + 1) (some ⟨W.heap.size, 0, none⟩) 1 1 (ec [e]) (by go_simp) HO.out.2 (ec_one _) hm1 hm2 hbs ?_); intro v' w6 hown6 hst; obtain ⟨A6, cw6, rfl⟩ := own_form' hown6; have PU := PU0.out w6 A6 cw6 hown6 hst; obtain ⟨tg', HE, z6, hg6, vv, c6⟩ := PU; have HEH := Lib_hid HE; clear HE)
  all_goals
    have c7 := HEH.out.half.cell HL.out.2.2.2.1
    unfold sv at c7
    rw [upS_same, upR_same, List.length_append] at c7
    generalize w6.setCell ⟨g, n, none⟩ (.slice A6 (k + 1) cw6) = W6 at *
    have hk1 := HL.out.1
    have hcap6 := own_cap (HEH.out.half.row n HL.out.2.2.2.1)
    rw [upS_same, upR_same, List.length_append] at hcap6
    rw [HKK.out] at hcap6 c7
    clear hcap c0 c6 z6 hown6 hst
    go_wp2
    go_ret
    exact ⟨ret_int (by rw [HKK.out]), A6, cw6, tg', HEH.out⟩

set_option maxRecDepth 100000 in
set_option maxHeartbeats 800000 in
theorem oadd_any {w : World} {N g c n : Nat} {S : Nat → Sl2} {R : Nat → List Ed} {tg : Nat → Nat} (h : Half w N g S R tg c) (hc : 3 ≤ c) (hn : n < N) (hN : N ≤ 65536) (hal : ∀ k, w.heap.size ≤ k → tg k = 0) (e : Ed) (he : e.1 = n) (hl : (R n).length ≤ 1000000000) :
    Calls Try.prog 57 #[.agg #[.slice (some ⟨g, 0, none⟩) N N], eV e] w fun r w' => r = .returned (.int .i64 ((R n).length : Int)) ∧ ∃ v tg', HalfEnd w w' N g (upS S n v) (upR R n (R n ++ [e])) tg tg' c := by
  obtain ⟨W, hW⟩ : ∃ W, W = (w.alloc (.cells #[.slice (some ⟨g, 0, none⟩) N N] 77)).alloc (.cells #[.int .i64 e.1, .int .i64 e.2.1, .int .i64 e.2.2] 39) := ⟨_, rfl⟩
  have hg : Gr w W := by rw [hW]; exact (Gr.alloc _ _).trans (Gr.alloc _ _)
  have hs0 : (w.alloc (.cells #[.slice (some ⟨g, 0, none⟩) N N] 77)).heap.size = w.heap.size + 1 := by simp
  have b1 := (below_new (w.alloc (.cells #[.slice (some ⟨g, 0, none⟩) N N] 77)) (.cells #[.int .i64 e.1, .int .i64 e.2.1, .int .i64 e.2.2] 39)).block w.heap.size (by omega)
  have b2 := heap_alloc_new (w.alloc (.cells #[.slice (some ⟨g, 0, none⟩) N N] 77)) (.cells #[.int .i64 e.1, .int .i64 e.2.1, .int .i64 e.2.2] 39)
  rw [heap_alloc_new w] at b1
  rw [hs0] at b2
  rw [← hW] at b1 b2
  have k0 := cell_of_row W w.heap.size 0 _ _ _ b1
  have k1 := cell_of_row W (w.heap.size + 1) 0 _ _ _ b2
  have k2 := cell_of_row W (w.heap.size + 1) 1 _ _ _ b2
  have k3 := cell_of_row W (w.heap.size + 1) 2 _ _ _ b2
  simp at k0 k1 k2 k3
  have hsW : W.heap.size = w.heap.size + 2 := by rw [hW]; simp
  have h1 : Half W N g S R tg c := h.turn hc (fun _ _ => rfl) (fun k hk _ _ => hg.below.block k hk)
  have CL := Lib_hid (rput_any h1 hc hn hN (fun k hk => hal k (by omega)) e hl)
  have HG : Hid (Turns (fun k => tg k % 2 = c % 2 ∧ 3 ≤ tg k) w W) := Turns.of_below hg.below
  have HW := Lib_hid hW
  rw [← he] at CL
  clear hW hg b1 b2 hs0 h1 h he hN hal hl hn hc
  unfold eV at CL ⊢
  generalize e.1 = a1 at *
  generalize e.2.1 = a2 at *
  generalize e.2.2 = a3 at *
  go_enter Try.func57, Try.ntmps57
  go_upto_region 1 with (fail)
  rw [← HW.out]
  clear HW hsW
  go_wp2_with fail
  refine CL.out.mono ?_
  rintro r w2 ⟨rfl, v, tg', hE⟩
  have HE := Lib_hid (hE.later HG.out)
  clear hE
  go_wp2
  go_ret
  exact ⟨rfl, v, tg', HE.out⟩

set_option maxRecDepth 100000 in
set_option maxHeartbeats 800000 in
theorem iadd_any {w : World} {N g c n : Nat} {S : Nat → Sl2} {R : Nat → List Ed} {tg : Nat → Nat} (h : Half w N g S R tg c) (hc : 3 ≤ c) (hn : n < N) (hN : N ≤ 65536) (hal : ∀ k, w.heap.size ≤ k → tg k = 0) (e : Ed) (he : e.2.1 = n) (hl : (R n).length ≤ 1000000000) :
    Calls Try.prog 58 #[.agg #[.slice (some ⟨g, 0, none⟩) N N], eV e] w fun r w' => r = .returned (.int .i64 ((R n).length : Int)) ∧ ∃ v tg', HalfEnd w w' N g (upS S n v) (upR R n (R n ++ [e])) tg tg' c := by
  obtain ⟨W, hW⟩ : ∃ W, W = (w.alloc (.cells #[.slice (some ⟨g, 0, none⟩) N N] 78)).alloc (.cells #[.int .i64 e.1, .int .i64 e.2.1, .int .i64 e.2.2] 39) := ⟨_, rfl⟩
  have hg : Gr w W := by rw [hW]; exact (Gr.alloc _ _).trans (Gr.alloc _ _)
  have hs0 : (w.alloc (.cells #[.slice (some ⟨g, 0, none⟩) N N] 78)).heap.size = w.heap.size + 1 := by simp
  have b1 := (below_new (w.alloc (.cells #[.slice (some ⟨g, 0, none⟩) N N] 78)) (.cells #[.int .i64 e.1, .int .i64 e.2.1, .int .i64 e.2.2] 39)).block w.heap.size (by omega)
  have b2 := heap_alloc_new (w.alloc (.cells #[.slice (some ⟨g, 0, none⟩) N N] 78)) (.cells #[.int .i64 e.1, .int .i64 e.2.1, .int .i64 e.2.2] 39)
  rw [heap_alloc_new w] at b1
  rw [hs0] at b2
  rw [← hW] at b1 b2
  have k0 := cell_of_row W w.heap.size 0 _ _ _ b1
  have k1 := cell_of_row W (w.heap.size + 1) 0 _ _ _ b2
  have k2 := cell_of_row W (w.heap.size + 1) 1 _ _ _ b2
  have k3 := cell_of_row W (w.heap.size + 1) 2 _ _ _ b2
  simp at k0 k1 k2 k3
  have hsW : W.heap.size = w.heap.size + 2 := by rw [hW]; simp
  have h1 : Half W N g S R tg c := h.turn hc (fun _ _ => rfl) (fun k hk _ _ => hg.below.block k hk)
  have CL := Lib_hid (rput_any h1 hc hn hN (fun k hk => hal k (by omega)) e hl)
  have HG : Hid (Turns (fun k => tg k % 2 = c % 2 ∧ 3 ≤ tg k) w W) := Turns.of_below hg.below
  have HW := Lib_hid hW
  rw [← he] at CL
  clear hW hg b1 b2 hs0 h1 h he hN hal hl hn hc
  unfold eV at CL ⊢
  generalize e.1 = a1 at *
  generalize e.2.1 = a2 at *
  generalize e.2.2 = a3 at *
  go_enter Try.func58, Try.ntmps58
  go_upto_region 1 with (fail)
  rw [← HW.out]
  clear HW hsW
  go_wp2_with fail
  refine CL.out.mono ?_
  rintro r w2 ⟨rfl, v, tg', hE⟩
  have HE := Lib_hid (hE.later HG.out)
  clear hE
  go_wp2
  go_ret
  exact ⟨rfl, v, tg', HE.out⟩

end Go.Proofs.Ytopecdkkmbpnbaa
