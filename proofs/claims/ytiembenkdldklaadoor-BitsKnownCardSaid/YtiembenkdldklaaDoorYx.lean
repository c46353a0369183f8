/-
  Layer 8: the program's change: the walk; Join, Meet, Less.
-/
import Derived.Test.YtiembenkdldklaaDoorYw
namespace Go.Proofs.YtiembenkdldklaaDoor
open Go Go.RowKit Go.Shelf
set_option linter.unusedVariables false

attribute [local go_sem] Oper.semAt_some

/-- How change ends. -/
def ChEnd (how lo hi p : Nat) (l : List Bool) (ms : List (List Bool)) (w : World) (e : Ending) (w' : World) : Prop :=
  e = .returned (.int .i64 (manyB how l ms : Int)) ∧ BZ w' lo hi p (doB how l ms) ∧ Turns (fun k => lo ≤ k ∧ k < hi) w w'

theorem four_blocks (w : World) (a b c d : Obj) : ∃ W, W = (((w.alloc a).alloc b).alloc c).alloc d ∧ W.heap.size = w.heap.size + 4 ∧ Below w.heap.size w W ∧ W.heap[w.heap.size]? = some a ∧ W.heap[w.heap.size + 1]? = some b ∧ W.heap[w.heap.size + 2]? = some c ∧ W.heap[w.heap.size + 3]? = some d := by
  refine ⟨_, rfl, by simp, (((below_new w a).alloc (below_new w a).size b).alloc (by simp <;> omega) c).alloc (by simp <;> omega) d, ?_, ?_, ?_, ?_⟩
  · exact (heap_alloc_old _ _ (by simp <;> omega)).trans ((heap_alloc_old _ _ (by simp <;> omega)).trans ((heap_alloc_old _ _ (by simp)).trans (heap_alloc_new w a)))
  · refine (heap_alloc_old _ _ (by simp <;> omega)).trans ((heap_alloc_old _ _ (by simp)).trans ?_)
    have := heap_alloc_new (w.alloc a) b
    rwa [World.size_alloc] at this
  · refine (heap_alloc_old _ _ (by simp)).trans ?_
    have := heap_alloc_new ((w.alloc a).alloc b) c
    rwa [World.size_alloc, World.size_alloc] at this
  · have := heap_alloc_new (((w.alloc a).alloc b).alloc c) d
    rwa [World.size_alloc, World.size_alloc, World.size_alloc] at this

set_option maxRecDepth 100000 in
set_option maxHeartbeats 4000000 in
theorem pchange_any (how : Nat) (f : FuncId) (hf : DoesW how f) (hcf : ∀ (args : Array Value) (wx : World), (callFunc f args).run Tryd.prog wx = .ok (.enter f args) wx) (lo hi p nv cv : Nat) (Av : Option Addr) (l : List Bool) (vs : List Value) (ms : List (List Bool)) (w : World)
    (h : BZ w lo hi p l) (hhi : hi ≤ w.heap.size) (hr : Rd w w.heap.size 1 Av nv vs) (hL : OthL w lo hi p l vs ms) (hn : nv ≤ 1000000) (hcv : nv ≤ cv ∧ cv ≤ 9223372036854775807) (hap : ∀ ad, Av = some ad → hi ≤ ad.block ∨ ad.block < lo) :
    Calls Tryd.prog 44 #[pv p, .func (.func f) #[] #[], .slice Av nv cv] w (ChEnd how lo hi p l ms w) := by
  obtain ⟨A, c, h, hp1, hp2⟩ := h
  have hnm : nv = ms.length := by have := hr.len; have := hL.len; omega
  obtain ⟨W0, hW0, hs0, hb0, u0, u1, u2, u3⟩ := four_blocks w (.cells #[pv p] 26) (.cells #[.func (.func f) #[] #[]] 72) (.cells #[.slice Av nv cv] 70) (.cells #[.int .i64 0] 3)
  obtain ⟨W3, hW3, hs3, hb3, hS3, x1, x2⟩ := words_world 0 h hb0 hb0.size
  rw [hW0] at hW3
  rw [hs0] at hs3 x1 x2 hb3
  have y0 := (hb3.block _ (by omega)).trans u0
  have y1 := (hb3.block _ (by omega)).trans u1
  have y2 := (hb3.block _ (by omega)).trans u2
  have y3 := (hb3.block _ (by omega)).trans u3
  have hbW : Below w.heap.size w W3 := hb0.trans (hb3.mono (by omega))
  have hlt := h.lt
  have h6 := h.le
  have hcap := hS3.cap
  have hrl := fun k (hk : ob A = some k) => h.row_lt hk
  have hWC := fun W => words_any (pv p) 0 (.inr ⟨p, rfl⟩) W
  have HW3 := Lib_hid hW3
  have c0 := cell_of_row _ _ 0 _ _ _ u0
  have hn6 : nw l.length ≤ 1000000 := by unfold nw; omega
  have hK0 : ChK w W3 p (w.heap.size + 3) A c l (doB how l ms) 0 0 W3 := ⟨y3, by rw [wmix_zero]; exact hS3.row, Turns.refl _ _⟩
  have HNM := Lib_hid hnm
  clear hW3 u1 u2 u3 hW0 hnm
  refine (callsIn_wide (n := 3)).1 (callsIn_of_wp_marks Tryd.func44 rfl trivial ?_ rfl)
  simp only [Tryd.ntmps44, List.size_toArray, List.length_cons, List.length_nil, Nat.reduceAdd, Nat.reduceSub, Array.replicate_succ, Array.replicate_zero, List.push_toArray, List.append_toArray, List.nil_append, List.cons_append]
  gi_wp2
  refine ⟨trivial, (callsIn_wide.2 (hWC _)).mono ?_⟩
  rintro e w1 ⟨rfl, rfl⟩
  gi_wp2
  rw [← HW3.out]
  refine range_words (m := 3) (b1 := w.heap.size + 4) (b2 := w.heap.size + 5) (p := p) (n := nw l.length) (fr := 0) (c := c) (A := A) (ws := wl l) rfl rfl hn6 (by omega) hcap
    (fun j W => ChK w W3 p (w.heap.size + 3) A c l (doB how l ms) (allK (difL how l ms) (64 * j)).length j W) (fun _ _ _ => False) ?_ ?_ (fun _ _ _ _ _ h _ _ _ => h) hK0 ?_ ?_ (fun _ _ _ _ _ h _ => h.elim)
  · rintro j W hk
    have t := hk.t
    exact ⟨cell_of_row _ _ 0 _ _ _ ((t.block _ (by omega) (by rintro (e | e); omega; have := hrl _ e; omega)).trans x1), cell_of_row _ _ 0 _ _ _ ((t.block _ (by omega) (by rintro (e | e); omega; have := hrl _ e; omega)).trans x2),
      cell_of_row _ _ 1 _ _ _ ((t.block _ (by omega) (by rintro (e | e); omega; exact hS3.ne e)).trans hS3.box), fun i h1 h2 => by obtain ⟨g, e, hc, _⟩ := hk.word h1 h2; exact ⟨g, e, hc⟩⟩
  · rintro j X Y r hk hr1 hr2 hg
    exact hk.newer (fun k e => by have := hrl k e; omega) (by omega) hr1 hg
  · rintro j W hk hsz _ hj
    obtain ⟨g, rfl, _, _, hg3, hgp⟩ := hS3.word hj
    have hgl := hrl g rfl
    have hgi := hp2 g rfl
    have hx := wl_lt l j
    have hz := wl_lt (doB how l ms) j
    have he := wl_lt (difL how l ms) j
    have hj2 : j ≤ 1024 := by unfold nw at hj; omega
    obtain ⟨y, hyy⟩ : ∃ y, y = blw ((l.length : Int) - (64 * j : Nat)) := ⟨_, rfl⟩
    have hby : y < 18446744073709551616 := by rw [hyy]; unfold blw; exact below_lt (Nat.min_le_right _ _)
    have hcut : wd (foldI how l ms) j &&& y = wl (doB how l ms) j := by rw [hyy]; exact cut_word how l ms j
    have hBL : ∀ W, Calls Tryd.prog 48 #[.int .i64 ((l.length : Int) - (j : Int) * 64)] W (fun e w' => e = .returned (.int .u64 (y : Int)) ∧ w' = W) := fun W => by
      have := below_any ((l.length : Int) - (64 * j : Nat)) W
      rw [hyy, show (l.length : Int) - (j : Int) * 64 = (l.length : Int) - ((64 * j : Nat) : Int) by omega]
      exact this
    have hand : bits BinOp.and IntKind.u64 ((wd (foldI how l ms) j : Nat) : Int) (y : Int) = ((wl (doB how l ms) j : Nat) : Int) := by
      rw [← hcut]; exact bits_and_u64_nat _ _ (wd_lt _ _) hby
    have hxor : bits BinOp.xor IntKind.u64 ((wl (doB how l ms) j : Nat) : Int) ((wl l j : Nat) : Int) = ((wl (difL how l ms) j : Nat) : Int) := by
      rw [← wl_difL]; exact bits_xor_u64_nat _ _ hz hx
    have hsu := allK_word (difL how l ms) j
    have hll : (allK (difL how l ms) (64 * (j + 1))).length = (allK (difL how l ms) (64 * j)).length + (bl (wl (difL how l ms) j)).length := by rw [hsu]; simp
    have hdl := allK_len (difL how l ms) (64 * j)
    have hbl := bl_len (wl (difL how l ms) j)
    have hON := fun W => ones_any (wl (difL how l ms) j) he W
    have ht0 := hk.t.size
    gi_wp2
    refine ⟨KeepD.refl _ _, fun w₂ hg2 => ?_⟩
    have hk2 := hk.newer (fun k e => by have := hrl k e; omega) (by omega) (by omega) hg2
    have hz2 := hg2.size
    have t2 := hk2.t
    have keep : ∀ k, k < W3.heap.size → k ≠ w.heap.size + 3 → k ≠ g → w₂.heap[k]? = W3.heap[k]? := fun k h1 h2 h3 => t2.block k h1 (by
      rintro (e | e)
      · exact h2 e
      · exact h3 (Option.some.inj e).symm)
    have keepw : ∀ k, k < w.heap.size → k ≠ g → w₂.heap[k]? = w.heap[k]? := fun k h1 h3 => (keep k (by omega) (by omega) h3).trans (hbW.block k h1)
    have q0 := cell_of_row _ _ 0 _ _ _ ((keep _ (by omega) (by omega) (by omega)).trans y0)
    have q1 := cell_of_row _ _ 0 _ _ _ ((keep _ (by omega) (by omega) (by omega)).trans y1)
    have q2 := cell_of_row _ _ 0 _ _ _ ((keep _ (by omega) (by omega) (by omega)).trans y2)
    have q3 := cell_of_row _ _ 0 _ _ _ hk2.nbox
    have f3 := frozen_of_row _ _ 0 _ _ hk2.nbox
    have zp := (keepw p (by omega) (fun e => hgp e.symm)).trans h.box
    have p0 := cell_of_row _ _ 0 _ _ _ zp
    have p1 := cell_of_row _ _ 1 _ _ _ zp
    obtain ⟨g', e', r1, r2⟩ := hk2.word (Nat.le_refl j) hj
    obtain rfl : g = g' := by injection e' with e'; injection e'
    have HOT : Hid (∀ (q k : Nat), k < nv → ∃ ad s, Av = some ad ∧ (w₂.drewN q).cell? (ad.add k) = some s ∧ (s = .pointer none ∨ ∃ p', s = pv p') ∧
        ∀ q', Calls Tryd.prog 43 #[s, .int .i64 (j : Int)] (w₂.drewN q') fun e w' => e = .returned (.int .u64 (wl (ms.getD k []) j : Int)) ∧ w' = w₂.drewN q') := fun q k hkn => by
      obtain ⟨ad, ea, hb, hc⟩ := hr.lies (by omega)
      obtain ⟨s, es, hs⟩ := hL.each k (by have := HNM.out; omega)
      have hcell := hc k s es
      have hag : ad.block ≠ g := by have := hap ad ea; omega
      refine ⟨ad, s, ea, ((World.cell?_of_block (w := w) (w' := w₂.drewN q) (a := ad.add k) (by rw [add_block]; exact keepw _ hb hag))).trans hcell, ?_, fun q' => ?_⟩
      · rcases hs with ⟨rfl, _⟩ | ⟨rfl, _⟩ | ⟨q, _, _, rfl, _⟩
        · exact .inl rfl
        · exact .inr ⟨_, rfl⟩
        · exact .inr ⟨_, rfl⟩
      · rcases hs with ⟨rfl, em⟩ | ⟨rfl, em⟩ | ⟨q, lo', hi', rfl, hB, hd⟩
        · rw [em, show wl [] j = 0 from wl_ge (by show nw 0 ≤ j; unfold nw; omega)]
          exact pword_nil _ _
        · rw [em]
          exact pword_raw p (nw l.length) c j (wl l j) g (w₂.drewN q') p1 hj r1
        · refine pword_any lo' hi' q _ j _ (hB.keep (w' := w₂.drewN q') fun k h1 h2 h3 => keepw k h3 (by omega)) (by omega)
    have HK2 := Lib_hid hk2
    have HLL := Lib_hid hll
    have HON := Lib_hid hON
    have HBL := Lib_hid hBL
    have hstart : wl l j = wd (foldI how l (ms.take 0)) j := rfl
    have HST := Lib_hid hstart
    have HFT : Hid (ms.take nv = ms) := by unfold Hid; rw [HNM.out]; exact List.take_length
    clear hcut hsu hll hON hBL hk2 t2 keep keepw zp h hr hL hS3 hk hg2 hK0 u0 x1 x2 y0 y1 y2 y3 hstart hyy
    generalize hxx : (wl l j : Nat) = x at *
    generalize (wl (difL how l ms) j : Nat) = e at *
    generalize (bl e).length = b at *
    generalize (allK (difL how l ms) (64 * j)).length = d at *
    have HXX := Lib_hid hxx
    clear hxx
    gi_wp2
    gi_loopw [10, 20] (fun v i wr => ∃ (k q : Nat), v = .int .u64 (wd (foldI how l (ms.take k)) j : Int) ∧ i = .int .i64 k ∧ k ≤ nv ∧ wr = w₂.drewN q) (fun _ i _ => nv - (intOf i).toNat)
    case atStart => exact ⟨0, 0, by rw [HST.out], rfl, Nat.zero_le _, rfl⟩
    case round =>
      obtain ⟨k, q, rfl, rfl, hkn, rfl⟩ := hrel
      by_cases hlt2 : k < nv
      · obtain ⟨ad, s, rfl, hc, hsp, HC⟩ := HOT.out q k hlt2
        have hgw : gW how (wd (foldI how l (ms.take k)) j) (wl (ms.getD k []) j) = wd (foldI how l (ms.take (k + 1))) j := by
          show gW how _ (wd (bt (ms.getD k [])) j) = _
          rw [gW_wd]
          exact wd_congr fun i _ => (foldI_take (by have := HNM.out; omega) _).symm
        have hw1 := wd_lt (foldI how l (ms.take k)) j
        have hDO := fun W => hf (wd (foldI how l (ms.take k)) j) (wl (ms.getD k []) j) W hw1 (wl_lt _ _)
        rw [hgw] at hDO
        have HDO := Lib_hid hDO
        have HCC := Lib_hid (HC (q + 1))
        clear hDO HC hgw
        generalize hv2 : wd (foldI how l (ms.take (k + 1))) j = v2 at *
        have HV2 := Lib_hid hv2
        clear hv2
        generalize wd (foldI how l (ms.take k)) j = v1 at *
        generalize wl (ms.getD k []) j = v3 at *
        rcases hsp with rfl | ⟨p', rfl⟩
        all_goals
          gi_wp2
          refine wpIn_region_tail 6 (by kernel_rfl) (by kernel_rfl) (by kernel_rfl) (fun _ _ h => h) ?_
          simp only [List.take_succ_cons, List.take_zero, List.drop_succ_cons, List.drop_zero]
          repeat still_step
          still_call HCC.out
          repeat still_step
          still_call (HDO.out _)
          repeat still_step
          refine wpStill_nil ?_
          go_wp2
          gi_wp2
          go_roundw
          case rel => exact ⟨k + 1, q + 1, by rw [HV2.out], by go_num, by omega, rfl⟩
          case measure => simp [intOf]; omega
      · obtain rfl : k = nv := by omega
        rw [HFT.out]
        generalize wd (foldI how l ms) j = v1 at *
        generalize hzz : wl (doB how l ms) j = z at *
        have HZZ := Lib_hid hzz
        clear hzz
        gi_wp2
        refine ⟨trivial, (CallsIn.inRound _ (callsIn_wide.2 (HBL.out _))).mono ?_⟩
        rintro e' w5 ⟨rfl, rfl⟩
        gi_wp2
        refine wpIn_region_tail 6 (by kernel_rfl) (by kernel_rfl) (by kernel_rfl) (fun _ _ h => h) ?_
        simp only [List.take_succ_cons, List.take_zero, List.drop_succ_cons, List.drop_zero]
        repeat still_step
        still_call (HON.out _)
        repeat still_step
        refine wpStill_nil ?_
        go_wp2
        gi_wp2
        have hst := (HK2.out.drewN (q + 1)).step (by omega) hj (d + b)
        rw [HZZ.out, Int.natCast_add] at hst
        have tt : Turns (fun k => k = w.heap.size + 3 ∨ k = g) w₂ (((w₂.drewN (q + 1)).setCell ⟨w.heap.size + 3, 0, none⟩ (.int .i64 ((d : Int) + (b : Int)))).setCell ⟨g, j, none⟩ (.int .u64 (z : Int))) :=
          (((Turns.refl _ w₂).drewN (q + 1)).trans_ ((turns_setCell _ (w.heap.size + 3) 0 _).mono fun k e => .inl e)).trans_ ((turns_setCell _ g j _).mono fun k e => .inr e)
        refine ⟨KeepD.turns tt (by omega) (by omega), ?_⟩
        dsimp only
        rw [HLL.out]
        exact hst
  · rintro W hk hD
    rw [show max 0 (nw l.length) = nw l.length by omega] at hk
    have e1 : (allK (difL how l ms) (64 * nw l.length)).length = manyB how l ms := by
      have := allK_nw (difL how l ms)
      rw [difL_len] at this
      rw [this, many_difL]
    rw [e1] at hk
    have t := hk.t
    have hbox := (t.block p (by omega) (by rintro (e | e); omega; exact hS3.ne e)).trans hS3.box
    have q0 := cell_of_row _ _ 0 _ _ _ hk.nbox
    have hg := putObj_grown W W3.heap.size (.deferred none)
    have hrow := own_keep (w' := W.putObj W3.heap.size (.deferred none)) hk.row fun k e => hg.block k (own_lt hk.row k e) (fun e2 => by injection e2 with e2; rw [ob_eq] at e; have := hrl k e; omega)
    rw [wmix_all l _ (doB_len how l ms), ← doB_len how l ms] at hrow
    have hBZ : BZ (W.putObj W3.heap.size (.deferred none)) lo hi p (doB how l ms) := ⟨A, c, ⟨by rw [doB_len]; exact (hg.block p (by have := t.size; omega) (fun e => by injection e with e; omega)).trans hbox, hrow, h.ne, by rw [doB_len]; exact h6⟩, hp1, hp2⟩
    have hTU : Turns (fun k => lo ≤ k ∧ k < hi) w (W.putObj W3.heap.size (.deferred none)) := ((Turns.of_below hbW : Turns (fun k => lo ≤ k ∧ k < hi) w W3).trans t (fun k e => by
      rcases e with e | e
      · exact .inr (by omega)
      · exact .inl (hp2 k e))).trans (Turns.grown (S := fun k => k = W3.heap.size) hg fun k hk => .inl (by injection hk with hk; exact hk.symm)) (fun k e => .inr (by omega))
    have HR := Lib_hid (And.intro hBZ hTU)
    have HD := Lib_hid hD
    clear hk hrow hBZ hTU hD
    gi_wp2
    refine ⟨by simp, .inl ⟨_, _, rfl, run_takeDeferred HD.out, ?_⟩⟩
    exact ⟨_, results_tmp rfl _ _ _, rfl, HR.out.1, HR.out.2⟩


theorem pjoin_any (lo hi p nv cv : Nat) (Av : Option Addr) (l : List Bool) (vs : List Value) (ms : List (List Bool)) (w : World) (h : BZ w lo hi p l) (hhi : hi ≤ w.heap.size) (hr : Rd w w.heap.size 1 Av nv vs) (hL : OthL w lo hi p l vs ms) (hn : nv ≤ 1000000) (hcv : nv ≤ cv ∧ cv ≤ 9223372036854775807) (hap : ∀ ad, Av = some ad → hi ≤ ad.block ∨ ad.block < lo) :
    Calls Tryd.prog 24 #[pv p, .slice Av nv cv] w (ChEnd 0 lo hi p l ms w) := by
  have HC := Lib_hid (pchange_any 0 _ join_does (enters_of Tryd.func45 (by kernel_rfl) rfl) lo hi p nv cv Av l vs ms w h hhi hr hL hn hcv hap)
  clear h hr hL hap hhi
  go_enter Tryd.func24, Tryd.ntmps24
  go_wp2_with fail
  refine HC.out.mono ?_
  rintro e w1 ⟨rfl, hb, ht⟩
  go_wp2
  go_ret
  exact ⟨rfl, hb, ht⟩

theorem pmeet_any (lo hi p nv cv : Nat) (Av : Option Addr) (l : List Bool) (vs : List Value) (ms : List (List Bool)) (w : World) (h : BZ w lo hi p l) (hhi : hi ≤ w.heap.size) (hr : Rd w w.heap.size 1 Av nv vs) (hL : OthL w lo hi p l vs ms) (hn : nv ≤ 1000000) (hcv : nv ≤ cv ∧ cv ≤ 9223372036854775807) (hap : ∀ ad, Av = some ad → hi ≤ ad.block ∨ ad.block < lo) :
    Calls Tryd.prog 25 #[pv p, .slice Av nv cv] w (ChEnd 1 lo hi p l ms w) := by
  have HC := Lib_hid (pchange_any 1 _ meet_does (enters_of Tryd.func46 (by kernel_rfl) rfl) lo hi p nv cv Av l vs ms w h hhi hr hL hn hcv hap)
  clear h hr hL hap hhi
  go_enter Tryd.func25, Tryd.ntmps25
  go_wp2_with fail
  refine HC.out.mono ?_
  rintro e w1 ⟨rfl, hb, ht⟩
  go_wp2
  go_ret
  exact ⟨rfl, hb, ht⟩

theorem pless_any (lo hi p nv cv : Nat) (Av : Option Addr) (l : List Bool) (vs : List Value) (ms : List (List Bool)) (w : World) (h : BZ w lo hi p l) (hhi : hi ≤ w.heap.size) (hr : Rd w w.heap.size 1 Av nv vs) (hL : OthL w lo hi p l vs ms) (hn : nv ≤ 1000000) (hcv : nv ≤ cv ∧ cv ≤ 9223372036854775807) (hap : ∀ ad, Av = some ad → hi ≤ ad.block ∨ ad.block < lo) :
    Calls Tryd.prog 26 #[pv p, .slice Av nv cv] w (ChEnd 2 lo hi p l ms w) := by
  have HC := Lib_hid (pchange_any 2 _ less_does (enters_of Tryd.func47 (by kernel_rfl) rfl) lo hi p nv cv Av l vs ms w h hhi hr hL hn hcv hap)
  clear h hr hL hap hhi
  go_enter Tryd.func26, Tryd.ntmps26
  go_wp2_with fail
  refine HC.out.mono ?_
  rintro e w1 ⟨rfl, hb, ht⟩
  go_wp2
  go_ret
  exact ⟨rfl, hb, ht⟩

end Go.Proofs.YtiembenkdldklaaDoor
