/-
  Layer 5: Copy, the program's; what a record is that lies apart from all else.
  Layer 5: SpoilRecord, over a record in memory of its own.
  Layer 5: what a record stands as is bytes.
  Layer 5: versions: Cmp on both sides, docs.Version.
-/
import Derived.Test.YtiiiklenhmhccaaGreatDoorZpTbo
import Derived.Test.YtiiiklenhmhccaaGreatDoorZpVls
import Derived.StillTailTactics
import Derived.Test.YtiiiklenhmhccaaGreatDoorZpVpu
import Derived.Test.YtiiiklenhmhccaaGreatDoorZpTdg
import Derived.Test.YtiiiklenhmhccaaGreatDoorZpVri
import Derived.Test.YtiiiklenhmhccaaGreatDoorZpTrw
import Derived.Deep.RegionHeld3

namespace Go.Proofs.YtiiiklenhmhccaaGreatDoor
open Go Go.RowKit
set_option linter.unusedVariables false
def SpR (lo : Nat) (r : Rv) (w : World) : Prop :=
  ∃ (l1 : Nat) (w0 : World), lo ≤ l1 ∧ l1 ≤ w.heap.size ∧ w0.heap.size ≤ w.heap.size ∧ Shp 27 w0 l1 r.p ∧ Shp 27 w l1 r.p ∧ w.ownsRow lo 84 4 (.slice r.A r.es.length r.c) r.es.length (enCells r.es) ∧
    ∀ k, (Value.slice r.A r.es.length r.c).ownBlock = some k → k < l1 ∨ w0.heap.size ≤ k
theorem SpR.under {lo : Nat} {r : Rv} {w w' : World} (h : SpR lo r w) (hb : Below w.heap.size w w') : SpR lo r w' := by
  obtain ⟨l1, w0, h1, h2, h3, h4, h5, h6, h7⟩ := h
  exact ⟨l1, w0, h1, Nat.le_trans h2 hb.size, Nat.le_trans h3 hb.size, h4, h5.under hb, own_below h6 hb (own_lt h6), h7⟩
theorem SpR.more {lo lo' : Nat} {r : Rv} {w : World} (h : SpR lo r w) (hl : lo' ≤ lo) : SpR lo' r w := by
  obtain ⟨l1, w0, h1, h2, h3, h4, h5, h6, h7⟩ := h
  exact ⟨l1, w0, Nat.le_trans hl h1, h2, h3, h4, h5, own_base h6 fun k hk => Nat.le_trans hl (own_ge h6 k hk), h7⟩
theorem Lies.single1 {w : World} {lo hi : Nat} {k : Int} {a b c : Nat} {A : Option Addr} {ps : List V} (h : Lies w lo hi (.node k a b A c ps)) (hh : hi ≤ w.heap.size) (hl : lo ≤ w.heap.size) (E : TypeId) :
    Lies (w.alloc (.cells #[.int .i64 k, .int .u64 (a : Int), .int .u64 (b : Int), .slice A ps.length c] E)) lo (w.heap.size + 1) (.node 0 0 0 (some ⟨w.heap.size, 0, none⟩) 1 [.node k a b A c ps]) := by
  have hb0 := below_new w (.cells #[.int .i64 k, .int .u64 (a : Int), .int .u64 (b : Int), .slice A ps.length c] E)
  have hr := heap_alloc_new w (.cells #[.int .i64 k, .int .u64 (a : Int), .int .u64 (b : Int), .slice A ps.length c] E)
  refine .mk _ _ _ _ _ _ (by omega) (by omega) (by omega) ⟨by rw [vCells_length], fun _ => ⟨_, rfl, by show w.heap.size < _; omega, fun j u hu => ?_⟩⟩ (by simp) (fun ad e _ => by injection e with e; subst e; exact hl) (fun q hq => ?_)
  · have e := cell_of_row (w.alloc (.cells #[.int .i64 k, .int .u64 (a : Int), .int .u64 (b : Int), .slice A ps.length c] E)) w.heap.size j _ _ _ hr
    rw [show (⟨w.heap.size, 0, none⟩ : Addr).add j = ⟨w.heap.size, j, none⟩ by unfold Addr.add; split <;> simp_all, e, ← hu, List.getElem?_toArray]
    rfl
  · obtain rfl : q = .node k a b A c ps := by simpa using hq
    exact (h.under (hb0.mono hh)).more (Nat.le_refl _) (by omega)
def CopyEnd (r : Rc) (w : World) (e : Ending) (w' : World) : Prop :=
  ∃ u : Rv, e = .returned u.val ∧ u.abs = r ∧ RLies w' w.heap.size w'.heap.size u ∧ SpR w.heap.size u w' ∧ Below w.heap.size w w'
set_option maxRecDepth 100000 in
theorem enclone_any (B : Nat) (A : Option Addr) (c : Nat) (es : List En) (w : World) (h : Rd w B 4 A es.length (enCells es)) (hn : es.length ≤ 1000000) :
    Calls Tryz.prog 53 #[.slice A es.length c] w (ClEnd 84 es.length (enCells es) w) := by
  have hnil : ∀ wx, (binOp .eql 28 (.slice A es.length c) (.slice none 0 0)).run Tryz.prog wx = .ok (.bool A.isNone) wx := fun wx => Lib.run_eql_slice_nil wx 28 84 A es.length c 0 0 Tryz.underlying28
  have HC : Hid (es.length = 0 → enCells es = []) := fun e => by rw [List.eq_nil_of_length_eq_zero e]; rfl
  generalize es.length = n at *
  cases A with
  | none =>
    have h0 : n = 0 := by
      rcases Nat.eq_zero_or_pos n with h0 | h0
      · exact h0
      · obtain ⟨ad, e, _⟩ := h.lies h0; cases e
    subst h0
    have HV := Lib_hid (HC.out rfl)
    clear h HC
    go_enter Tryz.func53, Tryz.ntmps53
    go_wp2
    go_ret
    exact ⟨none, 0, rfl, by rw [HV.out]; exact World.ownsRow_nil _ _ _ _, Below.refl _ _⟩
  | some ad =>
    obtain ⟨i0, hi, hz0, hz1, hz2⟩ := info_parts Tryz.infoEn
    have hm1 : 0 + n ≤ maxLen := by unfold maxLen; omega
    have hm2 : (0 + n) * 32 ≤ 140737488355328 := by omega
    have hon : (w.alloc (.cells #[] 84)).ownsRow w.heap.size 84 4 (.slice (some ⟨w.heap.size, 0, none⟩) 0 0) 0 [] := World.ownsRow_lit w #[] 0 (Nat.le_refl _) (by decide) rfl
    have h2 : Rd (w.alloc (.cells #[] 84)) (w.heap.size + 1) 4 (some ad) n (enCells es) := by
      refine ⟨h.len, fun hn => ?_⟩
      obtain ⟨ad', e, hb, hc⟩ := h.lies hn
      have hlt : ad'.block < w.heap.size := by
        have := World.block_lt_of_cell? w _ (hc 0 ((enCells es)[0]'(by have := h.len; omega)) (List.getElem?_eq_getElem _))
        rwa [add_block] at this
      exact ⟨ad', e, by omega, fun j u hu => (World.cell?_alloc_lt w _ _ (by rw [add_block]; exact hlt)).trans (hc j u hu)⟩
    have hsz : w.heap.size ≤ (w.alloc (.cells #[] 84)).heap.size := by simp
    clear h HC
    go_enter Tryz.func53, Tryz.ntmps53
    go_wp2_with (at_builtin; (refine wpList_app rfl _ _ 28 rfl w.heap.size 84 i0 (.agg #[.int .u64 0, .int .u64 0, .int .u64 0, .bool false]) 4 32 Tryz.underlying28 hi hz0 hz1 hz2 rfl (by decide) _ 0 [] rfl hon (w.heap.size + 1) (some ad) n c (enCells es) rfl h2 (en_one _) hm1 hm2 hsz ?_); intro v' w1 hown' hst; simp only [Nat.zero_add, List.nil_append] at hown'; obtain ⟨A2, c2, rfl, _⟩ := own_form hown')
    go_ret
    exact ⟨A2, c2, rfl, hown', ((Below.refl _ _).alloc (Nat.le_refl _) _).trans (hst.below hsz (fun k hk => by have : w.heap.size = k := (by injection hk); omega))⟩
theorem copy_ret {Q : Ending → World → Prop} {W : World} {h0 : Nat} {x0 x1 x2 x3 x4 x5 x6 x7 x8 x9 x10 : Value} (HR : W.heap[h0]? = some (.cells #[x0, x1, x2, x3, x4, x5, x6, x7, x8, x9, x10] 30 (0, 0)))
    (HF : Q (.returned (.agg #[x0, x1, x2, x3, x4, x5, x6, x7, x8, x9, x10])) W)
    (tmps : Array Value) (h2 : tmps.getD 2 undef = .pointer (some ⟨h0, 0, none⟩)) : bodyPost Tryz.prog Tryz.f19 Q .ret { tmps := tmps, defers := [] } W := by
  rw [Array.getD_eq_getD_getElem?] at h2
  obtain ⟨d0, d1, d2, d3, d4, d5, d6, d7, d8, d9, d10⟩ := rec_cells HR
  exact bodyPost_ret (v := .agg #[x0, x1, x2, x3, x4, x5, x6, x7, x8, x9, x10]) (by simp [results, Tryz.results19, go_sem, h2, d0, d1, d2, d3, d4, d5, d6, d7, d8, d9, d10]) rfl HF
theorem rec_frozen {w : World} {b : Nat} {cs : Array Value} {T : TypeId} (h : w.heap[b]? = some (.cells cs T (0, 0))) : w.frozen? ⟨b, 0, none⟩ = false ∧ w.frozen? ⟨b, 1, none⟩ = false ∧ w.frozen? ⟨b, 2, none⟩ = false ∧ w.frozen? ⟨b, 3, none⟩ = false ∧ w.frozen? ⟨b, 4, none⟩ = false ∧ w.frozen? ⟨b, 5, none⟩ = false ∧
    w.frozen? ⟨b, 6, none⟩ = false ∧ w.frozen? ⟨b, 7, none⟩ = false ∧ w.frozen? ⟨b, 8, none⟩ = false ∧ w.frozen? ⟨b, 9, none⟩ = false ∧ w.frozen? ⟨b, 10, none⟩ = false :=
  have k := fun i => frozen_of_row w b i _ _ h
  ⟨k 0, k 1, k 2, k 3, k 4, k 5, k 6, k 7, k 8, k 9, k 10⟩
theorem one_part {w : World} {lo hi l1 : Nat} {u : V} {t : T} (hu : u.abs = .node 6 0 0 [t]) (hL : Lies w lo hi u) (hS : Shp 27 w l1 u) : l1 < w.heap.size ∧ ∃ (g : Nat) (q : V), u.sl = .slice (some ⟨g, 0, none⟩) 1 u.cap ∧ 1 ≤ u.cap ∧ q.abs = t ∧ Lies w lo hi q ∧ Shp 27 w l1 q ∧
    w.cell? ⟨g, 0, none⟩ = some (.int .i64 q.kind) ∧ w.cell? ⟨g, 1, none⟩ = some (.int .u64 (q.a : Int)) ∧ w.cell? ⟨g, 2, none⟩ = some (.int .u64 (q.b : Int)) ∧ w.cell? ⟨g, 3, none⟩ = some q.sl := by
  obtain ⟨k, a, b, A, c, ps⟩ := u
  rw [V.abs] at hu
  injection hu with _ _ _ hps
  have hlen : ps.length = 1 := by rw [← absL_length, hps]; rfl
  match ps, hlen with
  | [q], _ =>
    have hq : q.abs = t := by
      rw [V.absL, V.absL] at hps
      injection hps
    obtain ⟨bb, off, p, hA, -, -, hp, hLp, c0, c1, c2, c3⟩ := hL.nth (i := 0) (by simp)
    obtain ⟨g, hA2, hg1, hg2, hSp, -⟩ := hS.nth (i := 0) (p := q) rfl
    have hpq : q = p := by simpa using hp
    subst hpq
    rw [hA2] at hA
    injection hA with hA
    injection hA with h1 h2
    subst h1 h2
    simp only [Nat.zero_mul, Nat.add_zero, Nat.zero_add] at c0 c1 c2 c3
    exact ⟨by omega, g, q, by rw [hA2]; rfl, hL.caps.1, hq, hLp, hSp, c0, c1, c2, c3⟩
set_option maxRecDepth 100000 in
set_option maxHeartbeats 6400000 in
theorem copy5_any (r : Rv) (w : World) (lo hi : Nat) (hL : RLies w lo hi r) (hhi : hi ≤ w.heap.size) (hlo : lo ≤ w.heap.size) (hct : r.p.abs.count ≤ 800) (hes : r.es.length ≤ 1000000) :
    Calls Tryz.prog 19 #[r.val] w (CopyEnd r.abs w) := by
  obtain ⟨k, t, x, wn, nn, v, p, Ae, ce, es⟩ := r
  have hx1 := heap_alloc_new w (.cells (Rv.mk k t x wn nn v p Ae ce es).arr 30)
  have hb1 := below_new w (.cells (Rv.mk k t x wn nn v p Ae ce es).arr 30)
  have hf2 := heap_alloc_new (w.alloc (.cells (Rv.mk k t x wn nn v p Ae ce es).arr 30)) (.cells #[.int .i64 0, .int .u64 0, .int .u64 0, .int .u64 0, .int .u64 0, .int .u64 0, .int .i64 0, .int .u64 0, .int .u64 0, .slice none 0 0, .slice none 0 0] 30)
  have hx2 := (heap_alloc_old (w.alloc (.cells (Rv.mk k t x wn nn v p Ae ce es).arr 30)) (.cells #[.int .i64 0, .int .u64 0, .int .u64 0, .int .u64 0, .int .u64 0, .int .u64 0, .int .i64 0, .int .u64 0, .int .u64 0, .slice none 0 0, .slice none 0 0] 30) (lt_of_block hx1)).trans hx1
  have hb2 := hb1.alloc hb1.size (.cells #[.int .i64 0, .int .u64 0, .int .u64 0, .int .u64 0, .int .u64 0, .int .u64 0, .int .i64 0, .int .u64 0, .int .u64 0, .slice none 0 0, .slice none 0 0] 30)
  rw [show (w.alloc (.cells (Rv.mk k t x wn nn v p Ae ce es).arr 30)).heap.size = w.heap.size + 1 by simp] at hf2
  obtain ⟨w2, hw2⟩ : ∃ w2, w2 = (w.alloc (.cells (Rv.mk k t x wn nn v p Ae ce es).arr 30)).alloc (.cells #[.int .i64 0, .int .u64 0, .int .u64 0, .int .u64 0, .int .u64 0, .int .u64 0, .int .i64 0, .int .u64 0, .int .u64 0, .slice none 0 0, .slice none 0 0] 30) := ⟨_, rfl⟩
  rw [← hw2] at hf2 hx2 hb2
  have hs2 := lt_of_block hf2
  have hLp2 := hL.p.under (hb2.mono hhi)
  have BT : Calls Tryz.prog 52 #[.slice (some ⟨w2.heap.size, 0, none⟩) 1 1] (w2.alloc (.cells #[.int .i64 p.kind, .int .u64 (p.a : Int), .int .u64 (p.b : Int), p.sl] 27)) fun e w' => ∃ u : V, e = .returned (.agg #[.int .i64 u.kind, .int .u64 (u.a : Int), .int .u64 (u.b : Int), u.sl]) ∧ u.abs = .node 6 0 0 [p.abs] ∧ Lies w' (w2.heap.size + 1) w'.heap.size u ∧ Shp 27 w' (w2.heap.size + 1) u ∧ Below w2.heap.size w2 w' := by
    cases p with
    | node k2 a2 b2 A2 c2 ps2 =>
      have hS := hLp2.single1 (Nat.le_trans hhi hb2.size) (Nat.le_trans hlo hb2.size) 27
      have hbn := below_new w2 (.cells #[.int .i64 k2, .int .u64 (a2 : Int), .int .u64 (b2 : Int), .slice A2 ps2.length c2] 27)
      have h := both_any (some ⟨w2.heap.size, 0, none⟩) 1 [.node k2 a2 b2 A2 c2 ps2] _ lo (w2.heap.size + 1) hS (by simp) (by rw [V.absL, V.absL, T.countL, T.countL]; have := hct; simp only at this; omega)
      rw [V.absL, V.absL] at h
      refine (show Calls Tryz.prog 52 #[.slice (some ⟨w2.heap.size, 0, none⟩) 1 1] (w2.alloc (.cells #[.int .i64 k2, .int .u64 (a2 : Int), .int .u64 (b2 : Int), .slice A2 ps2.length c2] 27)) _ from h).mono ?_
      rintro e w' ⟨u, rfl, h1, h2, h3, h4⟩
      rw [show (w2.alloc (.cells #[.int .i64 k2, .int .u64 (a2 : Int), .int .u64 (b2 : Int), .slice A2 ps2.length c2] 27)).heap.size = w2.heap.size + 1 by simp] at h2 h3
      exact ⟨u, rfl, h1, h2, h3, hbn.trans (h4.mono (by simp))⟩
  have HR : Hid (∀ W, Below w.heap.size w W → Rd W hi 4 Ae es.length (enCells es)) := fun W hW => hL.es.below (hW.mono hhi)
  have HN := Lib_hid (And.intro hL.kind (And.intro hL.t (And.intro hL.x (And.intro hL.wn (And.intro hL.n (And.intro hL.v hL.ok))))))
  have CL : Hid (∀ W, Below w.heap.size w W → Calls Tryz.prog 53 #[.slice Ae es.length ce] W (ClEnd 84 es.length (enCells es) W)) := fun W hW => enclone_any hi Ae ce es W (hL.es.below (hW.mono hhi)) hes
  have HX : Hid (∀ W, Below w2.heap.size w2 W → W.heap[w.heap.size]? = some (.cells (Rv.mk k t x wn nn v p Ae ce es).arr 30 (0, 0)) ∧ W.heap[w.heap.size + 1]? = some (.cells #[.int .i64 0, .int .u64 0, .int .u64 0, .int .u64 0, .int .u64 0, .int .u64 0, .int .i64 0, .int .u64 0, .int .u64 0, .slice none 0 0, .slice none 0 0] 30 (0, 0)) ∧ Below w.heap.size w W) := fun W hW =>
    ⟨(hW.block _ (by omega)).trans hx2, (hW.block _ hs2).trans hf2, hb2.trans (hW.mono hb2.size)⟩
  have HFIN : Hid (∀ (W : World) (A6 : Option Addr) (c6 : Nat) (q : V) (w5 : World), q.abs = p.abs → w2.heap.size + 1 ≤ w5.heap.size → w5.heap.size ≤ W.heap.size → Lies w5 (w2.heap.size + 1) w5.heap.size q → Shp 27 w5 (w2.heap.size + 1) q → (∀ i, w2.heap.size ≤ i → i < w5.heap.size → W.heap[i]? = w5.heap[i]?) → W.ownsRow w5.heap.size 84 4 (.slice A6 es.length c6) es.length (enCells es) → Below w.heap.size w W →
      CopyEnd (Rv.abs ⟨k, t, x, wn, nn, v, p, Ae, ce, es⟩) w (.returned (.agg #[.int .i64 k, .int .u64 (t : Int), .int .u64 (x : Int), .int .u64 (wn : Int), .int .u64 (nn : Int), .int .u64 (v : Int), .int .i64 q.kind, .int .u64 (q.a : Int), .int .u64 (q.b : Int), .slice q.addr q.parts.length q.cap, .slice A6 es.length c6])) W) := fun W A6 c6 q w5 h1 h2 h3 h4 h5 h6 h7 h8 => by
    obtain ⟨n1, n2, n3, n4, n5, n6, n7⟩ := HN.out
    have hz2 := hb2.size
    have hL4 : Lies W (w2.heap.size + 1) w5.heap.size q := h4.keep fun a g1 g2 => World.cell?_of_block (h6 _ (by omega) g2)
    have hS5 : Shp 27 W (w2.heap.size + 1) q := h5.keep fun a g1 g2 => h6 _ (by omega) g2
    refine ⟨⟨k, t, x, wn, nn, v, q, A6, c6, es⟩, rfl, by show (⟨k, t, x, wn, nn, v, q.abs, es⟩ : Rc) = ⟨k, t, x, wn, nn, v, p.abs, es⟩; rw [h1], ⟨n1, n2, n3, n4, n5, n6, hL4.more (by omega) h3, Rd.own h7, own_cap h7, n7, fun ad e hn => ?_⟩, ⟨w2.heap.size + 1, w5, by omega, by omega, h3, h5, hS5, own_base h7 (fun j hj => by have := own_ge h7 j hj; omega), fun j hj => .inr (own_ge h7 j hj)⟩, h8⟩
    have e : A6 = some ad := e
    obtain ⟨gg, cap, hv, hgg, hlt⟩ := h7.form hn
    have hA : A6 = some ⟨gg, 0, none⟩ := by injection hv
    rw [hA] at e
    injection e with e
    subst e
    have := own_ge h7 gg (by rw [hA]; rfl)
    show w.heap.size ≤ gg
    omega
  clear hL hLp2 hx1 hb1 hct
  simp only [Rv.val, Rv.arr, Rv.sl, V.sl] at hx2 hf2 BT HX hw2 ⊢
  generalize p.abs = pabs at *
  generalize p.addr = pA at *
  generalize p.parts.length = pn at *
  generalize p.cap = pc at *
  generalize p.kind = pk at *
  generalize (p.a : Int) = pa at *
  generalize (p.b : Int) = pb at *
  obtain ⟨en, hen⟩ : ∃ en, en = es.length := ⟨_, rfl⟩
  rw [← hen] at hw2 hx2 HR HFIN CL HX ⊢
  clear hen
  go_enter Tryz.func19, Tryz.ntmps19
  go_upto_region 1 with (fail)
  rw [← hw2]
  clear hw2
  obtain ⟨c0, c1, c2, c3, c4, c5, c6, c7, c8, c9, c10⟩ := rec_cells hx2
  go_wp2_with fail
  refine BT.mono ?_
  rintro e w4 ⟨u, rfl, hua, huL, huS, hb4⟩
  have hs4 := hb4.size
  obtain ⟨hs4b, g, q, hsl, hcap, hqa, hqL, hqS, d0, d1, d2, d3⟩ := one_part hua huL huS
  obtain ⟨hx4, hf4, hbw4⟩ := HX.out w4 hb4
  have HQ := Lib_hid (And.intro hqa (And.intro hqL hqS))
  have hcc : (u.cap : Int) ≤ 9223372036854775807 := by have := huL.top.2.2.2.2.1; omega
  simp only [V.sl] at d3 hsl
  rw [hsl]
  clear BT c0 c1 c2 c3 c4 c5 c6 c7 c8 c9 c10 hua huL huS hsl hqa hqL hqS
  generalize u.cap = uc at *
  generalize u.kind = uk at *
  generalize (u.a : Int) = ua at *
  generalize (u.b : Int) = ub at *
  obtain ⟨qA, hqA⟩ : ∃ z, z = q.addr := ⟨_, rfl⟩
  obtain ⟨qn, hqn⟩ : ∃ z, z = q.parts.length := ⟨_, rfl⟩
  obtain ⟨qc, hqc⟩ : ∃ z, z = q.cap := ⟨_, rfl⟩
  obtain ⟨qk, hqk⟩ : ∃ z, z = q.kind := ⟨_, rfl⟩
  obtain ⟨qa, hqa⟩ : ∃ z : Int, z = (q.a : Int) := ⟨_, rfl⟩
  obtain ⟨qb, hqb⟩ : ∃ z : Int, z = (q.b : Int) := ⟨_, rfl⟩
  rw [← hqA, ← hqn, ← hqc] at d3
  rw [← hqk] at d0
  rw [← hqa] at d1
  rw [← hqb] at d2
  have HQE := Lib_hid (And.intro hqA (And.intro hqn (And.intro hqc (And.intro hqk (And.intro hqa hqb)))))
  clear hqA hqn hqc hqk hqa hqb
  obtain ⟨c0, c1, c2, c3, c4, c5, c6, c7, c8, c9, c10⟩ := rec_cells hx4
  obtain ⟨y0, y1, y2, y3, y4, y5, y6, y7, y8, y9, y10⟩ := rec_frozen hx4
  have hfd : ∀ wx : World, (Instr.field 27 (.agg #[.int .i64 uk, .int .u64 ua, .int .u64 ub, .slice (some ⟨g, 0, none⟩) 1 uc]) 3).run Tryz.prog wx = .ok (.slice (some ⟨g, 0, none⟩) 1 uc) wx := fun _ => by kernel_rfl
  have hx5 : ((((w4.setCell ⟨w.heap.size, 6, none⟩ (.int .i64 qk)).setCell ⟨w.heap.size, 7, none⟩ (.int .u64 qa)).setCell ⟨w.heap.size, 8, none⟩ (.int .u64 qb)).setCell ⟨w.heap.size, 9, none⟩ (.slice qA qn qc)).heap[w.heap.size]? = some (.cells #[.int .i64 k, .int .u64 (t : Int), .int .u64 (x : Int), .int .u64 (wn : Int), .int .u64 (nn : Int), .int .u64 (v : Int), .int .i64 qk, .int .u64 qa, .int .u64 qb, .slice qA qn qc, .slice Ae en ce] 30 (0, 0)) :=
    heap_setCell_same _ _ 9 _ _ _ (heap_setCell_same _ _ 8 _ _ _ (heap_setCell_same _ _ 7 _ _ _ (heap_setCell_same w4 _ 6 _ _ _ hx4)))
  have ho5 : ∀ i, i ≠ w.heap.size → ((((w4.setCell ⟨w.heap.size, 6, none⟩ (.int .i64 qk)).setCell ⟨w.heap.size, 7, none⟩ (.int .u64 qa)).setCell ⟨w.heap.size, 8, none⟩ (.int .u64 qb)).setCell ⟨w.heap.size, 9, none⟩ (.slice qA qn qc)).heap[i]? = w4.heap[i]? := fun i hi => by
    rw [Below.heap_setCell _ ⟨w.heap.size, 9, none⟩ _ i hi, Below.heap_setCell _ ⟨w.heap.size, 8, none⟩ _ i hi, Below.heap_setCell _ ⟨w.heap.size, 7, none⟩ _ i hi, Below.heap_setCell _ ⟨w.heap.size, 6, none⟩ _ i hi]
  have hb5 : Below w.heap.size w ((((w4.setCell ⟨w.heap.size, 6, none⟩ (.int .i64 qk)).setCell ⟨w.heap.size, 7, none⟩ (.int .u64 qa)).setCell ⟨w.heap.size, 8, none⟩ (.int .u64 qb)).setCell ⟨w.heap.size, 9, none⟩ (.slice qA qn qc)) :=
    (((hbw4.setCell (p := ⟨w.heap.size, 6, none⟩) (Nat.le_refl _) _).setCell (p := ⟨w.heap.size, 7, none⟩) (Nat.le_refl _) _).setCell (p := ⟨w.heap.size, 8, none⟩) (Nat.le_refl _) _).setCell (p := ⟨w.heap.size, 9, none⟩) (Nat.le_refl _) _
  have hz5 : ((((w4.setCell ⟨w.heap.size, 6, none⟩ (.int .i64 qk)).setCell ⟨w.heap.size, 7, none⟩ (.int .u64 qa)).setCell ⟨w.heap.size, 8, none⟩ (.int .u64 qb)).setCell ⟨w.heap.size, 9, none⟩ (.slice qA qn qc)).heap.size = w4.heap.size := by simp [World.setCell]
  have HO5 := Lib_hid ho5
  have HX5 := Lib_hid hx5
  have HB5 := Lib_hid hb5
  have HZ5 := Lib_hid hz5
  have HF4 := Lib_hid hf4
  clear hx5 ho5 hb5 hz5 hx4 hf4
  go_upto_region 2 with (fail)
  generalize ((((w4.setCell ⟨w.heap.size, 6, none⟩ (.int .i64 qk)).setCell ⟨w.heap.size, 7, none⟩ (.int .u64 qa)).setCell ⟨w.heap.size, 8, none⟩ (.int .u64 qb)).setCell ⟨w.heap.size, 9, none⟩ (.slice qA qn qc)) = w5 at *
  clear c0 c1 c2 c3 c4 c5 c6 c7 c8 c9 c10 y0 y1 y2 y3 y4 y5 y6 y7 y8 y9 y10 d0 d1 d2 d3
  obtain ⟨c0, c1, c2, c3, c4, c5, c6, c7, c8, c9, c10⟩ := rec_cells HX5.out
  go_wp2_with fail
  refine (CL.out w5 HB5.out).mono ?_
  rintro e w6 ⟨A6, c6', rfl, ho6, hb6⟩
  have hs6 := hb6.size
  have hx6 := (hb6.block _ (lt_of_block HX5.out)).trans HX5.out
  have hf6 := (hb6.block (w.heap.size + 1) (by have := HZ5.out; omega)).trans ((HO5.out _ (by omega)).trans HF4.out)
  have hbw6 := HB5.out.trans (hb6.mono HB5.out.size)
  clear c0 c1 c2 c3 c4 c5 c6 c7 c8 c9 c10
  obtain ⟨c0, c1, c2, c3, c4, c5, c6, c7, c8, c9, c10⟩ := rec_cells hx6
  have y10 := frozen_of_row w6 w.heap.size 10 _ _ hx6
  obtain ⟨W8, hW8⟩ : ∃ W8, W8 = w6.setCell ⟨w.heap.size, 10, none⟩ (.slice A6 en c6') := ⟨_, rfl⟩
  have hx8 : W8.heap[w.heap.size]? = some (.cells #[.int .i64 k, .int .u64 (t : Int), .int .u64 (x : Int), .int .u64 (wn : Int), .int .u64 (nn : Int), .int .u64 (v : Int), .int .i64 qk, .int .u64 qa, .int .u64 qb, .slice qA qn qc, .slice A6 en c6'] 30 (0, 0)) := by rw [hW8]; exact heap_setCell_same w6 _ 10 _ _ _ hx6
  have hf8 : W8.heap[w.heap.size + 1]? = some (.cells #[.int .i64 0, .int .u64 0, .int .u64 0, .int .u64 0, .int .u64 0, .int .u64 0, .int .i64 0, .int .u64 0, .int .u64 0, .slice none 0 0, .slice none 0 0] 30 (0, 0)) := by rw [hW8]; exact (Below.heap_setCell w6 ⟨w.heap.size, 10, none⟩ _ _ (by show w.heap.size + 1 ≠ w.heap.size; omega)).trans hf6
  have hb8 : Below w.heap.size w W8 := by rw [hW8]; exact hbw6.setCell (p := ⟨w.heap.size, 10, none⟩) (Nat.le_refl _) _
  have hz8 : W8.heap.size = w6.heap.size := by rw [hW8]; simp [World.setCell]
  have hk8 : ∀ i, i ≠ w.heap.size → W8.heap[i]? = w6.heap[i]? := fun i hi => by rw [hW8]; exact Below.heap_setCell w6 ⟨w.heap.size, 10, none⟩ _ i hi
  have HFF : Hid (CopyEnd (Rv.abs ⟨k, t, x, wn, nn, v, p, Ae, ce, es⟩) w (.returned (.agg #[.int .i64 k, .int .u64 (t : Int), .int .u64 (x : Int), .int .u64 (wn : Int), .int .u64 (nn : Int), .int .u64 (v : Int), .int .i64 qk, .int .u64 qa, .int .u64 qb, .slice qA qn qc, .slice A6 en c6'])) (put11 W8 (w.heap.size + 1) (.int .i64 k) (.int .u64 (t : Int)) (.int .u64 (x : Int)) (.int .u64 (wn : Int)) (.int .u64 (nn : Int)) (.int .u64 (v : Int)) (.int .i64 qk) (.int .u64 qa) (.int .u64 qb) (.slice qA qn qc) (.slice A6 en c6'))) := by
    obtain ⟨q1, q2, q3, q4, q5, q6⟩ := HQE.out
    have hgr := put11_grow (.int .i64 k) (.int .u64 (t : Int)) (.int .u64 (x : Int)) (.int .u64 (wn : Int)) (.int .u64 (nn : Int)) (.int .u64 (v : Int)) (.int .i64 qk) (.int .u64 qa) (.int .u64 qb) (.slice qA qn qc) (.slice A6 en c6') W8 (g := w.heap.size + 1) (w.heap.size + 1)
    have hel := fun (i : Nat) (hi : i ≠ w.heap.size + 1) => put11_else (g := w.heap.size + 1) (.int .i64 k) (.int .u64 (t : Int)) (.int .u64 (x : Int)) (.int .u64 (wn : Int)) (.int .u64 (nn : Int)) (.int .u64 (v : Int)) (.int .i64 qk) (.int .u64 qa) (.int .u64 qb) (.slice qA qn qc) (.slice A6 en c6') W8 (k := i) hi
    have hsz := put11_size (g := w.heap.size + 1) (.int .i64 k) (.int .u64 (t : Int)) (.int .u64 (x : Int)) (.int .u64 (wn : Int)) (.int .u64 (nn : Int)) (.int .u64 (v : Int)) (.int .i64 qk) (.int .u64 qa) (.int .u64 qb) (.slice qA qn qc) (.slice A6 en c6') W8
    obtain ⟨r1, r2, r3⟩ := HQ.out
    have hz5 := HZ5.out
    have := HFIN.out (put11 W8 (w.heap.size + 1) (.int .i64 k) (.int .u64 (t : Int)) (.int .u64 (x : Int)) (.int .u64 (wn : Int)) (.int .u64 (nn : Int)) (.int .u64 (v : Int)) (.int .i64 qk) (.int .u64 qa) (.int .u64 qb) (.slice qA qn qc) (.slice A6 en c6')) A6 c6' q w5 r1 (by omega) (by rw [hsz]; omega) (by rw [hz5]; exact r2.keep fun a g1 g2 => World.cell?_of_block (HO5.out _ (by omega))) (r3.keep fun i g1 g2 => HO5.out i (by omega))
      (fun i g1 g2 => (hel i (by omega)).trans ((hk8 i (by omega)).trans (hb6.block i g2))) (own_keep ho6 fun j hj => (hel j (by have := own_ge ho6 j hj; omega)).trans (hk8 j (by have := own_ge ho6 j hj; omega))) (hb8.trans (hgr.below hb8.size (by omega) (by omega)))
    rw [← q1, ← q2, ← q3, ← q4, ← q5, ← q6] at this
    exact this
  have HB2 : Hid ((put11 W8 (w.heap.size + 1) (.int .i64 k) (.int .u64 (t : Int)) (.int .u64 (x : Int)) (.int .u64 (wn : Int)) (.int .u64 (nn : Int)) (.int .u64 (v : Int)) (.int .i64 qk) (.int .u64 qa) (.int .u64 qb) (.slice qA qn qc) (.slice A6 en c6')).heap[w.heap.size + 1]? = some (.cells #[.int .i64 k, .int .u64 (t : Int), .int .u64 (x : Int), .int .u64 (wn : Int), .int .u64 (nn : Int), .int .u64 (v : Int), .int .i64 qk, .int .u64 qa, .int .u64 qb, .slice qA qn qc, .slice A6 en c6'] 30 (0, 0))) := put11_row _ _ _ _ _ _ _ _ _ _ _ hf8
  have HW8 := Lib_hid hW8
  have HX8 := Lib_hid (And.intro hx8 hf8)
  clear hx8 hf8 hb8 hz8 hk8 hW8 HFIN CL HX HX5 HB5 HO5 HZ5 HF4 HQ HQE HR HN hb6 ho6 hx6 hf6 hbw6 hs6
  go_upto_region 3 with (fail)
  rw [← HW8.out]
  clear HW8 c0 c1 c2 c3 c4 c5 c6 c7 c8 c9 c10 y10
  obtain ⟨c0, c1, c2, c3, c4, c5, c6, c7, c8, c9, c10⟩ := rec_cells HX8.out.1
  obtain ⟨e0, e1, e2, e3, e4, e5, e6, e7, e8, e9, e10⟩ := rec_cells HX8.out.2
  obtain ⟨y0, y1, y2, y3, y4, y5, y6, y7, y8, y9, y10⟩ := rec_frozen HX8.out.2
  clear HX8
  go_wp2
  show bodyPost _ _ _ _ _ (put11 W8 (w.heap.size + 1) (.int .i64 k) (.int .u64 (t : Int)) (.int .u64 (x : Int)) (.int .u64 (wn : Int)) (.int .u64 (nn : Int)) (.int .u64 (v : Int)) (.int .i64 qk) (.int .u64 qa) (.int .u64 qb) (.slice qA qn qc) (.slice A6 en c6'))
  generalize put11 W8 (w.heap.size + 1) (.int .i64 k) (.int .u64 (t : Int)) (.int .u64 (x : Int)) (.int .u64 (wn : Int)) (.int .u64 (nn : Int)) (.int .u64 (v : Int)) (.int .i64 qk) (.int .u64 qa) (.int .u64 qb) (.slice qA qn qc) (.slice A6 en c6') = W4 at *
  exact copy_ret HB2.out HFF.out _ rfl
end Go.Proofs.YtiiiklenhmhccaaGreatDoor

namespace Go.Proofs.YtiiiklenhmhccaaGreatDoor
open Go Go.RowKit
set_option linter.unusedVariables false
theorem enCells_set0 : ∀ (es : List En) (i : Nat) (e : En) (x : Nat), es[i]? = some e → (enCells es).set (i * 4) (.int .u64 (x : Int)) = enCells (es.set i ⟨x, e.w, e.n, e.m⟩)
  | [], i, e, x, h => by simp at h
  | y :: es, 0, e, x, h => by
    obtain rfl : y = e := by simpa using h
    simp [enCells, En.cells]
  | y :: es, i + 1, e, x, h => by
    have ih := enCells_set0 es i e x (by simpa using h)
    show (y.cells ++ enCells es).set ((i + 1) * 4) _ = y.cells ++ enCells (es.set i _)
    have hy : y.cells.length = 4 := rfl
    rw [List.set_append_right _ _ (by omega), hy, show (i + 1) * 4 - 4 = i * 4 by omega, ih]
theorem enCells_set3 : ∀ (es : List En) (i : Nat) (e : En) (m : Bool), es[i]? = some e → (enCells es).set (i * 4 + 3) (.bool m) = enCells (es.set i ⟨e.x, e.w, e.n, m⟩)
  | [], i, e, m, h => by simp at h
  | y :: es, 0, e, m, h => by
    obtain rfl : y = e := by simpa using h
    simp [enCells, En.cells]
  | y :: es, i + 1, e, m, h => by
    have ih := enCells_set3 es i e m (by simpa using h)
    show (y.cells ++ enCells es).set ((i + 1) * 4 + 3) _ = y.cells ++ enCells (es.set i _)
    have hy : y.cells.length = 4 := rfl
    rw [List.set_append_right _ _ (by omega), hy, show (i + 1) * 4 + 3 - 4 = i * 4 + 3 by omega, ih]
set_option maxRecDepth 100000 in
set_option maxHeartbeats 3200000 in
theorem spoilrec_any (r : Rv) (w : World) (lo : Nat) (h : SpR lo r w) (hct : r.p.abs.count ≤ 1000) (hes : r.es.length ≤ 1000000) (hlo : lo ≤ w.heap.size) :
    Calls Tryz.prog 22 #[r.val] w fun e w' => e = .returned (.tuple #[]) ∧ Below lo w w' := by
  obtain ⟨l1, w0, h1, h2, h3, h4, h5, h6, h7⟩ := h
  obtain ⟨k, t, x, wn, nn, v, p, Ae, ce, es⟩ := r
  have hx1 := heap_alloc_new w (.cells (Rv.mk k t x wn nn v p Ae ce es).arr 30)
  have hb1 := below_new w (.cells (Rv.mk k t x wn nn v p Ae ce es).arr 30)
  obtain ⟨w1, hw1⟩ : ∃ w1, w1 = w.alloc (.cells (Rv.mk k t x wn nn v p Ae ce es).arr 30) := ⟨_, rfl⟩
  rw [← hw1] at hx1 hb1
  have hl1 : l1 ≤ w1.heap.size := Nat.le_trans h2 hb1.size
  have SP := spoil_expr p w0 w1 l1 p.kind p.a p.b h4 (h5.under hb1) (Nat.le_trans h3 hb1.size) hl1 hct
  have hown1 := own_below h6 hb1 (own_lt h6)
  have HLT : Hid (∀ j, (Value.slice Ae es.length ce).ownBlock = some j → j < w.heap.size ∧ lo ≤ j ∧ (j < l1 ∨ w0.heap.size ≤ j)) := fun j hj => ⟨own_lt h6 j hj, own_ge h6 j hj, h7 j hj⟩
  have hcap := own_cap h6
  have HW0 : Hid (w0.heap.size ≤ w.heap.size ∧ lo ≤ l1 ∧ lo ≤ w.heap.size) := ⟨h3, h1, hlo⟩
  simp only [Rv.val, Rv.arr, Rv.sl, V.sl] at hx1 SP hw1 ⊢
  clear h4 h5 h6 h7 hct h3 h1
  generalize p.addr = pA at *
  generalize p.parts.length = pn at *
  generalize p.cap = pc at *
  generalize p.kind = pk at *
  generalize (p.a : Int) = pa at *
  generalize (p.b : Int) = pb at *
  go_enter Tryz.func22, Tryz.ntmps22
  go_upto_region 1 with (fail)
  rw [← hw1]
  clear hw1
  obtain ⟨c0, c1, c2, c3, c4, c5, c6, c7, c8, c9, c10⟩ := rec_cells hx1
  go_wp2_with fail
  refine SP.mono ?_
  rintro e w2 ⟨rfl, hs⟩
  have hsz1 : w.heap.size < w1.heap.size := lt_of_block hx1
  have hx2 := (hs.keep w.heap.size hsz1 (by have := HW0.out; omega)).trans hx1
  have hown2 := own_keep hown1 (w' := w2) fun j hj => hs.keep j (by have := (HLT.out j hj).1; omega) (HLT.out j hj).2.2
  have hb2 : Below lo w w2 := (hb1.mono hlo).trans (hs.below.mono HW0.out.2.1)
  clear SP c0 c1 c2 c3 c4 c5 c6 c7 c8 c9 c10 hs hown1 hx1 hb1
  obtain ⟨en, hen⟩ : ∃ en, en = es.length := ⟨_, rfl⟩
  rw [← hen] at hx2 hown2 HLT hes hcap
  have HEN := Lib_hid hen
  clear hen
  go_wp2
  go_loopw [2] (fun z wr => ∃ (i : Nat) (fs : List En), z = .int .i64 i ∧ i ≤ en ∧ Hid (fs.length = en) ∧ wr.heap[w.heap.size]? = some (.cells #[.int .i64 k, .int .u64 (t : Int), .int .u64 (x : Int), .int .u64 (wn : Int), .int .u64 (nn : Int), .int .u64 (v : Int), .int .i64 pk, .int .u64 pa, .int .u64 pb, .slice pA pn pc, .slice Ae en ce] 30 (0, 0)) ∧
    wr.ownsRow lo 84 4 (.slice Ae en ce) en (enCells fs) ∧ Below lo w wr) (fun z _ => en - (intOf z).toNat)
  case atStart => exact ⟨0, es, rfl, Nat.zero_le _, HEN.out.symm, hx2, hown2, hb2⟩
  case round =>
    clear hx2 hown2 hb2
    obtain ⟨i, fs, rfl, hi1, hfl, hxr, hown, hbr⟩ := hrel
    have c10 : wr.cell? ⟨w.heap.size, 10, none⟩ = some (.slice Ae en ce) := cell_of_row wr _ 10 _ _ _ hxr
    by_cases hlt : i < en
    · obtain ⟨g, cap, hv, hgw, hgl⟩ := hown.form (by omega)
      have hA : Ae = some ⟨g, 0, none⟩ := by injection hv
      subst hA
      obtain ⟨e, he⟩ : ∃ e, fs[i]? = some e := ⟨_, List.getElem?_eq_getElem (by rw [hfl.out]; exact hlt)⟩
      have hgx : g < w.heap.size := (HLT.out g rfl).1
      have hc : ∀ j u, j < 4 → e.cells[j]? = some u → wr.cell? ⟨g, i * 4 + j, none⟩ = some u := fun j u hj hu => by
        rw [hown.cellAt (i * 4 + j) (by omega), enCells_get fs i j e he hj]; exact hu
      have d0 : wr.cell? ⟨g, i * 4, none⟩ = some (.int .u64 (e.x : Int)) := hc 0 _ (by omega) rfl
      have z0 := hown.frozenAt (i * 4)
      obtain ⟨nx, hnx⟩ : ∃ nx : Nat, IntKind.u64.wrap ((e.x : Int) + 1) = (nx : Int) := ⟨(IntKind.u64.wrap ((e.x : Int) + 1)).toNat, by
        have h : 0 ≤ IntKind.u64.wrap ((e.x : Int) + 1) := by
          have e1 : IntKind.u64.wrap ((e.x : Int) + 1) = ((e.x : Int) + 1) % 18446744073709551616 := rfl
          rw [e1]
          omega
        omega⟩
      have ST := hown.stored (i * 4) (.int .u64 (nx : Int))
      rw [enCells_set0 fs i e nx he] at ST
      have he2 : (fs.set i ⟨nx, e.w, e.n, e.m⟩)[i]? = some ⟨nx, e.w, e.n, e.m⟩ := by rw [List.getElem?_set_self (by rw [hfl.out]; exact hlt)]
      have d3 : (wr.setCell ⟨g, i * 4, none⟩ (.int .u64 (nx : Int))).cell? ⟨g, i * 4 + 3, none⟩ = some (.bool e.m) := by
        rw [ST.1.cellAt (i * 4 + 3) (by omega), enCells_get _ i 3 _ he2 (by omega)]; rfl
      have z3 := ST.1.frozenAt (i * 4 + 3)
      have hx3 := (Below.heap_setCell wr ⟨g, i * 4, none⟩ (.int .u64 (nx : Int)) w.heap.size (by show w.heap.size ≠ g; omega)).trans hxr
      have ST2 := ST.1.stored (i * 4 + 3) (.bool (!e.m))
      rw [enCells_set3 _ i _ (!e.m) he2] at ST2
      have HST := Lib_hid (And.intro ST ST2)
      have hb3 := hbr.setCell (p := ⟨g, i * 4, none⟩) hgw (.int .u64 (nx : Int))
      have hgl2 : g < (wr.setCell ⟨g, i * 4, none⟩ (.int .u64 (nx : Int))).heap.size := by simpa [World.setCell] using hgl
      have hx4 := (Below.heap_setCell (wr.setCell ⟨g, i * 4, none⟩ (.int .u64 (nx : Int))) ⟨g, i * 4 + 3, none⟩ (.bool (!e.m)) w.heap.size (by show w.heap.size ≠ g; omega)).trans hx3
      have hb4 := hb3.setCell (p := ⟨g, i * 4 + 3, none⟩) hgw (.bool (!e.m))
      have HX4 := Lib_hid (And.intro hx4 (And.intro hb4 ST2.1))
      have HFL : Hid (((fs.set i ⟨nx, e.w, e.n, e.m⟩).set i ⟨nx, e.w, e.n, !e.m⟩).length = en) := Lib_hid (by rw [List.length_set, List.length_set]; exact hfl.out)
      have hlen4 : i * 4 + 3 < 9223372036854775807 := by have := hcap; omega
      clear ST ST2 hc he he2 hown hb3 hb4 hx4 hbr HST hv
      go_upto_region 6 with (fail)
      have c10' : (wr.setCell ⟨g, i * 4, none⟩ (.int .u64 (nx : Int))).cell? ⟨w.heap.size, 10, none⟩ = some (.slice (some ⟨g, 0, none⟩) en ce) := cell_of_row _ _ 10 _ _ _ hx3
      generalize hW3 : wr.setCell ⟨g, i * 4, none⟩ (.int .u64 (nx : Int)) = w3 at *
      have hii : (i : Int) < (en : Int) := by omega
      have hi0 : (0 : Int) ≤ (i : Int) := by omega
      clear c10 d0 z0 hxr hx3 hW3
      go_wp2
      go_still_tail 12, (by kernel_rfl)
      go_wp2
      go_roundw
      case rel => exact ⟨i + 1, _, by go_num, by omega, HFL, HX4.out.1, own_keep HX4.out.2.2 fun _ _ => rfl, below_drew_ HX4.out.2.1 (n := 1)⟩
      case measure => simp [intOf]; omega
    · obtain rfl : i = en := by omega
      go_wp2
      go_end0
      exact ⟨rfl, hbr⟩
end Go.Proofs.YtiiiklenhmhccaaGreatDoor

namespace Go.Proofs.YtiiiklenhmhccaaGreatDoor
open Go Go.RowKit
set_option linter.unusedVariables false
theorem stand_byte : ∀ t : T, t.allB = true → ∀ x ∈ t.stand, x < 256 := by
  refine T.ind fun k a b ps ih hall => ?_
  rw [T.allB, Bool.and_eq_true] at hall
  have hk := fits_kind hall.2
  have hsl : ∀ qs : List T, (∀ q ∈ qs, q ∈ ps) → ∀ x ∈ T.standL qs, x < 256 := by
    intro qs
    induction qs with
    | nil => intro _ x hx; simp [T.standL] at hx
    | cons q qs ih2 =>
      intro hq x hx
      rw [T.standL, List.mem_append] at hx
      rcases hx with hx | hx
      · exact ih q (hq q (by simp)) (all_mem hall.1 q (hq q (by simp))) x hx
      · exact ih2 (fun y hy => hq y (by simp [hy])) x hx
  intro x hx
  rw [T.stand, List.mem_cons, List.mem_append, List.mem_append, List.mem_flatMap] at hx
  rcases hx with rfl | (⟨n, -, hx⟩ | hx) | hx
  · omega
  · exact enc_byte n x hx
  · split at hx
    · exact enc_byte _ x hx
    · simp at hx
  · exact hsl ps (fun q hq => hq) x hx
theorem encs_byte (l : List Nat) : ∀ x ∈ encs l, x < 256 := fun x hx => by
  obtain ⟨v, _, h⟩ := List.mem_flatMap.1 hx
  exact enc_byte v x h
theorem standP_byte (r : Rc) (i : Nat) : ∀ x ∈ r.standP i, x < 256 := by
  unfold Rc.standP
  split; exact enc_byte _
  split; exact enc_byte _
  split; exact encs_byte _
  split; exact enc_byte _
  split
  · intro x hx
    rcases List.mem_append.1 hx with hx | hx
    · exact enc_byte _ x hx
    · unfold T.put at hx
      split at hx
      · rename_i hr
        exact stand_byte _ (right_all hr).1 x hx
      · cases hx
  · intro x hx
    rcases List.mem_append.1 hx with hx | hx
    · exact enc_byte _ x hx
    · obtain ⟨e, _, hx⟩ := List.mem_flatMap.1 hx
      rcases List.mem_append.1 hx with hx | hx
      · exact encs_byte _ x hx
      · have hx : x = if e.m then 1 else 0 := by simpa using hx
        rw [hx]; split <;> omega
theorem stand_byteR (r : Rc) : ∀ x ∈ r.stand, x < 256 := fun x hx => by
  obtain ⟨i, _, h⟩ := List.mem_flatMap.1 hx
  exact standP_byte r i x h
end Go.Proofs.YtiiiklenhmhccaaGreatDoor

namespace Go.Proofs.YtiiiklenhmhccaaGreatDoor
open Go Go.RowKit
set_option linter.unusedVariables false
def cmpN (a b : Nat) : Int := if a < b then -1 else if b < a then 1 else 0
def cmpV (a b c d : Nat) : Int := if cmpN a c = 0 then cmpN b d else cmpN a c
theorem isnan_any (a : Nat) (w : World) : Calls Tryz.prog 90 #[.int .u64 (a : Int)] w fun e w' => e = .returned (.bool false) ∧ w' = w := by
  go_enter Tryz.func90, Tryz.ntmps90
  go_wp2
  go_ret
  exact ⟨ret_b (by simp), rfl⟩
theorem compare_any (a b : Nat) (w : World) : Calls Tryz.prog 59 #[.int .u64 (a : Int), .int .u64 (b : Int)] w fun e w' => e = .returned (.int .i64 (cmpN a b)) ∧ w' = w := by
  rcases Nat.lt_trichotomy a b with h | h | h
  · have HC : Hid (cmpN a b = -1) := by unfold cmpN Hid; rw [if_pos h]
    have h1 : (a : Int) < b := by omega
    go_enter Tryz.func59, Tryz.ntmps59
    go_wp2_with fail
    refine (isnan_any a _).mono ?_
    rintro e w1 ⟨rfl, rfl⟩
    go_wp2_with fail
    refine (isnan_any b _).mono ?_
    rintro e w2 ⟨rfl, rfl⟩
    go_wp2
    go_ret
    exact ⟨ret_i HC.out.symm, rfl⟩
  · subst h
    have HC : Hid (cmpN a a = 0) := by unfold cmpN Hid; rw [if_neg (by omega), if_neg (by omega)]
    have h1 : ¬ (a : Int) < a := by omega
    go_enter Tryz.func59, Tryz.ntmps59
    go_wp2_with fail
    refine (isnan_any a _).mono ?_
    rintro e w1 ⟨rfl, rfl⟩
    go_wp2_with fail
    refine (isnan_any a _).mono ?_
    rintro e w2 ⟨rfl, rfl⟩
    go_wp2
    go_ret
    exact ⟨ret_i HC.out.symm, rfl⟩
  · have HC : Hid (cmpN a b = 1) := by unfold cmpN Hid; rw [if_neg (by omega), if_pos h]
    have h1 : ¬ (a : Int) < b := by omega
    have h2 : (b : Int) < a := by omega
    go_enter Tryz.func59, Tryz.ntmps59
    go_wp2_with fail
    refine (isnan_any a _).mono ?_
    rintro e w1 ⟨rfl, rfl⟩
    go_wp2_with fail
    refine (isnan_any b _).mono ?_
    rintro e w2 ⟨rfl, rfl⟩
    go_wp2
    go_ret
    exact ⟨ret_i HC.out.symm, rfl⟩
theorem cor5_any (b : Nat) (x y : Int) (w : World) (c0 : w.cell? ⟨b, 0, none⟩ = some (.int .i64 x)) (c1 : w.cell? ⟨b, 1, none⟩ = some (.int .i64 y)) :
    Calls Tryz.prog 58 #[.slice (some ⟨b, 0, none⟩) 2 2] w fun e w' => e = .returned (.int .i64 (if x = 0 then y else x)) ∧ w' = w := by
  have HO : Hid ((x ≠ 0 → (if x = 0 then y else x) = x) ∧ (x = 0 → (if x = 0 then y else x) = y)) := ⟨fun h => if_neg h, fun h => if_pos h⟩
  generalize (if x = 0 then y else x) = r at *
  go_enter Tryz.func58, Tryz.ntmps58
  go_wp2
  go_loop [8] (fun z => ∃ i : Nat, z = .int .i64 i ∧ i ≤ 2 ∧ Hid ((1 ≤ i → x = 0) ∧ (2 ≤ i → y = 0))) (fun z => 2 - (intOf z).toNat)
  case atStart => exact ⟨0, rfl, by omega, ⟨fun h => absurd h (by omega), fun h => absurd h (by omega)⟩⟩
  case round =>
    obtain ⟨i, rfl, hi, hz⟩ := hrel
    have : i = 0 ∨ i = 1 ∨ i = 2 := by omega
    rcases this with rfl | rfl | rfl
    · by_cases h : x = 0
      · subst h
        go_wp2
        go_round
        case rel => exact ⟨1, rfl, by omega, ⟨fun _ => by trivial, fun h => absurd h (by omega)⟩⟩
        case measure => simp [intOf]
      · have hx : (x != 0) = true := by simp [h]
        have HR := Lib_hid (HO.out.1 h)
        go_wp2
        go_ret
        exact ⟨ret_i HR.out.symm, rfl⟩
    · have hx0 := hz.out.1 (by omega)
      have HR := Lib_hid (HO.out.2 hx0)
      by_cases h : y = 0
      · have HY := Lib_hid h
        subst h
        go_wp2
        go_round
        case rel => exact ⟨2, rfl, by omega, ⟨fun _ => hx0, fun _ => by trivial⟩⟩
        case measure => simp [intOf]
      · have hx : (y != 0) = true := by simp [h]
        go_wp2
        go_ret
        exact ⟨ret_i HR.out.symm, rfl⟩
    · have hx0 := hz.out.1 (by omega)
      have hy0 := hz.out.2 (by omega)
      have HR := Lib_hid ((HO.out.2 hx0).trans hy0)
      go_wp2
      go_ret
      exact ⟨ret_i HR.out.symm, rfl⟩
theorem docver_any (a b : Nat) (w : World) : Calls Tryz.prog 23 #[.agg #[.int .u64 (a : Int), .int .u64 (b : Int)]] w fun e w' => e = .returned (.agg #[.int .u64 (a : Int), .int .u64 (b : Int)]) ∧ Below w.heap.size w w' := by
  have hsz : (Tryz.prog.info? 33).map (·.size) = some 2 := by kernel_rfl
  have hb := (below_new w (.cells #[.int .u64 (a : Int), .int .u64 (b : Int)] 24)).alloc (by simp) (.cells #[.int .u64 (a : Int), .int .u64 (b : Int)] 33)
  have hh := heap_alloc_new (w.alloc (.cells #[.int .u64 (a : Int), .int .u64 (b : Int)] 24)) (.cells #[.int .u64 (a : Int), .int .u64 (b : Int)] 33)
  rw [show (w.alloc (.cells #[.int .u64 (a : Int), .int .u64 (b : Int)] 24)).heap.size = w.heap.size + 1 by simp] at hh
  go_enter Tryz.func23, Tryz.ntmps23
  go_wp2
  exact bodyPost_ret (results_cell_row (p := 2) (ty := 33) rfl _ _ (w.heap.size + 1) 33 #[.int .u64 (a : Int), .int .u64 (b : Int)] (0, 0) _ rfl hh Tryz.underlying33 rfl hsz) rfl ⟨rfl, hb⟩
theorem cmpV_eq {a b c d : Nat} (h : a = c ∧ b = d) : cmpV a b c d = 0 := by
  obtain ⟨rfl, rfl⟩ := h
  simp [cmpV, cmpN]
theorem cmpV_lt {a b c d : Nat} (h : a < c ∨ a = c ∧ b < d) : cmpV a b c d = -1 := by
  rcases h with h | ⟨rfl, h⟩
  · simp [cmpV, cmpN, h]
  · simp [cmpV, cmpN, h]
theorem cmpV_gt {a b c d : Nat} (h : ¬ (a = c ∧ b = d)) (h2 : ¬ (a < c ∨ a = c ∧ b < d)) : cmpV a b c d = 1 := by
  by_cases he : a = c
  · subst he
    have h3 : d < b := by omega
    have h4 : ¬ b < d := by omega
    simp [cmpV, cmpN, h3, h4]
  · have h3 : c < a := by omega
    have h4 : ¬ a < c := by omega
    simp [cmpV, cmpN, h3, h4]
set_option maxRecDepth 100000 in
set_option maxHeartbeats 1600000 in
theorem rcmp5_any (a b c d : Nat) (w : World) : Calls Tryz.prog 25 #[.agg #[.int .u64 (a : Int), .int .u64 (b : Int)], .agg #[.int .u64 (c : Int), .int .u64 (d : Int)]] w fun e w' => e = .returned (.int .i64 (cmpV a b c d)) ∧ Below w.heap.size w w' := by
  have PF : Hid (∀ z, z = cmpV a b c d → Ending.returned (.int .i64 z) = .returned (.int .i64 (cmpV a b c d)) ∧ Below w.heap.size w ((w.alloc (.cells #[.int .u64 (a : Int), .int .u64 (b : Int)] 33)).alloc (.cells #[.int .u64 (c : Int), .int .u64 (d : Int)] 33))) := fun z h => ⟨ret_i h, (below_new w _).alloc (by simp) _⟩
  by_cases h1 : a = c
  · by_cases h2 : b = d
    · have HC := Lib_hid (cmpV_eq ⟨h1, h2⟩)
      subst h1 h2
      go_enter Tryz.func25, Tryz.ntmps25
      go_wp2
      go_ret
      exact PF.out _ HC.out.symm
    · by_cases h3 : b < d
      · have HC := Lib_hid (cmpV_lt (.inr ⟨h1, h3⟩))
        subst h1
        have h4 : (b : Int) < d := by omega
        have h5 : ¬ (a : Int) < a := by omega
        go_enter Tryz.func25, Tryz.ntmps25
        go_wp2
        go_ret
        exact PF.out _ HC.out.symm
      · have HC := Lib_hid (cmpV_gt (a := a) (b := b) (c := c) (d := d) (by omega) (by omega))
        subst h1
        have h4 : ¬ (b : Int) < d := by omega
        have h5 : ¬ (a : Int) < a := by omega
        go_enter Tryz.func25, Tryz.ntmps25
        go_wp2
        go_ret
        exact PF.out _ HC.out.symm
  · by_cases h3 : a < c
    · have HC := Lib_hid (cmpV_lt (b := b) (d := d) (.inl h3))
      have h4 : (a : Int) < c := by omega
      go_enter Tryz.func25, Tryz.ntmps25
      go_wp2
      go_ret
      exact PF.out _ HC.out.symm
    · have HC := Lib_hid (cmpV_gt (a := a) (b := b) (c := c) (d := d) (by omega) (by omega))
      have h4 : ¬ (a : Int) < c := by omega
      go_enter Tryz.func25, Tryz.ntmps25
      go_wp2
      go_ret
      exact PF.out _ HC.out.symm
end Go.Proofs.YtiiiklenhmhccaaGreatDoor
