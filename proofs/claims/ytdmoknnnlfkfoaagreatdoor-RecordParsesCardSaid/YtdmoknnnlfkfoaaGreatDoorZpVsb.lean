/-
  Layer 5: of each part the function that writes it.
  Layer 5: Put, the program's.
  Layer 5: what a record stands as is bytes.
-/
import Derived.Test.YtdmoknnnlfkfoaaGreatDoorZpUsl
import Derived.Test.YtdmoknnnlfkfoaaGreatDoorZpTrw
import Derived.Test.YtdmoknnnlfkfoaaGreatDoorZpTpb
import Derived.Test.YtdmoknnnlfkfoaaGreatDoorZpTcf

namespace Go.Proofs.YtdmoknnnlfkfoaaGreatDoor
open Go Go.RowKit
set_option linter.unusedVariables false
def VPost (g : Nat) (v : Value) (ys : List Nat) (w : World) (e : Ending) (w' : World) : Prop :=
  ∃ A n c, e = .returned (.tuple #[]) ∧ Wr 115 5 w' g A n c ys ∧ WStp w w' g v (.slice A n c)
theorem away_new {w : World} {g n c b m : Nat} {A : Option Addr} {E : TypeId} {B : Nat} {ys : List Value} (hg : g < b) (ho : w.ownsRow B E 1 (.slice A n c) n ys) (hb : w.heap.size ≤ b) : Away g (.slice A n c) (some ⟨b, 0, none⟩) m := by
  intro _ ad e
  injection e with e
  subst e
  refine ⟨by show b ≠ g; omega, fun h => ?_⟩
  have := own_lt ho b h.symm
  omega
def En.stand (e : En) : List Nat := encs [e.x, e.w, e.n] ++ [if e.m then 1 else 0]
def Rc.standP (r : Rc) (i : Nat) : List Nat :=
  if i = 0 then enc r.t else if i = 1 then enc r.x else if i = 2 then encs [r.w, r.n] else if i = 3 then enc r.v else if i = 4 then enc r.p.put.length ++ r.p.put else enc r.es.length ++ r.es.flatMap En.stand
theorem encs_one (a : Nat) : encs [a] = enc a := by simp [encs]
theorem wnumber_new {g n c : Nat} {A : Option Addr} {ys : List Nat} {W : World} (h : Wr 115 5 W g A n c ys) (hn : n ≤ 100000) (l : List Nat) (cs : Array Value) (hcs : cs = (us l).toArray) (h64 : ∀ x ∈ l, (x : Int) ≤ 18446744073709551615) (hl : l.length ≤ 1000)
    (E : TypeId) (b : Nat) (hb : b = W.heap.size) (m : Nat) (hm : m = l.length) :
    Calls Tryz.prog 108 #[.pointer (some ⟨g, 0, none⟩), .slice (some ⟨b, 0, none⟩) m m] (W.alloc (.cells cs E)) (WPost 115 5 g (.slice A n c) (ys ++ encs l) W) := by
  subst hb hm hcs
  have hk := h.kept (below_new W (.cells (us l).toArray E))
  have hr := rd_row (size := 1) (n := l.length) (heap_alloc_new W (.cells (us l).toArray E)) (by rw [us_length]; omega)
  refine (wnumber_any g A n c ys _ hk hn _ _ l.length l.length l hr h64 (by omega) (by simp) (away_new h.lt h.own (Nat.le_refl _))).mono ?_
  rintro e w' ⟨A', n', c', he, hw, hs⟩
  exact ⟨A', n', c', he, hw, (WStp.of g (Stp.alloc W _ _)).trans hs⟩
set_option maxHeartbeats 800000 in
theorem putT_any (r : Rv) (g n c : Nat) (A : Option Addr) (ys : List Nat) (w : World) (h : Wr 115 5 w g A n c ys) (hn : n ≤ 100000) (ht : (r.t : Int) ≤ 18446744073709551615) :
    Calls Tryz.prog 107 #[r.val, .pointer (some ⟨g, 0, none⟩)] w (VPost g (.slice A n c) (ys ++ r.abs.standP 0) w) := by
  obtain ⟨k, t, x, wn, nn, v, p, Ae, ce, es⟩ := r
  have hW1 := h.kept (below_new w (.cells #[.int .i64 k, .int .u64 (t : Int), .int .u64 (x : Int), .int .u64 (wn : Int), .int .u64 (nn : Int), .int .u64 (v : Int), .int .i64 p.kind, .int .u64 (p.a : Int), .int .u64 (p.b : Int), .slice p.addr p.parts.length p.cap, .slice Ae es.length ce] 47))
  have N := wnumber_new hW1 hn [t] #[.int .u64 (t : Int)] rfl (by intro y hy; obtain rfl : y = t := (by simpa using hy); exact ht) (by simp) 29 (w.heap.size + 1) (by simp) 1 rfl
  have HS := WStp.of g (Stp.alloc w (.cells #[.int .i64 k, .int .u64 (t : Int), .int .u64 (x : Int), .int .u64 (wn : Int), .int .u64 (nn : Int), .int .u64 (v : Int), .int .i64 p.kind, .int .u64 (p.a : Int), .int .u64 (p.b : Int), .slice p.addr p.parts.length p.cap, .slice Ae es.length ce] 47) (.slice A n c))
  show Calls Tryz.prog 107 #[.agg #[.int .i64 k, .int .u64 (t : Int), .int .u64 (x : Int), .int .u64 (wn : Int), .int .u64 (nn : Int), .int .u64 (v : Int), .int .i64 p.kind, .int .u64 (p.a : Int), .int .u64 (p.b : Int), .slice p.addr p.parts.length p.cap, .slice Ae es.length ce], .pointer (some ⟨g, 0, none⟩)] w (VPost g (.slice A n c) (ys ++ enc t) w)
  rw [← encs_one]
  go_enter Tryz.func107, Tryz.ntmps107
  go_wp2_with fail
  refine N.mono ?_
  rintro e w1 ⟨A', n', c', rfl, hw, hs⟩
  replace hs := HS.trans hs
  clear HS N hW1
  go_wp2
  go_end0
  exact ⟨A', n', c', rfl, hw, hs⟩
set_option maxHeartbeats 800000 in
theorem putX_any (r : Rv) (g n c : Nat) (A : Option Addr) (ys : List Nat) (w : World) (h : Wr 115 5 w g A n c ys) (hn : n ≤ 100000) (hx : (r.x : Int) ≤ 18446744073709551615) :
    Calls Tryz.prog 117 #[r.val, .pointer (some ⟨g, 0, none⟩)] w (VPost g (.slice A n c) (ys ++ r.abs.standP 1) w) := by
  obtain ⟨k, t, x, wn, nn, v, p, Ae, ce, es⟩ := r
  have hW1 := h.kept (below_new w (.cells #[.int .i64 k, .int .u64 (t : Int), .int .u64 (x : Int), .int .u64 (wn : Int), .int .u64 (nn : Int), .int .u64 (v : Int), .int .i64 p.kind, .int .u64 (p.a : Int), .int .u64 (p.b : Int), .slice p.addr p.parts.length p.cap, .slice Ae es.length ce] 47))
  have N := wnumber_new hW1 hn [x] #[.int .u64 (x : Int)] rfl (by intro y hy; obtain rfl : y = x := (by simpa using hy); exact hx) (by simp) 29 (w.heap.size + 1) (by simp) 1 rfl
  have HS := WStp.of g (Stp.alloc w (.cells #[.int .i64 k, .int .u64 (t : Int), .int .u64 (x : Int), .int .u64 (wn : Int), .int .u64 (nn : Int), .int .u64 (v : Int), .int .i64 p.kind, .int .u64 (p.a : Int), .int .u64 (p.b : Int), .slice p.addr p.parts.length p.cap, .slice Ae es.length ce] 47) (.slice A n c))
  show Calls Tryz.prog 117 #[.agg #[.int .i64 k, .int .u64 (t : Int), .int .u64 (x : Int), .int .u64 (wn : Int), .int .u64 (nn : Int), .int .u64 (v : Int), .int .i64 p.kind, .int .u64 (p.a : Int), .int .u64 (p.b : Int), .slice p.addr p.parts.length p.cap, .slice Ae es.length ce], .pointer (some ⟨g, 0, none⟩)] w (VPost g (.slice A n c) (ys ++ enc x) w)
  rw [← encs_one]
  go_enter Tryz.func117, Tryz.ntmps117
  go_wp2_with fail
  refine N.mono ?_
  rintro e w1 ⟨A', n', c', rfl, hw, hs⟩
  replace hs := HS.trans hs
  clear HS N hW1
  go_wp2
  go_end0
  exact ⟨A', n', c', rfl, hw, hs⟩
set_option maxHeartbeats 800000 in
theorem putV_any (r : Rv) (g n c : Nat) (A : Option Addr) (ys : List Nat) (w : World) (h : Wr 115 5 w g A n c ys) (hn : n ≤ 100000) (hw : (r.w : Int) ≤ 18446744073709551615) (hv2 : (r.n : Int) ≤ 18446744073709551615) :
    Calls Tryz.prog 123 #[r.val, .pointer (some ⟨g, 0, none⟩)] w (VPost g (.slice A n c) (ys ++ r.abs.standP 2) w) := by
  obtain ⟨k, t, x, wn, nn, v, p, Ae, ce, es⟩ := r
  have hW1 := h.kept (below_new w (.cells #[.int .i64 k, .int .u64 (t : Int), .int .u64 (x : Int), .int .u64 (wn : Int), .int .u64 (nn : Int), .int .u64 (v : Int), .int .i64 p.kind, .int .u64 (p.a : Int), .int .u64 (p.b : Int), .slice p.addr p.parts.length p.cap, .slice Ae es.length ce] 47))
  have N := wnumber_new hW1 hn [wn, nn] #[.int .u64 (wn : Int), .int .u64 (nn : Int)] rfl (by intro y hy; simp only [List.mem_cons, List.not_mem_nil, or_false] at hy; rcases hy with rfl | rfl <;> first | exact hw | exact hv2) (by simp) 29 (w.heap.size + 1) (by simp) 2 rfl
  have HS := WStp.of g (Stp.alloc w (.cells #[.int .i64 k, .int .u64 (t : Int), .int .u64 (x : Int), .int .u64 (wn : Int), .int .u64 (nn : Int), .int .u64 (v : Int), .int .i64 p.kind, .int .u64 (p.a : Int), .int .u64 (p.b : Int), .slice p.addr p.parts.length p.cap, .slice Ae es.length ce] 47) (.slice A n c))
  show Calls Tryz.prog 123 #[.agg #[.int .i64 k, .int .u64 (t : Int), .int .u64 (x : Int), .int .u64 (wn : Int), .int .u64 (nn : Int), .int .u64 (v : Int), .int .i64 p.kind, .int .u64 (p.a : Int), .int .u64 (p.b : Int), .slice p.addr p.parts.length p.cap, .slice Ae es.length ce], .pointer (some ⟨g, 0, none⟩)] w (VPost g (.slice A n c) (ys ++ encs [wn, nn]) w)
  go_enter Tryz.func123, Tryz.ntmps123
  go_wp2_with fail
  refine N.mono ?_
  rintro e w1 ⟨A', n', c', rfl, hw, hs⟩
  replace hs := HS.trans hs
  clear HS N hW1
  go_wp2
  go_end0
  exact ⟨A', n', c', rfl, hw, hs⟩
set_option maxHeartbeats 800000 in
theorem putValue_any (r : Rv) (g n c : Nat) (A : Option Addr) (ys : List Nat) (w : World) (h : Wr 115 5 w g A n c ys) (hn : n ≤ 100000) (hv : (r.v : Int) ≤ 18446744073709551615) :
    Calls Tryz.prog 131 #[r.val, .pointer (some ⟨g, 0, none⟩)] w (VPost g (.slice A n c) (ys ++ r.abs.standP 3) w) := by
  obtain ⟨k, t, x, wn, nn, v, p, Ae, ce, es⟩ := r
  have hW1 := h.kept (below_new w (.cells #[.int .i64 k, .int .u64 (t : Int), .int .u64 (x : Int), .int .u64 (wn : Int), .int .u64 (nn : Int), .int .u64 (v : Int), .int .i64 p.kind, .int .u64 (p.a : Int), .int .u64 (p.b : Int), .slice p.addr p.parts.length p.cap, .slice Ae es.length ce] 47))
  have N := wnumber_new hW1 hn [v] #[.int .u64 (v : Int)] rfl (by intro y hy; obtain rfl : y = v := (by simpa using hy); exact hv) (by simp) 29 (w.heap.size + 1) (by simp) 1 rfl
  have HS := WStp.of g (Stp.alloc w (.cells #[.int .i64 k, .int .u64 (t : Int), .int .u64 (x : Int), .int .u64 (wn : Int), .int .u64 (nn : Int), .int .u64 (v : Int), .int .i64 p.kind, .int .u64 (p.a : Int), .int .u64 (p.b : Int), .slice p.addr p.parts.length p.cap, .slice Ae es.length ce] 47) (.slice A n c))
  show Calls Tryz.prog 131 #[.agg #[.int .i64 k, .int .u64 (t : Int), .int .u64 (x : Int), .int .u64 (wn : Int), .int .u64 (nn : Int), .int .u64 (v : Int), .int .i64 p.kind, .int .u64 (p.a : Int), .int .u64 (p.b : Int), .slice p.addr p.parts.length p.cap, .slice Ae es.length ce], .pointer (some ⟨g, 0, none⟩)] w (VPost g (.slice A n c) (ys ++ enc v) w)
  rw [← encs_one]
  go_enter Tryz.func131, Tryz.ntmps131
  go_wp2_with fail
  refine N.mono ?_
  rintro e w1 ⟨A', n', c', rfl, hw, hs⟩
  replace hs := HS.trans hs
  clear HS N hW1
  go_wp2
  go_end0
  exact ⟨A', n', c', rfl, hw, hs⟩
theorem away_own {w : World} {g B B2 n c n2 c2 m sz : Nat} {A A2 : Option Addr} {E E2 : TypeId} {ys zs : List Value} (hB : w.heap.size ≤ B) (ho : w.ownsRow B2 E2 1 (.slice A2 n2 c2) n2 ys) (hg : g < w.heap.size) {W : World} (h : W.ownsRow B E sz (.slice A n c) n zs) : Away g (.slice A2 n2 c2) A m := by
  intro _ ad e
  subst e
  rcases h.2 with ⟨e, _⟩ | ⟨b, cap, cur, e, h1, _⟩
  · cases e
  · have hb := own_ge h b (by rw [e]; rfl)
    have e2 : ad = ⟨b, 0, none⟩ := by injection e with e; injection e
    subst e2
    refine ⟨by show b ≠ g; omega, fun h => ?_⟩
    have := own_lt ho b h.symm
    omega
theorem put_len {w : World} {lo hi : Nat} {p : V} (h : Lies w lo hi p) : p.abs.put.length ≤ 992 := by
  unfold T.put
  split
  · rename_i hr
    have := stand_len p h
    have := (right_all hr).2
    omega
  · simp
set_option maxHeartbeats 800000 in
theorem putP_any (r : Rv) (g n c : Nat) (A : Option Addr) (ys : List Nat) (w : World) (h : Wr 115 5 w g A n c ys) (hn : n ≤ 100000) (lo hi : Nat) (hL : RLies w lo hi r) (hhi : hi ≤ w.heap.size) :
    Calls Tryz.prog 137 #[r.val, .pointer (some ⟨g, 0, none⟩)] w (VPost g (.slice A n c) (ys ++ r.abs.standP 4) w) := by
  obtain ⟨k, t, x, wn, nn, v, p, Ae, ce, es⟩ := r
  have hb1 := below_new w (.cells #[.int .i64 k, .int .u64 (t : Int), .int .u64 (x : Int), .int .u64 (wn : Int), .int .u64 (nn : Int), .int .u64 (v : Int), .int .i64 p.kind, .int .u64 (p.a : Int), .int .u64 (p.b : Int), .slice p.addr p.parts.length p.cap, .slice Ae es.length ce] 47)
  have hW1 := h.kept hb1
  have PP := pput_any p _ lo hi (hL.p.under (hb1.mono hhi)) (Nat.le_trans hhi hb1.size)
  have HS := WStp.of g (Stp.alloc w (.cells #[.int .i64 k, .int .u64 (t : Int), .int .u64 (x : Int), .int .u64 (wn : Int), .int .u64 (nn : Int), .int .u64 (v : Int), .int .i64 p.kind, .int .u64 (p.a : Int), .int .u64 (p.b : Int), .slice p.addr p.parts.length p.cap, .slice Ae es.length ce] 47) (.slice A n c))
  have hpl : p.abs.put.length ≤ 100000 := Nat.le_trans (put_len hL.p) (by omega)
  show Calls Tryz.prog 137 #[.agg #[.int .i64 k, .int .u64 (t : Int), .int .u64 (x : Int), .int .u64 (wn : Int), .int .u64 (nn : Int), .int .u64 (v : Int), .int .i64 p.kind, .int .u64 (p.a : Int), .int .u64 (p.b : Int), .slice p.addr p.parts.length p.cap, .slice Ae es.length ce], .pointer (some ⟨g, 0, none⟩)] w (VPost g (.slice A n c) (ys ++ (enc p.abs.put.length ++ p.abs.put)) w)
  simp only [V.val, V.sl] at PP
  go_enter Tryz.func137, Tryz.ntmps137
  go_wp2_with fail
  refine PP.mono ?_
  rintro e w1 ⟨A1, c1, rfl, ho1, hb1⟩
  have hW2 := hW1.kept hb1
  have T := wtext_any g A n c ys w1 hW2 hn _ A1 p.abs.put.length c1 p.abs.put (Rd.own ho1) hpl (Nat.le_refl _) (away_own (Nat.le_refl _) hW1.own hW1.lt ho1)
  have HS2 := HS.trans (WStp.of g ⟨⟨hb1.os, hb1.tape, hb1.output, hb1.size, fun k hk _ => hb1.block k hk⟩, .inl rfl⟩)
  rw [List.append_assoc] at T
  clear HS PP hW1 ho1 hb1
  generalize enc p.abs.put.length ++ p.abs.put = zs at *
  go_wp2_with fail
  refine T.mono ?_
  rintro e w2 ⟨A', n', c', rfl, hw, hs⟩
  replace hs := HS2.trans hs
  clear HS2 T
  go_wp2
  go_end0
  exact ⟨A', n', c', rfl, hw, hs⟩
theorem wraw_new {g n c : Nat} {A : Option Addr} {ys : List Nat} {W : World} (h : Wr 115 5 W g A n c ys) (hn : n ≤ 100000) (l : List Nat) (cs : Array Value) (hcs : cs = (bs l).toArray) (hl : l.length ≤ 1000)
    (E : TypeId) (b : Nat) (hb : b = W.heap.size) (m : Nat) (hm : m = l.length) :
    Calls Tryz.prog 182 #[.pointer (some ⟨g, 0, none⟩), .slice (some ⟨b, 0, none⟩) m m] (W.alloc (.cells cs E)) (WPost 115 5 g (.slice A n c) (ys ++ l) W) := by
  subst hb hm hcs
  have hk := h.kept (below_new W (.cells (bs l).toArray E))
  have hr := rd_row (size := 1) (n := l.length) (heap_alloc_new W (.cells (bs l).toArray E)) (by rw [bs_length]; omega)
  refine (wraw_any g A n c ys _ hk hn _ _ l.length l.length l hr (by omega)).mono ?_
  rintro e w' ⟨A', n', c', he, hw, hs⟩
  exact ⟨A', n', c', he, hw, (WStp.of g (Stp.alloc W _ _)).trans hs⟩
theorem digit_any (m : Bool) (w : World) : Calls Tryz.prog 183 #[.bool m] w fun e w' => e = .returned (.int .u8 (((if m then 1 else 0 : Nat) : Nat) : Int)) ∧ w' = w := by
  cases m with
  | true =>
    go_enter Tryz.func183, Tryz.ntmps183
    go_wp2
    go_ret
    exact ⟨rfl, rfl⟩
  | false =>
    go_enter Tryz.func183, Tryz.ntmps183
    go_wp2
    go_ret
    exact ⟨rfl, rfl⟩
theorem en_nth {w : World} {hi : Nat} {A : Option Addr} {es : List En} (h : Rd w hi 4 A es.length (enCells es)) {i : Nat} (hi' : i < es.length) :
    ∃ (b off : Nat) (e : En), A = some ⟨b, off, none⟩ ∧ b < hi ∧ es[i]? = some e ∧ w.cell? ⟨b, off + i * 4, none⟩ = some (.int .u64 (e.x : Int)) ∧ w.cell? ⟨b, off + i * 4 + 1, none⟩ = some (.int .u64 (e.w : Int)) ∧ w.cell? ⟨b, off + i * 4 + 2, none⟩ = some (.int .u64 (e.n : Int)) ∧ w.cell? ⟨b, off + i * 4 + 3, none⟩ = some (.bool e.m) := by
  have hx : es[i]? = some (es[i]) := List.getElem?_eq_getElem hi'
  obtain ⟨ad, e, hb, hc⟩ := h.lies (by omega)
  obtain ⟨bb, off, spot⟩ := ad
  have h0 : es[0]? = some (es[0]'(by omega)) := List.getElem?_eq_getElem (by omega)
  have hspot : spot = none := World.cell?_spot (a := ⟨bb, off, spot⟩) (hc 0 _ (enCells_get es 0 0 _ h0 (by omega)))
  subst hspot
  have hc4 : ∀ j u, j < 4 → (En.cells (es[i]'hi'))[j]? = some u → w.cell? ⟨bb, off + i * 4 + j, none⟩ = some u := by
    intro j u hj hu
    have := hc (i * 4 + j) u ((enCells_get es i j _ hx hj).trans hu)
    rw [show (⟨bb, off, none⟩ : Addr).add (i * 4 + j) = ⟨bb, off + (i * 4 + j), none⟩ by unfold Addr.add; split <;> simp_all, ← Nat.add_assoc] at this
    exact this
  exact ⟨bb, off, _, e, hb, hx, hc4 0 _ (by omega) rfl, hc4 1 _ (by omega) rfl, hc4 2 _ (by omega) rfl, hc4 3 _ (by omega) rfl⟩
def esS (es : List En) (i : Nat) : List Nat := (es.take i).flatMap En.stand
theorem esS_snoc {es : List En} {i : Nat} {e : En} (h : es[i]? = some e) : esS es (i + 1) = esS es i ++ e.stand := by
  unfold esS; rw [take_one h]; simp
theorem En.stand_len {e : En} (h : e.ok) : e.stand.length ≤ 31 := by
  have := encs_le [e.x, e.w, e.n] (by intro y hy; simp only [List.mem_cons, List.not_mem_nil, or_false] at hy; obtain ⟨h1, h2, h3⟩ := h; rcases hy with rfl | rfl | rfl <;> assumption)
  simp [En.stand] at *
  omega
theorem esS_len {es : List En} (h : ∀ e ∈ es, e.ok) : ∀ i, (esS es i).length ≤ 31 * i := by
  intro i
  induction i with
  | zero => simp [esS]
  | succ i ih =>
    by_cases hi : i < es.length
    · rw [esS_snoc (List.getElem?_eq_getElem hi), List.length_append]
      have := En.stand_len (h _ (List.getElem_mem hi))
      omega
    · have : esS es (i + 1) = esS es i := by unfold esS; rw [List.take_of_length_le (by omega), List.take_of_length_le (by omega)]
      rw [this]; omega
set_option maxRecDepth 100000 in
set_option maxHeartbeats 3200000 in
theorem pute_any (g n c hi ce : Nat) (A Ae : Option Addr) (ys : List Nat) (es : List En) (w : World) (h : Wr 115 5 w g A n c ys) (hn : n ≤ 20000) (hrd : Rd w hi 4 Ae es.length (enCells es)) (hok : ∀ e ∈ es, e.ok) (hlen : es.length ≤ 1000) (hcap : es.length ≤ ce ∧ ce ≤ 9223372036854775807) (hhi : hi ≤ w.heap.size) (hg : hi ≤ g) :
    Calls Tryz.prog 149 #[.pointer (some ⟨g, 0, none⟩), .slice Ae es.length ce] w (VPost g (.slice A n c) (ys ++ (enc es.length ++ es.flatMap En.stand)) w) := by
  have hyl : ys.length = n := by have := h.own.1; rw [bs_length] at this; omega
  have N := wnumber_new h (by omega) [es.length] #[.int .u64 (es.length : Int)] rfl (by intro y hy; obtain rfl : y = es.length := (by simpa using hy); omega) (by simp) 29 w.heap.size rfl 1 rfl
  rw [encs_one] at N
  have HV : Hid (∀ k, (Value.slice A n c).ownBlock = some k → hi ≤ k) := fun k hk => Nat.le_trans hg (Nat.le_of_succ_le (own_ge h.own k hk))
  have HR : Hid (∀ W A' n' c', WStp w W g (.slice A n c) (.slice A' n' c') → Rd W hi 4 Ae es.length (enCells es)) := fun W A' n' c' hW => hrd.below (hW.below hhi hg HV.out)
  have HO := Lib_hid hok
  have HL := Lib_hid (esS_len hok)
  have HE : Hid (esS es es.length = es.flatMap En.stand ∧ esS es 0 = []) := ⟨by unfold esS; rw [List.take_length], by simp [esS]⟩
  have het := enc_ten (v := es.length) (by omega)
  have HY : Hid (ys.length = n ∧ (enc es.length).length ≤ 10) := ⟨hyl, het⟩
  clear hrd hok hyl het h
  go_enter Tryz.func149, Tryz.ntmps149
  go_wp2_with fail
  refine N.mono ?_
  rintro e w1 ⟨A1, n1, c1, rfl, hw1, hs1⟩
  clear N
  go_wp2
  go_loopw [14] (fun z wr => ∃ (i n' c' : Nat) (A' : Option Addr), z = .int .i64 i ∧ i ≤ es.length ∧ Hid (Wr 115 5 wr g A' n' c' (ys ++ enc es.length ++ esS es i)) ∧ Hid (WStp w wr g (.slice A n c) (.slice A' n' c'))) (fun z _ => es.length - (intOf z).toNat)
  case atStart => exact ⟨0, n1, c1, A1, rfl, Nat.zero_le _, Lib_hid (by rw [HE.out.2, List.append_nil]; exact hw1), hs1⟩
  case round =>
    clear hw1 hs1
    obtain ⟨i, n', c', A', rfl, hi1, hw, hs⟩ := hrel
    by_cases hlt : i < es.length
    · obtain ⟨b, off, e, rfl, hbh, he, d0, d1, d2, d3⟩ := en_nth (HR.out _ _ _ _ hs.out) hlt
      have hn' : n' ≤ 60000 := by
        have h1 := hw.out.own.1
        rw [bs_length, List.length_append, List.length_append] at h1
        have := HL.out i
        have := HY.out
        omega
      have hokE := HO.out e (List.mem_of_getElem? he)
      have HS : Hid (esS es (i + 1) = esS es i ++ e.stand) := esS_snoc he
      have hw2 := hw.out.kept (below_new wr (.cells #[.int .u64 (e.x : Int), .int .u64 (e.w : Int), .int .u64 (e.n : Int), .bool e.m] 67))
      have hp2 := heap_alloc_new wr (.cells #[.int .u64 (e.x : Int), .int .u64 (e.w : Int), .int .u64 (e.n : Int), .bool e.m] 67)
      have hs2 := hs.out.trans (WStp.of g (Stp.alloc wr (.cells #[.int .u64 (e.x : Int), .int .u64 (e.w : Int), .int .u64 (e.n : Int), .bool e.m] 67) (.slice A' n' c')))
      have hgw := hw.out.lt
      have hown := own_lt hw.out.own
      obtain ⟨ex, ew, en⟩ := hokE
      clear hw hs
      go_upto_region 4 with (fail)
      generalize wr.alloc (.cells #[.int .u64 (e.x : Int), .int .u64 (e.w : Int), .int .u64 (e.n : Int), .bool e.m] 67) = w2 at *
      have hsz2 := lt_of_block hp2
      have q0 : w2.cell? ⟨wr.heap.size, 0, none⟩ = some (.int .u64 (e.x : Int)) := cell_of_row w2 _ 0 _ _ _ hp2
      have q1 : w2.cell? ⟨wr.heap.size, 1, none⟩ = some (.int .u64 (e.w : Int)) := cell_of_row w2 _ 1 _ _ _ hp2
      have q2 : w2.cell? ⟨wr.heap.size, 2, none⟩ = some (.int .u64 (e.n : Int)) := cell_of_row w2 _ 2 _ _ _ hp2
      have N := wnumber_new hw2 (by omega) [e.x, e.w, e.n] #[.int .u64 (e.x : Int), .int .u64 (e.w : Int), .int .u64 (e.n : Int)] rfl (by intro y hy; simp only [List.mem_cons, List.not_mem_nil, or_false] at hy; rcases hy with rfl | rfl | rfl <;> assumption) (by simp) 29 w2.heap.size rfl 3 rfl
      have HL3 : Hid (∀ m, (ys ++ enc es.length ++ esS es i ++ encs [e.x, e.w, e.n]).length = m → m ≤ 90000) := fun m hm => by
        have h1 := HL.out i
        have h2 := HY.out
        have h3 := encs_le [e.x, e.w, e.n] (by intro y hy; simp only [List.mem_cons, List.not_mem_nil, or_false] at hy; rcases hy with rfl | rfl | rfl <;> assumption)
        simp only [List.length_append, List.length_cons, List.length_nil] at hm h3
        omega
      clear d0 d1 d2 d3
      go_wp2_with fail
      refine N.mono ?_
      rintro _ w3 ⟨A3, n3, c3, rfl, hw3, hs3⟩
      have hp3 := (hs3.block wr.heap.size hsz2 (by omega) (fun h => by have := hown _ h.symm; omega)).trans hp2
      have m3 : w3.cell? ⟨wr.heap.size, 3, none⟩ = some (.bool e.m) := cell_of_row w3 _ 3 _ _ _ hp3
      have hs3' := hs2.trans hs3
      have hn3 : n3 ≤ 100000 := by
        have h1 := hw3.own.1
        rw [bs_length] at h1
        have := HL3.out _ h1
        omega
      clear N q0 q1 q2 hp3 hp2 hs2 hs3 hw2 hown
      go_wp2_with fail
      refine (digit_any e.m _).mono ?_
      rintro _ w4 ⟨rfl, rfl⟩
      have HD : Hid (e.stand = encs [e.x, e.w, e.n] ++ [if e.m then 1 else 0]) := rfl
      have R := wraw_new hw3 hn3 [if e.m then 1 else 0] #[.int .u8 (((if e.m then 1 else 0 : Nat) : Nat) : Int)] rfl (by simp) 5 w4.heap.size rfl 1 rfl
      have HWR : Hid (∀ A5 n5 c5 W, Wr 115 5 W g A5 n5 c5 (ys ++ enc es.length ++ esS es i ++ encs [e.x, e.w, e.n] ++ [if e.m then 1 else 0]) → Wr 115 5 W g A5 n5 c5 (ys ++ enc es.length ++ esS es (i + 1))) := fun A5 n5 c5 W h => by
        rw [HS.out, HD.out, ← List.append_assoc, ← List.append_assoc]
        exact h
      clear hw3 m3
      generalize (if e.m then 1 else 0 : Nat) = dg at *
      go_wp2_with fail
      refine R.mono ?_
      rintro _ w5 ⟨A5, n5, c5, rfl, hw5, hs5⟩
      have hw6 := Lib_hid (HWR.out _ _ _ _ hw5)
      have hs6 := Lib_hid (hs3'.trans hs5)
      clear R hw5 hs5 hs3' HWR
      go_wp2
      go_roundw
      case rel => exact ⟨i + 1, n5, c5, A5, by go_num, by omega, hw6, hs6⟩
      case measure => simp [intOf]; omega
    · obtain rfl : i = es.length := by omega
      have HF : Hid (Wr 115 5 wr g A' n' c' (ys ++ (enc es.length ++ es.flatMap En.stand))) := by
        have := hw.out
        rw [HE.out.1, List.append_assoc] at this
        exact this
      go_wp2
      go_end0
      exact ⟨A', n', c', rfl, HF.out, hs.out⟩
end Go.Proofs.YtdmoknnnlfkfoaaGreatDoor

namespace Go.Proofs.YtdmoknnnlfkfoaaGreatDoor
open Go Go.RowKit
set_option linter.unusedVariables false
set_option maxHeartbeats 800000 in
theorem putEntries_any (r : Rv) (g n c : Nat) (A : Option Addr) (ys : List Nat) (w : World) (h : Wr 115 5 w g A n c ys) (hn : n ≤ 20000) (lo hi : Nat) (hL : RLies w lo hi r) (hlen : r.es.length ≤ 1000) (hhi : hi ≤ w.heap.size) (hg : hi ≤ g) :
    Calls Tryz.prog 148 #[r.val, .pointer (some ⟨g, 0, none⟩)] w (VPost g (.slice A n c) (ys ++ r.abs.standP 5) w) := by
  obtain ⟨k, t, x, wn, nn, v, p, Ae, ce, es⟩ := r
  have hb1 := below_new w (.cells #[.int .i64 k, .int .u64 (t : Int), .int .u64 (x : Int), .int .u64 (wn : Int), .int .u64 (nn : Int), .int .u64 (v : Int), .int .i64 p.kind, .int .u64 (p.a : Int), .int .u64 (p.b : Int), .slice p.addr p.parts.length p.cap, .slice Ae es.length ce] 47)
  have E := pute_any g n c hi ce A Ae ys es _ (h.kept hb1) hn (hL.es.below (hb1.mono hhi)) hL.ok hlen hL.cap (Nat.le_trans hhi hb1.size) hg
  have HS := WStp.of g (Stp.alloc w (.cells #[.int .i64 k, .int .u64 (t : Int), .int .u64 (x : Int), .int .u64 (wn : Int), .int .u64 (nn : Int), .int .u64 (v : Int), .int .i64 p.kind, .int .u64 (p.a : Int), .int .u64 (p.b : Int), .slice p.addr p.parts.length p.cap, .slice Ae es.length ce] 47) (.slice A n c))
  show Calls Tryz.prog 148 #[.agg #[.int .i64 k, .int .u64 (t : Int), .int .u64 (x : Int), .int .u64 (wn : Int), .int .u64 (nn : Int), .int .u64 (v : Int), .int .i64 p.kind, .int .u64 (p.a : Int), .int .u64 (p.b : Int), .slice p.addr p.parts.length p.cap, .slice Ae es.length ce], .pointer (some ⟨g, 0, none⟩)] w (VPost g (.slice A n c) (ys ++ (enc es.length ++ es.flatMap En.stand)) w)
  generalize enc es.length ++ es.flatMap En.stand = zs at *
  go_enter Tryz.func148, Tryz.ntmps148
  go_wp2_with fail
  refine E.mono ?_
  rintro e w1 ⟨A', n', c', rfl, hw, hs⟩
  replace hs := HS.trans hs
  clear HS E
  go_wp2
  go_end0
  exact ⟨A', n', c', rfl, hw, hs⟩
theorem put6_any (i : Nat) (hi6 : i < 6) (r : Rv) (g n c : Nat) (A : Option Addr) (ys : List Nat) (w : World) (h : Wr 115 5 w g A n c ys) (hn : n ≤ 20000) (lo hi : Nat) (hL : RLies w lo hi r) (hlen : r.es.length ≤ 1000) (hhi : hi ≤ w.heap.size) (hg : hi ≤ g) :
    Calls Tryz.prog (mputF i) #[r.val, .pointer (some ⟨g, 0, none⟩)] w (VPost g (.slice A n c) (ys ++ r.abs.standP i) w) := by
  have : i = 0 ∨ i = 1 ∨ i = 2 ∨ i = 3 ∨ i = 4 ∨ i = 5 := by omega
  rcases this with rfl | rfl | rfl | rfl | rfl | rfl
  · exact putT_any r g n c A ys w h (by omega) hL.t
  · exact putX_any r g n c A ys w h (by omega) hL.x
  · exact putV_any r g n c A ys w h (by omega) hL.wn hL.n
  · exact putValue_any r g n c A ys w h (by omega) hL.v
  · exact putP_any r g n c A ys w h (by omega) lo hi hL hhi
  · exact putEntries_any r g n c A ys w h hn lo hi hL hlen hhi hg
set_option maxRecDepth 100000 in
theorem call_put {i : Nat} (hi6 : i < 6) : ∀ (args : Array Value) (wx : World), (callFunc (mputF i) args).run Tryz.prog wx = .ok (.enter (mputF i) args) wx := by
  have : i = 0 ∨ i = 1 ∨ i = 2 ∨ i = 3 ∨ i = 4 ∨ i = 5 := by omega
  rcases this with rfl | rfl | rfl | rfl | rfl | rfl <;> exact fun args wx => by kernel_rfl
def Rc.standN (r : Rc) (l : List Nat) : List Nat := l.flatMap r.standP
def Rc.stand (r : Rc) : List Nat := r.standN (partsN r.kind 6)
theorem standN_snoc {r : Rc} {l : List Nat} {i j : Nat} (h : l[i]? = some j) : r.standN (l.take (i + 1)) = r.standN (l.take i) ++ r.standP j := by
  unfold Rc.standN; rw [take_one h]; simp
theorem partsN_lt {k : Int} {i j : Nat} (h : j ∈ partsN k i) : j < i := by
  simp only [partsN, List.mem_filter, List.mem_range] at h
  exact h.1
theorem standP_len {w : World} {lo hi : Nat} {r : Rv} (h : RLies w lo hi r) (hlen : r.es.length ≤ 100) (i : Nat) : (r.abs.standP i).length ≤ 3300 := by
  have h1 := enc_ten (v := r.t) (by have := h.t; omega)
  have h2 := enc_ten (v := r.x) (by have := h.x; omega)
  have h3 := encs_le [r.w, r.n] (by intro y hy; simp only [List.mem_cons, List.not_mem_nil, or_false] at hy; rcases hy with rfl | rfl; exact h.wn; exact h.n)
  have h4 := enc_ten (v := r.v) (by have := h.v; omega)
  have h5 := put_len h.p
  have h6 := enc_ten (v := r.p.abs.put.length) (by omega)
  have h7 := enc_ten (v := r.es.length) (by omega)
  have h8 := esS_len h.ok r.es.length
  have h9 : esS r.es r.es.length = r.es.flatMap En.stand := by unfold esS; rw [List.take_length]
  rw [h9] at h8
  simp only [List.length_cons, List.length_nil] at h3
  unfold Rc.standP Rv.abs
  simp only
  split; omega
  split; omega
  split; omega
  split; omega
  split
  · rw [List.length_append]; omega
  · rw [List.length_append]; omega
end Go.Proofs.YtdmoknnnlfkfoaaGreatDoor

namespace Go.Proofs.YtdmoknnnlfkfoaaGreatDoor
open Go Go.RowKit
set_option linter.unusedVariables false
end Go.Proofs.YtdmoknnnlfkfoaaGreatDoor
