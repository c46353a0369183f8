/-
  Layer 4: Put, on both sides.
  Layer 5: of each part the function that writes it.
  Layer 5: Same, the document's.
-/
import Derived.Test.YtiiiklenhmhccaaGreatDoorZpTrs
import Derived.Test.YtiiiklenhmhccaaGreatDoorZpTrw
import Derived.BigQuiet

namespace Go.Proofs.YtiiiklenhmhccaaGreatDoor
open Go Go.RowKit
set_option linter.unusedVariables false
def T.put (t : T) : List Nat := if t.rightB then t.stand else []
theorem right_all {t : T} (h : t.rightB = true) : t.allB = true ∧ t.count ≤ 32 := by
  unfold T.rightB at h
  simp only [Bool.and_eq_true, decide_eq_true_eq] at h
  exact ⟨h.1.1, h.2⟩
theorem pput_any (v : V) (w : World) (lo hi : Nat) (hL : Lies w lo hi v) (hhi : hi ≤ w.heap.size) :
    Calls Tryz.prog 136 #[v.val] w (Made 5 v.abs.put w) := by
  have hbx := heap_alloc_new w (.cells #[.int .i64 v.kind, .int .u64 (v.a : Int), .int .u64 (v.b : Int), v.sl] 27)
  have hb0 := below_new w (.cells #[.int .i64 v.kind, .int .u64 (v.a : Int), .int .u64 (v.b : Int), v.sl] 27)
  have hhi1 : hi ≤ (w.alloc (.cells #[.int .i64 v.kind, .int .u64 (v.a : Int), .int .u64 (v.b : Int), v.sl] 27)).heap.size := by have := hb0.size; omega
  have RR := pright_any v _ lo hi (hL.under (hb0.mono hhi)) hhi1
  have hPut : Hid (v.abs.put = if v.abs.rightB then v.abs.stand else []) := rfl
  have SS : Hid (∀ W, Below w.heap.size w W → v.abs.rightB = true → Calls Tryz.prog 172 #[.slice none 0 0, v.val] W (Grew 5 W.heap.size (.slice none 0 0) (bs v.abs.stand) W)) := fun W hW hr => by
    have := tstand_any v W lo hi W.heap.size none 0 0 [] (hL.under (hW.mono hhi)) (by have := hW.size; omega) (Nat.le_refl _) (right_all hr).1 (own_none _ _ _) (by intro g hg; cases hg) (by have := (right_all hr).2; simp; omega)
    simpa using this
  have e0 := cell_of_row (w.alloc (.cells #[.int .i64 v.kind, .int .u64 (v.a : Int), .int .u64 (v.b : Int), v.sl] 27)) _ 0 _ _ _ hbx
  simp only [V.val, V.sl] at RR SS hbx hb0 ⊢
  generalize v.abs.put = res at *
  generalize v.abs.stand = st at *
  generalize v.abs.rightB = r at *
  generalize v.kind = x0 at *
  generalize (v.a : Int) = x1 at *
  generalize (v.b : Int) = x2 at *
  generalize v.addr = pA at *
  generalize v.parts.length = pn at *
  generalize v.cap = pc at *
  clear e0 hL hhi1
  go_enter Tryz.func136, Tryz.ntmps136
  go_wp2_with fail
  refine RR.mono ?_
  rintro e w1 ⟨rfl, hb1⟩
  have hbw := hb0.trans (hb1.mono hb0.size)
  have hx1 := (hb1.block w.heap.size (by simp)).trans hbx
  have c0 := cell_of_row w1 _ 0 _ _ _ hx1
  have c1 := cell_of_row w1 _ 1 _ _ _ hx1
  have c2 := cell_of_row w1 _ 2 _ _ _ hx1
  have c3 := cell_of_row w1 _ 3 _ _ _ hx1
  simp at c0 c1 c2 c3
  clear hbx hb0 hb1 hx1 RR
  cases r with
  | true =>
    have CS := SS.out w1 hbw rfl
    have HP : Hid (res = st) := hPut.out.trans (if_pos rfl)
    clear hPut
    go_wp2_with fail
    refine CS.mono ?_
    rintro e w2 ⟨A2, n2, c2', rfl, ho2, hs2⟩
    have HF : Hid (Made 5 res w (.returned (.slice A2 n2 c2')) w2) := by
      rw [HP.out]
      exact made_iff.2 ⟨A2, n2, c2', rfl, own_base ho2 fun k hk => by have := own_ge ho2 k hk; have := hbw.size; omega, hbw.trans (hs2.below hbw.size fun k hk => by cases hk)⟩
    clear CS ho2 hs2
    go_wp2
    go_ret
    exact HF.out
  | false =>
    have HF : Hid (Made 5 res w (.returned (.slice none 0 0)) w1) := by
      rw [hPut.out, if_neg (by simp)]
      exact made_iff.2 ⟨none, 0, 0, rfl, own_none _ _ _, hbw⟩
    clear hPut
    go_wp2
    go_ret
    exact HF.out
theorem rput4_any (v : V) (w : World) (lo hi : Nat) (hL : Lies w lo hi v) (hhi : hi ≤ w.heap.size) (hct : v.abs.count ≤ 1000) :
    Calls Tryz.prog 40 #[v.val] w (Made 5 v.abs.put w) := by
  have hbx := heap_alloc_new w (.cells #[.int .i64 v.kind, .int .u64 (v.a : Int), .int .u64 (v.b : Int), v.sl] 36)
  have hb0 := below_new w (.cells #[.int .i64 v.kind, .int .u64 (v.a : Int), .int .u64 (v.b : Int), v.sl] 36)
  have hhi1 : hi ≤ (w.alloc (.cells #[.int .i64 v.kind, .int .u64 (v.a : Int), .int .u64 (v.b : Int), v.sl] 36)).heap.size := by have := hb0.size; omega
  have RR := rright_any v _ lo hi (hL.under (hb0.mono hhi)) hhi1 hct
  have hPut : Hid (v.abs.put = if v.abs.rightB then v.abs.stand else []) := rfl
  have SS : Hid (∀ W, Below w.heap.size w W → v.abs.rightB = true → Calls Tryz.prog 74 #[v.val] W (Made 5 v.abs.stand W)) := fun W hW hr =>
    trstands_any v W lo hi (hL.under (hW.mono hhi)) (by have := hW.size; omega) (right_all hr).1 hct
  simp only [V.val, V.sl] at RR SS hbx hb0 ⊢
  generalize v.abs.put = res at *
  generalize v.abs.stand = st at *
  generalize v.abs.rightB = r at *
  generalize v.kind = x0 at *
  generalize (v.a : Int) = x1 at *
  generalize (v.b : Int) = x2 at *
  generalize v.addr = pA at *
  generalize v.parts.length = pn at *
  generalize v.cap = pc at *
  clear hL hhi1 hct
  go_enter Tryz.func40, Tryz.ntmps40
  go_wp2_with fail
  refine RR.mono ?_
  rintro e w1 ⟨rfl, hb1⟩
  have hbw := hb0.trans (hb1.mono hb0.size)
  have hx1 := (hb1.block w.heap.size (by simp)).trans hbx
  have c0 := cell_of_row w1 _ 0 _ _ _ hx1
  have c1 := cell_of_row w1 _ 1 _ _ _ hx1
  have c2 := cell_of_row w1 _ 2 _ _ _ hx1
  have c3 := cell_of_row w1 _ 3 _ _ _ hx1
  simp at c0 c1 c2 c3
  clear hbx hb0 hb1 hx1 RR
  cases r with
  | true =>
    have CS := SS.out w1 hbw rfl
    have HP : Hid (res = st) := hPut.out.trans (if_pos rfl)
    clear hPut
    go_wp2_with fail
    refine CS.mono ?_
    rintro e w2 hm
    obtain ⟨A2, n2, c2', rfl, ho2, hs2⟩ := made_iff.1 hm
    have HF : Hid (Made 5 res w (.returned (.slice A2 n2 c2')) w2) := by
      rw [HP.out]
      exact made_iff.2 ⟨A2, n2, c2', rfl, own_base ho2 fun k hk => by have := own_ge ho2 k hk; have := hbw.size; omega, hbw.trans (hs2.mono hbw.size)⟩
    clear CS ho2 hs2 hm
    go_wp2
    go_ret
    exact HF.out
  | false =>
    have HF : Hid (Made 5 res w (.returned (.slice none 0 0)) w1) := by
      rw [hPut.out, if_neg (by simp)]
      exact made_iff.2 ⟨none, 0, 0, rfl, own_none _ _ _, hbw⟩
    clear hPut
    go_wp2
    go_ret
    exact HF.out
end Go.Proofs.YtiiiklenhmhccaaGreatDoor

namespace Go.Proofs.YtiiiklenhmhccaaGreatDoor
open Go Go.RowKit
set_option linter.unusedVariables false
def VPost (g : Nat) (v : Value) (ys : List Nat) (w : World) (e : Ending) (w' : World) : Prop :=
  ∃ A n c, e = .returned (.tuple #[]) ∧ Wr 93 5 w' g A n c ys ∧ WStp w w' g v (.slice A n c)
theorem away_new {w : World} {g n c b m : Nat} {A : Option Addr} {E : TypeId} {B : Nat} {ys : List Value} (hg : g < b) (ho : w.ownsRow B E 1 (.slice A n c) n ys) (hb : w.heap.size ≤ b) : Away g (.slice A n c) (some ⟨b, 0, none⟩) m := by
  intro _ ad e
  injection e with e
  subst e
  refine ⟨by show b ≠ g; omega, fun h => ?_⟩
  have := own_lt ho b h.symm
  omega
def En.stand (e : En) : List Nat := encs [e.x, e.w, e.n] ++ [if e.m then 1 else 0]
def Rc.standP (r : Rc) (i : Nat) : List Nat :=
  if i = 0 then enc r.t else if i = 1 then enc r.x else if i = 2 then encs [r.w, r.n] else if i = 3 then enc r.v else if i = 4 then enc r.p.put.length ++ r.p.put else enc r.es.length ++ r.es.flatMap En.stand
theorem encs_one (a : Nat) : encs [a] = enc a := by simp [encs]
theorem wnumber_new {g n c : Nat} {A : Option Addr} {ys : List Nat} {W : World} (h : Wr 93 5 W g A n c ys) (hn : n ≤ 100000) (l : List Nat) (cs : Array Value) (hcs : cs = (us l).toArray) (h64 : ∀ x ∈ l, (x : Int) ≤ 18446744073709551615) (hl : l.length ≤ 1000)
    (E : TypeId) (b : Nat) (hb : b = W.heap.size) (m : Nat) (hm : m = l.length) :
    Calls Tryz.prog 105 #[.pointer (some ⟨g, 0, none⟩), .slice (some ⟨b, 0, none⟩) m m] (W.alloc (.cells cs E)) (WPost 93 5 g (.slice A n c) (ys ++ encs l) W) := by
  subst hb hm hcs
  have hk := h.kept (below_new W (.cells (us l).toArray E))
  have hr := rd_row (size := 1) (n := l.length) (heap_alloc_new W (.cells (us l).toArray E)) (by rw [us_length]; omega)
  refine (wnumber_any g A n c ys _ hk hn _ _ l.length l.length l hr h64 (by omega) (by simp) (away_new h.lt h.own (Nat.le_refl _))).mono ?_
  rintro e w' ⟨A', n', c', he, hw, hs⟩
  exact ⟨A', n', c', he, hw, (WStp.of g (Stp.alloc W _ _)).trans hs⟩
set_option maxHeartbeats 800000 in
theorem putT_any (r : Rv) (g n c : Nat) (A : Option Addr) (ys : List Nat) (w : World) (h : Wr 93 5 w g A n c ys) (hn : n ≤ 100000) (ht : (r.t : Int) ≤ 18446744073709551615) :
    Calls Tryz.prog 104 #[r.val, .pointer (some ⟨g, 0, none⟩)] w (VPost g (.slice A n c) (ys ++ r.abs.standP 0) w) := by
  obtain ⟨k, t, x, wn, nn, v, p, Ae, ce, es⟩ := r
  have hW1 := h.kept (below_new w (.cells #[.int .i64 k, .int .u64 (t : Int), .int .u64 (x : Int), .int .u64 (wn : Int), .int .u64 (nn : Int), .int .u64 (v : Int), .int .i64 p.kind, .int .u64 (p.a : Int), .int .u64 (p.b : Int), .slice p.addr p.parts.length p.cap, .slice Ae es.length ce] 30))
  have N := wnumber_new hW1 hn [t] #[.int .u64 (t : Int)] rfl (by intro y hy; obtain rfl : y = t := (by simpa using hy); exact ht) (by simp) 22 (w.heap.size + 1) (by simp) 1 rfl
  have HS := WStp.of g (Stp.alloc w (.cells #[.int .i64 k, .int .u64 (t : Int), .int .u64 (x : Int), .int .u64 (wn : Int), .int .u64 (nn : Int), .int .u64 (v : Int), .int .i64 p.kind, .int .u64 (p.a : Int), .int .u64 (p.b : Int), .slice p.addr p.parts.length p.cap, .slice Ae es.length ce] 30) (.slice A n c))
  show Calls Tryz.prog 104 #[.agg #[.int .i64 k, .int .u64 (t : Int), .int .u64 (x : Int), .int .u64 (wn : Int), .int .u64 (nn : Int), .int .u64 (v : Int), .int .i64 p.kind, .int .u64 (p.a : Int), .int .u64 (p.b : Int), .slice p.addr p.parts.length p.cap, .slice Ae es.length ce], .pointer (some ⟨g, 0, none⟩)] w (VPost g (.slice A n c) (ys ++ enc t) w)
  rw [← encs_one]
  go_enter Tryz.func104, Tryz.ntmps104
  go_wp2_with fail
  refine N.mono ?_
  rintro e w1 ⟨A', n', c', rfl, hw, hs⟩
  replace hs := HS.trans hs
  clear HS N hW1
  go_wp2
  go_end0
  exact ⟨A', n', c', rfl, hw, hs⟩
set_option maxHeartbeats 800000 in
theorem putX_any (r : Rv) (g n c : Nat) (A : Option Addr) (ys : List Nat) (w : World) (h : Wr 93 5 w g A n c ys) (hn : n ≤ 100000) (hx : (r.x : Int) ≤ 18446744073709551615) :
    Calls Tryz.prog 114 #[r.val, .pointer (some ⟨g, 0, none⟩)] w (VPost g (.slice A n c) (ys ++ r.abs.standP 1) w) := by
  obtain ⟨k, t, x, wn, nn, v, p, Ae, ce, es⟩ := r
  have hW1 := h.kept (below_new w (.cells #[.int .i64 k, .int .u64 (t : Int), .int .u64 (x : Int), .int .u64 (wn : Int), .int .u64 (nn : Int), .int .u64 (v : Int), .int .i64 p.kind, .int .u64 (p.a : Int), .int .u64 (p.b : Int), .slice p.addr p.parts.length p.cap, .slice Ae es.length ce] 30))
  have N := wnumber_new hW1 hn [x] #[.int .u64 (x : Int)] rfl (by intro y hy; obtain rfl : y = x := (by simpa using hy); exact hx) (by simp) 22 (w.heap.size + 1) (by simp) 1 rfl
  have HS := WStp.of g (Stp.alloc w (.cells #[.int .i64 k, .int .u64 (t : Int), .int .u64 (x : Int), .int .u64 (wn : Int), .int .u64 (nn : Int), .int .u64 (v : Int), .int .i64 p.kind, .int .u64 (p.a : Int), .int .u64 (p.b : Int), .slice p.addr p.parts.length p.cap, .slice Ae es.length ce] 30) (.slice A n c))
  show Calls Tryz.prog 114 #[.agg #[.int .i64 k, .int .u64 (t : Int), .int .u64 (x : Int), .int .u64 (wn : Int), .int .u64 (nn : Int), .int .u64 (v : Int), .int .i64 p.kind, .int .u64 (p.a : Int), .int .u64 (p.b : Int), .slice p.addr p.parts.length p.cap, .slice Ae es.length ce], .pointer (some ⟨g, 0, none⟩)] w (VPost g (.slice A n c) (ys ++ enc x) w)
  rw [← encs_one]
  go_enter Tryz.func114, Tryz.ntmps114
  go_wp2_with fail
  refine N.mono ?_
  rintro e w1 ⟨A', n', c', rfl, hw, hs⟩
  replace hs := HS.trans hs
  clear HS N hW1
  go_wp2
  go_end0
  exact ⟨A', n', c', rfl, hw, hs⟩
set_option maxHeartbeats 800000 in
theorem putV_any (r : Rv) (g n c : Nat) (A : Option Addr) (ys : List Nat) (w : World) (h : Wr 93 5 w g A n c ys) (hn : n ≤ 100000) (hw : (r.w : Int) ≤ 18446744073709551615) (hv2 : (r.n : Int) ≤ 18446744073709551615) :
    Calls Tryz.prog 120 #[r.val, .pointer (some ⟨g, 0, none⟩)] w (VPost g (.slice A n c) (ys ++ r.abs.standP 2) w) := by
  obtain ⟨k, t, x, wn, nn, v, p, Ae, ce, es⟩ := r
  have hW1 := h.kept (below_new w (.cells #[.int .i64 k, .int .u64 (t : Int), .int .u64 (x : Int), .int .u64 (wn : Int), .int .u64 (nn : Int), .int .u64 (v : Int), .int .i64 p.kind, .int .u64 (p.a : Int), .int .u64 (p.b : Int), .slice p.addr p.parts.length p.cap, .slice Ae es.length ce] 30))
  have N := wnumber_new hW1 hn [wn, nn] #[.int .u64 (wn : Int), .int .u64 (nn : Int)] rfl (by intro y hy; simp only [List.mem_cons, List.not_mem_nil, or_false] at hy; rcases hy with rfl | rfl <;> first | exact hw | exact hv2) (by simp) 22 (w.heap.size + 1) (by simp) 2 rfl
  have HS := WStp.of g (Stp.alloc w (.cells #[.int .i64 k, .int .u64 (t : Int), .int .u64 (x : Int), .int .u64 (wn : Int), .int .u64 (nn : Int), .int .u64 (v : Int), .int .i64 p.kind, .int .u64 (p.a : Int), .int .u64 (p.b : Int), .slice p.addr p.parts.length p.cap, .slice Ae es.length ce] 30) (.slice A n c))
  show Calls Tryz.prog 120 #[.agg #[.int .i64 k, .int .u64 (t : Int), .int .u64 (x : Int), .int .u64 (wn : Int), .int .u64 (nn : Int), .int .u64 (v : Int), .int .i64 p.kind, .int .u64 (p.a : Int), .int .u64 (p.b : Int), .slice p.addr p.parts.length p.cap, .slice Ae es.length ce], .pointer (some ⟨g, 0, none⟩)] w (VPost g (.slice A n c) (ys ++ encs [wn, nn]) w)
  go_enter Tryz.func120, Tryz.ntmps120
  go_wp2_with fail
  refine N.mono ?_
  rintro e w1 ⟨A', n', c', rfl, hw, hs⟩
  replace hs := HS.trans hs
  clear HS N hW1
  go_wp2
  go_end0
  exact ⟨A', n', c', rfl, hw, hs⟩
set_option maxHeartbeats 800000 in
theorem putValue_any (r : Rv) (g n c : Nat) (A : Option Addr) (ys : List Nat) (w : World) (h : Wr 93 5 w g A n c ys) (hn : n ≤ 100000) (hv : (r.v : Int) ≤ 18446744073709551615) :
    Calls Tryz.prog 128 #[r.val, .pointer (some ⟨g, 0, none⟩)] w (VPost g (.slice A n c) (ys ++ r.abs.standP 3) w) := by
  obtain ⟨k, t, x, wn, nn, v, p, Ae, ce, es⟩ := r
  have hW1 := h.kept (below_new w (.cells #[.int .i64 k, .int .u64 (t : Int), .int .u64 (x : Int), .int .u64 (wn : Int), .int .u64 (nn : Int), .int .u64 (v : Int), .int .i64 p.kind, .int .u64 (p.a : Int), .int .u64 (p.b : Int), .slice p.addr p.parts.length p.cap, .slice Ae es.length ce] 30))
  have N := wnumber_new hW1 hn [v] #[.int .u64 (v : Int)] rfl (by intro y hy; obtain rfl : y = v := (by simpa using hy); exact hv) (by simp) 22 (w.heap.size + 1) (by simp) 1 rfl
  have HS := WStp.of g (Stp.alloc w (.cells #[.int .i64 k, .int .u64 (t : Int), .int .u64 (x : Int), .int .u64 (wn : Int), .int .u64 (nn : Int), .int .u64 (v : Int), .int .i64 p.kind, .int .u64 (p.a : Int), .int .u64 (p.b : Int), .slice p.addr p.parts.length p.cap, .slice Ae es.length ce] 30) (.slice A n c))
  show Calls Tryz.prog 128 #[.agg #[.int .i64 k, .int .u64 (t : Int), .int .u64 (x : Int), .int .u64 (wn : Int), .int .u64 (nn : Int), .int .u64 (v : Int), .int .i64 p.kind, .int .u64 (p.a : Int), .int .u64 (p.b : Int), .slice p.addr p.parts.length p.cap, .slice Ae es.length ce], .pointer (some ⟨g, 0, none⟩)] w (VPost g (.slice A n c) (ys ++ enc v) w)
  rw [← encs_one]
  go_enter Tryz.func128, Tryz.ntmps128
  go_wp2_with fail
  refine N.mono ?_
  rintro e w1 ⟨A', n', c', rfl, hw, hs⟩
  replace hs := HS.trans hs
  clear HS N hW1
  go_wp2
  go_end0
  exact ⟨A', n', c', rfl, hw, hs⟩
theorem away_own {w : World} {g B B2 n c n2 c2 m sz : Nat} {A A2 : Option Addr} {E E2 : TypeId} {ys zs : List Value} (hB : w.heap.size ≤ B) (ho : w.ownsRow B2 E2 1 (.slice A2 n2 c2) n2 ys) (hg : g < w.heap.size) {W : World} (h : W.ownsRow B E sz (.slice A n c) n zs) : Away g (.slice A2 n2 c2) A m := by
  intro _ ad e
  subst e
  rcases h.2 with ⟨e, _⟩ | ⟨b, cap, cur, e, h1, _⟩
  · cases e
  · have hb := own_ge h b (by rw [e]; rfl)
    have e2 : ad = ⟨b, 0, none⟩ := by injection e with e; injection e
    subst e2
    refine ⟨by show b ≠ g; omega, fun h => ?_⟩
    have := own_lt ho b h.symm
    omega
theorem put_len {w : World} {lo hi : Nat} {p : V} (h : Lies w lo hi p) : p.abs.put.length ≤ 992 := by
  unfold T.put
  split
  · rename_i hr
    have := stand_len p h
    have := (right_all hr).2
    omega
  · simp
set_option maxHeartbeats 800000 in
theorem putP_any (r : Rv) (g n c : Nat) (A : Option Addr) (ys : List Nat) (w : World) (h : Wr 93 5 w g A n c ys) (hn : n ≤ 100000) (lo hi : Nat) (hL : RLies w lo hi r) (hhi : hi ≤ w.heap.size) :
    Calls Tryz.prog 134 #[r.val, .pointer (some ⟨g, 0, none⟩)] w (VPost g (.slice A n c) (ys ++ r.abs.standP 4) w) := by
  obtain ⟨k, t, x, wn, nn, v, p, Ae, ce, es⟩ := r
  have hb1 := below_new w (.cells #[.int .i64 k, .int .u64 (t : Int), .int .u64 (x : Int), .int .u64 (wn : Int), .int .u64 (nn : Int), .int .u64 (v : Int), .int .i64 p.kind, .int .u64 (p.a : Int), .int .u64 (p.b : Int), .slice p.addr p.parts.length p.cap, .slice Ae es.length ce] 30)
  have hW1 := h.kept hb1
  have PP := pput_any p _ lo hi (hL.p.under (hb1.mono hhi)) (Nat.le_trans hhi hb1.size)
  have HS := WStp.of g (Stp.alloc w (.cells #[.int .i64 k, .int .u64 (t : Int), .int .u64 (x : Int), .int .u64 (wn : Int), .int .u64 (nn : Int), .int .u64 (v : Int), .int .i64 p.kind, .int .u64 (p.a : Int), .int .u64 (p.b : Int), .slice p.addr p.parts.length p.cap, .slice Ae es.length ce] 30) (.slice A n c))
  have hpl : p.abs.put.length ≤ 100000 := Nat.le_trans (put_len hL.p) (by omega)
  show Calls Tryz.prog 134 #[.agg #[.int .i64 k, .int .u64 (t : Int), .int .u64 (x : Int), .int .u64 (wn : Int), .int .u64 (nn : Int), .int .u64 (v : Int), .int .i64 p.kind, .int .u64 (p.a : Int), .int .u64 (p.b : Int), .slice p.addr p.parts.length p.cap, .slice Ae es.length ce], .pointer (some ⟨g, 0, none⟩)] w (VPost g (.slice A n c) (ys ++ (enc p.abs.put.length ++ p.abs.put)) w)
  simp only [V.val, V.sl] at PP
  go_enter Tryz.func134, Tryz.ntmps134
  go_wp2_with fail
  refine PP.mono ?_
  rintro e w1 ⟨A1, c1, rfl, ho1, hb1⟩
  have hW2 := hW1.kept hb1
  have T := wtext_any g A n c ys w1 hW2 hn _ A1 p.abs.put.length c1 p.abs.put (Rd.own ho1) hpl (Nat.le_refl _) (away_own (Nat.le_refl _) hW1.own hW1.lt ho1)
  have HS2 := HS.trans (WStp.of g ⟨⟨hb1.os, hb1.tape, hb1.output, hb1.size, fun k hk _ => hb1.block k hk⟩, .inl rfl⟩)
  rw [List.append_assoc] at T
  clear HS PP hW1 ho1 hb1
  generalize enc p.abs.put.length ++ p.abs.put = zs at *
  go_wp2_with fail
  refine T.mono ?_
  rintro e w2 ⟨A', n', c', rfl, hw, hs⟩
  replace hs := HS2.trans hs
  clear HS2 T
  go_wp2
  go_end0
  exact ⟨A', n', c', rfl, hw, hs⟩
theorem wraw_new {g n c : Nat} {A : Option Addr} {ys : List Nat} {W : World} (h : Wr 93 5 W g A n c ys) (hn : n ≤ 100000) (l : List Nat) (cs : Array Value) (hcs : cs = (bs l).toArray) (hl : l.length ≤ 1000)
    (E : TypeId) (b : Nat) (hb : b = W.heap.size) (m : Nat) (hm : m = l.length) :
    Calls Tryz.prog 177 #[.pointer (some ⟨g, 0, none⟩), .slice (some ⟨b, 0, none⟩) m m] (W.alloc (.cells cs E)) (WPost 93 5 g (.slice A n c) (ys ++ l) W) := by
  subst hb hm hcs
  have hk := h.kept (below_new W (.cells (bs l).toArray E))
  have hr := rd_row (size := 1) (n := l.length) (heap_alloc_new W (.cells (bs l).toArray E)) (by rw [bs_length]; omega)
  refine (wraw_any g A n c ys _ hk hn _ _ l.length l.length l hr (by omega)).mono ?_
  rintro e w' ⟨A', n', c', he, hw, hs⟩
  exact ⟨A', n', c', he, hw, (WStp.of g (Stp.alloc W _ _)).trans hs⟩
theorem digit_any (m : Bool) (w : World) : Calls Tryz.prog 178 #[.bool m] w fun e w' => e = .returned (.int .u8 (((if m then 1 else 0 : Nat) : Nat) : Int)) ∧ w' = w := by
  cases m with
  | true =>
    go_enter Tryz.func178, Tryz.ntmps178
    go_wp2
    go_ret
    exact ⟨rfl, rfl⟩
  | false =>
    go_enter Tryz.func178, Tryz.ntmps178
    go_wp2
    go_ret
    exact ⟨rfl, rfl⟩
theorem en_nth {w : World} {hi : Nat} {A : Option Addr} {es : List En} (h : Rd w hi 4 A es.length (enCells es)) {i : Nat} (hi' : i < es.length) :
    ∃ (b off : Nat) (e : En), A = some ⟨b, off, none⟩ ∧ b < hi ∧ es[i]? = some e ∧ w.cell? ⟨b, off + i * 4, none⟩ = some (.int .u64 (e.x : Int)) ∧ w.cell? ⟨b, off + i * 4 + 1, none⟩ = some (.int .u64 (e.w : Int)) ∧ w.cell? ⟨b, off + i * 4 + 2, none⟩ = some (.int .u64 (e.n : Int)) ∧ w.cell? ⟨b, off + i * 4 + 3, none⟩ = some (.bool e.m) := by
  have hx : es[i]? = some (es[i]) := List.getElem?_eq_getElem hi'
  obtain ⟨ad, e, hb, hc⟩ := h.lies (by omega)
  obtain ⟨bb, off, spot⟩ := ad
  have h0 : es[0]? = some (es[0]'(by omega)) := List.getElem?_eq_getElem (by omega)
  have hspot : spot = none := World.cell?_spot (a := ⟨bb, off, spot⟩) (hc 0 _ (enCells_get es 0 0 _ h0 (by omega)))
  subst hspot
  have hc4 : ∀ j u, j < 4 → (En.cells (es[i]'hi'))[j]? = some u → w.cell? ⟨bb, off + i * 4 + j, none⟩ = some u := by
    intro j u hj hu
    have := hc (i * 4 + j) u ((enCells_get es i j _ hx hj).trans hu)
    rw [show (⟨bb, off, none⟩ : Addr).add (i * 4 + j) = ⟨bb, off + (i * 4 + j), none⟩ by unfold Addr.add; split <;> simp_all, ← Nat.add_assoc] at this
    exact this
  exact ⟨bb, off, _, e, hb, hx, hc4 0 _ (by omega) rfl, hc4 1 _ (by omega) rfl, hc4 2 _ (by omega) rfl, hc4 3 _ (by omega) rfl⟩
def esS (es : List En) (i : Nat) : List Nat := (es.take i).flatMap En.stand
theorem esS_snoc {es : List En} {i : Nat} {e : En} (h : es[i]? = some e) : esS es (i + 1) = esS es i ++ e.stand := by
  unfold esS; rw [take_one h]; simp
theorem En.stand_len {e : En} (h : e.ok) : e.stand.length ≤ 31 := by
  have := encs_le [e.x, e.w, e.n] (by intro y hy; simp only [List.mem_cons, List.not_mem_nil, or_false] at hy; obtain ⟨h1, h2, h3⟩ := h; rcases hy with rfl | rfl | rfl <;> assumption)
  simp [En.stand] at *
  omega
theorem esS_len {es : List En} (h : ∀ e ∈ es, e.ok) : ∀ i, (esS es i).length ≤ 31 * i := by
  intro i
  induction i with
  | zero => simp [esS]
  | succ i ih =>
    by_cases hi : i < es.length
    · rw [esS_snoc (List.getElem?_eq_getElem hi), List.length_append]
      have := En.stand_len (h _ (List.getElem_mem hi))
      omega
    · have : esS es (i + 1) = esS es i := by unfold esS; rw [List.take_of_length_le (by omega), List.take_of_length_le (by omega)]
      rw [this]; omega
set_option maxRecDepth 100000 in
set_option maxHeartbeats 3200000 in
theorem pute_any (g n c hi ce : Nat) (A Ae : Option Addr) (ys : List Nat) (es : List En) (w : World) (h : Wr 93 5 w g A n c ys) (hn : n ≤ 20000) (hrd : Rd w hi 4 Ae es.length (enCells es)) (hok : ∀ e ∈ es, e.ok) (hlen : es.length ≤ 1000) (hcap : es.length ≤ ce ∧ ce ≤ 9223372036854775807) (hhi : hi ≤ w.heap.size) (hg : hi ≤ g) :
    Calls Tryz.prog 146 #[.pointer (some ⟨g, 0, none⟩), .slice Ae es.length ce] w (VPost g (.slice A n c) (ys ++ (enc es.length ++ es.flatMap En.stand)) w) := by
  have hyl : ys.length = n := by have := h.own.1; rw [bs_length] at this; omega
  have N := wnumber_new h (by omega) [es.length] #[.int .u64 (es.length : Int)] rfl (by intro y hy; obtain rfl : y = es.length := (by simpa using hy); omega) (by simp) 22 w.heap.size rfl 1 rfl
  rw [encs_one] at N
  have HV : Hid (∀ k, (Value.slice A n c).ownBlock = some k → hi ≤ k) := fun k hk => Nat.le_trans hg (Nat.le_of_succ_le (own_ge h.own k hk))
  have HR : Hid (∀ W A' n' c', WStp w W g (.slice A n c) (.slice A' n' c') → Rd W hi 4 Ae es.length (enCells es)) := fun W A' n' c' hW => hrd.below (hW.below hhi hg HV.out)
  have HO := Lib_hid hok
  have HL := Lib_hid (esS_len hok)
  have HE : Hid (esS es es.length = es.flatMap En.stand ∧ esS es 0 = []) := ⟨by unfold esS; rw [List.take_length], by simp [esS]⟩
  have het := enc_ten (v := es.length) (by omega)
  have HY : Hid (ys.length = n ∧ (enc es.length).length ≤ 10) := ⟨hyl, het⟩
  clear hrd hok hyl het h
  go_enter Tryz.func146, Tryz.ntmps146
  go_wp2_with fail
  refine N.mono ?_
  rintro e w1 ⟨A1, n1, c1, rfl, hw1, hs1⟩
  clear N
  go_wp2
  go_loopw [14] (fun z wr => ∃ (i n' c' : Nat) (A' : Option Addr), z = .int .i64 i ∧ i ≤ es.length ∧ Hid (Wr 93 5 wr g A' n' c' (ys ++ enc es.length ++ esS es i)) ∧ Hid (WStp w wr g (.slice A n c) (.slice A' n' c'))) (fun z _ => es.length - (intOf z).toNat)
  case atStart => exact ⟨0, n1, c1, A1, rfl, Nat.zero_le _, Lib_hid (by rw [HE.out.2, List.append_nil]; exact hw1), hs1⟩
  case round =>
    clear hw1 hs1
    obtain ⟨i, n', c', A', rfl, hi1, hw, hs⟩ := hrel
    by_cases hlt : i < es.length
    · obtain ⟨b, off, e, rfl, hbh, he, d0, d1, d2, d3⟩ := en_nth (HR.out _ _ _ _ hs.out) hlt
      have hn' : n' ≤ 60000 := by
        have h1 := hw.out.own.1
        rw [bs_length, List.length_append, List.length_append] at h1
        have := HL.out i
        have := HY.out
        omega
      have hokE := HO.out e (List.mem_of_getElem? he)
      have HS : Hid (esS es (i + 1) = esS es i ++ e.stand) := esS_snoc he
      have hw2 := hw.out.kept (below_new wr (.cells #[.int .u64 (e.x : Int), .int .u64 (e.w : Int), .int .u64 (e.n : Int), .bool e.m] 84))
      have hp2 := heap_alloc_new wr (.cells #[.int .u64 (e.x : Int), .int .u64 (e.w : Int), .int .u64 (e.n : Int), .bool e.m] 84)
      have hs2 := hs.out.trans (WStp.of g (Stp.alloc wr (.cells #[.int .u64 (e.x : Int), .int .u64 (e.w : Int), .int .u64 (e.n : Int), .bool e.m] 84) (.slice A' n' c')))
      have hgw := hw.out.lt
      have hown := own_lt hw.out.own
      obtain ⟨ex, ew, en⟩ := hokE
      clear hw hs
      go_upto_region 4 with (fail)
      generalize wr.alloc (.cells #[.int .u64 (e.x : Int), .int .u64 (e.w : Int), .int .u64 (e.n : Int), .bool e.m] 84) = w2 at *
      have hsz2 := lt_of_block hp2
      have q0 : w2.cell? ⟨wr.heap.size, 0, none⟩ = some (.int .u64 (e.x : Int)) := cell_of_row w2 _ 0 _ _ _ hp2
      have q1 : w2.cell? ⟨wr.heap.size, 1, none⟩ = some (.int .u64 (e.w : Int)) := cell_of_row w2 _ 1 _ _ _ hp2
      have q2 : w2.cell? ⟨wr.heap.size, 2, none⟩ = some (.int .u64 (e.n : Int)) := cell_of_row w2 _ 2 _ _ _ hp2
      have N := wnumber_new hw2 (by omega) [e.x, e.w, e.n] #[.int .u64 (e.x : Int), .int .u64 (e.w : Int), .int .u64 (e.n : Int)] rfl (by intro y hy; simp only [List.mem_cons, List.not_mem_nil, or_false] at hy; rcases hy with rfl | rfl | rfl <;> assumption) (by simp) 22 w2.heap.size rfl 3 rfl
      have HL3 : Hid (∀ m, (ys ++ enc es.length ++ esS es i ++ encs [e.x, e.w, e.n]).length = m → m ≤ 90000) := fun m hm => by
        have h1 := HL.out i
        have h2 := HY.out
        have h3 := encs_le [e.x, e.w, e.n] (by intro y hy; simp only [List.mem_cons, List.not_mem_nil, or_false] at hy; rcases hy with rfl | rfl | rfl <;> assumption)
        simp only [List.length_append, List.length_cons, List.length_nil] at hm h3
        omega
      clear d0 d1 d2 d3
      go_wp2_with fail
      refine N.mono ?_
      rintro _ w3 ⟨A3, n3, c3, rfl, hw3, hs3⟩
      have hp3 := (hs3.block wr.heap.size hsz2 (by omega) (fun h => by have := hown _ h.symm; omega)).trans hp2
      have m3 : w3.cell? ⟨wr.heap.size, 3, none⟩ = some (.bool e.m) := cell_of_row w3 _ 3 _ _ _ hp3
      have hs3' := hs2.trans hs3
      have hn3 : n3 ≤ 100000 := by
        have h1 := hw3.own.1
        rw [bs_length] at h1
        have := HL3.out _ h1
        omega
      clear N q0 q1 q2 hp3 hp2 hs2 hs3 hw2 hown
      go_wp2_with fail
      refine (digit_any e.m _).mono ?_
      rintro _ w4 ⟨rfl, rfl⟩
      have HD : Hid (e.stand = encs [e.x, e.w, e.n] ++ [if e.m then 1 else 0]) := rfl
      have R := wraw_new hw3 hn3 [if e.m then 1 else 0] #[.int .u8 (((if e.m then 1 else 0 : Nat) : Nat) : Int)] rfl (by simp) 5 w4.heap.size rfl 1 rfl
      have HWR : Hid (∀ A5 n5 c5 W, Wr 93 5 W g A5 n5 c5 (ys ++ enc es.length ++ esS es i ++ encs [e.x, e.w, e.n] ++ [if e.m then 1 else 0]) → Wr 93 5 W g A5 n5 c5 (ys ++ enc es.length ++ esS es (i + 1))) := fun A5 n5 c5 W h => by
        rw [HS.out, HD.out, ← List.append_assoc, ← List.append_assoc]
        exact h
      clear hw3 m3
      generalize (if e.m then 1 else 0 : Nat) = dg at *
      go_wp2_with fail
      refine R.mono ?_
      rintro _ w5 ⟨A5, n5, c5, rfl, hw5, hs5⟩
      have hw6 := Lib_hid (HWR.out _ _ _ _ hw5)
      have hs6 := Lib_hid (hs3'.trans hs5)
      clear R hw5 hs5 hs3' HWR
      go_wp2
      go_roundw
      case rel => exact ⟨i + 1, n5, c5, A5, by go_num, by omega, hw6, hs6⟩
      case measure => simp [intOf]; omega
    · obtain rfl : i = es.length := by omega
      have HF : Hid (Wr 93 5 wr g A' n' c' (ys ++ (enc es.length ++ es.flatMap En.stand))) := by
        have := hw.out
        rw [HE.out.1, List.append_assoc] at this
        exact this
      go_wp2
      go_end0
      exact ⟨A', n', c', rfl, HF.out, hs.out⟩
end Go.Proofs.YtiiiklenhmhccaaGreatDoor

namespace Go.Proofs.YtiiiklenhmhccaaGreatDoor
open Go Go.RowKit
set_option linter.unusedVariables false
def Rc.sameB (r u : Rc) : Bool := decide (r.es = u.es) && (decide (r.kind = u.kind) && decide (r.t = u.t) && decide (r.x = u.x) && decide (r.w = u.w ∧ r.n = u.n) && decide (r.v = u.v) && r.p.sameB u.p)
set_option maxRecDepth 100000 in
set_option maxHeartbeats 3200000 in
theorem rsame5_any (r u : Rv) (w : World) (lo hi lo' hi' : Nat) (hL : RLies w lo hi r) (hhi : hi ≤ w.heap.size) (hL' : RLies w lo' hi' u) (hhi' : hi' ≤ w.heap.size) :
    Calls Tryz.prog 21 #[r.val, u.val] w fun e w' => e = .returned (.bool (r.abs.sameB u.abs)) ∧ Below w.heap.size w w' := by
  have RS : Hid (∀ W, Below w.heap.size w W → Calls Tryz.prog 56 #[r.p.val, u.p.val] W fun e w' => e = .returned (.bool (r.p.abs.sameB u.p.abs)) ∧ Below W.heap.size W w') := fun W hW => rsame_any r.p u.p W lo hi lo' hi' (hL.p.under (hW.mono hhi)) (Nat.le_trans hhi hW.size) (hL'.p.under (hW.mono hhi')) (Nat.le_trans hhi' hW.size)
  have HR : Hid (∀ W, Below w.heap.size w W → Rd W hi 4 r.A r.es.length (enCells r.es) ∧ Rd W hi' 4 u.A u.es.length (enCells u.es)) := fun W hW => ⟨hL.es.below (hW.mono hhi), hL'.es.below (hW.mono hhi')⟩
  have HS : Hid (r.abs.sameB u.abs = (decide (r.es = u.es) && (decide (r.kind = u.kind) && decide (r.t = u.t) && decide (r.x = u.x) && decide (r.w = u.w ∧ r.n = u.n) && decide (r.v = u.v) && r.p.abs.sameB u.p.abs))) := rfl
  have hc1 := hL.cap
  have hc2 := hL'.cap
  clear hL hL'
  generalize r.abs.sameB u.abs = sb at *
  obtain ⟨k, t, x, wn, nn, v, p, Ae, ce, es⟩ := r
  obtain ⟨k2, t2, x2, wn2, nn2, v2, p2, Ae2, ce2, es2⟩ := u
  generalize p.abs.sameB p2.abs = ps at *
  have h1 := heap_alloc_new w (.cells #[.int .i64 k, .int .u64 (t : Int), .int .u64 (x : Int), .int .u64 (wn : Int), .int .u64 (nn : Int), .int .u64 (v : Int), .int .i64 p.kind, .int .u64 (p.a : Int), .int .u64 (p.b : Int), .slice p.addr p.parts.length p.cap, .slice Ae es.length ce] 39)
  have b1 := below_new w (.cells #[.int .i64 k, .int .u64 (t : Int), .int .u64 (x : Int), .int .u64 (wn : Int), .int .u64 (nn : Int), .int .u64 (v : Int), .int .i64 p.kind, .int .u64 (p.a : Int), .int .u64 (p.b : Int), .slice p.addr p.parts.length p.cap, .slice Ae es.length ce] 39)
  have h2 := heap_alloc_new (w.alloc (.cells #[.int .i64 k, .int .u64 (t : Int), .int .u64 (x : Int), .int .u64 (wn : Int), .int .u64 (nn : Int), .int .u64 (v : Int), .int .i64 p.kind, .int .u64 (p.a : Int), .int .u64 (p.b : Int), .slice p.addr p.parts.length p.cap, .slice Ae es.length ce] 39)) (.cells #[.int .i64 k2, .int .u64 (t2 : Int), .int .u64 (x2 : Int), .int .u64 (wn2 : Int), .int .u64 (nn2 : Int), .int .u64 (v2 : Int), .int .i64 p2.kind, .int .u64 (p2.a : Int), .int .u64 (p2.b : Int), .slice p2.addr p2.parts.length p2.cap, .slice Ae2 es2.length ce2] 39)
  have h12 := (heap_alloc_old (w.alloc (.cells #[.int .i64 k, .int .u64 (t : Int), .int .u64 (x : Int), .int .u64 (wn : Int), .int .u64 (nn : Int), .int .u64 (v : Int), .int .i64 p.kind, .int .u64 (p.a : Int), .int .u64 (p.b : Int), .slice p.addr p.parts.length p.cap, .slice Ae es.length ce] 39)) (.cells #[.int .i64 k2, .int .u64 (t2 : Int), .int .u64 (x2 : Int), .int .u64 (wn2 : Int), .int .u64 (nn2 : Int), .int .u64 (v2 : Int), .int .i64 p2.kind, .int .u64 (p2.a : Int), .int .u64 (p2.b : Int), .slice p2.addr p2.parts.length p2.cap, .slice Ae2 es2.length ce2] 39) (lt_of_block h1)).trans h1
  have b2 := b1.alloc b1.size (.cells #[.int .i64 k2, .int .u64 (t2 : Int), .int .u64 (x2 : Int), .int .u64 (wn2 : Int), .int .u64 (nn2 : Int), .int .u64 (v2 : Int), .int .i64 p2.kind, .int .u64 (p2.a : Int), .int .u64 (p2.b : Int), .slice p2.addr p2.parts.length p2.cap, .slice Ae2 es2.length ce2] 39)
  rw [show (w.alloc (.cells #[.int .i64 k, .int .u64 (t : Int), .int .u64 (x : Int), .int .u64 (wn : Int), .int .u64 (nn : Int), .int .u64 (v : Int), .int .i64 p.kind, .int .u64 (p.a : Int), .int .u64 (p.b : Int), .slice p.addr p.parts.length p.cap, .slice Ae es.length ce] 39)).heap.size = w.heap.size + 1 by simp] at h2
  simp only [Rv.val, Rv.arr, Rv.sl, V.sl, V.val] at RS HR HS hc1 hc2 ⊢
  go_enter Tryz.func21, Tryz.ntmps21
  go_upto_region 1 with (fail)
  generalize (w.alloc (.cells #[.int .i64 k, .int .u64 (t : Int), .int .u64 (x : Int), .int .u64 (wn : Int), .int .u64 (nn : Int), .int .u64 (v : Int), .int .i64 p.kind, .int .u64 (p.a : Int), .int .u64 (p.b : Int), .slice p.addr p.parts.length p.cap, .slice Ae es.length ce] 39)).alloc (.cells #[.int .i64 k2, .int .u64 (t2 : Int), .int .u64 (x2 : Int), .int .u64 (wn2 : Int), .int .u64 (nn2 : Int), .int .u64 (v2 : Int), .int .i64 p2.kind, .int .u64 (p2.a : Int), .int .u64 (p2.b : Int), .slice p2.addr p2.parts.length p2.cap, .slice Ae2 es2.length ce2] 39) = w1 at *
  clear h1 b1
  have CC : Hid (∀ W, Below w1.heap.size w1 W → W.heap[w.heap.size]? = some (.cells #[.int .i64 k, .int .u64 (t : Int), .int .u64 (x : Int), .int .u64 (wn : Int), .int .u64 (nn : Int), .int .u64 (v : Int), .int .i64 p.kind, .int .u64 (p.a : Int), .int .u64 (p.b : Int), .slice p.addr p.parts.length p.cap, .slice Ae es.length ce] 39 (0, 0)) ∧ W.heap[w.heap.size + 1]? = some (.cells #[.int .i64 k2, .int .u64 (t2 : Int), .int .u64 (x2 : Int), .int .u64 (wn2 : Int), .int .u64 (nn2 : Int), .int .u64 (v2 : Int), .int .i64 p2.kind, .int .u64 (p2.a : Int), .int .u64 (p2.b : Int), .slice p2.addr p2.parts.length p2.cap, .slice Ae2 es2.length ce2] 39 (0, 0)) ∧ Below w.heap.size w W) := fun W hW => ⟨(hW.block _ (lt_of_block h12)).trans h12, (hW.block _ (lt_of_block h2)).trans h2, b2.trans (hW.mono b2.size)⟩
  have a10 : w1.cell? ⟨w.heap.size, 10, none⟩ = some (.slice Ae es.length ce) := cell_of_row w1 _ 10 _ _ _ h12
  have d10 : w1.cell? ⟨w.heap.size + 1, 10, none⟩ = some (.slice Ae2 es2.length ce2) := cell_of_row w1 _ 10 _ _ _ h2
  by_cases hlen : es.length = es2.length
  · have q4 : ((es.length : Int) != (es2.length : Int)) = false := by simp [hlen]
    have HQ := Lib_hid hlen
    clear hlen h12 h2
    go_wp2
    go_loopw [5] (fun z wr => ∃ i : Nat, z = .int .i64 i ∧ i ≤ es.length ∧ Hid (es.take i = es2.take i) ∧ Below w1.heap.size w1 wr) (fun z _ => es.length - (intOf z).toNat)
    case atStart => exact ⟨0, rfl, Nat.zero_le _, by simp [Hid], Below.refl _ _⟩
    case round =>
      clear q4 a10 d10 b2
      obtain ⟨i, rfl, hi1, hme, hbw⟩ := hrel
      obtain ⟨hx, hy, hbw2⟩ := CC.out wr hbw
      have a10 : wr.cell? ⟨w.heap.size, 10, none⟩ = some (.slice Ae es.length ce) := cell_of_row wr _ 10 _ _ _ hx
      have d10 : wr.cell? ⟨w.heap.size + 1, 10, none⟩ = some (.slice Ae2 es2.length ce2) := cell_of_row wr _ 10 _ _ _ hy
      by_cases hlt : i < es.length
      · have hlt2 : i < es2.length := by have := HQ.out; omega
        obtain ⟨hr1, hr2⟩ := HR.out wr hbw2
        obtain ⟨b, off, e, rfl, hbB, he, d0, d1, d2, d3⟩ := en_nth hr1 hlt
        obtain ⟨b', off', e', rfl, hbB', he', f0, f1, f2, f3⟩ := en_nth hr2 hlt2
        clear hr1 hr2 hx hy
        by_cases hee : e = e'
        · subst hee
          have HN : Hid (es.take (i + 1) = es2.take (i + 1)) := Lib_hid (by rw [take_one he, take_one he', hme.out])
          clear he he' hme
          go_wp2
          go_quiet (fail)
          go_wp2
          go_roundw
          case rel => exact ⟨i + 1, by go_num, by omega, HN, below_like4 hbw rfl rfl rfl rfl⟩
          case measure => simp [intOf]; omega
        · have HF : Hid (sb = false) := Lib_hid (by
            rw [HS.out]
            have : es ≠ es2 := fun h => hee (by rw [h] at he; rw [he] at he'; injection he')
            simp [this])
          clear he he' hme
          obtain ⟨ex, ew, en, em⟩ := e
          obtain ⟨ex', ew', en', em'⟩ := e'
          simp only at d0 d1 d2 d3 f0 f1 f2 f3
          by_cases gex : ex = ex'
          · subst gex
            by_cases gew : ew = ew'
            · subst gew
              by_cases gen : en = en'
              · subst gen
                cases em with
                | true =>
                  cases em' with
                  | true => exact absurd rfl hee
                  | false =>
                    clear hee
                    go_wp2
                    go_quiet (fail)
                    go_wp2
                    go_ret
                    exact ⟨ret_b HF.out.symm, below_like4 hbw2 rfl rfl rfl rfl⟩
                | false =>
                  cases em' with
                  | false => exact absurd rfl hee
                  | true =>
                    clear hee
                    go_wp2
                    go_quiet (fail)
                    go_wp2
                    go_ret
                    exact ⟨ret_b HF.out.symm, below_like4 hbw2 rfl rfl rfl rfl⟩
              · have c1 : ¬ (en : Int) = (en' : Int) := by omega
                clear hee
                go_wp2
                go_quiet (fail)
                go_wp2
                go_ret
                exact ⟨ret_b HF.out.symm, below_like4 hbw2 rfl rfl rfl rfl⟩
            · have c1 : ¬ (ew : Int) = (ew' : Int) := by omega
              clear hee
              go_wp2
              go_quiet (fail)
              go_wp2
              go_ret
              exact ⟨ret_b HF.out.symm, below_like4 hbw2 rfl rfl rfl rfl⟩
          · have c1 : ¬ (ex : Int) = (ex' : Int) := by omega
            clear hee
            go_wp2
            go_quiet (fail)
            go_wp2
            go_ret
            exact ⟨ret_b HF.out.symm, below_like4 hbw2 rfl rfl rfl rfl⟩
      · obtain rfl : i = es.length := by omega
        have hES : es = es2 := by have h := hme.out; rw [List.take_length, HQ.out, List.take_length] at h; exact h
        have HSB := Lib_hid (HS.out)
        subst hES
        clear a10 d10 hme HQ
        obtain ⟨a0, a1, a2, a3, a4, a5, a6, a7, a8, a9, a10⟩ := rec_cells hx
        obtain ⟨d0, d1, d2, d3, d4, d5, d6, d7, d8, d9, d10⟩ := rec_cells hy
        have RR := RS.out wr hbw2
        clear hx hy CC HR RS
        by_cases ek : k = k2
        · subst ek
          by_cases et : t = t2
          · subst et
            by_cases ex : x = x2
            · subst ex
              by_cases ewn : wn = wn2
              · subst ewn
                by_cases enn : nn = nn2
                · subst enn
                  by_cases ev : v = v2
                  · subst ev
                    have HF : Hid (sb = ps) := Lib_hid (by rw [HSB.out]; simp)
                    clear HSB HS
                    go_wp2_with fail
                    refine RR.mono ?_
                    rintro e w3 ⟨rfl, hb3⟩
                    have hb4 := hbw2.trans (hb3.mono hbw2.size)
                    clear hb3 RR
                    go_wp2
                    go_ret
                    exact ⟨ret_b HF.out.symm, hb4⟩
                  · have c1 : ((v : Int) == (v2 : Int)) = false := by simp; omega
                    have HF : Hid (sb = false) := Lib_hid (by rw [HSB.out]; simp [ev])
                    clear HSB HS RR
                    go_wp2
                    go_ret
                    exact ⟨ret_b HF.out.symm, hbw2⟩
                · have c1 : ((nn : Int) == (nn2 : Int)) = false := by simp; omega
                  have HF : Hid (sb = false) := Lib_hid (by rw [HSB.out]; simp [enn])
                  clear HSB HS RR
                  go_wp2
                  go_ret
                  exact ⟨ret_b HF.out.symm, hbw2⟩
              · have c1 : ((wn : Int) == (wn2 : Int)) = false := by simp; omega
                have HF : Hid (sb = false) := Lib_hid (by rw [HSB.out]; simp [ewn])
                clear HSB HS RR
                go_wp2
                go_ret
                exact ⟨ret_b HF.out.symm, hbw2⟩
            · have c1 : ((x : Int) == (x2 : Int)) = false := by simp; omega
              have HF : Hid (sb = false) := Lib_hid (by rw [HSB.out]; simp [ex])
              clear HSB HS RR
              go_wp2
              go_ret
              exact ⟨ret_b HF.out.symm, hbw2⟩
          · have c1 : ((t : Int) == (t2 : Int)) = false := by simp; omega
            have HF : Hid (sb = false) := Lib_hid (by rw [HSB.out]; simp [et])
            clear HSB HS RR
            go_wp2
            go_ret
            exact ⟨ret_b HF.out.symm, hbw2⟩
        · have c1 : (k == k2) = false := by simp [ek]
          have HF : Hid (sb = false) := Lib_hid (by rw [HSB.out]; simp [ek])
          clear HSB HS RR
          go_wp2
          go_ret
          exact ⟨ret_b HF.out.symm, hbw2⟩
  · have q4 : ((es.length : Int) != (es2.length : Int)) = true := by simp; omega
    have HF : Hid (sb = false) := Lib_hid (by
      rw [HS.out]
      have : es ≠ es2 := fun h => hlen (by rw [h])
      simp [this])
    clear hlen
    go_wp2
    go_ret
    exact ⟨ret_b HF.out.symm, b2⟩
end Go.Proofs.YtiiiklenhmhccaaGreatDoor
