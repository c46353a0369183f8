/-
  Layer 5: the document's parse of a payload. (Out of gen_vzi.py.)
-/
import Derived.Test.YtdmoknnnlfkfoaaGreatDoorZpVcv
import Derived.Test.YtdmoknnnlfkfoaaGreatDoorZpInz

namespace Go.Proofs.YtdmoknnnlfkfoaaGreatDoor
open Go Go.RowKit
set_option linter.unusedVariables false
def DPa (k : Nat) (l : List Nat) (w : World) (e : Ending) (w' : World) : Prop :=
  ∃ (r : Rv) (ok : Bool), e = .returned (.tuple #[r.val, .bool ok]) ∧ ((ok = true ∧ payB k l = some r.abs) ∨ (ok = false ∧ payB k l = none)) ∧ RLies w' w.heap.size w'.heap.size r ∧ Below w.heap.size w w'
section
variable {w W W' : World} {b g : Nat} {L : List (List UInt8)} {r r' : Rv}
theorem DLn.fin {k : Nat} {l : List Nat} (h : DLn w b L g r W) (ok : Bool) (hok : (ok = true ∧ payB k l = some r.abs) ∨ (ok = false ∧ payB k l = none)) : DPa k l w (.returned (.tuple #[r.val, .bool ok])) (put11 W w.heap.size (.int .i64 r.kind) (.int .u64 (r.t : Int)) (.int .u64 (r.x : Int)) (.int .u64 (r.w : Int)) (.int .u64 (r.n : Int)) (.int .u64 (r.v : Int)) (.int .i64 r.p.kind) (.int .u64 (r.p.a : Int)) (.int .u64 (r.p.b : Int)) r.p.sl r.sl) := by
  have h3 := h.gl
  have hGG := put11_grow (.int .i64 r.kind) (.int .u64 (r.t : Int)) (.int .u64 (r.x : Int)) (.int .u64 (r.w : Int)) (.int .u64 (r.n : Int)) (.int .u64 (r.v : Int)) (.int .i64 r.p.kind) (.int .u64 (r.p.a : Int)) (.int .u64 (r.p.b : Int)) r.p.sl r.sl W (g := w.heap.size) w.heap.size
  exact ⟨r, ok, rfl, hok, (h.lies.grow2 hGG (by omega) (by omega) (Nat.le_refl _)).more (by omega) (Nat.le_refl _), h.below.trans (hGG.below h.below.size (Nat.le_refl _) (Nat.le_refl _))⟩
theorem DLn.aside3 (h : DLn w b [] g r W) {c : Nat} (h1 : w.heap.size < c) (h2 : c < g) (x y z : Value) : DLn w b [] g r (set3 W c x y z) := by
  have hk : ∀ k, k ≠ c → (set3 W c x y z).heap[k]? = W.heap[k]? := fun k hk => set3_other W c x y z k hk
  refine ⟨(hk _ (by omega)).trans h.out, (hk _ (by omega)).trans h.box, h.gl, h.bl, fun i x hx => by simp at hx, ?_, h.shp.keep fun k k1 k2 => hk k (by omega), own_keep h.own fun k e => hk k (by have := own_ge h.own k e; omega), set3_below h.below (by omega) _ _ _⟩
  rw [set3_size]
  exact h.lies.keep fun p p1 p2 => World.cell?_of_block (hk _ (by omega))
theorem DLn.ents {k : Int} {t x wn n v : Nat} {u : V} (h : DLn w b L g ⟨k, t, x, wn, n, v, u, none, 0, []⟩ W) {A : Option Addr} {c : Nat} {es : List En} (ok : ∀ e ∈ es, e.ok)
    (hown : W.ownsRow (g + 1) 91 4 (.slice A es.length c) es.length (enCells es)) : DLn w b L g ⟨k, t, x, wn, n, v, u, A, c, es⟩ (W.setCell ⟨g, 10, none⟩ (.slice A es.length c)) := by
  refine h.change (Grow2.set W g g 10 _) (heap_setCell_same W g 10 _ _ _ h.box) ⟨h.lies.kind, h.lies.t, h.lies.x, h.lies.wn, h.lies.n, h.lies.v, h.lies.p, Rd.own hown, own_cap hown, ok, ?_⟩ h.shp hown
  intro ad e hn
  obtain ⟨gg, cp, hv, hgg, _⟩ := hown.form hn
  have hA : A = some ⟨gg, 0, none⟩ := by injection hv
  have e : A = some ad := e
  rw [hA] at e
  injection e with e
  subst e
  exact own_ge hown gg (by rw [hA]; rfl)
end
theorem three_below (w : World) (o1 o2 o3 : Obj) : Below w.heap.size w (((w.alloc o1).alloc o2).alloc o3) :=
  ((below_new w o1).trans ((below_new (w.alloc o1) o2).mono (by simp))).trans ((below_new ((w.alloc o1).alloc o2) o3).mono (by simp; omega))
theorem rd_nums {W : World} {B n : Nat} {A : Option Addr} {xs : List Nat} (h : Rd W B 1 A n (us xs)) (hn : 0 < n) (hx : 0 < xs.length) : ∃ nb no, A = some ⟨nb, no, none⟩ ∧ nb < B ∧ ∀ (i x : Nat), xs[i]? = some x → W.cell? ⟨nb, no + i, none⟩ = some (.int .u64 (x : Int)) := by
  obtain ⟨⟨bb, off, spot⟩, e, hb, hc⟩ := h.lies hn
  have h0 : (us xs)[0]? = some (.int .u64 ((xs[0] : Nat) : Int)) := by unfold us; rw [List.getElem?_map, List.getElem?_eq_getElem hx]; rfl
  have hspot : spot = none := World.cell?_spot (a := ⟨bb, off, spot⟩) (by have := hc 0 _ h0; exact this)
  subst hspot
  refine ⟨bb, off, e, hb, fun i x hx => ?_⟩
  have := hc i (.int .u64 (x : Int)) (by unfold us; rw [List.getElem?_map, hx]; rfl)
  rw [show (⟨bb, off, none⟩ : Addr).add i = ⟨bb, off + i, none⟩ by unfold Addr.add; split <;> simp_all] at this
  exact this
theorem one_of {xs : List Nat} (h : xs.length = 1) : xs = [xs.getD 0 0] := by
  match xs, h with
  | [x], _ => rfl
theorem textS_le {l mm : List Nat} (hb : ∀ x ∈ l, x < 256) {a a1 e1 : Nat} (ha : a ≤ l.length) (h : textS l a 0 = (a1, e1, mm)) : a1 ≤ l.length ∧ e1 < 1000 ∧ (∀ x ∈ mm, x < 256) ∧ mm.length ≤ l.length := by
  obtain ⟨⟨p, e, v⟩, hS⟩ : ∃ x, numR l a 0 = x := ⟨_, rfl⟩
  obtain ⟨q1, q2, q3⟩ := numR_le hb ha (by omega) hS
  unfold textS at h
  rw [hS] at h
  simp only at h
  split at h
  · injection h with h h'
    injection h' with h' h''
    subst h h' h''
    exact ⟨ha, q2, by simp, by simp⟩
  · split at h
    · injection h with h h'
      injection h' with h' h''
      subst h h' h''
      exact ⟨ha, by omega, by simp, by simp⟩
    · injection h with h h'
      injection h' with h' h''
      subst h h' h''
      exact ⟨by omega, by omega, fun x hx => hb x (List.mem_of_mem_drop (List.mem_of_mem_take hx)), by rw [List.length_take, List.length_drop]; omega⟩
theorem DPa.drew {k : Nat} {l : List Nat} {w W : World} {e : Ending} (h : DPa k l w e W) : DPa k l w e W.drew := by
  obtain ⟨r, ok, h1, h2, h3, h4⟩ := h
  exact ⟨r, ok, h1, h2, h3.under (below_drew_ (Below.refl _ _) (n := 1)), below_drew_ h4 (n := 1)⟩
theorem getD_some {l : List Nat} {i : Nat} (h : i < l.length) : l[i]? = some (l.getD i 0) := by rw [List.getD_eq_getElem?_getD, List.getElem?_eq_getElem h]; rfl
theorem getD_mem {l : List Nat} {i : Nat} (h : i < l.length) : l.getD i 0 ∈ l := List.mem_of_getElem? (getD_some h)
theorem if_or {c : Bool} {x a b : World} (h : x = if c = true then a else b) : x = a ∨ x = b := by
  split at h
  · exact .inl h
  · exact .inr h
theorem put11_two {W wc : World} {g a b : Nat} (ha : a ≠ g) (hb : b ≠ g) (hW : W.heap = wc.heap) (v0 v1 v2 v3 v4 v5 v6 v7 v8 v9 v10 : Value) : (put11 W g v0 v1 v2 v3 v4 v5 v6 v7 v8 v9 v10).heap[a]? = wc.heap[a]? ∧ (put11 W g v0 v1 v2 v3 v4 v5 v6 v7 v8 v9 v10).heap[b]? = wc.heap[b]? := by
  rw [put11_else v0 v1 v2 v3 v4 v5 v6 v7 v8 v9 v10 W ha, put11_else v0 v1 v2 v3 v4 v5 v6 v7 v8 v9 v10 W hb, hW]
  exact ⟨rfl, rfl⟩
theorem dpa_ret {Q : Ending → World → Prop} {W : World} {h0 : Nat} {z : Bool} {x0 x1 x2 x3 x4 x5 x6 x7 x8 x9 x10 : Value} (HR : W.heap[h0]? = some (.cells #[x0, x1, x2, x3, x4, x5, x6, x7, x8, x9, x10] 37 (0, 0)))
    (HF : Q (.returned (.tuple #[.agg #[x0, x1, x2, x3, x4, x5, x6, x7, x8, x9, x10], .bool z])) W)
    (tmps : Array Value) (h2 : tmps.getD 4 undef = .pointer (some ⟨h0, 0, none⟩)) (h3 : tmps.getD 5 undef = .bool z) : bodyPost Tryz.prog Tryz.f22 Q .ret { tmps := tmps, defers := [] } W := by
  rw [Array.getD_eq_getD_getElem?] at h2 h3
  obtain ⟨d0, d1, d2, d3, d4, d5, d6, d7, d8, d9, d10⟩ := rec_cells HR
  exact bodyPost_ret (v := .tuple #[.agg #[x0, x1, x2, x3, x4, x5, x6, x7, x8, x9, x10], .bool z]) (by simp [results, Tryz.results22, go_sem, h2, h3, d0, d1, d2, d3, d4, d5, d6, d7, d8, d9, d10]) rfl HF
set_option maxRecDepth 100000 in
set_option maxHeartbeats 6400000 in
theorem dparse_any (k : Nat) (l : List Nat) (w : World) (h1 : 1 ≤ k) (h7 : k ≤ 7) (hb : ∀ x ∈ l, x < 256) (hl : l.length ≤ 1000) :
    Calls Tryz.prog 22 #[.int .i64 (k : Int), .string (str l)] w (DPa k l w) := by
  obtain ⟨hout, hrd, hrec⟩ := three_new w (.cells #[.int .i64 0, .int .u64 0, .int .u64 0, .int .u64 0, .int .u64 0, .int .u64 0, .int .i64 0, .int .u64 0, .int .u64 0, .slice none 0 0, .slice none 0 0] 37) (.cells #[.string (str l), .int .i64 0, .int .i64 0] 125) (.cells #[.int .i64 (k : Int), .int .u64 0, .int .u64 0, .int .u64 0, .int .u64 0, .int .u64 0, .int .i64 0, .int .u64 0, .int .u64 0, .slice none 0 0, .slice none 0 0] 37)
  have hb3 := three_below w (.cells #[.int .i64 0, .int .u64 0, .int .u64 0, .int .u64 0, .int .u64 0, .int .u64 0, .int .i64 0, .int .u64 0, .int .u64 0, .slice none 0 0, .slice none 0 0] 37) (.cells #[.string (str l), .int .i64 0, .int .i64 0] 125) (.cells #[.int .i64 (k : Int), .int .u64 0, .int .u64 0, .int .u64 0, .int .u64 0, .int .u64 0, .int .i64 0, .int .u64 0, .int .u64 0, .slice none 0 0, .slice none 0 0] 37)
  have HB8 := Lib_hid hb
  go_enter Tryz.func22, Tryz.ntmps22
  go_upto_region 3 with (fail)
  generalize ((w.alloc (.cells #[.int .i64 0, .int .u64 0, .int .u64 0, .int .u64 0, .int .u64 0, .int .u64 0, .int .i64 0, .int .u64 0, .int .u64 0, .slice none 0 0, .slice none 0 0] 37)).alloc (.cells #[.string (str l), .int .i64 0, .int .i64 0] 125)).alloc (.cells #[.int .i64 (k : Int), .int .u64 0, .int .u64 0, .int .u64 0, .int .u64 0, .int .u64 0, .int .i64 0, .int .u64 0, .int .u64 0, .slice none 0 0, .slice none 0 0] 37) = w3 at *
  have hD3 : DLn w (w.heap.size + 1) [] (w.heap.size + 1 + 1) ⟨(k : Int), 0, 0, 0, 0, 0, .node 0 0 0 none 0 [], none, 0, []⟩ w3 := ⟨hout, hrec, by omega, by omega, fun i x hx => by simp at hx, rlies_zero _ _ _ _ (by omega), zero_shp _ _ _, World.ownsRow_nil _ _ _ _, hb3⟩
  have hg3 := lt_of_block hrec
  clear hout hrec hb3 hb
  have hb4 := below_new w3 (.cells #[.int .i64 0, .int .i64 1, .int .i64 4, .int .i64 3, .int .i64 2, .int .i64 1, .int .i64 1, .int .i64 1] 3)
  have hg4 := heap_alloc_new w3 (.cells #[.int .i64 0, .int .i64 1, .int .i64 4, .int .i64 3, .int .i64 2, .int .i64 1, .int .i64 1, .int .i64 1] 3)
  have HD4 := Lib_hid (hD3.under hb4)
  have hrd4 := (hb4.block _ (lt_of_block hrd)).trans hrd
  have dK : (#[.int .i64 0, .int .i64 1, .int .i64 4, .int .i64 3, .int .i64 2, .int .i64 1, .int .i64 1, .int .i64 1] : Array Value)[k]? = some (.int .i64 (manyP k : Nat)) := by
    have hk : k = 1 ∨ k = 2 ∨ k = 3 ∨ k = 4 ∨ k = 5 ∨ k = 6 ∨ k = 7 := by omega
    rcases hk with rfl | rfl | rfl | rfl | rfl | rfl | rfl <;> rfl
  have dcell := (cell_of_row _ _ k _ _ _ hg4).trans dK
  have hk8 : k < 8 := by omega
  have hk8i : (k : Int) < 8 := by omega
  have hsz4 : w.heap.size + 1 + 1 < (w3.alloc (.cells #[.int .i64 0, .int .i64 1, .int .i64 4, .int .i64 3, .int .i64 2, .int .i64 1, .int .i64 1, .int .i64 1] 3)).heap.size := by have := hb4.size; omega
  clear hD3 hb4 hg4 hrd dK
  go_upto_region 4 with (fail)
  clear dcell hg3
  generalize w3.alloc (.cells #[.int .i64 0, .int .i64 1, .int .i64 4, .int .i64 3, .int .i64 2, .int .i64 1, .int .i64 1, .int .i64 1] 3) = w4 at *
  have hm4 : 1 ≤ manyP k ∧ manyP k ≤ 4 := by
    have hk : k = 1 ∨ k = 2 ∨ k = 3 ∨ k = 4 ∨ k = 5 ∨ k = 6 ∨ k = 7 := by omega
    rcases hk with rfl | rfl | rfl | rfl | rfl | rfl | rfl <;> decide
  have HPN : Hid (nusT l 0 (manyP k) = none → payB k l = none) := fun h => pay_none h1 h7 h
  obtain ⟨m, hm⟩ : ∃ m, manyP k = m := ⟨_, rfl⟩
  have HM := Lib_hid hm
  rw [hm] at hm4 HPN ⊢
  obtain ⟨⟨a, e, xs⟩, hR⟩ : ∃ x, numsR l 0 0 (m : Int) = x := ⟨_, rfl⟩
  have RN : Calls Tryz.prog 54 #[.agg #[.string (str l), .int .i64 0, .int .i64 0], .int .i64 (m : Int)] w4 (RUPost l (a, e, xs) w4) := by
    have h := rnums_any l 0 0 (m : Int) w4 HB8.out hl (Nat.zero_le _) (by omega) (by omega)
    rw [hR] at h
    exact h
  obtain ⟨ha, he, hxs⟩ := numsR_le HB8.out (Nat.zero_le _) hR
  have hT := Lib_hid (numsR_T hR)
  have HX64 := Lib_hid hxs
  clear hxs hR hm
  obtain ⟨p1, p2, p3, -, -, -⟩ := blk3 hrd4
  go_wp2_with fail
  refine RN.mono ?_
  rintro en w5 ⟨A, c, rfl, hr, hb5, hge⟩
  clear p1 p2 p3 RN
  have hrd5 := (hb5.block _ (lt_of_block hrd4)).trans hrd4
  obtain ⟨p1, p2, p3, f1, f2, f3⟩ := blk3 hrd5
  have HD6 : Hid (DLn w (w.heap.size + 1) [] (w.heap.size + 1 + 1) ⟨(k : Int), 0, 0, 0, 0, 0, .node 0 0 0 none 0 [], none, 0, []⟩ (set3 w5 (w.heap.size + 1) (.string (str l)) (.int .i64 (a : Int)) (.int .i64 (e : Int)))) := (HD4.out.under hb5).aside3 (by omega) (by omega) _ _ _
  have HRD6 : Hid ((set3 w5 (w.heap.size + 1) (.string (str l)) (.int .i64 (a : Int)) (.int .i64 (e : Int))).heap[w.heap.size + 1]? = some (.cells #[.string (str l), .int .i64 (a : Int), .int .i64 (e : Int)] 125 (0, 0))) := set3_block hrd5
  have HXS6 : Hid (Rd (set3 w5 (w.heap.size + 1) (.string (str l)) (.int .i64 (a : Int)) (.int .i64 (e : Int))) (set3 w5 (w.heap.size + 1) (.string (str l)) (.int .i64 (a : Int)) (.int .i64 (e : Int))).heap.size 1 A xs.length (us xs)) := hr.off (fun ad h _ => set3_other _ _ _ _ _ _ (by have := hge ad h; omega)) (by rw [set3_size]; exact Nat.le_refl _)
  have HGE := Lib_hid hge
  clear hr hge hb5 hrd5 hrd4 HD4
  go_upto_region 5 with (fail)
  change Code.wp _ _ _ _ (set3 w5 (w.heap.size + 1) (.string (str l)) (.int .i64 (a : Int)) (.int .i64 (e : Int)))
  generalize set3 w5 (w.heap.size + 1) (.string (str l)) (.int .i64 (a : Int)) (.int .i64 (e : Int)) = w6 at *
  clear p1 p2 p3 f1 f2 f3
  obtain ⟨p1, p2, p3, -, -, -⟩ := blk3 HRD6.out
  by_cases he0 : e = 0
  rotate_left
  · have hz : ((e : Int) != 0) = true := by simp; omega
    have HN : Hid (payB k l = none) := by
      rcases hT.out with ⟨h, -⟩ | ⟨-, -, h⟩
      · exact absurd h he0
      · exact HPN.out h
    have HXX : Hid (DPa k l w (.returned (.tuple #[.agg #[.int .i64 (k : Int), .int .u64 0, .int .u64 0, .int .u64 0, .int .u64 0, .int .u64 0, .int .i64 0, .int .u64 0, .int .u64 0, .slice none 0 0, .slice none 0 0], .bool false])) (put11 w6 w.heap.size (.int .i64 (k : Int)) (.int .u64 0) (.int .u64 0) (.int .u64 0) (.int .u64 0) (.int .u64 0) (.int .i64 0) (.int .u64 0) (.int .u64 0) (.slice none 0 0) (.slice none 0 0))) := HD6.out.fin false (.inr ⟨rfl, HN.out⟩)
    have HYY : Hid ((put11 w6 w.heap.size (.int .i64 (k : Int)) (.int .u64 0) (.int .u64 0) (.int .u64 0) (.int .u64 0) (.int .u64 0) (.int .i64 0) (.int .u64 0) (.int .u64 0) (.slice none 0 0) (.slice none 0 0)).heap[w.heap.size]? = some (.cells #[.int .i64 (k : Int), .int .u64 0, .int .u64 0, .int .u64 0, .int .u64 0, .int .u64 0, .int .i64 0, .int .u64 0, .int .u64 0, .slice none 0 0, .slice none 0 0] 37 (0, 0))) := put11_row _ _ _ _ _ _ _ _ _ _ _ HD6.out.out
    have hbx : w6.heap[w.heap.size + 1 + 1]? = some (.cells #[.int .i64 (k : Int), .int .u64 0, .int .u64 0, .int .u64 0, .int .u64 0, .int .u64 0, .int .i64 0, .int .u64 0, .int .u64 0, .slice none 0 0, .slice none 0 0] 37 (0, 0)) := HD6.out.box
    obtain ⟨d0, d1, d2, d3, d4, d5, d6, d7, d8, d9, d10⟩ := rec_cells hbx
    obtain ⟨e0, e1, e2, e3, e4, e5, e6, e7, e8, e9, e10⟩ := rec_cells HD6.out.out
    have y := fun i => frozen_of_row w6 w.heap.size i _ _ HD6.out.out
    have y0 := y 0
    have y1 := y 1
    have y2 := y 2
    have y3 := y 3
    have y4 := y 4
    have y5 := y 5
    have y6 := y 6
    have y7 := y 7
    have y8 := y 8
    have y9 := y 9
    have y10 := y 10
    clear y hbx HD6 HXS6 HRD6 HGE HPN
    go_wp2
    show bodyPost _ _ _ _ _ (put11 w6 w.heap.size (.int .i64 (k : Int)) (.int .u64 0) (.int .u64 0) (.int .u64 0) (.int .u64 0) (.int .u64 0) (.int .i64 0) (.int .u64 0) (.int .u64 0) (.slice none 0 0) (.slice none 0 0))
    generalize put11 w6 w.heap.size (.int .i64 (k : Int)) (.int .u64 0) (.int .u64 0) (.int .u64 0) (.int .u64 0) (.int .u64 0) (.int .i64 0) (.int .u64 0) (.int .u64 0) (.slice none 0 0) (.slice none 0 0) = W4 at *
    exact dpa_ret HYY.out HXX.out _ rfl rfl
  · subst he0
    have hT1 : Hid (nusT l 0 m = some (xs, a)) := by
      rcases hT.out with ⟨-, h⟩ | ⟨h, -, -⟩
      · exact h
      · exact absurd rfl h
    have hlen : xs.length = m := nusT_len hT1.out
    obtain ⟨nb, no, rfl, hnb, hnc⟩ := rd_nums HXS6.out (by omega) (by omega)
    have hnb4 := HGE.out _ rfl
    simp only at hnb4
    have HNS : Hid (∀ W', Grow2 w6 W' (w.heap.size + 1 + 1) (w.heap.size + 1) → ∀ (i x : Nat), xs[i]? = some x → W'.cell? ⟨nb, no + i, none⟩ = some (.int .u64 (x : Int))) := fun W' hG i x hx => (World.cell?_of_block (hG.block nb hnb (by omega) (by omega))).trans (hnc i x hx)
    have HG6 := Lib_hid (Grow2.refl w6 (w.heap.size + 1 + 1) (w.heap.size + 1))
    have HLEN := Lib_hid hlen
    clear hT hnc HXS6 HGE HPN hnb hnb4
    obtain ⟨t, ht⟩ : ∃ z, xs.getD 0 0 = z := ⟨_, rfl⟩
    have c0 : w6.cell? ⟨nb, no, none⟩ = some (.int .u64 (t : Int)) := by
      have h := HNS.out w6 HG6.out 0 (xs.getD 0 0) (getD_some (by omega))
      rw [ht] at h
      exact h
    have t64 : t < 18446744073709551616 := by rw [← ht]; exact HX64.out _ (getD_mem (by omega))
    have Ht := Lib_hid ht
    have i0 : (0 : Int) < (xs.length : Int) := by omega
    clear ht
    have HD7 : Hid (DLn w (w.heap.size + 1) [] (w.heap.size + 1 + 1) ⟨(k : Int), t, 0, 0, 0, 0, .node 0 0 0 none 0 [], none, 0, []⟩ (w6.setCell ⟨w.heap.size + 1 + 1, 1, none⟩ (.int .u64 (t : Int)))) := HD6.out.setT t64
    have HRD7 : Hid ((w6.setCell ⟨w.heap.size + 1 + 1, 1, none⟩ (.int .u64 (t : Int))).heap[w.heap.size + 1]? = some (.cells #[.string (str l), .int .i64 (a : Int), .int .i64 0] 125 (0, 0))) := (Below.heap_setCell _ _ _ _ (by show w.heap.size + 1 ≠ w.heap.size + 1 + 1; omega)).trans HRD6.out
    have HG7 : Hid (Grow2 w6 (w6.setCell ⟨w.heap.size + 1 + 1, 1, none⟩ (.int .u64 (t : Int))) (w.heap.size + 1 + 1) (w.heap.size + 1)) := Grow2.set w6 _ _ 1 _
    have q1 := HD6.out.cell 1 _ rfl
    have y1 := frozen_of_row w6 (w.heap.size + 1 + 1) 1 _ _ HD6.out.box
    clear HD6 HRD6 HG6 hlen
    go_upto_region 8 with (fail)
    clear c0 i0 p1 p2 p3 q1 y1
    generalize w6.setCell ⟨w.heap.size + 1 + 1, 1, none⟩ (.int .u64 (t : Int)) = w7 at *
    have hlen := HLEN.out
    go_upto_block 0 with (fail)
    go_cut [10] from 11 to 99 (fun v W => ∃ (r : Rv) (a2 : Nat), Hid (DLn w (w.heap.size + 1) [] (w.heap.size + 1 + 1) r W) ∧ Hid (W.heap[w.heap.size + 1]? = some (.cells #[.string (str l), .int .i64 (a2 : Int), .int .i64 0] 125 (0, 0))) ∧ Hid (payB k l = if a2 = l.length then some r.abs else none))
    case first =>
      rcases kinds7 h1 h7 with hk | hk | hk | hk | hk
      · have k2 : ((k : Int) == 2) = false := by simp; omega
        have k3 : ((k : Int) == 3) = false := by simp; omega
        have k4 : ((k : Int) == 4) = false := by simp; omega
        have k5 : ((k : Int) == 5) = false := by simp; omega
        have HPAY : Hid (payB k l = if a = l.length then some (Rv.abs ⟨(k : Int), t, 0, 0, 0, 0, .node 0 0 0 none 0 [], none, 0, []⟩) else none) := by
          have hm := HM.out
          have h1' : manyP k = 1 := by rcases hk with rfl | rfl | rfl <;> rfl
          unfold Hid
          rw [pay_1 l hk, show nusT l 0 1 = some (xs, a) by rw [← hT1.out, ← hm, h1']]
          show (if a = l.length then some ({ Rc.zero k with t := xs.getD 0 0 } : Rc) else none) = _
          rw [Ht.out]
          simp [Rv.abs, V.abs, V.absL, Rc.zero]
        clear hk
        go_wp2_with fail
        go_meet
        exact ⟨_, _, HD7, HRD7, HPAY⟩
      · have k2 : ((k : Int) == 2) = true := by simp; omega
        have hlm : m = 4 := by have hm := HM.out; subst hk; exact hm.symm
        obtain ⟨x, hx⟩ : ∃ z, xs.getD 1 0 = z := ⟨_, rfl⟩
        have c1 : w7.cell? ⟨nb, no + 1, none⟩ = some (.int .u64 (x : Int)) := by
          have h := HNS.out w7 HG7.out 1 (xs.getD 1 0) (getD_some (by omega))
          rw [hx] at h
          exact h
        have x64 : x < 18446744073709551616 := by rw [← hx]; exact HX64.out _ (getD_mem (by omega))
        have Hx := Lib_hid hx
        have i1 : (1 : Int) < (xs.length : Int) := by omega
        clear hx
        obtain ⟨wn, hwn⟩ : ∃ z, xs.getD 2 0 = z := ⟨_, rfl⟩
        have c2 : w7.cell? ⟨nb, no + 2, none⟩ = some (.int .u64 (wn : Int)) := by
          have h := HNS.out w7 HG7.out 2 (xs.getD 2 0) (getD_some (by omega))
          rw [hwn] at h
          exact h
        have wn64 : wn < 18446744073709551616 := by rw [← hwn]; exact HX64.out _ (getD_mem (by omega))
        have Hwn := Lib_hid hwn
        have i2 : (2 : Int) < (xs.length : Int) := by omega
        clear hwn
        obtain ⟨n, hn⟩ : ∃ z, xs.getD 3 0 = z := ⟨_, rfl⟩
        have c3 : w7.cell? ⟨nb, no + 3, none⟩ = some (.int .u64 (n : Int)) := by
          have h := HNS.out w7 HG7.out 3 (xs.getD 3 0) (getD_some (by omega))
          rw [hn] at h
          exact h
        have n64 : n < 18446744073709551616 := by rw [← hn]; exact HX64.out _ (getD_mem (by omega))
        have Hn := Lib_hid hn
        have i3 : (3 : Int) < (xs.length : Int) := by omega
        clear hn
        have HPAY : Hid (payB k l = if a = l.length then some (Rv.abs ⟨(k : Int), t, x, wn, n, 0, .node 0 0 0 none 0 [], none, 0, []⟩) else none) := by
          have hm := HM.out
          subst hk
          unfold Hid
          rw [pay_2 l, show nusT l 0 4 = some (xs, a) by rw [← hT1.out, ← hm]; rfl]
          show (if a = l.length then some ({ Rc.zero 2 with t := xs.getD 0 0, x := xs.getD 1 0, w := xs.getD 2 0, n := xs.getD 3 0 } : Rc) else none) = _
          rw [Ht.out, Hx.out, Hwn.out, Hn.out]
          simp [Rv.abs, V.abs, V.absL, Rc.zero]
        clear hk c2 c3
        have HLM := Lib_hid hlm
        clear hlm hlen
        have HD8 : Hid (DLn w (w.heap.size + 1) [] (w.heap.size + 1 + 1) ⟨(k : Int), t, x, 0, 0, 0, .node 0 0 0 none 0 [], none, 0, []⟩ (w7.setCell ⟨w.heap.size + 1 + 1, 2, none⟩ (.int .u64 (x : Int)))) := HD7.out.setX x64
        have HRD8 : Hid ((w7.setCell ⟨w.heap.size + 1 + 1, 2, none⟩ (.int .u64 (x : Int))).heap[w.heap.size + 1]? = some (.cells #[.string (str l), .int .i64 (a : Int), .int .i64 0] 125 (0, 0))) := (Below.heap_setCell _ _ _ _ (by show w.heap.size + 1 ≠ w.heap.size + 1 + 1; omega)).trans HRD7.out
        have HG8 : Hid (Grow2 w6 (w7.setCell ⟨w.heap.size + 1 + 1, 2, none⟩ (.int .u64 (x : Int))) (w.heap.size + 1 + 1) (w.heap.size + 1)) := HG7.out.trans (Grow2.set _ _ _ 2 _)
        have q1 := HD7.out.cell 2 _ rfl
        have y1 := frozen_of_row w7 (w.heap.size + 1 + 1) 2 _ _ HD7.out.box
        clear HD7 HRD7 HG7
        go_upto_region 11 with (fail)
        clear c1 i1 q1 y1
        generalize w7.setCell ⟨w.heap.size + 1 + 1, 2, none⟩ (.int .u64 (x : Int)) = w8 at *
        have HD9 : Hid (DLn w (w.heap.size + 1) [] (w.heap.size + 1 + 1) ⟨(k : Int), t, x, 0, 0, 0, .node 0 0 0 none 0 [], none, 0, []⟩ w8.drew) := HD8.out.under (below_drew_ (Below.refl w8.heap.size w8) (n := 1))
        have HRD9 : Hid (w8.drew.heap[w.heap.size + 1]? = some (.cells #[.string (str l), .int .i64 (a : Int), .int .i64 0] 125 (0, 0))) := HRD8.out
        have c2 : w8.cell? ⟨nb, no + 2, none⟩ = some (.int .u64 (wn : Int)) := by
          have hlen := HLEN.out
          have hm := HLM.out
          have h := HNS.out w8 HG8.out 2 (xs.getD 2 0) (getD_some (by omega))
          rw [Hwn.out] at h
          exact h
        have c3 : w8.cell? ⟨nb, no + 3, none⟩ = some (.int .u64 (n : Int)) := by
          have hlen := HLEN.out
          have hm := HLM.out
          have h := HNS.out w8 HG8.out 3 (xs.getD 3 0) (getD_some (by omega))
          rw [Hn.out] at h
          exact h
        go_still_tail 8, (by kernel_rfl)
        change wpList _ _ _ _ _ w8.drew
        generalize w8.drew = w9 at *
        have HD10 : Hid (DLn w (w.heap.size + 1) [] (w.heap.size + 1 + 1) ⟨(k : Int), t, x, wn, n, 0, .node 0 0 0 none 0 [], none, 0, []⟩ ((w9.setCell ⟨w.heap.size + 1 + 1, 3, none⟩ (.int .u64 (wn : Int))).setCell ⟨w.heap.size + 1 + 1, 4, none⟩ (.int .u64 (n : Int)))) := (HD9.out.setW wn64).setN n64
        have HRD10 : Hid (((w9.setCell ⟨w.heap.size + 1 + 1, 3, none⟩ (.int .u64 (wn : Int))).setCell ⟨w.heap.size + 1 + 1, 4, none⟩ (.int .u64 (n : Int))).heap[w.heap.size + 1]? = some (.cells #[.string (str l), .int .i64 (a : Int), .int .i64 0] 125 (0, 0))) := (Below.heap_setCell _ _ _ _ (by show w.heap.size + 1 ≠ w.heap.size + 1 + 1; omega)).trans ((Below.heap_setCell _ _ _ _ (by show w.heap.size + 1 ≠ w.heap.size + 1 + 1; omega)).trans HRD9.out)
        have e3 : w9.cell? ⟨w.heap.size + 1 + 1, 3, none⟩ = some (.int .u64 0) := HD9.out.cell 3 _ rfl
        have e4 : w9.cell? ⟨w.heap.size + 1 + 1, 4, none⟩ = some (.int .u64 0) := HD9.out.cell 4 _ rfl
        have y3 := frozen_of_row w9 (w.heap.size + 1 + 1) 3 _ _ HD9.out.box
        have y4 := frozen_of_row w9 (w.heap.size + 1 + 1) 4 _ _ HD9.out.box
        clear HD8 HRD8 HG8 HD9 HRD9
        go_wp2_with fail
        go_meet
        exact ⟨_, _, HD10, HRD10, HPAY⟩
      · have k2 : ((k : Int) == 2) = false := by simp; omega
        have k3 : ((k : Int) == 3) = true := by simp; omega
        have hlm : m = 3 := by have hm := HM.out; subst hk; exact hm.symm
        obtain ⟨x, hx⟩ : ∃ z, xs.getD 1 0 = z := ⟨_, rfl⟩
        have c1 : w7.cell? ⟨nb, no + 1, none⟩ = some (.int .u64 (x : Int)) := by
          have h := HNS.out w7 HG7.out 1 (xs.getD 1 0) (getD_some (by omega))
          rw [hx] at h
          exact h
        have x64 : x < 18446744073709551616 := by rw [← hx]; exact HX64.out _ (getD_mem (by omega))
        have Hx := Lib_hid hx
        have i1 : (1 : Int) < (xs.length : Int) := by omega
        clear hx
        obtain ⟨v, hv⟩ : ∃ z, xs.getD 2 0 = z := ⟨_, rfl⟩
        have c2 : w7.cell? ⟨nb, no + 2, none⟩ = some (.int .u64 (v : Int)) := by
          have h := HNS.out w7 HG7.out 2 (xs.getD 2 0) (getD_some (by omega))
          rw [hv] at h
          exact h
        have v64 : v < 18446744073709551616 := by rw [← hv]; exact HX64.out _ (getD_mem (by omega))
        have Hv := Lib_hid hv
        have i2 : (2 : Int) < (xs.length : Int) := by omega
        clear hv
        have HPAY : Hid (payB k l = if a = l.length then some (Rv.abs ⟨(k : Int), t, x, 0, 0, v, .node 0 0 0 none 0 [], none, 0, []⟩) else none) := by
          have hm := HM.out
          subst hk
          unfold Hid
          rw [pay_3 l, show nusT l 0 3 = some (xs, a) by rw [← hT1.out, ← hm]; rfl]
          show (if a = l.length then some ({ Rc.zero 3 with t := xs.getD 0 0, x := xs.getD 1 0, v := xs.getD 2 0 } : Rc) else none) = _
          rw [Ht.out, Hx.out, Hv.out]
          simp [Rv.abs, V.abs, V.absL, Rc.zero]
        clear hk c2
        have HLM := Lib_hid hlm
        clear hlm hlen
        have HD8 : Hid (DLn w (w.heap.size + 1) [] (w.heap.size + 1 + 1) ⟨(k : Int), t, x, 0, 0, 0, .node 0 0 0 none 0 [], none, 0, []⟩ (w7.setCell ⟨w.heap.size + 1 + 1, 2, none⟩ (.int .u64 (x : Int)))) := HD7.out.setX x64
        have HRD8 : Hid ((w7.setCell ⟨w.heap.size + 1 + 1, 2, none⟩ (.int .u64 (x : Int))).heap[w.heap.size + 1]? = some (.cells #[.string (str l), .int .i64 (a : Int), .int .i64 0] 125 (0, 0))) := (Below.heap_setCell _ _ _ _ (by show w.heap.size + 1 ≠ w.heap.size + 1 + 1; omega)).trans HRD7.out
        have HG8 : Hid (Grow2 w6 (w7.setCell ⟨w.heap.size + 1 + 1, 2, none⟩ (.int .u64 (x : Int))) (w.heap.size + 1 + 1) (w.heap.size + 1)) := HG7.out.trans (Grow2.set _ _ _ 2 _)
        have q1 := HD7.out.cell 2 _ rfl
        have y1 := frozen_of_row w7 (w.heap.size + 1 + 1) 2 _ _ HD7.out.box
        clear HD7 HRD7 HG7
        go_upto_region 14 with (fail)
        clear c1 i1 q1 y1
        generalize w7.setCell ⟨w.heap.size + 1 + 1, 2, none⟩ (.int .u64 (x : Int)) = w8 at *
        have c2 : w8.cell? ⟨nb, no + 2, none⟩ = some (.int .u64 (v : Int)) := by
          have hlen := HLEN.out
          have hm := HLM.out
          have h := HNS.out w8 HG8.out 2 (xs.getD 2 0) (getD_some (by omega))
          rw [Hv.out] at h
          exact h
        have HD9 : Hid (DLn w (w.heap.size + 1) [] (w.heap.size + 1 + 1) ⟨(k : Int), t, x, 0, 0, v, .node 0 0 0 none 0 [], none, 0, []⟩ (w8.setCell ⟨w.heap.size + 1 + 1, 5, none⟩ (.int .u64 (v : Int)))) := HD8.out.setV v64
        have HRD9 : Hid ((w8.setCell ⟨w.heap.size + 1 + 1, 5, none⟩ (.int .u64 (v : Int))).heap[w.heap.size + 1]? = some (.cells #[.string (str l), .int .i64 (a : Int), .int .i64 0] 125 (0, 0))) := (Below.heap_setCell _ _ _ _ (by show w.heap.size + 1 ≠ w.heap.size + 1 + 1; omega)).trans HRD8.out
        have HG9 : Hid (Grow2 w6 (w8.setCell ⟨w.heap.size + 1 + 1, 5, none⟩ (.int .u64 (v : Int))) (w.heap.size + 1 + 1) (w.heap.size + 1)) := HG8.out.trans (Grow2.set _ _ _ 5 _)
        have q1 := HD8.out.cell 5 _ rfl
        have y1 := frozen_of_row w8 (w.heap.size + 1 + 1) 5 _ _ HD8.out.box
        clear HD8 HRD8 HG8
        go_wp2_with fail
        go_meet
        exact ⟨_, _, HD9, HRD9, HPAY⟩
      · have k2 : ((k : Int) == 2) = false := by simp; omega
        have k3 : ((k : Int) == 3) = false := by simp; omega
        have k4 : ((k : Int) == 4) = true := by simp; omega
        have hlm : m = 2 := by have hm := HM.out; subst hk; exact hm.symm
        obtain ⟨x, hx⟩ : ∃ z, xs.getD 1 0 = z := ⟨_, rfl⟩
        have c1 : w7.cell? ⟨nb, no + 1, none⟩ = some (.int .u64 (x : Int)) := by
          have h := HNS.out w7 HG7.out 1 (xs.getD 1 0) (getD_some (by omega))
          rw [hx] at h
          exact h
        have x64 : x < 18446744073709551616 := by rw [← hx]; exact HX64.out _ (getD_mem (by omega))
        have Hx := Lib_hid hx
        have i1 : (1 : Int) < (xs.length : Int) := by omega
        clear hx
        have HPAY : Hid (payB k l = if a = l.length then some (Rv.abs ⟨(k : Int), t, x, 0, 0, 0, .node 0 0 0 none 0 [], none, 0, []⟩) else none) := by
          have hm := HM.out
          subst hk
          unfold Hid
          rw [pay_4 l, show nusT l 0 2 = some (xs, a) by rw [← hT1.out, ← hm]; rfl]
          show (if a = l.length then some ({ Rc.zero 4 with t := xs.getD 0 0, x := xs.getD 1 0 } : Rc) else none) = _
          rw [Ht.out, Hx.out]
          simp [Rv.abs, V.abs, V.absL, Rc.zero]
        clear hk
        clear hlm hlen
        have HD8 : Hid (DLn w (w.heap.size + 1) [] (w.heap.size + 1 + 1) ⟨(k : Int), t, x, 0, 0, 0, .node 0 0 0 none 0 [], none, 0, []⟩ (w7.setCell ⟨w.heap.size + 1 + 1, 2, none⟩ (.int .u64 (x : Int)))) := HD7.out.setX x64
        have HRD8 : Hid ((w7.setCell ⟨w.heap.size + 1 + 1, 2, none⟩ (.int .u64 (x : Int))).heap[w.heap.size + 1]? = some (.cells #[.string (str l), .int .i64 (a : Int), .int .i64 0] 125 (0, 0))) := (Below.heap_setCell _ _ _ _ (by show w.heap.size + 1 ≠ w.heap.size + 1 + 1; omega)).trans HRD7.out
        have HG8 : Hid (Grow2 w6 (w7.setCell ⟨w.heap.size + 1 + 1, 2, none⟩ (.int .u64 (x : Int))) (w.heap.size + 1 + 1) (w.heap.size + 1)) := HG7.out.trans (Grow2.set _ _ _ 2 _)
        have q1 := HD7.out.cell 2 _ rfl
        have y1 := frozen_of_row w7 (w.heap.size + 1 + 1) 2 _ _ HD7.out.box
        clear HD7 HRD7 HG7
        go_wp2_with fail
        go_meet
        exact ⟨_, _, HD8, HRD8, HPAY⟩
      · have k2 : ((k : Int) == 2) = false := by simp; omega
        have k3 : ((k : Int) == 3) = false := by simp; omega
        have k4 : ((k : Int) == 4) = false := by simp; omega
        have k5 : ((k : Int) == 5) = true := by simp; omega
        have HN1 : Hid (nusT l 0 1 = some ([t], a)) := by
          have hm := HM.out
          subst hk
          have hm1 : m = 1 := hm.symm
          have hx := one_of (show xs.length = 1 by rw [HLEN.out, hm1])
          unfold Hid
          rw [Ht.out] at hx
          rw [← hx, ← hm1]
          exact hT1.out
        have HK := Lib_hid hk
        obtain ⟨⟨a1, e1, mm⟩, hS⟩ : ∃ x, textS l a 0 = x := ⟨_, rfl⟩
        have TXT : Calls Tryz.prog 55 #[.agg #[.string (str l), .int .i64 (a : Int), .int .i64 0]] w7 (RawPost l (a1, e1, mm) w7) := by
          have h := rrtext_any l a 0 w7 HB8.out hl ha (by omega)
          rw [hS] at h
          exact h
        have HTK := Lib_hid (text_took hS false)
        obtain ⟨ha1, he1, hmm, hmml⟩ := textS_le HB8.out ha hS
        have HMB := Lib_hid hmm
        obtain ⟨p1, p2, p3, -, -, -⟩ := blk3 HRD7.out
        have hrb7 := lt_of_block HRD7.out
        have hgr7 := lt_of_block HD7.out.box
        clear hS hmm hk HNS HG7 HX64 HLEN hlen hT1 HM
        go_wp2_with fail
        refine TXT.mono ?_
        rintro en w8 ⟨A2, c2, rfl, hr8, hb8, -⟩
        have HA8 := heap_alloc_new w8 (.cells #[.string (str l), .int .i64 (a1 : Int), .int .i64 (e1 : Int)] 125)
        have hb9 := below_new w8 (.cells #[.string (str l), .int .i64 (a1 : Int), .int .i64 (e1 : Int)] 125)
        have hs8 := hb8.size
        have hs9 : w8.heap.size < (w8.alloc (.cells #[.string (str l), .int .i64 (a1 : Int), .int .i64 (e1 : Int)] 125)).heap.size := by simp
        have HD9 := Lib_hid ((HD7.out.under hb8).under hb9)
        have HRD9 := Lib_hid ((hb9.block _ (by omega)).trans ((hb8.block _ hrb7).trans HRD7.out))
        have hr9 := (hr8.below hb9).more hb9.size
        clear TXT p1 p2 p3 hr8 hb8 hb9 HD7 HRD7
        go_upto_region 19 with (fail)
        generalize w8.alloc (.cells #[.string (str l), .int .i64 (a1 : Int), .int .i64 (e1 : Int)] 125) = w9 at *
        obtain ⟨⟨tt, z⟩, hP⟩ : ∃ x, ansT (parseT mm) = x := ⟨_, rfl⟩
        have PC : Calls Tryz.prog 56 #[.slice A2 mm.length c2] w9 fun en w' => ∃ u : V, en = .returned (.tuple #[.agg #[.int .i64 u.kind, .int .u64 (u.a : Int), .int .u64 (u.b : Int), .slice u.addr u.parts.length u.cap], .int .i64 (z : Int)]) ∧ u.abs = tt ∧ Lies w' w9.heap.size w'.heap.size u ∧ Shp 34 w' w9.heap.size u ∧ Below w9.heap.size w9 w' := by
          have h := rParse_any mm A2 mm.length c2 rfl w9 (fun W hW => rTake_any HMB.out A2 mm.length c2 (by omega) 0 w9.heap.size W (hr9.below hW) hW.size)
          rw [hP] at h
          exact h
        have HPE := Lib_hid hP
        clear hP hr9
        go_wp2_with fail
        refine PC.mono ?_
        rintro en w10 ⟨u, rfl, hu, huL, huS, hb10⟩
        have HA10 := heap_alloc_new w10 (.cells #[.int .i64 u.kind, .int .u64 (u.a : Int), .int .u64 (u.b : Int), .slice u.addr u.parts.length u.cap] 34)
        have hb11 := below_new w10 (.cells #[.int .i64 u.kind, .int .u64 (u.a : Int), .int .u64 (u.b : Int), .slice u.addr u.parts.length u.cap] 34)
        have hs10 := hb10.size
        have hs11 : w10.heap.size < (w10.alloc (.cells #[.int .i64 u.kind, .int .u64 (u.a : Int), .int .u64 (u.b : Int), .slice u.addr u.parts.length u.cap] 34)).heap.size := by simp
        have HD11 := Lib_hid ((HD9.out.under hb10).under hb11)
        have HRD11 := Lib_hid ((hb11.block _ (by omega)).trans ((hb10.block _ (by omega)).trans HRD9.out))
        have HA8' := (hb11.block _ (by omega)).trans ((hb10.block _ (by omega)).trans HA8)
        have huL11 := huL.under hb11
        have huS11 := huS.under hb11
        have HU := Lib_hid hu
        clear PC hb10 hb11 HD9 HRD9 HA8 hu huL huS
        go_upto_region 20 with (fail)
        generalize w10.alloc (.cells #[.int .i64 u.kind, .int .u64 (u.a : Int), .int .u64 (u.b : Int), .slice u.addr u.parts.length u.cap] 34) = w11 at *
        have EC := dents_any l a1 e1 w11 HB8.out hl ha1 he1
        obtain ⟨p1, p2, p3, -, -, -⟩ := blk3 HA8'
        go_wp2_with fail
        refine EC.mono ?_
        rintro en w12 ⟨A', c', es, a2, e2, ok, rfl, hok, hel, hown, hb12, ha2, he2, hz0, hz1⟩
        have HA12 := heap_alloc_new w12 (.cells #[.string (str l), .int .i64 (a2 : Int), .int .i64 (e2 : Int)] 125)
        have hb13 := below_new w12 (.cells #[.string (str l), .int .i64 (a2 : Int), .int .i64 (e2 : Int)] 125)
        have hs12 := hb12.size
        have hs13 : w12.heap.size < (w12.alloc (.cells #[.string (str l), .int .i64 (a2 : Int), .int .i64 (e2 : Int)] 125)).heap.size := by simp
        have hbb := hb12.trans (hb13.mono hb12.size)
        have HD13 := Lib_hid (HD11.out.under hbb)
        have HRD13 := Lib_hid ((hbb.block _ (by omega)).trans HRD11.out)
        have HA10' := (hbb.block _ (by omega)).trans HA10
        have huL13 := Lib_hid (((huL11.under (hbb.mono (by omega))).more (show w.heap.size + 1 + 1 + 1 ≤ w9.heap.size by omega) (show w10.heap.size ≤ (w12.alloc (.cells #[.string (str l), .int .i64 (a2 : Int), .int .i64 (e2 : Int)] 125)).heap.size by omega)))
        have huS13 := Lib_hid ((huS11.under hbb).more (show w.heap.size + 1 + 1 + 1 ≤ w9.heap.size by omega))
        have ho13 := Lib_hid (own_below hown hb13 (own_lt hown))
        have HOK := Lib_hid hok
        have HZ0 := Lib_hid hz0
        have HZ1 := Lib_hid hz1
        clear EC p1 p2 p3 hb12 hb13 hbb HD11 HRD11 HA8' HA10 huL11 huS11 hown hok hz0 hz1
        go_upto_region 21 with (fail)
        generalize w12.alloc (.cells #[.string (str l), .int .i64 (a2 : Int), .int .i64 (e2 : Int)] 125) = w13 at *
        by_cases hz : z = 0
        rotate_left
        · have hzB : ((z : Int) != 0) = true := by simp; omega
          have HN : Hid (payB k l = none) := by
            have hk := HK.out
            subst hk
            exact pay5_bad HN1.out HTK.out (fun h0 hf => ((HZ0.out h0).resolve_left fun h => by rw [h.1] at hf; cases hf).2) HZ1.out (.inl (by rw [HPE.out]; exact hz))
          clear HPE HU HTK HZ0 HZ1 HOK ho13 huL13 huS13 HA10' HA12 HRD13 HK HN1 HB8 HMB hz
          have HXX : Hid (DPa k l w (.returned (.tuple #[.agg #[.int .i64 (k : Int), .int .u64 (t : Int), .int .u64 0, .int .u64 0, .int .u64 0, .int .u64 0, .int .i64 0, .int .u64 0, .int .u64 0, .slice none 0 0, .slice none 0 0], .bool false])) (put11 w13 w.heap.size (.int .i64 (k : Int)) (.int .u64 (t : Int)) (.int .u64 0) (.int .u64 0) (.int .u64 0) (.int .u64 0) (.int .i64 0) (.int .u64 0) (.int .u64 0) (.slice none 0 0) (.slice none 0 0))) := HD13.out.fin false (.inr ⟨rfl, HN.out⟩)
          have HYY : Hid ((put11 w13 w.heap.size (.int .i64 (k : Int)) (.int .u64 (t : Int)) (.int .u64 0) (.int .u64 0) (.int .u64 0) (.int .u64 0) (.int .i64 0) (.int .u64 0) (.int .u64 0) (.slice none 0 0) (.slice none 0 0)).heap[w.heap.size]? = some (.cells #[.int .i64 (k : Int), .int .u64 (t : Int), .int .u64 0, .int .u64 0, .int .u64 0, .int .u64 0, .int .i64 0, .int .u64 0, .int .u64 0, .slice none 0 0, .slice none 0 0] 37 (0, 0))) := put11_row _ _ _ _ _ _ _ _ _ _ _ HD13.out.out
          have hbx : w13.heap[w.heap.size + 1 + 1]? = some (.cells #[.int .i64 (k : Int), .int .u64 (t : Int), .int .u64 0, .int .u64 0, .int .u64 0, .int .u64 0, .int .i64 0, .int .u64 0, .int .u64 0, .slice none 0 0, .slice none 0 0] 37 (0, 0)) := HD13.out.box
          obtain ⟨d0, d1, d2, d3, d4, d5, d6, d7, d8, d9, d10⟩ := rec_cells hbx
          obtain ⟨e0, e1, e2, e3, e4, e5, e6, e7, e8, e9, e10⟩ := rec_cells HD13.out.out
          have y := fun i => frozen_of_row w13 w.heap.size i _ _ HD13.out.out
          have y0 := y 0
          have y1 := y 1
          have y2 := y 2
          have y3 := y 3
          have y4 := y 4
          have y5 := y 5
          have y6 := y 6
          have y7 := y 7
          have y8 := y 8
          have y9 := y 9
          have y10 := y 10
          clear y hbx HD13
          go_wp2
          show bodyPost _ _ _ _ _ (put11 w13 w.heap.size (.int .i64 (k : Int)) (.int .u64 (t : Int)) (.int .u64 0) (.int .u64 0) (.int .u64 0) (.int .u64 0) (.int .i64 0) (.int .u64 0) (.int .u64 0) (.slice none 0 0) (.slice none 0 0))
          generalize put11 w13 w.heap.size (.int .i64 (k : Int)) (.int .u64 (t : Int)) (.int .u64 0) (.int .u64 0) (.int .u64 0) (.int .u64 0) (.int .i64 0) (.int .u64 0) (.int .u64 0) (.slice none 0 0) (.slice none 0 0) = W4 at *
          exact dpa_ret HYY.out HXX.out _ rfl rfl
        · have hzB : ((z : Int) != 0) = false := by simp; omega
          cases ok with
          | false =>
            have HN : Hid (payB k l = none) := by
              have hk := HK.out
              subst hk
              exact pay5_bad HN1.out HTK.out (fun h0 hf => ((HZ0.out h0).resolve_left fun h => by cases h.1).2) HZ1.out (.inr rfl)
            clear HPE HU HTK HZ0 HZ1 HOK ho13 huL13 huS13 HA10' HA12 HRD13 HK HN1 HB8 HMB hz
            have HXX : Hid (DPa k l w (.returned (.tuple #[.agg #[.int .i64 (k : Int), .int .u64 (t : Int), .int .u64 0, .int .u64 0, .int .u64 0, .int .u64 0, .int .i64 0, .int .u64 0, .int .u64 0, .slice none 0 0, .slice none 0 0], .bool false])) (put11 w13 w.heap.size (.int .i64 (k : Int)) (.int .u64 (t : Int)) (.int .u64 0) (.int .u64 0) (.int .u64 0) (.int .u64 0) (.int .i64 0) (.int .u64 0) (.int .u64 0) (.slice none 0 0) (.slice none 0 0))) := HD13.out.fin false (.inr ⟨rfl, HN.out⟩)
            have HYY : Hid ((put11 w13 w.heap.size (.int .i64 (k : Int)) (.int .u64 (t : Int)) (.int .u64 0) (.int .u64 0) (.int .u64 0) (.int .u64 0) (.int .i64 0) (.int .u64 0) (.int .u64 0) (.slice none 0 0) (.slice none 0 0)).heap[w.heap.size]? = some (.cells #[.int .i64 (k : Int), .int .u64 (t : Int), .int .u64 0, .int .u64 0, .int .u64 0, .int .u64 0, .int .i64 0, .int .u64 0, .int .u64 0, .slice none 0 0, .slice none 0 0] 37 (0, 0))) := put11_row _ _ _ _ _ _ _ _ _ _ _ HD13.out.out
            have hbx : w13.heap[w.heap.size + 1 + 1]? = some (.cells #[.int .i64 (k : Int), .int .u64 (t : Int), .int .u64 0, .int .u64 0, .int .u64 0, .int .u64 0, .int .i64 0, .int .u64 0, .int .u64 0, .slice none 0 0, .slice none 0 0] 37 (0, 0)) := HD13.out.box
            obtain ⟨d0, d1, d2, d3, d4, d5, d6, d7, d8, d9, d10⟩ := rec_cells hbx
            obtain ⟨e0, e1, e2, e3, e4, e5, e6, e7, e8, e9, e10⟩ := rec_cells HD13.out.out
            have y := fun i => frozen_of_row w13 w.heap.size i _ _ HD13.out.out
            have y0 := y 0
            have y1 := y 1
            have y2 := y 2
            have y3 := y 3
            have y4 := y 4
            have y5 := y 5
            have y6 := y 6
            have y7 := y 7
            have y8 := y 8
            have y9 := y 9
            have y10 := y 10
            clear y hbx HD13
            go_wp2
            show bodyPost _ _ _ _ _ (put11 w13 w.heap.size (.int .i64 (k : Int)) (.int .u64 (t : Int)) (.int .u64 0) (.int .u64 0) (.int .u64 0) (.int .u64 0) (.int .i64 0) (.int .u64 0) (.int .u64 0) (.slice none 0 0) (.slice none 0 0))
            generalize put11 w13 w.heap.size (.int .i64 (k : Int)) (.int .u64 (t : Int)) (.int .u64 0) (.int .u64 0) (.int .u64 0) (.int .u64 0) (.int .i64 0) (.int .u64 0) (.int .u64 0) (.slice none 0 0) (.slice none 0 0) = W4 at *
            exact dpa_ret HYY.out HXX.out _ rfl rfl
          | true =>
            have he10 : e1 = 0 := Classical.byContradiction fun h => by cases HZ1.out h
            obtain ⟨-, he20, hEns⟩ := (HZ0.out he10).resolve_right fun h => by cases h.1
            have HPAY : Hid (payB k l = if a2 = l.length then some (Rv.abs ⟨(k : Int), t, 0, 0, 0, 0, u, A', c', es⟩) else none) := by
              have hk := HK.out
              subst hk
              unfold Hid
              rw [pay5_good HN1.out HTK.out he10 (by rw [HPE.out]; exact hz) hEns, HPE.out]
              simp [Rv.abs, Rc.zero, HU.out]
            subst he20
            have hgr13 := lt_of_block HD13.out.box
            have hrb13 := lt_of_block HRD13.out
            have hsE : w11.heap.size ≤ w13.heap.size := by omega
            have ho13b : w13.ownsRow w11.heap.size 91 4 (.slice A' es.length c') es.length (enCells es) := ho13.out
            have HD14 : Hid (DLn w (w.heap.size + 1) [] (w.heap.size + 1 + 1) ⟨(k : Int), t, 0, 0, 0, 0, .node 0 0 0 none 0 [], none, 0, []⟩ (set3 w13 (w.heap.size + 1) (.string (str l)) (.int .i64 (a2 : Int)) (.int .i64 0))) := HD13.out.aside3 (by omega) (by omega) _ _ _
            have HRD14 : Hid ((set3 w13 (w.heap.size + 1) (.string (str l)) (.int .i64 (a2 : Int)) (.int .i64 0)).heap[w.heap.size + 1]? = some (.cells #[.string (str l), .int .i64 (a2 : Int), .int .i64 0] 125 (0, 0))) := set3_block HRD13.out
            have HA14 : Hid ((set3 w13 (w.heap.size + 1) (.string (str l)) (.int .i64 (a2 : Int)) (.int .i64 0)).heap[w10.heap.size]? = _) := (set3_other _ _ _ _ _ _ (by omega)).trans HA10'
            have huL14 : Hid (Lies (set3 w13 (w.heap.size + 1) (.string (str l)) (.int .i64 (a2 : Int)) (.int .i64 0)) (w.heap.size + 1 + 1 + 1) (set3 w13 (w.heap.size + 1) (.string (str l)) (.int .i64 (a2 : Int)) (.int .i64 0)).heap.size u) := by
              unfold Hid
              rw [set3_size]
              exact huL13.out.keep fun p q1 q2 => World.cell?_of_block (set3_other _ _ _ _ _ _ (by omega))
            have huS14 : Hid (Shp 34 (set3 w13 (w.heap.size + 1) (.string (str l)) (.int .i64 (a2 : Int)) (.int .i64 0)) (w.heap.size + 1 + 1 + 1) u) := huS13.out.keep fun q q1 q2 => set3_other _ _ _ _ _ _ (by omega)
            have ho14 : Hid ((set3 w13 (w.heap.size + 1) (.string (str l)) (.int .i64 (a2 : Int)) (.int .i64 0)).ownsRow w11.heap.size 91 4 (.slice A' es.length c') es.length (enCells es)) := set3_own ho13b (fun e => by have := own_ge ho13b _ e; omega) _ _ _
            obtain ⟨p1, p2, p3, -, -, -⟩ := blk3 HA12
            obtain ⟨d1, d2, d3, f1, f2, f3⟩ := blk3 HRD13.out
            clear HPE HU HTK HZ0 HZ1 ho13 ho13b huL13 huS13 HA10' HK HN1 HB8 HMB hz hEns HA12 HD13 HRD13
            go_upto_region 24 with (fail)
            change Code.wp _ _ _ _ (set3 w13 (w.heap.size + 1) (.string (str l)) (.int .i64 (a2 : Int)) (.int .i64 0))
            have hs14 := set3_size w13 (w.heap.size + 1) (.string (str l)) (.int .i64 (a2 : Int)) (.int .i64 0)
            have hgr14 : w.heap.size + 1 + 1 < (set3 w13 (w.heap.size + 1) (.string (str l)) (.int .i64 (a2 : Int)) (.int .i64 0)).heap.size := by rw [hs14]; exact hgr13
            clear hs14
            generalize set3 w13 (w.heap.size + 1) (.string (str l)) (.int .i64 (a2 : Int)) (.int .i64 0) = w14 at *
            clear p1 p2 p3 d1 d2 d3 f1 f2 f3
            have k0 : w14.cell? ⟨w10.heap.size, 0, none⟩ = some (.int .i64 u.kind) := cell_of_row w14 _ 0 _ _ _ HA14.out
            have k1 : w14.cell? ⟨w10.heap.size, 1, none⟩ = some (.int .u64 (u.a : Int)) := cell_of_row w14 _ 1 _ _ _ HA14.out
            have k2' : w14.cell? ⟨w10.heap.size, 2, none⟩ = some (.int .u64 (u.b : Int)) := cell_of_row w14 _ 2 _ _ _ HA14.out
            have k3' : w14.cell? ⟨w10.heap.size, 3, none⟩ = some (.slice u.addr u.parts.length u.cap) := cell_of_row w14 _ 3 _ _ _ HA14.out
            have hbx : w14.heap[w.heap.size + 1 + 1]? = some (.cells #[.int .i64 (k : Int), .int .u64 (t : Int), .int .u64 0, .int .u64 0, .int .u64 0, .int .u64 0, .int .i64 0, .int .u64 0, .int .u64 0, .slice none 0 0, .slice none 0 0] 37 (0, 0)) := HD14.out.box
            obtain ⟨f0, f1, f2, f3, f4, f5, f6, f7, f8, f9, f10⟩ := rec_cells hbx
            have y := fun i => frozen_of_row w14 (w.heap.size + 1 + 1) i _ _ hbx
            have y6 := y 6
            have y7 := y 7
            have y8 := y 8
            have y9 := y 9
            have HD15 := Lib_hid (HD14.out.pred u huL14.out huS14.out)
            simp only [V.sl] at HD15
            have HG15 : Grow2 w14 ((((w14.setCell ⟨w.heap.size + 1 + 1, 6, none⟩ (.int .i64 u.kind)).setCell ⟨w.heap.size + 1 + 1, 7, none⟩ (.int .u64 (u.a : Int))).setCell ⟨w.heap.size + 1 + 1, 8, none⟩ (.int .u64 (u.b : Int))).setCell ⟨w.heap.size + 1 + 1, 9, none⟩ (.slice u.addr u.parts.length u.cap)) (w.heap.size + 1 + 1) (w.heap.size + 1 + 1) := (((Grow2.set w14 (w.heap.size + 1 + 1) (w.heap.size + 1 + 1) 6 _).trans (Grow2.set _ (w.heap.size + 1 + 1) (w.heap.size + 1 + 1) 7 _)).trans (Grow2.set _ (w.heap.size + 1 + 1) (w.heap.size + 1 + 1) 8 _)).trans (Grow2.set _ (w.heap.size + 1 + 1) (w.heap.size + 1 + 1) 9 _)
            have HRD15 := Lib_hid ((HG15.block _ (lt_of_block HRD14.out) (by omega) (by omega)).trans HRD14.out)
            have ho15 := Lib_hid (own_base (b' := w.heap.size + 1 + 1 + 1) (own_keep ho14.out fun q hq => HG15.block q (own_lt ho14.out q hq) (by have := own_ge ho14.out q hq; omega) (by have := own_ge ho14.out q hq; omega)) (fun q hq => by have := own_ge ho14.out q hq; omega))
            clear y hbx HD14 HRD14 HA14 huL14 huS14 ho14 HG15 f0 f1 f2 f3 f4 f5 f10
            go_upto_region 25 with (fail)
            clear k0 k1 k2' k3' f6 f7 f8 f9 y6 y7 y8 y9
            generalize ((((w14.setCell ⟨w.heap.size + 1 + 1, 6, none⟩ (.int .i64 u.kind)).setCell ⟨w.heap.size + 1 + 1, 7, none⟩ (.int .u64 (u.a : Int))).setCell ⟨w.heap.size + 1 + 1, 8, none⟩ (.int .u64 (u.b : Int))).setCell ⟨w.heap.size + 1 + 1, 9, none⟩ (.slice u.addr u.parts.length u.cap)) = w15 at *
            have HD15' : Hid (DLn w (w.heap.size + 1) [] (w.heap.size + 1 + 1) ⟨(k : Int), t, 0, 0, 0, 0, u, none, 0, []⟩ w15) := HD15
            have e10 : w15.cell? ⟨w.heap.size + 1 + 1, 10, none⟩ = some (.slice none 0 0) := HD15'.out.cell 10 _ rfl
            have y10 := frozen_of_row w15 (w.heap.size + 1 + 1) 10 _ _ HD15'.out.box
            have HD16 := Lib_hid (HD15'.out.ents HOK.out ho15.out)
            have HRD16 : Hid ((w15.setCell ⟨w.heap.size + 1 + 1, 10, none⟩ (.slice A' es.length c')).heap[w.heap.size + 1]? = some (.cells #[.string (str l), .int .i64 (a2 : Int), .int .i64 0] 125 (0, 0))) := (Below.heap_setCell _ _ _ _ (by show w.heap.size + 1 ≠ w.heap.size + 1 + 1; omega)).trans HRD15.out
            clear HD15 HD15' HRD15 ho15 HOK
            generalize (.agg #[.int .i64 u.kind, .int .u64 (u.a : Int), .int .u64 (u.b : Int), .slice u.addr u.parts.length u.cap] : Value) = uval at *
            go_wp2_with fail
            go_meet
            exact ⟨_, _, HD16, HRD16, HPAY⟩
    case rest =>
      obtain ⟨r, a2, HD, HR, HP⟩ := hcut
      obtain ⟨k', t, x, wn, nn, v, p, A, c, es⟩ := r
      obtain ⟨q, hq⟩ : ∃ q : Bool, decide (a2 = l.length) = q := ⟨_, rfl⟩
      have hqs : ((a2 : Int) == ((str l).size : Int)) = q := by rw [← hq, str_size, Bool.eq_iff_iff]; simp; omega
      have HQ : Hid ((q = true ∧ payB k l = some (Rv.abs ⟨k', t, x, wn, nn, v, p, A, c, es⟩)) ∨ (q = false ∧ payB k l = none)) := by
        unfold Hid
        rw [HP.out, ← hq]
        by_cases h : a2 = l.length
        · exact .inl ⟨decide_eq_true h, by rw [if_pos h]⟩
        · exact .inr ⟨decide_eq_false h, by rw [if_neg h]⟩
      obtain ⟨wd, hwd⟩ : ∃ wd, wc.drew = wd := ⟨_, rfl⟩
      have hwh : wd.heap = wc.heap := by rw [← hwd]; rfl
      have HDd : DLn w (w.heap.size + 1) [] (w.heap.size + 1 + 1) ⟨k', t, x, wn, nn, v, p, A, c, es⟩ wd := by
        rw [← hwd]
        exact HD.out.under (below_drew_ (Below.refl wc.heap.size wc) (n := 1))
      have hrx : wd.heap[w.heap.size + 1]? = some (.cells #[.string (str l), .int .i64 (a2 : Int), .int .i64 0] 125 (0, 0)) := by rw [hwh]; exact HR.out
      obtain ⟨W4, hW4⟩ : ∃ W4, W4 = (put11 wd w.heap.size (.int .i64 k') (.int .u64 (t : Int)) (.int .u64 (x : Int)) (.int .u64 (wn : Int)) (.int .u64 (nn : Int)) (.int .u64 (v : Int)) (.int .i64 p.kind) (.int .u64 (p.a : Int)) (.int .u64 (p.b : Int)) (.slice p.addr p.parts.length p.cap) (.slice A es.length c)) := ⟨_, rfl⟩
      have HXX : Hid (DPa k l w (.returned (.tuple #[.agg #[.int .i64 k', .int .u64 (t : Int), .int .u64 (x : Int), .int .u64 (wn : Int), .int .u64 (nn : Int), .int .u64 (v : Int), .int .i64 p.kind, .int .u64 (p.a : Int), .int .u64 (p.b : Int), .slice p.addr p.parts.length p.cap, .slice A es.length c], .bool q])) W4) := by
        unfold Hid
        rw [hW4]
        exact HDd.fin q HQ.out
      have hox := HDd.out
      have hbx : wd.heap[w.heap.size + 1 + 1]? = some (.cells #[.int .i64 k', .int .u64 (t : Int), .int .u64 (x : Int), .int .u64 (wn : Int), .int .u64 (nn : Int), .int .u64 (v : Int), .int .i64 p.kind, .int .u64 (p.a : Int), .int .u64 (p.b : Int), .slice p.addr p.parts.length p.cap, .slice A es.length c] 37 (0, 0)) := HDd.box
      have HYY : Hid (W4.heap[w.heap.size]? = some (.cells #[.int .i64 k', .int .u64 (t : Int), .int .u64 (x : Int), .int .u64 (wn : Int), .int .u64 (nn : Int), .int .u64 (v : Int), .int .i64 p.kind, .int .u64 (p.a : Int), .int .u64 (p.b : Int), .slice p.addr p.parts.length p.cap, .slice A es.length c] 37 (0, 0))) := by
        unfold Hid
        rw [hW4]
        exact put11_row _ _ _ _ _ _ _ _ _ _ _ hox
      have HCF : Hid (∀ W : World, (W = W4 ∨ W = wd) → W.cell? ⟨w.heap.size + 1, 0, none⟩ = some (.string (str l)) ∧ W.cell? ⟨w.heap.size + 1, 1, none⟩ = some (.int .i64 (a2 : Int)) ∧ W.cell? ⟨w.heap.size + 1, 2, none⟩ = some (.int .i64 0) ∧ W.cell? ⟨w.heap.size + 1 + 1, 0, none⟩ = some (.int .i64 k') ∧ W.cell? ⟨w.heap.size + 1 + 1, 1, none⟩ = some (.int .u64 (t : Int)) ∧ W.cell? ⟨w.heap.size + 1 + 1, 2, none⟩ = some (.int .u64 (x : Int)) ∧ W.cell? ⟨w.heap.size + 1 + 1, 3, none⟩ = some (.int .u64 (wn : Int)) ∧ W.cell? ⟨w.heap.size + 1 + 1, 4, none⟩ = some (.int .u64 (nn : Int)) ∧ W.cell? ⟨w.heap.size + 1 + 1, 5, none⟩ = some (.int .u64 (v : Int)) ∧ W.cell? ⟨w.heap.size + 1 + 1, 6, none⟩ = some (.int .i64 p.kind) ∧ W.cell? ⟨w.heap.size + 1 + 1, 7, none⟩ = some (.int .u64 (p.a : Int)) ∧ W.cell? ⟨w.heap.size + 1 + 1, 8, none⟩ = some (.int .u64 (p.b : Int)) ∧ W.cell? ⟨w.heap.size + 1 + 1, 9, none⟩ = some (.slice p.addr p.parts.length p.cap) ∧ W.cell? ⟨w.heap.size + 1 + 1, 10, none⟩ = some (.slice A es.length c)) := fun W hW => by
        have h : W.heap[w.heap.size + 1]? = wd.heap[w.heap.size + 1]? ∧ W.heap[w.heap.size + 1 + 1]? = wd.heap[w.heap.size + 1 + 1]? := by
          rcases hW with rfl | rfl
          · rw [hW4]
            exact put11_two (by omega) (by omega) rfl _ _ _ _ _ _ _ _ _ _ _
          · exact ⟨rfl, rfl⟩
        obtain ⟨j1, j2, j3, -, -, -⟩ := blk3 (h.1.trans hrx)
        obtain ⟨d0, d1, d2, d3, d4, d5, d6, d7, d8, d9, d10⟩ := rec_cells (h.2.trans hbx)
        exact ⟨j1, j2, j3, d0, d1, d2, d3, d4, d5, d6, d7, d8, d9, d10⟩
      obtain ⟨ce0, ce1, ce2, ce3, ce4, ce5, ce6, ce7, ce8, ce9, ce10⟩ := rec_cells hox
      have cy := fun i => frozen_of_row wd w.heap.size i _ _ hox
      have cy0 := cy 0
      have cy1 := cy 1
      have cy2 := cy 2
      have cy3 := cy 3
      have cy4 := cy 4
      have cy5 := cy 5
      have cy6 := cy 6
      have cy7 := cy 7
      have cy8 := cy 8
      have cy9 := cy 9
      have cy10 := cy 10
      have hwd2 : Hid ({ wc with drawn := wc.drawn + 1 } = if (fun _ : Nat => false) 12 = true then W4 else wd) := by
        unfold Hid
        rw [if_neg (by decide), ← hwd]
        rfl
      have HW4 := Lib_hid hW4
      clear cy hbx hrx hox hq HQ HD HR HP HDd hwh hwd hW4
      generalize p.addr = pA at *
      generalize p.parts.length = pn at *
      generalize p.cap = pc at *
      generalize p.kind = pk at *
      generalize (p.a : Int) = pa at *
      generalize (p.b : Int) = pb at *
      generalize es.length = en at *
      go_upto_region 26 with (fail)
      refine wp_region_fixJ (N := 112) (fun k => ([(.agg #[.int .i64 k', .int .u64 (t : Int), .int .u64 (x : Int), .int .u64 (wn : Int), .int .u64 (nn : Int), .int .u64 (v : Int), .int .i64 pk, .int .u64 pa, .int .u64 pb, .slice pA pn pc, .slice A en c]), .pointer (some ⟨w.heap.size + 1, 2, none⟩), .int .i64 0, .bool true, .bool true, .pointer (some ⟨w.heap.size + 1, 1, none⟩), .int .i64 (a2 : Int), .pointer (some ⟨w.heap.size + 1, 0, none⟩), .string (str l), .int .i64 ((str l).size : Int), .bool q, .bool q, undef, .bool q] : List Value).getD k undef) (fun L X => Hid (X = if L 12 = true then W4 else wd)) (by kernel_rfl) (by kernel_rfl) rfl ?_ ?_ ?_
      · exact hwd2
      · intro i o L a wx hii hL hJ hO hD
        have hi8 : i < 14 := (Array.getElem?_eq_some_iff.1 hii).1
        have hcase : i = 0 ∨ i = 1 ∨ i = 2 ∨ i = 3 ∨ i = 4 ∨ i = 5 ∨ i = 6 ∨ i = 7 ∨ i = 8 ∨ i = 9 ∨ i = 10 ∨ i = 11 ∨ i = 12 ∨ i = 13 := by omega
        clear hi8
        rcases hcase with rfl | rfl | rfl | rfl | rfl | rfl | rfl | rfl | rfl | rfl | rfl | rfl | rfl | rfl
        · obtain rfl := Option.some.inj hii
          have hJ' : (fun L X => Hid (X = if L 12 = true then W4 else wd)) (more L 0) wx := by show Hid (_ = if more L 0 12 = true then _ else _); unfold Hid; rw [more_ne (by decide)]; exact hJ.out
          have e7 : a.tmps.getD 7 undef = .pointer (some ⟨w.heap.size + 1 + 1, 0, none⟩) := (hO 7 (by decide +kernel)).trans rfl
          obtain ⟨j1, j2, j3, d0, d1, d2, d3, d4, d5, d6, d7, d8, d9, d10⟩ := HCF.out wx (if_or hJ.out)
          refine .inl ⟨rfl, mid_step ((.agg #[.int .i64 k', .int .u64 (t : Int), .int .u64 (x : Int), .int .u64 (wn : Int), .int .u64 (nn : Int), .int .u64 (v : Int), .int .i64 pk, .int .u64 pa, .int .u64 pb, .slice pA pn pc, .slice A en c])) wx (fun K hK => ?_) ⟨rfl, hJ'⟩⟩
          go_simp
          first | exact hK | (rw [hqs]; exact hK)
        · obtain rfl := Option.some.inj hii
          have hJ' : (fun L X => Hid (X = if L 12 = true then W4 else wd)) (more L 1) wx := by show Hid (_ = if more L 1 12 = true then _ else _); unfold Hid; rw [more_ne (by decide)]; exact hJ.out
          have e6 : a.tmps.getD 6 undef = .pointer (some ⟨w.heap.size + 1, 0, none⟩) := (hO 6 (by decide +kernel)).trans rfl
          refine .inl ⟨rfl, mid_step (.pointer (some ⟨w.heap.size + 1, 2, none⟩)) wx (fun K hK => ?_) ⟨rfl, hJ'⟩⟩
          go_simp
          first | exact hK | (rw [hqs]; exact hK)
        · obtain rfl := Option.some.inj hii
          have hJ' : (fun L X => Hid (X = if L 12 = true then W4 else wd)) (more L 2) wx := by show Hid (_ = if more L 2 12 = true then _ else _); unfold Hid; rw [more_ne (by decide)]; exact hJ.out
          have e101 : a.tmps.getD 101 undef = .pointer (some ⟨w.heap.size + 1, 2, none⟩) := hD 1 (by kernel_rfl) _ 101 rfl rfl
          obtain ⟨j1, j2, j3, d0, d1, d2, d3, d4, d5, d6, d7, d8, d9, d10⟩ := HCF.out wx (if_or hJ.out)
          refine .inl ⟨rfl, mid_step (.int .i64 0) wx (fun K hK => ?_) ⟨rfl, hJ'⟩⟩
          go_simp
          first | exact hK | (rw [hqs]; exact hK)
        · obtain rfl := Option.some.inj hii
          have hJ' : (fun L X => Hid (X = if L 12 = true then W4 else wd)) (more L 3) wx := by show Hid (_ = if more L 3 12 = true then _ else _); unfold Hid; rw [more_ne (by decide)]; exact hJ.out
          have e102 : a.tmps.getD 102 undef = .int .i64 0 := hD 2 (by kernel_rfl) _ 102 rfl rfl
          refine .inl ⟨rfl, mid_step (.bool true) wx (fun K hK => ?_) ⟨rfl, hJ'⟩⟩
          go_simp
          first | exact hK | (rw [hqs]; exact hK)
        · obtain rfl := Option.some.inj hii
          have hJ' : (fun L X => Hid (X = if L 12 = true then W4 else wd)) (more L 4) wx := by show Hid (_ = if more L 4 12 = true then _ else _); unfold Hid; rw [more_ne (by decide)]; exact hJ.out
          have e103 : a.tmps.getD 103 undef = .bool true := hD 3 (by kernel_rfl) _ 103 rfl rfl
          refine .inl ⟨rfl, mid_step (.bool true) wx (fun K hK => ?_) ⟨rfl, hJ'⟩⟩
          go_simp
          first | exact hK | (rw [hqs]; exact hK)
        · obtain rfl := Option.some.inj hii
          have hJ' : (fun L X => Hid (X = if L 12 = true then W4 else wd)) (more L 5) wx := by show Hid (_ = if more L 5 12 = true then _ else _); unfold Hid; rw [more_ne (by decide)]; exact hJ.out
          have eg : a.tmps.getD 104 undef = .bool true := hD 4 (by kernel_rfl) _ 104 rfl rfl
          have e6 : a.tmps.getD 6 undef = .pointer (some ⟨w.heap.size + 1, 0, none⟩) := (hO 6 (by decide +kernel)).trans rfl
          refine .inl ⟨wanted_yes 4 104 rfl rfl rfl eg, mid_step (.pointer (some ⟨w.heap.size + 1, 1, none⟩)) wx (fun K hK => ?_) ⟨rfl, hJ'⟩⟩
          go_simp
          first | exact hK | (rw [hqs]; exact hK)
        · obtain rfl := Option.some.inj hii
          have hJ' : (fun L X => Hid (X = if L 12 = true then W4 else wd)) (more L 6) wx := by show Hid (_ = if more L 6 12 = true then _ else _); unfold Hid; rw [more_ne (by decide)]; exact hJ.out
          have eg : a.tmps.getD 104 undef = .bool true := hD 4 (by kernel_rfl) _ 104 rfl rfl
          have e105 : a.tmps.getD 105 undef = .pointer (some ⟨w.heap.size + 1, 1, none⟩) := hD 5 (by kernel_rfl) _ 105 rfl rfl
          obtain ⟨j1, j2, j3, d0, d1, d2, d3, d4, d5, d6, d7, d8, d9, d10⟩ := HCF.out wx (if_or hJ.out)
          refine .inl ⟨wanted_yes 4 104 rfl rfl rfl eg, mid_step (.int .i64 (a2 : Int)) wx (fun K hK => ?_) ⟨rfl, hJ'⟩⟩
          go_simp
          first | exact hK | (rw [hqs]; exact hK)
        · obtain rfl := Option.some.inj hii
          have hJ' : (fun L X => Hid (X = if L 12 = true then W4 else wd)) (more L 7) wx := by show Hid (_ = if more L 7 12 = true then _ else _); unfold Hid; rw [more_ne (by decide)]; exact hJ.out
          have eg : a.tmps.getD 104 undef = .bool true := hD 4 (by kernel_rfl) _ 104 rfl rfl
          have e6 : a.tmps.getD 6 undef = .pointer (some ⟨w.heap.size + 1, 0, none⟩) := (hO 6 (by decide +kernel)).trans rfl
          refine .inl ⟨wanted_yes 4 104 rfl rfl rfl eg, mid_step (.pointer (some ⟨w.heap.size + 1, 0, none⟩)) wx (fun K hK => ?_) ⟨rfl, hJ'⟩⟩
          go_simp
          first | exact hK | (rw [hqs]; exact hK)
        · obtain rfl := Option.some.inj hii
          have hJ' : (fun L X => Hid (X = if L 12 = true then W4 else wd)) (more L 8) wx := by show Hid (_ = if more L 8 12 = true then _ else _); unfold Hid; rw [more_ne (by decide)]; exact hJ.out
          have eg : a.tmps.getD 104 undef = .bool true := hD 4 (by kernel_rfl) _ 104 rfl rfl
          have e107 : a.tmps.getD 107 undef = .pointer (some ⟨w.heap.size + 1, 0, none⟩) := hD 7 (by kernel_rfl) _ 107 rfl rfl
          obtain ⟨j1, j2, j3, d0, d1, d2, d3, d4, d5, d6, d7, d8, d9, d10⟩ := HCF.out wx (if_or hJ.out)
          refine .inl ⟨wanted_yes 4 104 rfl rfl rfl eg, mid_step (.string (str l)) wx (fun K hK => ?_) ⟨rfl, hJ'⟩⟩
          go_simp
          first | exact hK | (rw [hqs]; exact hK)
        · obtain rfl := Option.some.inj hii
          have hJ' : (fun L X => Hid (X = if L 12 = true then W4 else wd)) (more L 9) wx := by show Hid (_ = if more L 9 12 = true then _ else _); unfold Hid; rw [more_ne (by decide)]; exact hJ.out
          have eg : a.tmps.getD 104 undef = .bool true := hD 4 (by kernel_rfl) _ 104 rfl rfl
          have e108 : a.tmps.getD 108 undef = .string (str l) := hD 8 (by kernel_rfl) _ 108 rfl rfl
          refine .inl ⟨wanted_yes 4 104 rfl rfl rfl eg, mid_step (.int .i64 ((str l).size : Int)) wx (fun K hK => ?_) ⟨rfl, hJ'⟩⟩
          go_simp
          first | exact hK | (rw [hqs]; exact hK)
        · obtain rfl := Option.some.inj hii
          have hJ' : (fun L X => Hid (X = if L 12 = true then W4 else wd)) (more L 10) wx := by show Hid (_ = if more L 10 12 = true then _ else _); unfold Hid; rw [more_ne (by decide)]; exact hJ.out
          have eg : a.tmps.getD 104 undef = .bool true := hD 4 (by kernel_rfl) _ 104 rfl rfl
          have e106 : a.tmps.getD 106 undef = .int .i64 (a2 : Int) := hD 6 (by kernel_rfl) _ 106 rfl rfl
          have e109 : a.tmps.getD 109 undef = .int .i64 ((str l).size : Int) := hD 9 (by kernel_rfl) _ 109 rfl rfl
          refine .inl ⟨wanted_yes 4 104 rfl rfl rfl eg, mid_step (.bool q) wx (fun K hK => ?_) ⟨rfl, hJ'⟩⟩
          go_simp
          first | exact hK | (rw [hqs]; exact hK)
        · obtain rfl := Option.some.inj hii
          have hJ' : (fun L X => Hid (X = if L 12 = true then W4 else wd)) (more L 11) wx := by show Hid (_ = if more L 11 12 = true then _ else _); unfold Hid; rw [more_ne (by decide)]; exact hJ.out
          have e104 : a.tmps.getD 104 undef = .bool true := hD 4 (by kernel_rfl) _ 104 rfl rfl
          have e110 : a.tmps.getD 110 undef = .bool q := hD 10 (by kernel_rfl) _ 110 rfl rfl
          refine .inl ⟨rfl, mid_step (.bool q) wx (fun K hK => ?_) ⟨rfl, hJ'⟩⟩
          go_simp
          first | exact hK | (rw [hqs]; exact hK)
        · obtain rfl := Option.some.inj hii
          have e4 : a.tmps.getD 4 undef = .pointer (some ⟨w.heap.size, 0, none⟩) := (hO 4 (by decide +kernel)).trans rfl
          have e100 : a.tmps.getD 100 undef = (.agg #[.int .i64 k', .int .u64 (t : Int), .int .u64 (x : Int), .int .u64 (wn : Int), .int .u64 (nn : Int), .int .u64 (v : Int), .int .i64 pk, .int .u64 pa, .int .u64 pb, .slice pA pn pc, .slice A en c]) := hD 0 (by kernel_rfl) _ 100 rfl rfl
          have hx : wd = wx := by have h := hJ.out; rw [hL, if_neg (by decide)] at h; exact h.symm
          subst hx
          have f100 := e100
          have f4 := e4
          rw [Array.getD_eq_getD_getElem?] at f100 f4
          refine .inl ⟨rfl, mid_step undef (W4) (fun K hK => ?_) ⟨rfl, by show Hid (_ = if more L 12 12 = true then _ else _); unfold Hid; rw [more_eq, if_pos rfl]⟩⟩
          go_simp
          rw [HW4.out] at hK; exact hK
        · obtain rfl := Option.some.inj hii
          have hJ' : (fun L X => Hid (X = if L 12 = true then W4 else wd)) (more L 13) wx := by show Hid (_ = if more L 13 12 = true then _ else _); unfold Hid; rw [more_ne (by decide)]; exact hJ.out
          have e111 : a.tmps.getD 111 undef = .bool q := hD 11 (by kernel_rfl) _ 111 rfl rfl
          refine .inl ⟨rfl, mid_step (.bool q) wx (fun K hK => ?_) ⟨rfl, hJ'⟩⟩
          go_simp
          first | exact hK | (rw [hqs]; exact hK)
      · intro L a wx hall hsz hdf hO hJ hF
        have hact := act_puts (a := a) [(100, (.agg #[.int .i64 k', .int .u64 (t : Int), .int .u64 (x : Int), .int .u64 (wn : Int), .int .u64 (nn : Int), .int .u64 (v : Int), .int .i64 pk, .int .u64 pa, .int .u64 pb, .slice pA pn pc, .slice A en c])), (101, .pointer (some ⟨w.heap.size + 1, 2, none⟩)), (102, .int .i64 0), (103, .bool true), (104, .bool true), (105, .pointer (some ⟨w.heap.size + 1, 1, none⟩)), (106, .int .i64 (a2 : Int)), (107, .pointer (some ⟨w.heap.size + 1, 0, none⟩)), (108, .string (str l)), (109, .int .i64 ((str l).size : Int)), (110, .bool q), (111, .bool q), (5, .bool q)] _ hsz hdf (by
          intro s v hm
          simp only [List.mem_cons, Prod.mk.injEq, List.not_mem_nil, or_false] at hm
          rcases hm with ⟨rfl, rfl⟩ | ⟨rfl, rfl⟩ | ⟨rfl, rfl⟩ | ⟨rfl, rfl⟩ | ⟨rfl, rfl⟩ | ⟨rfl, rfl⟩ | ⟨rfl, rfl⟩ | ⟨rfl, rfl⟩ | ⟨rfl, rfl⟩ | ⟨rfl, rfl⟩ | ⟨rfl, rfl⟩ | ⟨rfl, rfl⟩ | ⟨rfl, rfl⟩
          · exact ⟨(by show 100 < 112; decide), hF 0 (by decide) _ 100 rfl rfl⟩
          · exact ⟨(by show 101 < 112; decide), hF 1 (by decide) _ 101 rfl rfl⟩
          · exact ⟨(by show 102 < 112; decide), hF 2 (by decide) _ 102 rfl rfl⟩
          · exact ⟨(by show 103 < 112; decide), hF 3 (by decide) _ 103 rfl rfl⟩
          · exact ⟨(by show 104 < 112; decide), hF 4 (by decide) _ 104 rfl rfl⟩
          · exact ⟨(by show 105 < 112; decide), hF 5 (by decide) _ 105 rfl rfl⟩
          · exact ⟨(by show 106 < 112; decide), hF 6 (by decide) _ 106 rfl rfl⟩
          · exact ⟨(by show 107 < 112; decide), hF 7 (by decide) _ 107 rfl rfl⟩
          · exact ⟨(by show 108 < 112; decide), hF 8 (by decide) _ 108 rfl rfl⟩
          · exact ⟨(by show 109 < 112; decide), hF 9 (by decide) _ 109 rfl rfl⟩
          · exact ⟨(by show 110 < 112; decide), hF 10 (by decide) _ 110 rfl rfl⟩
          · exact ⟨(by show 111 < 112; decide), hF 11 (by decide) _ 111 rfl rfl⟩
          · exact ⟨(by show 5 < 112; decide), hF 13 (by decide) _ 5 rfl rfl⟩) (fun s hs => hO s (by exact hs))
        rw [hact]
        have hL12 := hall 12 (by decide)
        clear hact hF hO hsz hdf hall
        simp only [List.foldl, Act.put, List.setIfInBounds_toArray, List.set_cons_succ, List.set_cons_zero]
        have hX4 : W4 = wx := by have h := hJ.out; rw [if_pos hL12] at h; exact h.symm
        clear hJ hL12 HCF
        subst hX4
        go_wp2
        exact dpa_ret HYY.out HXX.out _ rfl rfl
end Go.Proofs.YtdmoknnnlfkfoaaGreatDoor
