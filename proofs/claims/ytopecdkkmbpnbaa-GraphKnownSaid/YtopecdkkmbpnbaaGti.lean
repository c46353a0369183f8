/-
  Layer 13: GraphTurns' walk.
-/
import Derived.Test.YtopecdkkmbpnbaaGdi
import Derived.Test.YtopecdkkmbpnbaaGrk
import Derived.Test.YtopecdkkmbpnbaaGgr
namespace Go.Proofs.Ytopecdkkmbpnbaa
open Go Go.RowKit Go.Maps
set_option linter.unusedVariables false

theorem rd_cells {w : World} {h : Nat} {cs : Array Value} {T : TypeId} {l : List Ed} (hh : w.heap[h]? = some (.cells cs T (0, 0))) (hc : cs.toList = ec l) : Rd w w.heap.size 3 (some ⟨h, 0, none⟩) l.length (ec l) :=
  ⟨by rw [ec_length], fun _ => ⟨⟨h, 0, none⟩, rfl, (Array.getElem?_eq_some_iff.1 hh).1, fun j u hu => by
    have h1 := cell_of_row _ _ j _ _ _ hh
    rw [show cs[j]? = (ec l)[j]? by rw [← hc, Array.getElem?_toList]] at h1
    have h2 : (⟨h, 0, none⟩ : Addr).add j = ⟨h, j, none⟩ := by simp [Addr.add]; exact fun h => h.symm
    rw [h2, h1, hu]⟩⟩
/-- The document's two edges, in a row of the call's own. -/
def TwoE (w : World) (base g c : Nat) (a b : Ed) : Prop := w.ownsRow base 48 3 (.slice (some ⟨g, 0, none⟩) 2 c) 2 (ec [a, b])
theorem TwoE.below {w w' : World} {base g c : Nat} {a b : Ed} (h : TwoE w base g c a b) (hb : Below w.heap.size w w') : TwoE w' base g c a b := own_below h hb (own_lt h)
theorem TwoE.boxk {w w' : World} {base g c n : Nat} {a b : Ed} (h : TwoE w base g c a b) (hb : BoxK 48 3 n w w') : TwoE w' base g c a b := by
  rcases h.2 with ⟨_, h0⟩ | ⟨g', cap, cur, e, k1, k2, k3, k4, k5, k6⟩
  · cases h0
  · refine ⟨h.1, .inr ⟨g', cap, cur, e, k1, hb.keep k2 fun cs e1 e2 => ?_, k3, k4, k5, k6⟩⟩
    injection e1 with e1 _ _
    subst e1
    omega
theorem TwoE.at0 {w : World} {base g c : Nat} {a b : Ed} (h : TwoE w base g c a b) : (w.cell? ⟨g, 0, none⟩ = some (.int .i64 a.1) ∧ w.cell? ⟨g, 1, none⟩ = some (.int .i64 a.2.1) ∧ w.cell? ⟨g, 2, none⟩ = some (.int .i64 a.2.2)) ∧ w.cell? ⟨g, 3, none⟩ = some (.int .i64 b.1) ∧ w.cell? ⟨g, 4, none⟩ = some (.int .i64 b.2.1) ∧ w.cell? ⟨g, 5, none⟩ = some (.int .i64 b.2.2) := by
  obtain ⟨b0, o0, e, _, c0, c1, c2⟩ := e_at (Rd.own h) (i := 0) (by decide)
  obtain ⟨b1, o1, e', _, c0', c1', c2'⟩ := e_at (Rd.own h) (i := 1) (by decide)
  simp only [Option.some.injEq, Addr.mk.injEq, and_true] at e e'
  obtain ⟨rfl, rfl⟩ := e
  obtain ⟨rfl, rfl⟩ := e'
  exact ⟨⟨c0, c1, c2⟩, c0', c1', c2'⟩
theorem two_edges {w : World} {h base : Nat} {T : TypeId} {a b : Ed} (hh : w.heap[h]? = some (.cells #[.int .i64 a.1, .int .i64 a.2.1, .int .i64 a.2.2, .int .i64 b.1, .int .i64 b.2.1, .int .i64 b.2.2] T (0, 0))) (hb : base ≤ w.heap.size) :
    Calls Try.prog 15 #[.slice (some ⟨h, 0, none⟩) 2 2] w (fun r w' => (∃ g c, r = .returned (.slice (some ⟨g, 0, none⟩) 2 c) ∧ TwoE w' base g c a b) ∧ Below w.heap.size w w') := by
  refine (redges_any (c := 2) (rd_cells (l := [a, b]) hh rfl) (Nat.le_refl _) (by simp)).mono ?_
  rintro r w' ⟨A, c, rfl, ho, hb'⟩
  obtain ⟨g, cap, e⟩ : ∃ g cap, Value.slice A [a, b].length c = .slice (some ⟨g, 0, none⟩) 2 cap := by
    rcases ho.2 with ⟨_, h0⟩ | ⟨g, cap, cur, e, _⟩
    · cases h0
    · exact ⟨g, cap, e⟩
  injection e with e1 e2 e3
  subst e1
  exact ⟨⟨g, c, rfl, own_mono' ho hb⟩, hb'⟩

theorem eok1 : ∀ e ∈ [((0 : Int), (0 : Int), (424242 : Int))], EdOk e := by
  intro e he
  rw [List.mem_singleton] at he
  subst he
  refine ⟨?_, ?_, ?_⟩ <;> (unfold I64; decide)
theorem okE_all {N : Nat} (h : 0 < N) : ∀ e ∈ [((0 : Int), (0 : Int), (424242 : Int))], okE N e = true := by
  intro e he
  rw [List.mem_singleton] at he
  subst he
  exact okE_iff.2 ⟨by decide, by show (0 : Int) < N; omega, by decide, by show (0 : Int) < N; omega⟩

set_option maxRecDepth 100000 in
set_option maxHeartbeats 6400000 in
theorem turns_any {w : World} {B nl cl B' nn cn : Nat} {Al An : Option Addr} {l : List Ed} {ns : List Int} (d : Int) (h : Rd w B 3 Al nl (ec l)) (hB : B ≤ w.heap.size) (hok : ∀ e ∈ l, EdOk e) (h' : Rd w B' 1 An nn (zc ns)) (hB' : B' ≤ w.heap.size) (hl : nl ≤ 9223372036854775807) (hnn : nn ≤ 9223372036854775807) (a b : Ed) :
    Calls Try.prog 4 #[.int .i64 d, .slice Al nl cl, .slice An nn cn, eV a, eV b] w fun e w' => e = .returned (.bool true) ∧ Below w.heap.size w w' := by
  have HW := Lib_hid (fun V : World => works_any V)
  have b1 := below_new w (.cells #[.int .i64 a.1, .int .i64 a.2.1, .int .i64 a.2.2] 39)
  have x1 := heap_alloc_new w (.cells #[.int .i64 a.1, .int .i64 a.2.1, .int .i64 a.2.2] 39)
  have s1 : (w.alloc (.cells #[.int .i64 a.1, .int .i64 a.2.1, .int .i64 a.2.2] 39)).heap.size = w.heap.size + 1 := by simp
  have b2 := below_new (w.alloc (.cells #[.int .i64 a.1, .int .i64 a.2.1, .int .i64 a.2.2] 39)) (.cells #[.int .i64 b.1, .int .i64 b.2.1, .int .i64 b.2.2] 39)
  have x2 := heap_alloc_new (w.alloc (.cells #[.int .i64 a.1, .int .i64 a.2.1, .int .i64 a.2.2] 39)) (.cells #[.int .i64 b.1, .int .i64 b.2.1, .int .i64 b.2.2] 39)
  rw [s1] at x2
  have HX : Hid (((w.alloc (.cells #[.int .i64 a.1, .int .i64 a.2.1, .int .i64 a.2.2] 39)).alloc (.cells #[.int .i64 b.1, .int .i64 b.2.1, .int .i64 b.2.2] 39)).heap[w.heap.size]? = some (.cells #[.int .i64 a.1, .int .i64 a.2.1, .int .i64 a.2.2] 39 (0, 0)) ∧ ((w.alloc (.cells #[.int .i64 a.1, .int .i64 a.2.1, .int .i64 a.2.2] 39)).alloc (.cells #[.int .i64 b.1, .int .i64 b.2.1, .int .i64 b.2.2] 39)).heap[w.heap.size + 1]? = some (.cells #[.int .i64 b.1, .int .i64 b.2.1, .int .i64 b.2.2] 39 (0, 0)) ∧ Below w.heap.size w ((w.alloc (.cells #[.int .i64 a.1, .int .i64 a.2.1, .int .i64 a.2.2] 39)).alloc (.cells #[.int .i64 b.1, .int .i64 b.2.1, .int .i64 b.2.2] 39))) := ⟨(b2.block w.heap.size (by omega)).trans x1, x2, b1.trans (b2.mono b1.size)⟩
  clear b1 b2 x1 x2 s1
  unfold eV
  go_enter Try.func4, Try.ntmps4
  go_upto_region 1 with (fail)
  generalize (w.alloc (.cells #[.int .i64 a.1, .int .i64 a.2.1, .int .i64 a.2.2] 39)).alloc (.cells #[.int .i64 b.1, .int .i64 b.2.1, .int .i64 b.2.2] 39) = W at *
  by_cases hc : nl ≤ 60 ∧ nn ≤ 60
  · obtain ⟨hc1, hc2⟩ := hc
    have d1 : decide ((60 : Int) < (nl : Int)) = false := decide_eq_false (by omega)
    have d2 : decide ((60 : Int) < (nn : Int)) = false := decide_eq_false (by omega)
    have DR := Lib_hid (fun (V : World) (hV : Below w.heap.size w V) => drawn_any (cl := cl) d (h.below (hV.mono hB)) (Nat.le_trans hB hV.size) (show nl ≤ 10000 by omega) hok)
    have HNS := Lib_hid (fun (V : World) (hV : Below w.heap.size w V) => h'.below (hV.mono hB'))
    clear h h' hok
    go_wp2_with ((go_at_call 23; (with_reducible refine (DR.out _ HX.out.2.2).mono ?_); rintro r2 w2 ⟨N, p, c, S, A, L, rfl, hN, hL, hG, hR, hb2, hS, hA⟩))
    have HX2 : Hid (w2.heap[w.heap.size]? = some (.cells #[.int .i64 a.1, .int .i64 a.2.1, .int .i64 a.2.2] 39 (0, 0)) ∧ w2.heap[w.heap.size + 1]? = some (.cells #[.int .i64 b.1, .int .i64 b.2.1, .int .i64 b.2.2] 39 (0, 0)) ∧ Below w.heap.size w w2) := ⟨(hb2.block _ (Array.getElem?_eq_some_iff.1 HX.out.1).1).trans HX.out.1, (hb2.block _ (Array.getElem?_eq_some_iff.1 HX.out.2.1).1).trans HX.out.2.1, HX.out.2.2.trans (hb2.mono HX.out.2.2.size)⟩
    have b3 := below_new w2 (.cells #[.int .i64 (N : Int), .slice A L.length c] 31)
    have HG := Lib_hid (And.intro (hG.later b3) (And.intro (heap_alloc_new w2 (.cells #[.int .i64 (N : Int), .slice A L.length c] 31)) (And.intro hR (And.intro hA (And.intro hN hL)))))
    have HX3 : Hid ((w2.alloc (.cells #[.int .i64 (N : Int), .slice A L.length c] 31)).heap[w.heap.size]? = some (.cells #[.int .i64 a.1, .int .i64 a.2.1, .int .i64 a.2.2] 39 (0, 0)) ∧ (w2.alloc (.cells #[.int .i64 (N : Int), .slice A L.length c] 31)).heap[w.heap.size + 1]? = some (.cells #[.int .i64 b.1, .int .i64 b.2.1, .int .i64 b.2.2] 39 (0, 0)) ∧ Below w.heap.size w (w2.alloc (.cells #[.int .i64 (N : Int), .slice A L.length c] 31)) ∧ Below w2.heap.size w2 (w2.alloc (.cells #[.int .i64 (N : Int), .slice A L.length c] 31))) := ⟨(b3.block _ (Array.getElem?_eq_some_iff.1 HX2.out.1).1).trans HX2.out.1, (b3.block _ (Array.getElem?_eq_some_iff.1 HX2.out.2.1).1).trans HX2.out.2.1, HX2.out.2.2.trans (b3.mono HX2.out.2.2.size), b3⟩
    clear hb2 b3 hG hR hA hS HX HX2 hN hL
    generalize w2.alloc (.cells #[.int .i64 (N : Int), .slice A L.length c] 31) = W3 at *
    have KC : Hid (∀ V : World, Below W3.heap.size W3 V → (V.cell? ⟨w.heap.size, 0, none⟩ = some (.int .i64 a.1) ∧ V.cell? ⟨w.heap.size, 1, none⟩ = some (.int .i64 a.2.1) ∧ V.cell? ⟨w.heap.size, 2, none⟩ = some (.int .i64 a.2.2)) ∧ V.cell? ⟨w.heap.size + 1, 0, none⟩ = some (.int .i64 b.1) ∧ V.cell? ⟨w.heap.size + 1, 1, none⟩ = some (.int .i64 b.2.1) ∧ V.cell? ⟨w.heap.size + 1, 2, none⟩ = some (.int .i64 b.2.2)) := fun V hb => by
      have h1 := (hb.block _ (Array.getElem?_eq_some_iff.1 HX3.out.1).1).trans HX3.out.1
      have h2 := (hb.block _ (Array.getElem?_eq_some_iff.1 HX3.out.2.1).1).trans HX3.out.2.1
      exact ⟨⟨cell_of_row _ _ 0 _ _ _ h1, cell_of_row _ _ 1 _ _ _ h1, cell_of_row _ _ 2 _ _ _ h1⟩, cell_of_row _ _ 0 _ _ _ h2, cell_of_row _ _ 1 _ _ _ h2, cell_of_row _ _ 2 _ _ _ h2⟩
    generalize a.1 = x1 at *
    generalize a.2.1 = x2 at *
    generalize a.2.2 = x3 at *
    generalize b.1 = y1 at *
    generalize b.2.1 = y2 at *
    generalize b.2.2 = y3 at *
    refine wp_region_midJ (N := 93) 12 (fun i v ww => ([fun v ww => v = .agg #[.int .i64 x1, .int .i64 x2, .int .i64 x3], fun v ww => v = .agg #[.int .i64 y1, .int .i64 y2, .int .i64 y3], fun v ww => ∃ h, v = .slice (some ⟨h, 0, none⟩) 2 2 ∧ ww.heap[h]? = some (.cells #[.int .i64 x1, .int .i64 x2, .int .i64 x3, .int .i64 y1, .int .i64 y2, .int .i64 y3] 39 (0, 0)), fun v ww => ∃ g c5, v = .slice (some ⟨g, 0, none⟩) 2 c5 ∧ TwoE ww W3.heap.size g c5 (x1, x2, x3) (y1, y2, y3), fun v ww => ∃ g c5, v = .pointer (some ⟨g, 0, none⟩) ∧ TwoE ww W3.heap.size g c5 (x1, x2, x3) (y1, y2, y3), fun v ww => v = .agg #[.int .i64 x1, .int .i64 x2, .int .i64 x3], fun v ww => v = .agg #[.int .i64 x1, .int .i64 x2, .int .i64 x3], fun v ww => v = .agg #[.int .i64 y1, .int .i64 y2, .int .i64 y3], fun v ww => ∃ h, v = .slice (some ⟨h, 0, none⟩) 2 2 ∧ ww.heap[h]? = some (.cells #[.int .i64 x1, .int .i64 x2, .int .i64 x3, .int .i64 y1, .int .i64 y2, .int .i64 y3] 39 (0, 0)), fun v ww => ∃ g c5, v = .slice (some ⟨g, 0, none⟩) 2 c5 ∧ TwoE ww W3.heap.size g c5 (x1, x2, x3) (y1, y2, y3), fun v ww => ∃ g c5, v = .pointer (some ⟨g, 3, none⟩) ∧ TwoE ww W3.heap.size g c5 (x1, x2, x3) (y1, y2, y3), fun v ww => v = .agg #[.int .i64 y1, .int .i64 y2, .int .i64 y3]] : List (Value → World → Prop)).getD i (fun _ _ => True) v ww) (BoxK 48 3 W3.heap.size) (BoxJ 48 #[.int .i64 0, .int .i64 0, .int .i64 0] #[.int .i64 x1, .int .i64 x2, .int .i64 x3] #[.int .i64 y1, .int .i64 y2, .int .i64 y3] W3.heap.size 13 14 12 13 14 15) (by kernel_rfl) (by kernel_rfl) rfl ?_ ?_ ?_ ?_ ?_ ?_ ?_
    · exact fun _ _ hb => BoxK.of hb
    · intro i v wa wb h0 hb hp
      by_cases hi : i < 12
      · have hcase : i = 0 ∨ i = 1 ∨ i = 2 ∨ i = 3 ∨ i = 4 ∨ i = 5 ∨ i = 6 ∨ i = 7 ∨ i = 8 ∨ i = 9 ∨ i = 10 ∨ i = 11 := by omega
        rcases hcase with rfl | rfl | rfl | rfl | rfl | rfl | rfl | rfl | rfl | rfl | rfl | rfl
        · exact hp
        · exact hp
        · obtain ⟨h, e, hh⟩ := hp
          exact ⟨h, e, hb.keep hh fun cs e1 _ => by injection e1 with _ e1 _; exact absurd e1 (by decide)⟩
        · obtain ⟨g, c5, e, ho⟩ := hp
          exact ⟨g, c5, e, ho.boxk hb⟩
        · obtain ⟨g, c5, e, ho⟩ := hp
          exact ⟨g, c5, e, ho.boxk hb⟩
        · exact hp
        · exact hp
        · exact hp
        · obtain ⟨h, e, hh⟩ := hp
          exact ⟨h, e, hb.keep hh fun cs e1 _ => by injection e1 with _ e1 _; exact absurd e1 (by decide)⟩
        · obtain ⟨g, c5, e, ho⟩ := hp
          exact ⟨g, c5, e, ho.boxk hb⟩
        · obtain ⟨g, c5, e, ho⟩ := hp
          exact ⟨g, c5, e, ho.boxk hb⟩
        · exact hp
      · have hnn : ([fun v ww => v = .agg #[.int .i64 x1, .int .i64 x2, .int .i64 x3], fun v ww => v = .agg #[.int .i64 y1, .int .i64 y2, .int .i64 y3], fun v ww => ∃ h, v = .slice (some ⟨h, 0, none⟩) 2 2 ∧ ww.heap[h]? = some (.cells #[.int .i64 x1, .int .i64 x2, .int .i64 x3, .int .i64 y1, .int .i64 y2, .int .i64 y3] 39 (0, 0)), fun v ww => ∃ g c5, v = .slice (some ⟨g, 0, none⟩) 2 c5 ∧ TwoE ww W3.heap.size g c5 (x1, x2, x3) (y1, y2, y3), fun v ww => ∃ g c5, v = .pointer (some ⟨g, 0, none⟩) ∧ TwoE ww W3.heap.size g c5 (x1, x2, x3) (y1, y2, y3), fun v ww => v = .agg #[.int .i64 x1, .int .i64 x2, .int .i64 x3], fun v ww => v = .agg #[.int .i64 x1, .int .i64 x2, .int .i64 x3], fun v ww => v = .agg #[.int .i64 y1, .int .i64 y2, .int .i64 y3], fun v ww => ∃ h, v = .slice (some ⟨h, 0, none⟩) 2 2 ∧ ww.heap[h]? = some (.cells #[.int .i64 x1, .int .i64 x2, .int .i64 x3, .int .i64 y1, .int .i64 y2, .int .i64 y3] 39 (0, 0)), fun v ww => ∃ g c5, v = .slice (some ⟨g, 0, none⟩) 2 c5 ∧ TwoE ww W3.heap.size g c5 (x1, x2, x3) (y1, y2, y3), fun v ww => ∃ g c5, v = .pointer (some ⟨g, 3, none⟩) ∧ TwoE ww W3.heap.size g c5 (x1, x2, x3) (y1, y2, y3), fun v ww => v = .agg #[.int .i64 y1, .int .i64 y2, .int .i64 y3]] : List (Value → World → Prop))[i]? = none := List.getElem?_eq_none (by simpa using hi)
        rw [List.getD_eq_getElem?_getD, hnn]
        trivial
    · exact BoxJ.start _ _
    · intro i o Ls a v wx w' hi8 hi hM hJ hb
      have hcase : i = 0 ∨ i = 1 ∨ i = 2 ∨ i = 3 ∨ i = 4 ∨ i = 5 ∨ i = 6 ∨ i = 7 ∨ i = 8 ∨ i = 9 ∨ i = 10 ∨ i = 11 := by omega
      clear hi8
      rcases hcase with rfl | rfl | rfl | rfl | rfl | rfl | rfl | rfl | rfl | rfl | rfl | rfl
      · obtain rfl := Option.some.inj hi
        exact hJ.step hb (by decide) (by decide) (by decide) (by decide) (by decide) (by decide)
      · obtain rfl := Option.some.inj hi
        exact hJ.step hb (by decide) (by decide) (by decide) (by decide) (by decide) (by decide)
      · obtain rfl := Option.some.inj hi
        exact hJ.step hb (by decide) (by decide) (by decide) (by decide) (by decide) (by decide)
      · obtain rfl := Option.some.inj hi
        exact hJ.step hb (by decide) (by decide) (by decide) (by decide) (by decide) (by decide)
      · obtain rfl := Option.some.inj hi
        exact hJ.step hb (by decide) (by decide) (by decide) (by decide) (by decide) (by decide)
      · obtain rfl := Option.some.inj hi
        exact hJ.step hb (by decide) (by decide) (by decide) (by decide) (by decide) (by decide)
      · obtain rfl := Option.some.inj hi
        exact hJ.step hb (by decide) (by decide) (by decide) (by decide) (by decide) (by decide)
      · obtain rfl := Option.some.inj hi
        exact hJ.step hb (by decide) (by decide) (by decide) (by decide) (by decide) (by decide)
      · obtain rfl := Option.some.inj hi
        exact hJ.step hb (by decide) (by decide) (by decide) (by decide) (by decide) (by decide)
      · obtain rfl := Option.some.inj hi
        exact hJ.step hb (by decide) (by decide) (by decide) (by decide) (by decide) (by decide)
      · obtain rfl := Option.some.inj hi
        exact hJ.step hb (by decide) (by decide) (by decide) (by decide) (by decide) (by decide)
      · obtain rfl := Option.some.inj hi
        exact hJ.step hb (by decide) (by decide) (by decide) (by decide) (by decide) (by decide)
    · intro i o a wx hi8 hi hM hD
      have hcase : i = 0 ∨ i = 1 ∨ i = 2 ∨ i = 3 ∨ i = 4 ∨ i = 5 ∨ i = 6 ∨ i = 7 ∨ i = 8 ∨ i = 9 ∨ i = 10 ∨ i = 11 := by omega
      clear hi8
      rcases hcase with rfl | rfl | rfl | rfl | rfl | rfl | rfl | rfl | rfl | rfl | rfl | rfl
      · obtain rfl := Option.some.inj hi
        have e8 : a.tmps.getD 8 undef = .pointer (some ⟨w.heap.size, 0, none⟩) := (hM.other 8 (by decide +kernel)).trans rfl
        obtain ⟨⟨k0, k1, k2⟩, k3, k4, k5⟩ := KC.out wx hM.below
        refine ⟨rfl, mid_step (.agg #[.int .i64 x1, .int .i64 x2, .int .i64 x3]) wx (fun K hK => ?_) ⟨_, rfl, rfl, Below.refl _ _⟩⟩
        go_simp
        exact hK
      · obtain rfl := Option.some.inj hi
        have e9 : a.tmps.getD 9 undef = .pointer (some ⟨w.heap.size + 1, 0, none⟩) := (hM.other 9 (by decide +kernel)).trans rfl
        obtain ⟨⟨k0, k1, k2⟩, k3, k4, k5⟩ := KC.out wx hM.below
        refine ⟨rfl, mid_step (.agg #[.int .i64 y1, .int .i64 y2, .int .i64 y3]) wx (fun K hK => ?_) ⟨_, rfl, rfl, Below.refl _ _⟩⟩
        go_simp
        exact hK
      · obtain rfl := Option.some.inj hi
        have e33 : a.tmps.getD 33 undef = .agg #[.int .i64 x1, .int .i64 x2, .int .i64 x3] := hD 0 (by kernel_rfl) _ 33 rfl rfl
        have e34 : a.tmps.getD 34 undef = .agg #[.int .i64 y1, .int .i64 y2, .int .i64 y3] := hD 1 (by kernel_rfl) _ 34 rfl rfl
        have f33 := e33
        have f34 := e34
        rw [Array.getD_eq_getD_getElem?] at f33 f34
        refine ⟨rfl, mid_step (.slice (some ⟨wx.heap.size, 0, none⟩) 2 2) (wx.alloc (.cells #[.int .i64 x1, .int .i64 x2, .int .i64 x3, .int .i64 y1, .int .i64 y2, .int .i64 y3] 39)) (fun K hK => ?_) ⟨_, rfl, ⟨_, rfl, heap_alloc_new _ _⟩, below_new _ _⟩⟩
        go_simp
        exact hK
      · obtain rfl := Option.some.inj hi
        obtain ⟨h, e35, hh⟩ := hD 2 (by kernel_rfl) _ 35 rfl rfl
        refine ⟨rfl, mid_call (fun v w' => (∃ g c5, v = .slice (some ⟨g, 0, none⟩) 2 c5 ∧ TwoE w' W3.heap.size g c5 (x1, x2, x3) (y1, y2, y3)) ∧ Below wx.heap.size wx w') (fun K hK => ?_) (fun v w' h => ⟨v, rfl, h.1, h.2⟩)⟩
        go_simp
        refine (two_edges (a := (x1, x2, x3)) (b := (y1, y2, y3)) hh hM.below.size).mono ?_
        rintro e w' ⟨⟨g, c5, rfl, ho'⟩, hb'⟩
        exact hK _ _ ⟨⟨g, c5, rfl, ho'⟩, hb'⟩
      · obtain rfl := Option.some.inj hi
        obtain ⟨g, c5, e36, ho⟩ := hD 3 (by kernel_rfl) _ 36 rfl rfl
        refine ⟨rfl, mid_step (.pointer (some ⟨g, 0, none⟩)) wx (fun K hK => ?_) ⟨_, rfl, ⟨g, c5, rfl, ho⟩, Below.refl _ _⟩⟩
        go_simp
        exact hK
      · obtain rfl := Option.some.inj hi
        obtain ⟨g, c5, e37, ho⟩ := hD 4 (by kernel_rfl) _ 37 rfl rfl
        obtain ⟨⟨q0, q1, q2⟩, q3, q4, q5⟩ := ho.at0
        refine ⟨rfl, mid_step (.agg #[.int .i64 x1, .int .i64 x2, .int .i64 x3]) wx (fun K hK => ?_) ⟨_, rfl, rfl, Below.refl _ _⟩⟩
        go_simp
        exact hK
      · obtain rfl := Option.some.inj hi
        have e8 : a.tmps.getD 8 undef = .pointer (some ⟨w.heap.size, 0, none⟩) := (hM.other 8 (by decide +kernel)).trans rfl
        obtain ⟨⟨k0, k1, k2⟩, k3, k4, k5⟩ := KC.out wx hM.below
        refine ⟨rfl, mid_step (.agg #[.int .i64 x1, .int .i64 x2, .int .i64 x3]) wx (fun K hK => ?_) ⟨_, rfl, rfl, Below.refl _ _⟩⟩
        go_simp
        exact hK
      · obtain rfl := Option.some.inj hi
        have e9 : a.tmps.getD 9 undef = .pointer (some ⟨w.heap.size + 1, 0, none⟩) := (hM.other 9 (by decide +kernel)).trans rfl
        obtain ⟨⟨k0, k1, k2⟩, k3, k4, k5⟩ := KC.out wx hM.below
        refine ⟨rfl, mid_step (.agg #[.int .i64 y1, .int .i64 y2, .int .i64 y3]) wx (fun K hK => ?_) ⟨_, rfl, rfl, Below.refl _ _⟩⟩
        go_simp
        exact hK
      · obtain rfl := Option.some.inj hi
        have e39 : a.tmps.getD 39 undef = .agg #[.int .i64 x1, .int .i64 x2, .int .i64 x3] := hD 6 (by kernel_rfl) _ 39 rfl rfl
        have e40 : a.tmps.getD 40 undef = .agg #[.int .i64 y1, .int .i64 y2, .int .i64 y3] := hD 7 (by kernel_rfl) _ 40 rfl rfl
        have f39 := e39
        have f40 := e40
        rw [Array.getD_eq_getD_getElem?] at f39 f40
        refine ⟨rfl, mid_step (.slice (some ⟨wx.heap.size, 0, none⟩) 2 2) (wx.alloc (.cells #[.int .i64 x1, .int .i64 x2, .int .i64 x3, .int .i64 y1, .int .i64 y2, .int .i64 y3] 39)) (fun K hK => ?_) ⟨_, rfl, ⟨_, rfl, heap_alloc_new _ _⟩, below_new _ _⟩⟩
        go_simp
        exact hK
      · obtain rfl := Option.some.inj hi
        obtain ⟨h, e41, hh⟩ := hD 8 (by kernel_rfl) _ 41 rfl rfl
        refine ⟨rfl, mid_call (fun v w' => (∃ g c5, v = .slice (some ⟨g, 0, none⟩) 2 c5 ∧ TwoE w' W3.heap.size g c5 (x1, x2, x3) (y1, y2, y3)) ∧ Below wx.heap.size wx w') (fun K hK => ?_) (fun v w' h => ⟨v, rfl, h.1, h.2⟩)⟩
        go_simp
        refine (two_edges (a := (x1, x2, x3)) (b := (y1, y2, y3)) hh hM.below.size).mono ?_
        rintro e w' ⟨⟨g, c5, rfl, ho'⟩, hb'⟩
        exact hK _ _ ⟨⟨g, c5, rfl, ho'⟩, hb'⟩
      · obtain rfl := Option.some.inj hi
        obtain ⟨g, c5, e42, ho⟩ := hD 9 (by kernel_rfl) _ 42 rfl rfl
        refine ⟨rfl, mid_step (.pointer (some ⟨g, 3, none⟩)) wx (fun K hK => ?_) ⟨_, rfl, ⟨g, c5, rfl, ho⟩, Below.refl _ _⟩⟩
        go_simp
        exact hK
      · obtain rfl := Option.some.inj hi
        obtain ⟨g, c5, e43, ho⟩ := hD 10 (by kernel_rfl) _ 43 rfl rfl
        obtain ⟨⟨q0, q1, q2⟩, q3, q4, q5⟩ := ho.at0
        refine ⟨rfl, mid_step (.agg #[.int .i64 y1, .int .i64 y2, .int .i64 y3]) wx (fun K hK => ?_) ⟨_, rfl, rfl, Below.refl _ _⟩⟩
        go_simp
        exact hK
    · intro i o Ls a wx hi8 hi hL hM hJ hD
      have hi9 : i < 16 := (Array.getElem?_eq_some_iff.1 hi).1
      have hcase : i = 12 ∨ i = 13 ∨ i = 14 ∨ i = 15 := by omega
      clear hi8 hi9
      rcases hcase with rfl | rfl | rfl | rfl
      · obtain rfl := Option.some.inj hi
        refine ⟨rfl, mid_step (.pointer (some ⟨wx.heap.size, 0, none⟩)) (wx.alloc (.cells #[.int .i64 0, .int .i64 0, .int .i64 0] 48)) (fun K hK => ?_) ⟨_, rfl, trivial, BoxK.of (below_new _ _), hM.below.trans ((below_new _ _).mono hM.below.size), hJ.make1 (Nat.lt_of_lt_of_eq (show 13 < 93 by decide) (hM.tmps.trans rfl).symm) hL (by decide) (by decide) (by decide) (by decide) hM.below.size⟩⟩
        go_simp
        exact hK
      · obtain rfl := Option.some.inj hi
        refine ⟨rfl, mid_step (.pointer (some ⟨wx.heap.size, 0, none⟩)) (wx.alloc (.cells #[.int .i64 0, .int .i64 0, .int .i64 0] 48)) (fun K hK => ?_) ⟨_, rfl, trivial, BoxK.of (below_new _ _), hM.below.trans ((below_new _ _).mono hM.below.size), hJ.make2 (Nat.lt_of_lt_of_eq (show 14 < 93 by decide) (hM.tmps.trans rfl).symm) hL (by decide) (by decide) (by decide) (by decide) hM.below.size⟩⟩
        go_simp
        exact hK
      · obtain rfl := Option.some.inj hi
        have e38 : a.tmps.getD 38 undef = .agg #[.int .i64 x1, .int .i64 x2, .int .i64 x3] := (hD 5 (by kernel_rfl)).2 _ 38 rfl rfl
        have l12 := (hD 12 (by kernel_rfl)).1
        have hJ2 := hJ
        obtain ⟨g, h, A1, A2, A3, A4, A5⟩ := hJ2
        obtain ⟨e13, hgW, hg⟩ := A1 l12
        rw [hL, if_neg (by decide)] at hg
        clear A1 A2 A3 A4 A5
        have f0 := frozen_of_row _ _ 0 _ _ hg
        have f1 := frozen_of_row _ _ 1 _ _ hg
        have f2 := frozen_of_row _ _ 2 _ _ hg
        have c0 := cell_of_row _ _ 0 _ _ _ hg
        have c1 := cell_of_row _ _ 1 _ _ _ hg
        have c2 := cell_of_row _ _ 2 _ _ _ hg
        obtain ⟨u1, u2, u3, u4⟩ := box3_write (.int .i64 x1) (.int .i64 x2) (.int .i64 x3) hg
        refine ⟨rfl, mid_step undef (((wx.setCell ⟨g, 0, none⟩ (.int .i64 x1)).setCell ⟨g, 1, none⟩ (.int .i64 x2)).setCell ⟨g, 2, none⟩ (.int .i64 x3)) (fun K hK => ?_) ⟨_, rfl, trivial, ⟨Nat.le_of_eq u3.symm, fun k _ => ?_⟩, u4 _ _ hM.below hgW, (hJ.write1 hL l12 (by decide) (by decide) (by decide) (fun _ => rfl) (fun g' e' _ => ?_) undef)⟩⟩
        · have g13 := e13
          rw [Array.getD_eq_getD_getElem?] at g13
          have hK2 : K a _ := hK
          go_simp
          exact hK2
        · by_cases hk : k = g
          · subst hk; exact .inr ⟨hgW, _, rfl, hg⟩
          · exact .inl (u2 k hk)
        · obtain rfl : g' = g := by rw [e13] at e'; injection e' with e'; injection e' with e'; injection e' with e' _ _; exact e'.symm
          exact ⟨u1, u2⟩
      · obtain rfl := Option.some.inj hi
        have e44 : a.tmps.getD 44 undef = .agg #[.int .i64 y1, .int .i64 y2, .int .i64 y3] := (hD 11 (by kernel_rfl)).2 _ 44 rfl rfl
        have l13 := (hD 13 (by kernel_rfl)).1
        have hJ2 := hJ
        obtain ⟨g, h, A1, A2, A3, A4, A5⟩ := hJ2.flip
        obtain ⟨e14, hgW, hg⟩ := A1 l13
        rw [hL, if_neg (by decide)] at hg
        clear A1 A2 A3 A4 A5
        have f0 := frozen_of_row _ _ 0 _ _ hg
        have f1 := frozen_of_row _ _ 1 _ _ hg
        have f2 := frozen_of_row _ _ 2 _ _ hg
        have c0 := cell_of_row _ _ 0 _ _ _ hg
        have c1 := cell_of_row _ _ 1 _ _ _ hg
        have c2 := cell_of_row _ _ 2 _ _ _ hg
        obtain ⟨u1, u2, u3, u4⟩ := box3_write (.int .i64 y1) (.int .i64 y2) (.int .i64 y3) hg
        refine ⟨rfl, mid_step undef (((wx.setCell ⟨g, 0, none⟩ (.int .i64 y1)).setCell ⟨g, 1, none⟩ (.int .i64 y2)).setCell ⟨g, 2, none⟩ (.int .i64 y3)) (fun K hK => ?_) ⟨_, rfl, trivial, ⟨Nat.le_of_eq u3.symm, fun k _ => ?_⟩, u4 _ _ hM.below hgW, (hJ.flip.write1 hL l13 (by decide) (by decide) (by decide) (fun _ => rfl) (fun g' e' _ => ?_) undef).flip⟩⟩
        · have g14 := e14
          rw [Array.getD_eq_getD_getElem?] at g14
          have hK2 : K a _ := hK
          go_simp
          exact hK2
        · by_cases hk : k = g
          · subst hk; exact .inr ⟨hgW, _, rfl, hg⟩
          · exact .inl (u2 k hk)
        · obtain rfl : g' = g := by rw [e14] at e'; injection e' with e'; injection e' with e'; injection e' with e' _ _; exact e'.symm
          exact ⟨u1, u2⟩
    · intro Ls a wx hM hJ hD
      have q0 := (hD 0 (by decide)).2 _ 33 rfl rfl
      have q1 := (hD 1 (by decide)).2 _ 34 rfl rfl
      obtain ⟨h0, e0r, hh0⟩ := (hD 2 (by decide)).2 _ 35 rfl rfl
      have q2 : a.tmps.getD 35 undef = .slice (some ⟨h0, 0, none⟩) 2 2 := by assumption
      obtain ⟨g0, c0, q0r, ho0⟩ := (hD 3 (by decide)).2 _ 36 rfl rfl
      have q3 : a.tmps.getD 36 undef = .slice (some ⟨g0, 0, none⟩) 2 c0 := by assumption
      obtain ⟨gg0, cc0, r0r, hoo0⟩ := (hD 4 (by decide)).2 _ 37 rfl rfl
      have q4 : a.tmps.getD 37 undef = .pointer (some ⟨gg0, 0, none⟩) := by assumption
      have q5 := (hD 5 (by decide)).2 _ 38 rfl rfl
      have q6 := (hD 6 (by decide)).2 _ 39 rfl rfl
      have q7 := (hD 7 (by decide)).2 _ 40 rfl rfl
      obtain ⟨h6, e6r, hh6⟩ := (hD 8 (by decide)).2 _ 41 rfl rfl
      have q8 : a.tmps.getD 41 undef = .slice (some ⟨h6, 0, none⟩) 2 2 := by assumption
      obtain ⟨g6, c6, q6r, ho6⟩ := (hD 9 (by decide)).2 _ 42 rfl rfl
      have q9 : a.tmps.getD 42 undef = .slice (some ⟨g6, 0, none⟩) 2 c6 := by assumption
      obtain ⟨gg6, cc6, r6r, hoo6⟩ := (hD 10 (by decide)).2 _ 43 rfl rfl
      have q10 : a.tmps.getD 43 undef = .pointer (some ⟨gg6, 3, none⟩) := by assumption
      have q11 := (hD 11 (by decide)).2 _ 44 rfl rfl
      obtain ⟨zx, zy, J1, J2, J3, -, -⟩ := hJ
      obtain ⟨q12, hxW, hx⟩ := J1 (hD 12 (by decide)).1
      obtain ⟨q13, hyW, hy⟩ := J2 (hD 13 (by decide)).1
      rw [if_pos (hD 14 (by decide)).1] at hx
      rw [if_pos (hD 15 (by decide)).1] at hy
      have hxy := J3 (hD 12 (by decide)).1 (hD 13 (by decide)).1
      have hact := act_puts (a := a) [(33, .agg #[.int .i64 x1, .int .i64 x2, .int .i64 x3]), (34, .agg #[.int .i64 y1, .int .i64 y2, .int .i64 y3]), (35, .slice (some ⟨h0, 0, none⟩) 2 2), (36, .slice (some ⟨g0, 0, none⟩) 2 c0), (37, .pointer (some ⟨gg0, 0, none⟩)), (38, .agg #[.int .i64 x1, .int .i64 x2, .int .i64 x3]), (39, .agg #[.int .i64 x1, .int .i64 x2, .int .i64 x3]), (40, .agg #[.int .i64 y1, .int .i64 y2, .int .i64 y3]), (41, .slice (some ⟨h6, 0, none⟩) 2 2), (42, .slice (some ⟨g6, 0, none⟩) 2 c6), (43, .pointer (some ⟨gg6, 3, none⟩)), (44, .agg #[.int .i64 y1, .int .i64 y2, .int .i64 y3]), (13, .pointer (some ⟨zx, 0, none⟩)), (14, .pointer (some ⟨zy, 0, none⟩))] _ hM.tmps hM.defers (by
        intro s v hm
        simp only [List.mem_cons, Prod.mk.injEq, List.not_mem_nil, or_false] at hm
        rcases hm with ⟨rfl, rfl⟩ | ⟨rfl, rfl⟩ | ⟨rfl, rfl⟩ | ⟨rfl, rfl⟩ | ⟨rfl, rfl⟩ | ⟨rfl, rfl⟩ | ⟨rfl, rfl⟩ | ⟨rfl, rfl⟩ | ⟨rfl, rfl⟩ | ⟨rfl, rfl⟩ | ⟨rfl, rfl⟩ | ⟨rfl, rfl⟩ | ⟨rfl, rfl⟩ | ⟨rfl, rfl⟩
        · exact ⟨(by show 33 < 93; decide), q0⟩
        · exact ⟨(by show 34 < 93; decide), q1⟩
        · exact ⟨(by show 35 < 93; decide), q2⟩
        · exact ⟨(by show 36 < 93; decide), q3⟩
        · exact ⟨(by show 37 < 93; decide), q4⟩
        · exact ⟨(by show 38 < 93; decide), q5⟩
        · exact ⟨(by show 39 < 93; decide), q6⟩
        · exact ⟨(by show 40 < 93; decide), q7⟩
        · exact ⟨(by show 41 < 93; decide), q8⟩
        · exact ⟨(by show 42 < 93; decide), q9⟩
        · exact ⟨(by show 43 < 93; decide), q10⟩
        · exact ⟨(by show 44 < 93; decide), q11⟩
        · exact ⟨(by show 13 < 93; decide), q12⟩
        · exact ⟨(by show 14 < 93; decide), q13⟩) (fun s hs => hM.other s (by exact hs))
      rw [hact]
      have hBX := hM.below
      clear hact hD hM q0 q1 q2 q3 q4 q5 q6 q7 q8 q9 q10 q11 q12 q13
      simp only [List.foldl, Act.put, List.setIfInBounds_toArray, List.set_cons_succ, List.set_cons_zero]
      have XB := Lib_hid (And.intro hx (And.intro hy (And.intro hBX (And.intro hxW hyW))))
      have hbW : Hid (∀ V : World, Below wx.heap.size wx V → Below w.heap.size w V) := fun V hb => (HX3.out.2.2.1.trans (hBX.mono HX3.out.2.2.1.size)).trans (hb.mono (Nat.le_trans HX3.out.2.2.1.size hBX.size))
      have GX : Hid (∀ V : World, Below wx.heap.size wx V → GmIs V p S N L ∧ (V.cell? ⟨w2.heap.size, 0, none⟩ = some (.int .i64 (N : Int)) ∧ V.cell? ⟨w2.heap.size, 1, none⟩ = some (.slice A L.length c)) ∧ Rd V w2.heap.size 3 A L.length (ec L) ∧ w2.heap.size ≤ V.heap.size) := fun V hb => by
        have hb3 : Below W3.heap.size W3 V := hBX.trans (hb.mono hBX.size)
        have h1 := (hb3.block _ (Array.getElem?_eq_some_iff.1 HG.out.2.1).1).trans HG.out.2.1
        have hb2 : Below w2.heap.size w2 V := HX3.out.2.2.2.trans (hb3.mono HX3.out.2.2.2.size)
        exact ⟨HG.out.1.later hb3, ⟨cell_of_row _ _ 0 _ _ _ h1, cell_of_row _ _ 1 _ _ _ h1⟩, HG.out.2.2.1.below hb2, hb2.size⟩
      have ZX : Hid (∀ V : World, Below wx.heap.size wx V → (V.cell? ⟨zx, 0, none⟩ = some (.int .i64 x1) ∧ V.cell? ⟨zx, 1, none⟩ = some (.int .i64 x2) ∧ V.cell? ⟨zx, 2, none⟩ = some (.int .i64 x3)) ∧ V.cell? ⟨zy, 0, none⟩ = some (.int .i64 y1) ∧ V.cell? ⟨zy, 1, none⟩ = some (.int .i64 y2) ∧ V.cell? ⟨zy, 2, none⟩ = some (.int .i64 y3)) := fun V hb => by
        have h1 := (hb.block _ (Array.getElem?_eq_some_iff.1 hx).1).trans hx
        have h2 := (hb.block _ (Array.getElem?_eq_some_iff.1 hy).1).trans hy
        exact ⟨⟨cell_of_row _ _ 0 _ _ _ h1, cell_of_row _ _ 1 _ _ _ h1, cell_of_row _ _ 2 _ _ _ h1⟩, cell_of_row _ _ 0 _ _ _ h2, cell_of_row _ _ 1 _ _ _ h2, cell_of_row _ _ 2 _ _ _ h2⟩
      have HN6 : Hid (N ≤ 65536 ∧ L.length ≤ 60) := ⟨by have := HG.out.2.2.2.2.1; omega, by have := HG.out.2.2.2.2.2; omega⟩
      have LNL : Hid (L.length ≤ 1000000) := by have := HN6.out.2; unfold Hid; omega
      have LNbackE : Hid ((backE L).length ≤ 1000000) := by have := HN6.out.2; have h2 := (addEs_len (L.map swE) []).2; rw [List.length_map] at h2; unfold Hid backE; simp only [List.length_nil] at h2; omega
      have LNonlyE : Hid ((onlyE L ns).length ≤ 1000000) := by have := HN6.out.2; have h2 : (onlyE L ns).length ≤ L.length := List.length_filter_le _ _; unfold Hid; omega
      have BK := Lib_hid (fun (V : World) (hV : Below wx.heap.size wx V) => pback_any (GX.out V hV).1 HN6.out.1 LNL.out)
      have ON := Lib_hid (fun (V : World) (hV : Below wx.heap.size wx V) => ponly_any (c := cn) (GX.out V hV).1 (HNS.out V (hbW.out V hV)) (Nat.le_trans hB' (hbW.out V hV).size) HN6.out.1 (by omega) LNL.out)
      have RB := Lib_hid (fun (V : World) (hV : Below wx.heap.size wx V) => rback_any (c := c) (N := N) (GX.out V hV).2.2.1 (GX.out V hV).2.2.2 LNL.out (GX.out V hV).1.srt.nodup)
      have RO := Lib_hid (fun (V : World) (hV : Below wx.heap.size wx V) => ronly_any (c := c) (c' := cn) (N := N) (GX.out V hV).2.2.1 (HNS.out V (hbW.out V hV)) (GX.out V hV).2.2.2 (Nat.le_trans hB' (hbW.out V hV).size) LNL.out (by omega))
      have RG3 := Lib_hid (fun (V : World) (hV : Below wx.heap.size wx V) => rgraph_any (GX.out V hV).1 HN6.out.1 LNL.out)
      clear hx hy hBX hxW hyW hxy
      go_upto_region 6 with (first | (go_at_call 24; refine (BK.out _ (Below.refl _ _)).mono ?_; rintro r w5 ⟨pb, Sb, rfl, hGb, hb5, hSb⟩) | (go_at_call 25; refine (ON.out _ hb5).mono ?_; rintro r w6 ⟨po, So, rfl, hGo, hb6, hSo⟩))
      have H6 : Hid (∀ V : World, Below w6.heap.size w6 V → GmIs V pb Sb N (backE L) ∧ GmIs V po So N (onlyE L ns) ∧ Below wx.heap.size wx V) := fun V hb => ⟨hGb.later (hb6.trans (hb.mono hb6.size)), hGo.later hb, (hb5.trans (hb6.mono hb5.size)).trans (hb.mono (Nat.le_trans hb5.size hb6.size))⟩
      have XS : Hid ((∀ k, Sb k → wx.heap.size ≤ k) ∧ ((∀ k, Sb k → k < w6.heap.size) ∧ ∀ k, So k → wx.heap.size ≤ k) ∧ ∀ k, Sb k → ¬ So k) := ⟨hSb, ⟨fun k hk => Nat.lt_of_lt_of_le (hGb.lt k hk) hb6.size, fun k hk => Nat.le_trans hb5.size (hSo k hk)⟩, fun k hk hk' => absurd (hSo k hk') (by have := hGb.lt k hk; omega)⟩
      have RG1 := Lib_hid (fun (V : World) (hV : Below w6.heap.size w6 V) => rgraph_any (H6.out V hV).1 HN6.out.1 LNbackE.out)
      have RG2 := Lib_hid (fun (V : World) (hV : Below w6.heap.size w6 V) => rgraph_any (H6.out V hV).2.1 HN6.out.1 LNonlyE.out)
      clear hGb hGo hb5 hb6 hSb hSo BK ON
      refine wp_region_midT (N := 93) 24 (fun i v ww => ([fun v ww => v = .pointer (some ⟨pb, 0, none⟩), fun v ww => ∃ A1 c1 B1, v = .agg #[.int .i64 (N : Int), .slice A1 (backE L).length c1] ∧ Rd ww B1 3 A1 (backE L).length (ec (backE L)) ∧ B1 ≤ ww.heap.size, fun v ww => v = .agg #[.int .i64 (N : Int), .slice A L.length c], fun v ww => ∃ A1 c1 B1, v = .agg #[.int .i64 (N : Int), .slice A1 (backE L).length c1] ∧ Rd ww B1 3 A1 (backE L).length (ec (backE L)) ∧ B1 ≤ ww.heap.size, fun v ww => v = .bool true, fun v ww => v = .bool false, fun v ww => v = .bool false, fun v ww => v = .pointer (some ⟨po, 0, none⟩), fun v ww => ∃ A1 c1 B1, v = .agg #[.int .i64 (N : Int), .slice A1 (onlyE L ns).length c1] ∧ Rd ww B1 3 A1 (onlyE L ns).length (ec (onlyE L ns)) ∧ B1 ≤ ww.heap.size, fun v ww => v = .agg #[.int .i64 (N : Int), .slice A L.length c], fun v ww => v = .slice An nn cn, fun v ww => ∃ A1 c1 B1, v = .agg #[.int .i64 (N : Int), .slice A1 (onlyE L ns).length c1] ∧ Rd ww B1 3 A1 (onlyE L ns).length (ec (onlyE L ns)) ∧ B1 ≤ ww.heap.size, fun v ww => v = .bool true, fun v ww => v = .bool false, fun v ww => v = .bool false, fun v ww => v = .bool false, fun v ww => v = .agg #[.int .i64 x1, .int .i64 x2, .int .i64 x3], fun v ww => v = .agg #[.int .i64 y1, .int .i64 y2, .int .i64 y3], fun v ww => v = .int .i64 (cmpE (x1, x2, x3) (y1, y2, y3)), fun v ww => v = .agg #[.int .i64 x1, .int .i64 x2, .int .i64 x3], fun v ww => v = .agg #[.int .i64 y1, .int .i64 y2, .int .i64 y3], fun v ww => v = .int .i64 (cmpE (x1, x2, x3) (y1, y2, y3)), fun v ww => v = .bool false, fun v ww => v = .bool false] : List (Value → World → Prop)).getD i (fun _ _ => True) v ww) (by kernel_rfl) (by kernel_rfl) (by kernel_rfl) rfl ?_ ?_ ?_
      · intro i v wa wb h0 hb hp
        by_cases hi : i < 24
        · have hcase : i = 0 ∨ i = 1 ∨ i = 2 ∨ i = 3 ∨ i = 4 ∨ i = 5 ∨ i = 6 ∨ i = 7 ∨ i = 8 ∨ i = 9 ∨ i = 10 ∨ i = 11 ∨ i = 12 ∨ i = 13 ∨ i = 14 ∨ i = 15 ∨ i = 16 ∨ i = 17 ∨ i = 18 ∨ i = 19 ∨ i = 20 ∨ i = 21 ∨ i = 22 ∨ i = 23 := by omega
          rcases hcase with rfl | rfl | rfl | rfl | rfl | rfl | rfl | rfl | rfl | rfl | rfl | rfl | rfl | rfl | rfl | rfl | rfl | rfl | rfl | rfl | rfl | rfl | rfl | rfl
          · exact hp
          · obtain ⟨A1, c1, B1, e, hr, hB1⟩ := hp
            exact ⟨A1, c1, B1, e, hr.below (hb.mono hB1), Nat.le_trans hB1 hb.size⟩
          · exact hp
          · obtain ⟨A1, c1, B1, e, hr, hB1⟩ := hp
            exact ⟨A1, c1, B1, e, hr.below (hb.mono hB1), Nat.le_trans hB1 hb.size⟩
          · exact hp
          · exact hp
          · exact hp
          · exact hp
          · obtain ⟨A1, c1, B1, e, hr, hB1⟩ := hp
            exact ⟨A1, c1, B1, e, hr.below (hb.mono hB1), Nat.le_trans hB1 hb.size⟩
          · exact hp
          · exact hp
          · obtain ⟨A1, c1, B1, e, hr, hB1⟩ := hp
            exact ⟨A1, c1, B1, e, hr.below (hb.mono hB1), Nat.le_trans hB1 hb.size⟩
          · exact hp
          · exact hp
          · exact hp
          · exact hp
          · exact hp
          · exact hp
          · exact hp
          · exact hp
          · exact hp
          · exact hp
          · exact hp
          · exact hp
        · have hnn : ([fun v ww => v = .pointer (some ⟨pb, 0, none⟩), fun v ww => ∃ A1 c1 B1, v = .agg #[.int .i64 (N : Int), .slice A1 (backE L).length c1] ∧ Rd ww B1 3 A1 (backE L).length (ec (backE L)) ∧ B1 ≤ ww.heap.size, fun v ww => v = .agg #[.int .i64 (N : Int), .slice A L.length c], fun v ww => ∃ A1 c1 B1, v = .agg #[.int .i64 (N : Int), .slice A1 (backE L).length c1] ∧ Rd ww B1 3 A1 (backE L).length (ec (backE L)) ∧ B1 ≤ ww.heap.size, fun v ww => v = .bool true, fun v ww => v = .bool false, fun v ww => v = .bool false, fun v ww => v = .pointer (some ⟨po, 0, none⟩), fun v ww => ∃ A1 c1 B1, v = .agg #[.int .i64 (N : Int), .slice A1 (onlyE L ns).length c1] ∧ Rd ww B1 3 A1 (onlyE L ns).length (ec (onlyE L ns)) ∧ B1 ≤ ww.heap.size, fun v ww => v = .agg #[.int .i64 (N : Int), .slice A L.length c], fun v ww => v = .slice An nn cn, fun v ww => ∃ A1 c1 B1, v = .agg #[.int .i64 (N : Int), .slice A1 (onlyE L ns).length c1] ∧ Rd ww B1 3 A1 (onlyE L ns).length (ec (onlyE L ns)) ∧ B1 ≤ ww.heap.size, fun v ww => v = .bool true, fun v ww => v = .bool false, fun v ww => v = .bool false, fun v ww => v = .bool false, fun v ww => v = .agg #[.int .i64 x1, .int .i64 x2, .int .i64 x3], fun v ww => v = .agg #[.int .i64 y1, .int .i64 y2, .int .i64 y3], fun v ww => v = .int .i64 (cmpE (x1, x2, x3) (y1, y2, y3)), fun v ww => v = .agg #[.int .i64 x1, .int .i64 x2, .int .i64 x3], fun v ww => v = .agg #[.int .i64 y1, .int .i64 y2, .int .i64 y3], fun v ww => v = .int .i64 (cmpE (x1, x2, x3) (y1, y2, y3)), fun v ww => v = .bool false, fun v ww => v = .bool false] : List (Value → World → Prop))[i]? = none := List.getElem?_eq_none (by simpa using hi)
          rw [List.getD_eq_getElem?_getD, hnn]
          trivial
      · intro i o a wy hi8 hi hM hD
        have hcase : i = 0 ∨ i = 1 ∨ i = 2 ∨ i = 3 ∨ i = 4 ∨ i = 5 ∨ i = 6 ∨ i = 7 ∨ i = 8 ∨ i = 9 ∨ i = 10 ∨ i = 11 ∨ i = 12 ∨ i = 13 ∨ i = 14 ∨ i = 15 ∨ i = 16 ∨ i = 17 ∨ i = 18 ∨ i = 19 ∨ i = 20 ∨ i = 21 ∨ i = 22 ∨ i = 23 := by omega
        clear hi8
        rcases hcase with rfl | rfl | rfl | rfl | rfl | rfl | rfl | rfl | rfl | rfl | rfl | rfl | rfl | rfl | rfl | rfl | rfl | rfl | rfl | rfl | rfl | rfl | rfl | rfl
        · obtain rfl := Option.some.inj hi
          have e15 : a.tmps.getD 15 undef = .pointer (some ⟨pb, 0, none⟩) := (hM.other 15 (by decide +kernel)).trans rfl
          refine ⟨rfl, mid_step (.pointer (some ⟨pb, 0, none⟩)) wy (fun K hK => ?_) ⟨_, rfl, rfl, Below.refl _ _⟩⟩
          go_simp
          exact hK
        · obtain rfl := Option.some.inj hi
          have e50 : a.tmps.getD 50 undef = .pointer (some ⟨pb, 0, none⟩) := hD 0 (by kernel_rfl) _ 50 rfl rfl
          refine ⟨rfl, mid_call (fun v w' => (∃ A1 c1 B1, v = .agg #[.int .i64 (N : Int), .slice A1 (backE L).length c1] ∧ Rd w' B1 3 A1 (backE L).length (ec (backE L)) ∧ B1 ≤ w'.heap.size) ∧ Below wy.heap.size wy w') (fun K hK => ?_) (fun v w' h => ⟨v, rfl, h.1, h.2⟩)⟩
          go_simp
          refine (RG1.out wy hM.below).mono ?_
          rintro e w' ⟨A1, c1, rfl, hr, hb'⟩
          exact hK _ _ ⟨⟨A1, c1, w'.heap.size, rfl, hr, Nat.le_refl _⟩, hb'⟩
        · obtain rfl := Option.some.inj hi
          have e12 : a.tmps.getD 12 undef = .pointer (some ⟨w2.heap.size, 0, none⟩) := (hM.other 12 (by decide +kernel)).trans rfl
          have hbz := (H6.out _ hM.below).2.2
          obtain ⟨q0, q1⟩ := (GX.out _ hbz).2.1
          refine ⟨rfl, mid_step (.agg #[.int .i64 (N : Int), .slice A L.length c]) wy (fun K hK => ?_) ⟨_, rfl, rfl, Below.refl _ _⟩⟩
          go_simp
          exact hK
        · obtain rfl := Option.some.inj hi
          have hbz := (H6.out _ hM.below).2.2
          have e52 : a.tmps.getD 52 undef = .agg #[.int .i64 (N : Int), .slice A L.length c] := hD 2 (by kernel_rfl) _ 52 rfl rfl
          refine ⟨rfl, mid_call (fun v w' => (∃ A1 c1 B1, v = .agg #[.int .i64 (N : Int), .slice A1 (backE L).length c1] ∧ Rd w' B1 3 A1 (backE L).length (ec (backE L)) ∧ B1 ≤ w'.heap.size) ∧ Below wy.heap.size wy w') (fun K hK => ?_) (fun v w' h => ⟨v, rfl, h.1, h.2⟩)⟩
          go_simp
          refine (RB.out wy hbz).mono ?_
          rintro e w' ⟨A1, c1, rfl, hr, hb'⟩
          exact hK _ _ ⟨⟨A1, c1, w'.heap.size, rfl, hr, Nat.le_refl _⟩, hb'⟩
        · obtain rfl := Option.some.inj hi
          obtain ⟨A1, c1, B1, e51, hr1, hB1⟩ := hD 1 (by kernel_rfl) _ 51 rfl rfl
          obtain ⟨A2, c2, B2, e53, hr2, hB2⟩ := hD 3 (by kernel_rfl) _ 53 rfl rfl
          refine ⟨rfl, mid_call (fun v w' => v = .bool true ∧ Below wy.heap.size wy w') (fun K hK => ?_) (fun v w' h => ⟨v, rfl, h.1, h.2⟩)⟩
          go_simp
          refine (rsame_any (N := N) (N' := N) (L := backE L) (L' := backE L) hr1 hr2 hB1 hB2 (LNbackE.out)).mono ?_
          rintro e w' ⟨rfl, hb'⟩
          exact hK _ _ ⟨by simp, hb'⟩
        · obtain rfl := Option.some.inj hi
          have e54 : a.tmps.getD 54 undef = .bool true := hD 4 (by kernel_rfl) _ 54 rfl rfl
          refine ⟨rfl, mid_step (.bool false) wy (fun K hK => ?_) ⟨_, rfl, rfl, Below.refl _ _⟩⟩
          go_simp
          exact hK
        · obtain rfl := Option.some.inj hi
          have e55 : a.tmps.getD 55 undef = .bool false := hD 5 (by kernel_rfl) _ 55 rfl rfl
          refine ⟨rfl, mid_step (.bool false) wy (fun K hK => ?_) ⟨_, rfl, rfl, Below.refl _ _⟩⟩
          go_simp
          exact hK
        · obtain rfl := Option.some.inj hi
          have e56 : a.tmps.getD 56 undef = .bool false := hD 6 (by kernel_rfl) _ 56 rfl rfl
          have e16 : a.tmps.getD 16 undef = .pointer (some ⟨po, 0, none⟩) := (hM.other 16 (by decide +kernel)).trans rfl
          refine ⟨wanted_yes 6 56 rfl rfl rfl e56, mid_step (.pointer (some ⟨po, 0, none⟩)) wy (fun K hK => ?_) ⟨_, rfl, rfl, Below.refl _ _⟩⟩
          go_simp
          exact hK
        · obtain rfl := Option.some.inj hi
          have e56 : a.tmps.getD 56 undef = .bool false := hD 6 (by kernel_rfl) _ 56 rfl rfl
          have e57 : a.tmps.getD 57 undef = .pointer (some ⟨po, 0, none⟩) := hD 7 (by kernel_rfl) _ 57 rfl rfl
          refine ⟨wanted_yes 6 56 rfl rfl rfl e56, mid_call (fun v w' => (∃ A1 c1 B1, v = .agg #[.int .i64 (N : Int), .slice A1 (onlyE L ns).length c1] ∧ Rd w' B1 3 A1 (onlyE L ns).length (ec (onlyE L ns)) ∧ B1 ≤ w'.heap.size) ∧ Below wy.heap.size wy w') (fun K hK => ?_) (fun v w' h => ⟨v, rfl, h.1, h.2⟩)⟩
          go_simp
          refine (RG2.out wy hM.below).mono ?_
          rintro e w' ⟨A1, c1, rfl, hr, hb'⟩
          exact hK _ _ ⟨⟨A1, c1, w'.heap.size, rfl, hr, Nat.le_refl _⟩, hb'⟩
        · obtain rfl := Option.some.inj hi
          have e56 : a.tmps.getD 56 undef = .bool false := hD 6 (by kernel_rfl) _ 56 rfl rfl
          have e12 : a.tmps.getD 12 undef = .pointer (some ⟨w2.heap.size, 0, none⟩) := (hM.other 12 (by decide +kernel)).trans rfl
          have hbz := (H6.out _ hM.below).2.2
          obtain ⟨q0, q1⟩ := (GX.out _ hbz).2.1
          refine ⟨wanted_yes 6 56 rfl rfl rfl e56, mid_step (.agg #[.int .i64 (N : Int), .slice A L.length c]) wy (fun K hK => ?_) ⟨_, rfl, rfl, Below.refl _ _⟩⟩
          go_simp
          exact hK
        · obtain rfl := Option.some.inj hi
          have e56 : a.tmps.getD 56 undef = .bool false := hD 6 (by kernel_rfl) _ 56 rfl rfl
          have e2 : a.tmps.getD 2 undef = .slice An nn cn := (hM.other 2 (by decide +kernel)).trans rfl
          refine ⟨wanted_yes 6 56 rfl rfl rfl e56, mid_step (.slice An nn cn) wy (fun K hK => ?_) ⟨_, rfl, rfl, Below.refl _ _⟩⟩
          go_simp
          exact hK
        · obtain rfl := Option.some.inj hi
          have e56 : a.tmps.getD 56 undef = .bool false := hD 6 (by kernel_rfl) _ 56 rfl rfl
          have hbz := (H6.out _ hM.below).2.2
          have e59 : a.tmps.getD 59 undef = .agg #[.int .i64 (N : Int), .slice A L.length c] := hD 9 (by kernel_rfl) _ 59 rfl rfl
          have e60 : a.tmps.getD 60 undef = .slice An nn cn := hD 10 (by kernel_rfl) _ 60 rfl rfl
          refine ⟨wanted_yes 6 56 rfl rfl rfl e56, mid_call (fun v w' => (∃ A1 c1 B1, v = .agg #[.int .i64 (N : Int), .slice A1 (onlyE L ns).length c1] ∧ Rd w' B1 3 A1 (onlyE L ns).length (ec (onlyE L ns)) ∧ B1 ≤ w'.heap.size) ∧ Below wy.heap.size wy w') (fun K hK => ?_) (fun v w' h => ⟨v, rfl, h.1, h.2⟩)⟩
          go_simp
          refine (RO.out wy hbz).mono ?_
          rintro e w' ⟨A1, c1, rfl, hr, hb'⟩
          exact hK _ _ ⟨⟨A1, c1, w'.heap.size, rfl, hr, Nat.le_refl _⟩, hb'⟩
        · obtain rfl := Option.some.inj hi
          have e56 : a.tmps.getD 56 undef = .bool false := hD 6 (by kernel_rfl) _ 56 rfl rfl
          obtain ⟨A1, c1, B1, e58, hr1, hB1⟩ := hD 8 (by kernel_rfl) _ 58 rfl rfl
          obtain ⟨A2, c2, B2, e61, hr2, hB2⟩ := hD 11 (by kernel_rfl) _ 61 rfl rfl
          refine ⟨wanted_yes 6 56 rfl rfl rfl e56, mid_call (fun v w' => v = .bool true ∧ Below wy.heap.size wy w') (fun K hK => ?_) (fun v w' h => ⟨v, rfl, h.1, h.2⟩)⟩
          go_simp
          refine (rsame_any (N := N) (N' := N) (L := onlyE L ns) (L' := onlyE L ns) hr1 hr2 hB1 hB2 (LNonlyE.out)).mono ?_
          rintro e w' ⟨rfl, hb'⟩
          exact hK _ _ ⟨by simp, hb'⟩
        · obtain rfl := Option.some.inj hi
          have e56 : a.tmps.getD 56 undef = .bool false := hD 6 (by kernel_rfl) _ 56 rfl rfl
          have e62 : a.tmps.getD 62 undef = .bool true := hD 12 (by kernel_rfl) _ 62 rfl rfl
          refine ⟨wanted_yes 6 56 rfl rfl rfl e56, mid_step (.bool false) wy (fun K hK => ?_) ⟨_, rfl, rfl, Below.refl _ _⟩⟩
          go_simp
          exact hK
        · obtain rfl := Option.some.inj hi
          have e56 : a.tmps.getD 56 undef = .bool false := hD 6 (by kernel_rfl) _ 56 rfl rfl
          have e63 : a.tmps.getD 63 undef = .bool false := hD 13 (by kernel_rfl) _ 63 rfl rfl
          refine ⟨rfl, mid_step (.bool false) wy (fun K hK => ?_) ⟨_, rfl, rfl, Below.refl _ _⟩⟩
          go_simp
          exact hK
        · obtain rfl := Option.some.inj hi
          have e64 : a.tmps.getD 64 undef = .bool false := hD 14 (by kernel_rfl) _ 64 rfl rfl
          refine ⟨rfl, mid_step (.bool false) wy (fun K hK => ?_) ⟨_, rfl, rfl, Below.refl _ _⟩⟩
          go_simp
          exact hK
        · obtain rfl := Option.some.inj hi
          have e65 : a.tmps.getD 65 undef = .bool false := hD 15 (by kernel_rfl) _ 65 rfl rfl
          have e8 : a.tmps.getD 8 undef = .pointer (some ⟨w.heap.size, 0, none⟩) := (hM.other 8 (by decide +kernel)).trans rfl
          have hbz := (H6.out _ hM.below).2.2
          obtain ⟨⟨k0, k1, k2⟩, k3, k4, k5⟩ := KC.out _ (XB.out.2.2.1.trans (hbz.mono XB.out.2.2.1.size))
          refine ⟨wanted_yes 15 65 rfl rfl rfl e65, mid_step (.agg #[.int .i64 x1, .int .i64 x2, .int .i64 x3]) wy (fun K hK => ?_) ⟨_, rfl, rfl, Below.refl _ _⟩⟩
          go_simp
          exact hK
        · obtain rfl := Option.some.inj hi
          have e65 : a.tmps.getD 65 undef = .bool false := hD 15 (by kernel_rfl) _ 65 rfl rfl
          have e9 : a.tmps.getD 9 undef = .pointer (some ⟨w.heap.size + 1, 0, none⟩) := (hM.other 9 (by decide +kernel)).trans rfl
          have hbz := (H6.out _ hM.below).2.2
          obtain ⟨⟨k0, k1, k2⟩, k3, k4, k5⟩ := KC.out _ (XB.out.2.2.1.trans (hbz.mono XB.out.2.2.1.size))
          refine ⟨wanted_yes 15 65 rfl rfl rfl e65, mid_step (.agg #[.int .i64 y1, .int .i64 y2, .int .i64 y3]) wy (fun K hK => ?_) ⟨_, rfl, rfl, Below.refl _ _⟩⟩
          go_simp
          exact hK
        · obtain rfl := Option.some.inj hi
          have e65 : a.tmps.getD 65 undef = .bool false := hD 15 (by kernel_rfl) _ 65 rfl rfl
          have e66 : a.tmps.getD 66 undef = .agg #[.int .i64 x1, .int .i64 x2, .int .i64 x3] := hD 16 (by kernel_rfl) _ 66 rfl rfl
          have e67 : a.tmps.getD 67 undef = .agg #[.int .i64 y1, .int .i64 y2, .int .i64 y3] := hD 17 (by kernel_rfl) _ 67 rfl rfl
          refine ⟨wanted_yes 15 65 rfl rfl rfl e65, mid_call (fun v w' => v = .int .i64 (cmpE (x1, x2, x3) (y1, y2, y3)) ∧ Below wy.heap.size wy w') (fun K hK => ?_) (fun v w' h => ⟨v, rfl, h.1, h.2⟩)⟩
          go_simp
          refine (pcmp_any (x1, x2, x3) (y1, y2, y3) wy).mono ?_
          rintro e w' ⟨rfl, hg⟩
          exact hK _ _ ⟨rfl, hg.below⟩
        · obtain rfl := Option.some.inj hi
          have e65 : a.tmps.getD 65 undef = .bool false := hD 15 (by kernel_rfl) _ 65 rfl rfl
          have e13 : a.tmps.getD 13 undef = .pointer (some ⟨zx, 0, none⟩) := (hM.other 13 (by decide +kernel)).trans rfl
          have hbz := (H6.out _ hM.below).2.2
          obtain ⟨⟨k0, k1, k2⟩, k3, k4, k5⟩ := ZX.out _ hbz
          refine ⟨wanted_yes 15 65 rfl rfl rfl e65, mid_step (.agg #[.int .i64 x1, .int .i64 x2, .int .i64 x3]) wy (fun K hK => ?_) ⟨_, rfl, rfl, Below.refl _ _⟩⟩
          go_simp
          exact hK
        · obtain rfl := Option.some.inj hi
          have e65 : a.tmps.getD 65 undef = .bool false := hD 15 (by kernel_rfl) _ 65 rfl rfl
          have e14 : a.tmps.getD 14 undef = .pointer (some ⟨zy, 0, none⟩) := (hM.other 14 (by decide +kernel)).trans rfl
          have hbz := (H6.out _ hM.below).2.2
          obtain ⟨⟨k0, k1, k2⟩, k3, k4, k5⟩ := ZX.out _ hbz
          refine ⟨wanted_yes 15 65 rfl rfl rfl e65, mid_step (.agg #[.int .i64 y1, .int .i64 y2, .int .i64 y3]) wy (fun K hK => ?_) ⟨_, rfl, rfl, Below.refl _ _⟩⟩
          go_simp
          exact hK
        · obtain rfl := Option.some.inj hi
          have e65 : a.tmps.getD 65 undef = .bool false := hD 15 (by kernel_rfl) _ 65 rfl rfl
          have e69 : a.tmps.getD 69 undef = .agg #[.int .i64 x1, .int .i64 x2, .int .i64 x3] := hD 19 (by kernel_rfl) _ 69 rfl rfl
          have e70 : a.tmps.getD 70 undef = .agg #[.int .i64 y1, .int .i64 y2, .int .i64 y3] := hD 20 (by kernel_rfl) _ 70 rfl rfl
          refine ⟨wanted_yes 15 65 rfl rfl rfl e65, mid_call (fun v w' => v = .int .i64 (cmpE (x1, x2, x3) (y1, y2, y3)) ∧ Below wy.heap.size wy w') (fun K hK => ?_) (fun v w' h => ⟨v, rfl, h.1, h.2⟩)⟩
          go_simp
          refine (rcmp_any (x1, x2, x3) (y1, y2, y3) wy).mono ?_
          rintro e w' ⟨rfl, hb'⟩
          exact hK _ _ ⟨rfl, hb'⟩
        · obtain rfl := Option.some.inj hi
          have e65 : a.tmps.getD 65 undef = .bool false := hD 15 (by kernel_rfl) _ 65 rfl rfl
          have e68 : a.tmps.getD 68 undef = .int .i64 (cmpE (x1, x2, x3) (y1, y2, y3)) := hD 18 (by kernel_rfl) _ 68 rfl rfl
          have e71 : a.tmps.getD 71 undef = .int .i64 (cmpE (x1, x2, x3) (y1, y2, y3)) := hD 21 (by kernel_rfl) _ 71 rfl rfl
          refine ⟨wanted_yes 15 65 rfl rfl rfl e65, mid_step (.bool false) wy (fun K hK => ?_) ⟨_, rfl, rfl, Below.refl _ _⟩⟩
          go_simp
          exact hK
        · obtain rfl := Option.some.inj hi
          have e65 : a.tmps.getD 65 undef = .bool false := hD 15 (by kernel_rfl) _ 65 rfl rfl
          have e72 : a.tmps.getD 72 undef = .bool false := hD 22 (by kernel_rfl) _ 72 rfl rfl
          refine ⟨rfl, mid_step (.bool false) wy (fun K hK => ?_) ⟨_, rfl, rfl, Below.refl _ _⟩⟩
          go_simp
          exact hK
      · intro a wy hM hU hD
        have q0 := hD 0 (by decide) _ 50 rfl rfl
        obtain ⟨A1, c1, B1, e1r, hr1, hB1⟩ := hD 1 (by decide) _ 51 rfl rfl
        have q1 : a.tmps.getD 51 undef = .agg #[.int .i64 (N : Int), .slice A1 (backE L).length c1] := by assumption
        have q2 := hD 2 (by decide) _ 52 rfl rfl
        obtain ⟨A3, c3, B3, e3r, hr3, hB3⟩ := hD 3 (by decide) _ 53 rfl rfl
        have q3 : a.tmps.getD 53 undef = .agg #[.int .i64 (N : Int), .slice A3 (backE L).length c3] := by assumption
        have q4 := hD 4 (by decide) _ 54 rfl rfl
        have q5 := hD 5 (by decide) _ 55 rfl rfl
        have q6 := hD 6 (by decide) _ 56 rfl rfl
        have q7 := hD 7 (by decide) _ 57 rfl rfl
        obtain ⟨A8, c8, B8, e8r, hr8, hB8⟩ := hD 8 (by decide) _ 58 rfl rfl
        have q8 : a.tmps.getD 58 undef = .agg #[.int .i64 (N : Int), .slice A8 (onlyE L ns).length c8] := by assumption
        have q9 := hD 9 (by decide) _ 59 rfl rfl
        have q10 := hD 10 (by decide) _ 60 rfl rfl
        obtain ⟨A11, c11, B11, e11r, hr11, hB11⟩ := hD 11 (by decide) _ 61 rfl rfl
        have q11 : a.tmps.getD 61 undef = .agg #[.int .i64 (N : Int), .slice A11 (onlyE L ns).length c11] := by assumption
        have q12 := hD 12 (by decide) _ 62 rfl rfl
        have q13 := hD 13 (by decide) _ 63 rfl rfl
        have q14 := hD 14 (by decide) _ 64 rfl rfl
        have q15 := hD 15 (by decide) _ 65 rfl rfl
        have q16 := hD 16 (by decide) _ 66 rfl rfl
        have q17 := hD 17 (by decide) _ 67 rfl rfl
        have q18 := hD 18 (by decide) _ 68 rfl rfl
        have q19 := hD 19 (by decide) _ 69 rfl rfl
        have q20 := hD 20 (by decide) _ 70 rfl rfl
        have q21 := hD 21 (by decide) _ 71 rfl rfl
        have q22 := hD 22 (by decide) _ 72 rfl rfl
        have q23 := hD 23 (by decide) _ 73 rfl rfl
        have hact := act_puts (a := a) [(50, .pointer (some ⟨pb, 0, none⟩)), (51, .agg #[.int .i64 (N : Int), .slice A1 (backE L).length c1]), (52, .agg #[.int .i64 (N : Int), .slice A L.length c]), (53, .agg #[.int .i64 (N : Int), .slice A3 (backE L).length c3]), (54, .bool true), (55, .bool false), (56, .bool false), (57, .pointer (some ⟨po, 0, none⟩)), (58, .agg #[.int .i64 (N : Int), .slice A8 (onlyE L ns).length c8]), (59, .agg #[.int .i64 (N : Int), .slice A L.length c]), (60, .slice An nn cn), (61, .agg #[.int .i64 (N : Int), .slice A11 (onlyE L ns).length c11]), (62, .bool true), (63, .bool false), (64, .bool false), (65, .bool false), (66, .agg #[.int .i64 x1, .int .i64 x2, .int .i64 x3]), (67, .agg #[.int .i64 y1, .int .i64 y2, .int .i64 y3]), (68, .int .i64 (cmpE (x1, x2, x3) (y1, y2, y3))), (69, .agg #[.int .i64 x1, .int .i64 x2, .int .i64 x3]), (70, .agg #[.int .i64 y1, .int .i64 y2, .int .i64 y3]), (71, .int .i64 (cmpE (x1, x2, x3) (y1, y2, y3))), (72, .bool false), (73, .bool false)] _ hM.tmps hM.defers (by
          intro s v hm
          simp only [List.mem_cons, Prod.mk.injEq, List.not_mem_nil, or_false] at hm
          rcases hm with ⟨rfl, rfl⟩ | ⟨rfl, rfl⟩ | ⟨rfl, rfl⟩ | ⟨rfl, rfl⟩ | ⟨rfl, rfl⟩ | ⟨rfl, rfl⟩ | ⟨rfl, rfl⟩ | ⟨rfl, rfl⟩ | ⟨rfl, rfl⟩ | ⟨rfl, rfl⟩ | ⟨rfl, rfl⟩ | ⟨rfl, rfl⟩ | ⟨rfl, rfl⟩ | ⟨rfl, rfl⟩ | ⟨rfl, rfl⟩ | ⟨rfl, rfl⟩ | ⟨rfl, rfl⟩ | ⟨rfl, rfl⟩ | ⟨rfl, rfl⟩ | ⟨rfl, rfl⟩ | ⟨rfl, rfl⟩ | ⟨rfl, rfl⟩ | ⟨rfl, rfl⟩ | ⟨rfl, rfl⟩
          · exact ⟨(by show 50 < 93; decide), q0⟩
          · exact ⟨(by show 51 < 93; decide), q1⟩
          · exact ⟨(by show 52 < 93; decide), q2⟩
          · exact ⟨(by show 53 < 93; decide), q3⟩
          · exact ⟨(by show 54 < 93; decide), q4⟩
          · exact ⟨(by show 55 < 93; decide), q5⟩
          · exact ⟨(by show 56 < 93; decide), q6⟩
          · exact ⟨(by show 57 < 93; decide), q7⟩
          · exact ⟨(by show 58 < 93; decide), q8⟩
          · exact ⟨(by show 59 < 93; decide), q9⟩
          · exact ⟨(by show 60 < 93; decide), q10⟩
          · exact ⟨(by show 61 < 93; decide), q11⟩
          · exact ⟨(by show 62 < 93; decide), q12⟩
          · exact ⟨(by show 63 < 93; decide), q13⟩
          · exact ⟨(by show 64 < 93; decide), q14⟩
          · exact ⟨(by show 65 < 93; decide), q15⟩
          · exact ⟨(by show 66 < 93; decide), q16⟩
          · exact ⟨(by show 67 < 93; decide), q17⟩
          · exact ⟨(by show 68 < 93; decide), q18⟩
          · exact ⟨(by show 69 < 93; decide), q19⟩
          · exact ⟨(by show 70 < 93; decide), q20⟩
          · exact ⟨(by show 71 < 93; decide), q21⟩
          · exact ⟨(by show 72 < 93; decide), q22⟩
          · exact ⟨(by show 73 < 93; decide), q23⟩) (fun s hs => hM.other s (by exact hs))
        rw [hact]
        have hBX := hM.below
        clear hact hD hM hU q0 q1 q2 q3 q4 q5 q6 q7 q8 q9 q10 q11 q12 q13 q14 q15 q16 q17 q18 q19 q20 q21 q22 q23
        simp only [List.foldl, Act.put, List.setIfInBounds_toArray, List.set_cons_succ, List.set_cons_zero, List.drop_succ_cons, List.drop_zero]
        have hby : Below wx.heap.size wx wy := (H6.out _ hBX).2.2
        obtain ⟨q0, q1⟩ := (GX.out _ hby).2.1
        by_cases hN0 : 0 < N
        · have d0 : decide ((0 : Int) < (N : Int)) = true := decide_eq_true (by omega)
          go_upto_region 10 with (fail)
          have bA := below_new wy (.cells #[.int .i64 0, .int .i64 0, .int .i64 424242] 39)
          have xA := heap_alloc_new wy (.cells #[.int .i64 0, .int .i64 0, .int .i64 424242] 39)
          have gA := (H6.out _ (hBX.trans (bA.mono hBX.size)))
          clear q0 q1
          generalize hWA : wy.alloc (.cells #[.int .i64 0, .int .i64 0, .int .i64 424242] 39) = WA at *
          have x0 := cell_of_row _ _ 0 _ _ _ xA
          have x1' := cell_of_row _ _ 1 _ _ _ xA
          have x2' := cell_of_row _ _ 2 _ _ _ xA
          have AD1 := Lib_hid (add_lit (n := 1) (l := [((0 : Int), (0 : Int), (424242 : Int))]) (cs := #[.int .i64 0, .int .i64 0, .int .i64 424242]) gA.1 rfl rfl (by decide) eok1 HN6.out.1 LNbackE.out)
          have bB := below_new WA (.cells #[.int .i64 0, .int .i64 0, .int .i64 424242] 39)
          go_upto_region 11 with (go_at_call 16; refine AD1.out.mono ?_; rintro r w10 (⟨h1, rfl, S1, hG1, t1, hs1⟩ | ⟨h1, -⟩); rotate_left; exact absurd (okE_all hN0) h1)
          · have tB : Below wx.heap.size wx w10 := ((gA.2.2.trans (bB.mono gA.2.2.size))).trans (t1.below (Nat.le_trans gA.2.2.size bB.size) (fun k hk => (XS.out.1 k hk)))
            have gO : GmIs w10 po So N (onlyE L ns) := (gA.2.1.later bB).turns t1 (fun k hk hk' => XS.out.2.2 k hk' hk)
            have xA2 : w10.heap[wy.heap.size]? = _ := ((t1.block _ (Nat.lt_of_lt_of_le (Array.getElem?_eq_some_iff.1 xA).1 bB.size) (fun hk => Nat.lt_irrefl _ (XS.out.2.1.1 _ hk |> fun h => Nat.lt_of_lt_of_le h (hBX.size)))).trans (bB.block _ (Array.getElem?_eq_some_iff.1 xA).1)).trans xA
            have y0 := cell_of_row _ _ 0 _ _ _ xA2
            have y1' := cell_of_row _ _ 1 _ _ _ xA2
            have y2' := cell_of_row _ _ 2 _ _ _ xA2
            have AD2 := Lib_hid (add_lit (n := 1) (l := [((0 : Int), (0 : Int), (424242 : Int))]) (cs := #[.int .i64 0, .int .i64 0, .int .i64 424242]) gO rfl rfl (by decide) eok1 HN6.out.1 LNonlyE.out)
            have bC := below_new w10 (.cells #[.int .i64 0, .int .i64 0, .int .i64 424242] 39)
            clear AD1 x0 x1' x2'
            go_upto_region 12 with (go_at_call 16; refine AD2.out.mono ?_; rintro r w11 (⟨h2, rfl, S2, hG2, t2, hs2⟩ | ⟨h2, -⟩); rotate_left; exact absurd (okE_all hN0) h2)
            · have tC : Below wx.heap.size wx w11 := (tB.trans (bC.mono tB.size)).trans (t2.below (Nat.le_trans tB.size bC.size) (fun k hk => XS.out.2.1.2 k hk))
              clear AD2 y0 y1' y2' xA2 gO hG1 hG2 t1 t2 hs1 hs2 bB bC gA bA xA
              have H12 : Hid (∀ U : World, Below w11.heap.size w11 U → Below wx.heap.size wx U) := fun U hU => tC.trans (hU.mono tC.size)
              refine wp_region_midT (N := 93) 8 (fun i v ww => ([fun v ww => v = .pointer (some ⟨p, 0, none⟩), fun v ww => ∃ A1 c1 B1, v = .agg #[.int .i64 (N : Int), .slice A1 (L).length c1] ∧ Rd ww B1 3 A1 (L).length (ec (L)) ∧ B1 ≤ ww.heap.size, fun v ww => v = .agg #[.int .i64 (N : Int), .slice A L.length c], fun v ww => v = .bool true, fun v ww => v = .bool true, fun v ww => v = .bool true, fun v ww => v = .bool true, fun v ww => v = .bool true] : List (Value → World → Prop)).getD i (fun _ _ => True) v ww) (by kernel_rfl) (by kernel_rfl) (by kernel_rfl) rfl ?_ ?_ ?_
              · intro i v wa wb h0 hb hp
                by_cases hi : i < 8
                · have hcase : i = 0 ∨ i = 1 ∨ i = 2 ∨ i = 3 ∨ i = 4 ∨ i = 5 ∨ i = 6 ∨ i = 7 := by omega
                  rcases hcase with rfl | rfl | rfl | rfl | rfl | rfl | rfl | rfl
                  · exact hp
                  · obtain ⟨A1, c1, B1, e, hr, hB1⟩ := hp
                    exact ⟨A1, c1, B1, e, hr.below (hb.mono hB1), Nat.le_trans hB1 hb.size⟩
                  · exact hp
                  · exact hp
                  · exact hp
                  · exact hp
                  · exact hp
                  · exact hp
                · have hnn : ([fun v ww => v = .pointer (some ⟨p, 0, none⟩), fun v ww => ∃ A1 c1 B1, v = .agg #[.int .i64 (N : Int), .slice A1 (L).length c1] ∧ Rd ww B1 3 A1 (L).length (ec (L)) ∧ B1 ≤ ww.heap.size, fun v ww => v = .agg #[.int .i64 (N : Int), .slice A L.length c], fun v ww => v = .bool true, fun v ww => v = .bool true, fun v ww => v = .bool true, fun v ww => v = .bool true, fun v ww => v = .bool true] : List (Value → World → Prop))[i]? = none := List.getElem?_eq_none (by simpa using hi)
                  rw [List.getD_eq_getElem?_getD, hnn]
                  trivial
              · intro i o a wz hi8 hi hM hD
                have hcase : i = 0 ∨ i = 1 ∨ i = 2 ∨ i = 3 ∨ i = 4 ∨ i = 5 ∨ i = 6 ∨ i = 7 := by omega
                clear hi8
                rcases hcase with rfl | rfl | rfl | rfl | rfl | rfl | rfl | rfl
                · obtain rfl := Option.some.inj hi
                  have e11 : a.tmps.getD 11 undef = .pointer (some ⟨p, 0, none⟩) := (hM.other 11 (by decide +kernel)).trans rfl
                  refine ⟨rfl, mid_step (.pointer (some ⟨p, 0, none⟩)) wz (fun K hK => ?_) ⟨_, rfl, rfl, Below.refl _ _⟩⟩
                  go_simp
                  exact hK
                · obtain rfl := Option.some.inj hi
                  have e86 : a.tmps.getD 86 undef = .pointer (some ⟨p, 0, none⟩) := hD 0 (by kernel_rfl) _ 86 rfl rfl
                  refine ⟨rfl, mid_call (fun v w' => (∃ A1 c1 B1, v = .agg #[.int .i64 (N : Int), .slice A1 (L).length c1] ∧ Rd w' B1 3 A1 (L).length (ec (L)) ∧ B1 ≤ w'.heap.size) ∧ Below wz.heap.size wz w') (fun K hK => ?_) (fun v w' h => ⟨v, rfl, h.1, h.2⟩)⟩
                  go_simp
                  refine (RG3.out wz (H12.out _ hM.below)).mono ?_
                  rintro e w' ⟨A1, c1, rfl, hr, hb'⟩
                  exact hK _ _ ⟨⟨A1, c1, w'.heap.size, rfl, hr, Nat.le_refl _⟩, hb'⟩
                · obtain rfl := Option.some.inj hi
                  have e12 : a.tmps.getD 12 undef = .pointer (some ⟨w2.heap.size, 0, none⟩) := (hM.other 12 (by decide +kernel)).trans rfl
                  have hbz := (H12.out _ hM.below)
                  obtain ⟨q0, q1⟩ := (GX.out _ hbz).2.1
                  refine ⟨rfl, mid_step (.agg #[.int .i64 (N : Int), .slice A L.length c]) wz (fun K hK => ?_) ⟨_, rfl, rfl, Below.refl _ _⟩⟩
                  go_simp
                  exact hK
                · obtain rfl := Option.some.inj hi
                  obtain ⟨A1, c1, B1, e87, hr1, hB1⟩ := hD 1 (by kernel_rfl) _ 87 rfl rfl
                  have e88 : a.tmps.getD 88 undef = .agg #[.int .i64 (N : Int), .slice A L.length c] := hD 2 (by kernel_rfl) _ 88 rfl rfl
                  have hbz := (H12.out _ hM.below)
                  refine ⟨rfl, mid_call (fun v w' => v = .bool true ∧ Below wz.heap.size wz w') (fun K hK => ?_) (fun v w' h => ⟨v, rfl, h.1, h.2⟩)⟩
                  go_simp
                  refine (rsame_any (N := N) (N' := N) (L := L) (L' := L) hr1 (GX.out _ hbz).2.2.1 hB1 (GX.out _ hbz).2.2.2 LNL.out).mono ?_
                  rintro e w' ⟨rfl, hb'⟩
                  exact hK _ _ ⟨by simp, hb'⟩
                · obtain rfl := Option.some.inj hi
                  have e89 : a.tmps.getD 89 undef = .bool true := hD 3 (by kernel_rfl) _ 89 rfl rfl
                  refine ⟨rfl, mid_step (.bool true) wz (fun K hK => ?_) ⟨_, rfl, rfl, Below.refl _ _⟩⟩
                  go_simp
                  exact hK
                · obtain rfl := Option.some.inj hi
                  have e90 : a.tmps.getD 90 undef = .bool true := hD 4 (by kernel_rfl) _ 90 rfl rfl
                  refine ⟨wanted_yes 4 90 rfl rfl rfl e90, mid_call (fun v w' => v = .bool true ∧ Below wz.heap.size wz w') (fun K hK => ?_) (fun v w' h => ⟨v, rfl, h.1, h.2⟩)⟩
                  go_simp
                  refine (HW.out wz).mono ?_
                  rintro e w' ⟨rfl, hb'⟩
                  exact hK _ _ ⟨rfl, hb'⟩
                · obtain rfl := Option.some.inj hi
                  have e90 : a.tmps.getD 90 undef = .bool true := hD 4 (by kernel_rfl) _ 90 rfl rfl
                  have e91 : a.tmps.getD 91 undef = .bool true := hD 5 (by kernel_rfl) _ 91 rfl rfl
                  refine ⟨rfl, mid_step (.bool true) wz (fun K hK => ?_) ⟨_, rfl, rfl, Below.refl _ _⟩⟩
                  go_simp
                  exact hK
                · obtain rfl := Option.some.inj hi
                  have e92 : a.tmps.getD 92 undef = .bool true := hD 6 (by kernel_rfl) _ 92 rfl rfl
                  refine ⟨rfl, mid_step (.bool true) wz (fun K hK => ?_) ⟨_, rfl, rfl, Below.refl _ _⟩⟩
                  go_simp
                  exact hK
              · intro a wz hM hU hD
                have q0 := hD 0 (by decide) _ 86 rfl rfl
                obtain ⟨A1, c1, B1, e1r, hr1, hB1⟩ := hD 1 (by decide) _ 87 rfl rfl
                have q1 : a.tmps.getD 87 undef = .agg #[.int .i64 (N : Int), .slice A1 (L).length c1] := by assumption
                have q2 := hD 2 (by decide) _ 88 rfl rfl
                have q3 := hD 3 (by decide) _ 89 rfl rfl
                have q4 := hD 4 (by decide) _ 90 rfl rfl
                have q5 := hD 5 (by decide) _ 91 rfl rfl
                have q6 := hD 6 (by decide) _ 92 rfl rfl
                have q7 := hD 7 (by decide) _ 10 rfl rfl
                have hact := act_puts (a := a) [(86, .pointer (some ⟨p, 0, none⟩)), (87, .agg #[.int .i64 (N : Int), .slice A1 (L).length c1]), (88, .agg #[.int .i64 (N : Int), .slice A L.length c]), (89, .bool true), (90, .bool true), (91, .bool true), (92, .bool true), (10, .bool true)] _ hM.tmps hM.defers (by
                  intro s v hm
                  simp only [List.mem_cons, Prod.mk.injEq, List.not_mem_nil, or_false] at hm
                  rcases hm with ⟨rfl, rfl⟩ | ⟨rfl, rfl⟩ | ⟨rfl, rfl⟩ | ⟨rfl, rfl⟩ | ⟨rfl, rfl⟩ | ⟨rfl, rfl⟩ | ⟨rfl, rfl⟩ | ⟨rfl, rfl⟩
                  · exact ⟨(by show 86 < 93; decide), q0⟩
                  · exact ⟨(by show 87 < 93; decide), q1⟩
                  · exact ⟨(by show 88 < 93; decide), q2⟩
                  · exact ⟨(by show 89 < 93; decide), q3⟩
                  · exact ⟨(by show 90 < 93; decide), q4⟩
                  · exact ⟨(by show 91 < 93; decide), q5⟩
                  · exact ⟨(by show 92 < 93; decide), q6⟩
                  · exact ⟨(by show 10 < 93; decide), q7⟩) (fun s hs => hM.other s (by exact hs))
                rw [hact]
                have hBX := hM.below
                clear hact hD hM hU q0 q1 q2 q3 q4 q5 q6 q7
                simp only [List.foldl, Act.put, List.setIfInBounds_toArray, List.set_cons_succ, List.set_cons_zero, List.drop_succ_cons, List.drop_zero]
                go_wp2
                go_ret
                exact ⟨rfl, (hbW.out _ tC).trans (hBX.mono (hbW.out _ tC).size)⟩
        · have d0 : decide ((0 : Int) < (N : Int)) = false := decide_eq_false (by omega)
          have H12 : Hid (∀ U : World, Below wy.heap.size wy U → Below wx.heap.size wx U) := fun U hU => hby.trans (hU.mono hby.size)
          go_upto_region 12 with (fail)
          refine wp_region_midT (N := 93) 8 (fun i v ww => ([fun v ww => v = .pointer (some ⟨p, 0, none⟩), fun v ww => ∃ A1 c1 B1, v = .agg #[.int .i64 (N : Int), .slice A1 (L).length c1] ∧ Rd ww B1 3 A1 (L).length (ec (L)) ∧ B1 ≤ ww.heap.size, fun v ww => v = .agg #[.int .i64 (N : Int), .slice A L.length c], fun v ww => v = .bool true, fun v ww => v = .bool true, fun v ww => v = .bool true, fun v ww => v = .bool true, fun v ww => v = .bool true] : List (Value → World → Prop)).getD i (fun _ _ => True) v ww) (by kernel_rfl) (by kernel_rfl) (by kernel_rfl) rfl ?_ ?_ ?_
          · intro i v wa wb h0 hb hp
            by_cases hi : i < 8
            · have hcase : i = 0 ∨ i = 1 ∨ i = 2 ∨ i = 3 ∨ i = 4 ∨ i = 5 ∨ i = 6 ∨ i = 7 := by omega
              rcases hcase with rfl | rfl | rfl | rfl | rfl | rfl | rfl | rfl
              · exact hp
              · obtain ⟨A1, c1, B1, e, hr, hB1⟩ := hp
                exact ⟨A1, c1, B1, e, hr.below (hb.mono hB1), Nat.le_trans hB1 hb.size⟩
              · exact hp
              · exact hp
              · exact hp
              · exact hp
              · exact hp
              · exact hp
            · have hnn : ([fun v ww => v = .pointer (some ⟨p, 0, none⟩), fun v ww => ∃ A1 c1 B1, v = .agg #[.int .i64 (N : Int), .slice A1 (L).length c1] ∧ Rd ww B1 3 A1 (L).length (ec (L)) ∧ B1 ≤ ww.heap.size, fun v ww => v = .agg #[.int .i64 (N : Int), .slice A L.length c], fun v ww => v = .bool true, fun v ww => v = .bool true, fun v ww => v = .bool true, fun v ww => v = .bool true, fun v ww => v = .bool true] : List (Value → World → Prop))[i]? = none := List.getElem?_eq_none (by simpa using hi)
              rw [List.getD_eq_getElem?_getD, hnn]
              trivial
          · intro i o a wz hi8 hi hM hD
            have hcase : i = 0 ∨ i = 1 ∨ i = 2 ∨ i = 3 ∨ i = 4 ∨ i = 5 ∨ i = 6 ∨ i = 7 := by omega
            clear hi8
            rcases hcase with rfl | rfl | rfl | rfl | rfl | rfl | rfl | rfl
            · obtain rfl := Option.some.inj hi
              have e11 : a.tmps.getD 11 undef = .pointer (some ⟨p, 0, none⟩) := (hM.other 11 (by decide +kernel)).trans rfl
              refine ⟨rfl, mid_step (.pointer (some ⟨p, 0, none⟩)) wz (fun K hK => ?_) ⟨_, rfl, rfl, Below.refl _ _⟩⟩
              go_simp
              exact hK
            · obtain rfl := Option.some.inj hi
              have e86 : a.tmps.getD 86 undef = .pointer (some ⟨p, 0, none⟩) := hD 0 (by kernel_rfl) _ 86 rfl rfl
              refine ⟨rfl, mid_call (fun v w' => (∃ A1 c1 B1, v = .agg #[.int .i64 (N : Int), .slice A1 (L).length c1] ∧ Rd w' B1 3 A1 (L).length (ec (L)) ∧ B1 ≤ w'.heap.size) ∧ Below wz.heap.size wz w') (fun K hK => ?_) (fun v w' h => ⟨v, rfl, h.1, h.2⟩)⟩
              go_simp
              refine (RG3.out wz (H12.out _ hM.below)).mono ?_
              rintro e w' ⟨A1, c1, rfl, hr, hb'⟩
              exact hK _ _ ⟨⟨A1, c1, w'.heap.size, rfl, hr, Nat.le_refl _⟩, hb'⟩
            · obtain rfl := Option.some.inj hi
              have e12 : a.tmps.getD 12 undef = .pointer (some ⟨w2.heap.size, 0, none⟩) := (hM.other 12 (by decide +kernel)).trans rfl
              have hbz := (H12.out _ hM.below)
              obtain ⟨q0, q1⟩ := (GX.out _ hbz).2.1
              refine ⟨rfl, mid_step (.agg #[.int .i64 (N : Int), .slice A L.length c]) wz (fun K hK => ?_) ⟨_, rfl, rfl, Below.refl _ _⟩⟩
              go_simp
              exact hK
            · obtain rfl := Option.some.inj hi
              obtain ⟨A1, c1, B1, e87, hr1, hB1⟩ := hD 1 (by kernel_rfl) _ 87 rfl rfl
              have e88 : a.tmps.getD 88 undef = .agg #[.int .i64 (N : Int), .slice A L.length c] := hD 2 (by kernel_rfl) _ 88 rfl rfl
              have hbz := (H12.out _ hM.below)
              refine ⟨rfl, mid_call (fun v w' => v = .bool true ∧ Below wz.heap.size wz w') (fun K hK => ?_) (fun v w' h => ⟨v, rfl, h.1, h.2⟩)⟩
              go_simp
              refine (rsame_any (N := N) (N' := N) (L := L) (L' := L) hr1 (GX.out _ hbz).2.2.1 hB1 (GX.out _ hbz).2.2.2 LNL.out).mono ?_
              rintro e w' ⟨rfl, hb'⟩
              exact hK _ _ ⟨by simp, hb'⟩
            · obtain rfl := Option.some.inj hi
              have e89 : a.tmps.getD 89 undef = .bool true := hD 3 (by kernel_rfl) _ 89 rfl rfl
              refine ⟨rfl, mid_step (.bool true) wz (fun K hK => ?_) ⟨_, rfl, rfl, Below.refl _ _⟩⟩
              go_simp
              exact hK
            · obtain rfl := Option.some.inj hi
              have e90 : a.tmps.getD 90 undef = .bool true := hD 4 (by kernel_rfl) _ 90 rfl rfl
              refine ⟨wanted_yes 4 90 rfl rfl rfl e90, mid_call (fun v w' => v = .bool true ∧ Below wz.heap.size wz w') (fun K hK => ?_) (fun v w' h => ⟨v, rfl, h.1, h.2⟩)⟩
              go_simp
              refine (HW.out wz).mono ?_
              rintro e w' ⟨rfl, hb'⟩
              exact hK _ _ ⟨rfl, hb'⟩
            · obtain rfl := Option.some.inj hi
              have e90 : a.tmps.getD 90 undef = .bool true := hD 4 (by kernel_rfl) _ 90 rfl rfl
              have e91 : a.tmps.getD 91 undef = .bool true := hD 5 (by kernel_rfl) _ 91 rfl rfl
              refine ⟨rfl, mid_step (.bool true) wz (fun K hK => ?_) ⟨_, rfl, rfl, Below.refl _ _⟩⟩
              go_simp
              exact hK
            · obtain rfl := Option.some.inj hi
              have e92 : a.tmps.getD 92 undef = .bool true := hD 6 (by kernel_rfl) _ 92 rfl rfl
              refine ⟨rfl, mid_step (.bool true) wz (fun K hK => ?_) ⟨_, rfl, rfl, Below.refl _ _⟩⟩
              go_simp
              exact hK
          · intro a wz hM hU hD
            have q0 := hD 0 (by decide) _ 86 rfl rfl
            obtain ⟨A1, c1, B1, e1r, hr1, hB1⟩ := hD 1 (by decide) _ 87 rfl rfl
            have q1 : a.tmps.getD 87 undef = .agg #[.int .i64 (N : Int), .slice A1 (L).length c1] := by assumption
            have q2 := hD 2 (by decide) _ 88 rfl rfl
            have q3 := hD 3 (by decide) _ 89 rfl rfl
            have q4 := hD 4 (by decide) _ 90 rfl rfl
            have q5 := hD 5 (by decide) _ 91 rfl rfl
            have q6 := hD 6 (by decide) _ 92 rfl rfl
            have q7 := hD 7 (by decide) _ 10 rfl rfl
            have hact := act_puts (a := a) [(86, .pointer (some ⟨p, 0, none⟩)), (87, .agg #[.int .i64 (N : Int), .slice A1 (L).length c1]), (88, .agg #[.int .i64 (N : Int), .slice A L.length c]), (89, .bool true), (90, .bool true), (91, .bool true), (92, .bool true), (10, .bool true)] _ hM.tmps hM.defers (by
              intro s v hm
              simp only [List.mem_cons, Prod.mk.injEq, List.not_mem_nil, or_false] at hm
              rcases hm with ⟨rfl, rfl⟩ | ⟨rfl, rfl⟩ | ⟨rfl, rfl⟩ | ⟨rfl, rfl⟩ | ⟨rfl, rfl⟩ | ⟨rfl, rfl⟩ | ⟨rfl, rfl⟩ | ⟨rfl, rfl⟩
              · exact ⟨(by show 86 < 93; decide), q0⟩
              · exact ⟨(by show 87 < 93; decide), q1⟩
              · exact ⟨(by show 88 < 93; decide), q2⟩
              · exact ⟨(by show 89 < 93; decide), q3⟩
              · exact ⟨(by show 90 < 93; decide), q4⟩
              · exact ⟨(by show 91 < 93; decide), q5⟩
              · exact ⟨(by show 92 < 93; decide), q6⟩
              · exact ⟨(by show 10 < 93; decide), q7⟩) (fun s hs => hM.other s (by exact hs))
            rw [hact]
            have hBX := hM.below
            clear hact hD hM hU q0 q1 q2 q3 q4 q5 q6 q7
            simp only [List.foldl, Act.put, List.setIfInBounds_toArray, List.set_cons_succ, List.set_cons_zero, List.drop_succ_cons, List.drop_zero]
            go_wp2
            go_ret
            exact ⟨rfl, (hbW.out _ hby).trans (hBX.mono (hbW.out _ hby).size)⟩
  · have FIN : Hid (60 < nl ∨ (nl ≤ 60 ∧ 60 < nn)) := by unfold Hid; omega
    have hbW : Hid (Below w.heap.size w W) := HX.out.2.2
    clear hc h h' hok HX
    rcases FIN.out with h1 | ⟨h1, h2⟩
    · have d1 : decide ((60 : Int) < (nl : Int)) = true := decide_eq_true (by omega)
      clear h1 FIN
      go_wp2_with fail
      refine (HW.out _).mono ?_
      rintro r w2 ⟨rfl, hb⟩
      have hb2 : Hid (Below w.heap.size w w2) := hbW.out.trans (hb.mono hbW.out.size)
      clear hb
      go_wp2
      go_ret
      exact ⟨rfl, hb2.out⟩
    · have d1 : decide ((60 : Int) < (nl : Int)) = false := decide_eq_false (by omega)
      have d2 : decide ((60 : Int) < (nn : Int)) = true := decide_eq_true (by omega)
      clear h1 h2 FIN
      go_wp2_with fail
      refine (HW.out _).mono ?_
      rintro r w2 ⟨rfl, hb⟩
      have hb2 : Hid (Below w.heap.size w w2) := hbW.out.trans (hb.mono hbW.out.size)
      clear hb
      go_wp2
      go_ret
      exact ⟨rfl, hb2.out⟩

end Go.Proofs.Ytopecdkkmbpnbaa
