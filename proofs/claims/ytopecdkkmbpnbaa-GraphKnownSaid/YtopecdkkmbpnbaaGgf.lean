/-
  Layer 13: an edge put into a graph: put of the program.
-/
import Derived.Test.YtopecdkkmbpnbaaGge
namespace Go.Proofs.Ytopecdkkmbpnbaa
open Go Go.RowKit Go.Maps
set_option linter.unusedVariables false

theorem GrG.out_len {N : Nat} {L : List Ed} {R I : Nat → List Ed} {f : Ed → Option Pl} (h : GrG N L R I f) {n : Nat} (hn : n < N) : (R n).length ≤ L.length := by
  rw [← len_srtE, h.out_eq hn]; exact List.length_filter_le _ _
theorem GrG.in_len {N : Nat} {L : List Ed} {R I : Nat → List Ed} {f : Ed → Option Pl} (h : GrG N L R I f) {n : Nat} (hn : n < N) : (I n).length ≤ L.length := by
  rw [← len_srtE, h.in_eq hn]; exact List.length_filter_le _ _

section
variable {w w1 w2 : World} {p N m go gi n k : Nat} {So Si : Nat → Sl2} {R I : Nat → List Ed} {f : Ed → Option Pl} {tg tg1 tg2 : Nat → Nat} {L : List Ed} {v1 v2 : Sl2} {e : Ed}

/-- Behind the first half. -/
theorem GmX.put1 {l1 : List Ed} (h : GmX w p N m go gi So Si R I f tg L) (h1 : HalfEnd w w1 N go (upS So n v1) (upR R n l1) tg tg1 3) :
    Half w1 N gi Si I tg1 4 ∧ MapF w1 m f L.length ∧ w1.heap[p]? = w.heap[p]? ∧ w1.heap[m]? = w.heap[m]? ∧ ∀ k, k < w.heap.size → tg k = 0 → w1.heap[k]? = w.heap[k]? := by
  have hp := h1.turns.block p h.plt (fun hc => by have := h.tgp; have := hc.2; omega)
  have hm := h1.turns.block m h.map.lt (fun hc => by have := h.tgm; have := hc.2; omega)
  refine ⟨h.inn.turn (by decide) h1.old fun k hk h2 h3 => h1.turns.block k hk fun hc => ?_, h.map.keep hm, hp, hm, fun k hk h0 => h1.turns.block k hk fun hc => by have := hc.2; omega⟩
  have := hc.1
  omega

set_option maxRecDepth 100000 in
/-- Behind both halves: the map is written. -/
theorem GmX.put2 (h : GmX w p N m go gi So Si R I f tg L) (h1 : HalfEnd w w1 N go (upS So n v1) (upR R n (R n ++ [e])) tg tg1 3) (h2 : HalfEnd w1 w2 N gi (upS Si k v2) (upR I k (I k ++ [e])) tg1 tg2 4)
    (he : e ∉ L) (hok : EdOk e) (hn : e.1 = n) (hk : e.2.1 = k) (hnN : n < N) (hkN : k < N) (hL : L.length ≤ 1000000000) :
    w2.heap[p]? = w.heap[p]? ∧ (∀ k, k < w.heap.size → tg k = 0 → w2.heap[k]? = w.heap[k]?) ∧
    ∃ w7, (Instr.mapUpdate 73 (.map (some m)) (eV e) (plV ((R n).length, (I k).length))).run Try.prog w2 = .ok () w7 ∧
      GmX w7 p N m go gi (upS So n v1) (upS Si k v2) (upR R n (R n ++ [e])) (upR I k (I k ++ [e])) (upF f e (some ((R n).length, (I k).length))) tg2 (insE L e) ∧ Turns (fun k => tg k ≠ 0) w w7 ∧ ∀ k, tg2 k ≠ 0 → tg k ≠ 0 ∨ w.heap.size ≤ k := by
  obtain ⟨a1, a2, a3, a4, a5⟩ := h.put1 h1
  have hs1 := h1.turns.size
  have hs2 := h2.turns.size
  have tp1 : tg1 p = 1 := (h1.old p h.plt).trans h.tgp
  have tm1 : tg1 m = 2 := (h1.old m h.map.lt).trans h.tgm
  have hplt := h.plt
  have hmlt := h.map.lt
  have hp := h2.turns.block p (by omega) (fun hc => by have := hc.2; omega)
  have hm := h2.turns.block m (by omega) (fun hc => by have := hc.2; omega)
  have ho : Half w2 N go (upS So n v1) (upR R n (R n ++ [e])) tg2 3 := h1.half.turn (by decide) h2.old fun k hk h3 h4 => h2.turns.block k hk fun hc => by have := hc.1; omega
  have hmap := a2.keep hm
  obtain ⟨w7, hrun, hm7, hg⟩ := hmap.store hok ((R n).length, (I k).length) hL
  have hfe : (f e).isSome = false := by rw [h.pl.has]; exact decide_eq_false he
  rw [hfe] at hm7
  have hkeep : ∀ k, k < w2.heap.size → tg2 k ≠ 2 → w7.heap[k]? = w2.heap[k]? := fun k hk h3 => hg.block k hk fun e => by
    have : k = m := by injection e
    subst this
    exact h3 ((h2.old _ (by omega)).trans tm1)
  have tp2 : tg2 p = 1 := (h2.old p (by omega)).trans tp1
  refine ⟨hp.trans a3, fun k hk h0 => (h2.turns.block k (by omega) fun hc => by have := hc.2; have := h1.old k hk; omega).trans (a5 k hk h0), w7, hrun, ⟨?_, tp2, (h2.old m (by omega)).trans tm1, ?_, ?_, ?_, h.pl.put he hn hk hnN hkN, ?_, ?_⟩, ?_, ?_⟩
  · exact (hkeep p (by omega) (by omega)).trans ((hp.trans a3).trans h.box)
  · rw [len_insE]; exact hm7
  · exact ho.turn (by decide) (fun _ _ => rfl) fun k hk _ h3 => hkeep k hk (by omega)
  · exact h2.half.turn (by decide) (fun _ _ => rfl) fun k hk _ h3 => hkeep k hk (by omega)
  · intro x hx
    rcases mem_insE.1 hx with rfl | hx
    · exact hok
    · exact h.ok x hx
  · intro k hk
    have := hg.size
    exact h2.al k (by omega)
  · refine ((h1.turns.mono fun k hk => ?_).trans (h2.turns) fun k hk => ?_).trans (Turns.grown (S := fun k => k = m) hg fun k e => .inl (by injection e with e; exact e.symm)) fun k hk => ?_
    · have := hk.2
      show tg k ≠ 0
      omega
    · rcases Nat.lt_or_ge k w.heap.size with h3 | h3
      · have := h1.old k h3
        have := hk.2
        exact .inl (by show tg k ≠ 0; omega)
      · exact .inr h3
    · subst hk
      exact .inl (by show tg _ ≠ 0; rw [h.tgm]; decide)
  · intro k hk
    rcases Nat.lt_or_ge k w.heap.size with h3 | h3
    · have := h1.old k h3
      have := h2.old k (by omega)
      exact .inl (by omega)
    · exact .inr h3
end

/-- Ends with a graph. -/
def GrEnd (N : Nat) (L : List Ed) (S : Nat → Prop) (p : Nat) (w : World) (r : Ending) (w' : World) : Prop := r = .returned (.tuple #[]) ∧ GmEnd N L S p w w'

set_option maxRecDepth 100000 in
set_option maxHeartbeats 1600000 in
theorem gput_any {w : World} {p N : Nat} {S : Nat → Prop} {L : List Ed} (h : GmIs w p S N L) {e : Ed} (he : EdOk e) (hnd : 0 ≤ e.1 ∧ e.1 < N ∧ 0 ≤ e.2.1 ∧ e.2.1 < N) (hN : N ≤ 65536) (hL : L.length ≤ 1000000000) :
    Calls Try.prog 43 #[.pointer (some ⟨p, 0, none⟩), eV e] w (GrEnd N (addE L e) S p w) := by
  obtain ⟨m, go, gi, So, Si, R, I, f, tg, h1, hS⟩ := h
  obtain ⟨n, hn⟩ : ∃ n : Nat, e.1 = n := ⟨e.1.toNat, by omega⟩
  obtain ⟨k, hk⟩ : ∃ k : Nat, e.2.1 = k := ⟨e.2.1.toNat, by omega⟩
  have hf := h1.pl.has e
  have hb0 := below_new w (.cells #[.int .i64 e.1, .int .i64 e.2.1, .int .i64 e.2.2] 39)
  have hbx := heap_alloc_new w (.cells #[.int .i64 e.1, .int .i64 e.2.1, .int .i64 e.2.2] 39)
  have hsz : (w.alloc (.cells #[.int .i64 e.1, .int .i64 e.2.1, .int .i64 e.2.2] 39)).heap.size = w.heap.size + 1 := by simp
  have hpl := h1.plt
  have hml := h1.map.lt
  have h2 : GmX (w.alloc (.cells #[.int .i64 e.1, .int .i64 e.2.1, .int .i64 e.2.2] 39)) p N m go gi So Si R I f tg L := h1.keep (by simp) fun k hk _ => hb0.block k hk
  have c1 := h2.c1
  have LK : Hid (∀ V : World, V.heap[m]? = (w.alloc (.cells #[.int .i64 e.1, .int .i64 e.2.1, .int .i64 e.2.2] 39)).heap[m]? → (Instr.lookup 73 (.map (some m)) (.agg #[.int .i64 e.1, .int .i64 e.2.1, .int .i64 e.2.2]) true).run Try.prog V = .ok (.tuple #[.agg #[.int .i64 (((f e).getD (0, 0)).1 : Int), .int .i64 (((f e).getD (0, 0)).2 : Int)], .bool (decide (e ∈ L))]) V) := fun V hV => by rw [← hf]; exact (h2.map.keep hV).look he
  have e0 : (w.alloc (.cells #[.int .i64 e.1, .int .i64 e.2.1, .int .i64 e.2.2] 39)).cell? ⟨w.heap.size, 0, none⟩ = some (.int .i64 e.1) := cell_of_row _ w.heap.size 0 _ _ _ hbx
  have e1 : (w.alloc (.cells #[.int .i64 e.1, .int .i64 e.2.1, .int .i64 e.2.2] 39)).cell? ⟨w.heap.size, 1, none⟩ = some (.int .i64 e.2.1) := cell_of_row _ w.heap.size 1 _ _ _ hbx
  have e2 : (w.alloc (.cells #[.int .i64 e.1, .int .i64 e.2.1, .int .i64 e.2.2] 39)).cell? ⟨w.heap.size, 2, none⟩ = some (.int .i64 e.2.2) := cell_of_row _ w.heap.size 2 _ _ _ hbx
  have t0 : tg w.heap.size = 0 := h1.al _ (Nat.le_refl _)
  have HB := Lib_hid (And.intro hb0 (And.intro h2 (And.intro hS (And.intro hN (And.intro hL (And.intro hnd (And.intro he (And.intro t0 (And.intro hn hk)))))))))
  clear h1 h2 hb0 hbx hf t0 hn hk hS hN hL hnd he
  unfold eV
  generalize (((f e).getD (0, 0)).1 : Int) = p1 at *
  generalize (((f e).getD (0, 0)).2 : Int) = p2 at *
  go_enter Try.func43, Try.ntmps43
  go_upto_region 1 with (fail)
  have hpl2 : p < (w.alloc (.cells #[.int .i64 e.1, .int .i64 e.2.1, .int .i64 e.2.2] 39)).heap.size := by omega
  have hml2 : m < (w.alloc (.cells #[.int .i64 e.1, .int .i64 e.2.1, .int .i64 e.2.2] 39)).heap.size := by omega
  have hgl2 : w.heap.size < (w.alloc (.cells #[.int .i64 e.1, .int .i64 e.2.1, .int .i64 e.2.2] 39)).heap.size := by omega
  clear hsz
  generalize w.alloc (.cells #[.int .i64 e.1, .int .i64 e.2.1, .int .i64 e.2.2] 39) = W at *
  have KS : Hid (∀ V, Below W.heap.size W V → V.cell? ⟨p, 1, none⟩ = some (.map (some m)) ∧ V.cell? ⟨w.heap.size, 0, none⟩ = some (.int .i64 e.1) ∧ V.cell? ⟨w.heap.size, 1, none⟩ = some (.int .i64 e.2.1) ∧ V.cell? ⟨w.heap.size, 2, none⟩ = some (.int .i64 e.2.2) ∧
      (Instr.lookup 73 (.map (some m)) (.agg #[.int .i64 e.1, .int .i64 e.2.1, .int .i64 e.2.2]) true).run Try.prog V = .ok (.tuple #[.agg #[.int .i64 p1, .int .i64 p2], .bool (decide (e ∈ L))]) V) := fun V hV =>
    ⟨(hV.cell (p := ⟨p, 1, none⟩) hpl2).trans c1, (hV.cell (p := ⟨w.heap.size, 0, none⟩) hgl2).trans e0, (hV.cell (p := ⟨w.heap.size, 1, none⟩) hgl2).trans e1, (hV.cell (p := ⟨w.heap.size, 2, none⟩) hgl2).trans e2, LK.out V (hV.block m hml2)⟩
  have b0 := below_drew1 W
  have FIN1 : Hid (e ∈ L → GmEnd N (addE L e) S p w (W.alloc (.cells #[.int .i64 p1, .int .i64 p2] 86)).drew) := fun hm => by
    rw [show addE L e = L from if_pos hm]
    have hb1 : Below W.heap.size W (W.alloc (.cells #[.int .i64 p1, .int .i64 p2] 86)).drew := (below_new W _).drew
    refine ⟨S, ⟨m, go, gi, So, Si, R, I, f, tg, HB.out.2.1.keep hb1.size fun k hk _ => hb1.block k hk, HB.out.2.2.1⟩, Turns.of_below (HB.out.1.trans (hb1.mono HB.out.1.size)), fun k hk => .inl hk⟩
  have NX : Hid (GmX (W.alloc (.cells #[.int .i64 p1, .int .i64 p2] 86)).drew.drew p N m go gi So Si R I f tg L ∧ Below w.heap.size w (W.alloc (.cells #[.int .i64 p1, .int .i64 p2] 86)).drew.drew ∧
      (W.alloc (.cells #[.int .i64 p1, .int .i64 p2] 86)).drew.drew.cell? ⟨w.heap.size, 0, none⟩ = some (.int .i64 e.1) ∧ (W.alloc (.cells #[.int .i64 p1, .int .i64 p2] 86)).drew.drew.cell? ⟨w.heap.size, 1, none⟩ = some (.int .i64 e.2.1) ∧ (W.alloc (.cells #[.int .i64 p1, .int .i64 p2] 86)).drew.drew.cell? ⟨w.heap.size, 2, none⟩ = some (.int .i64 e.2.2)) := by
    have hb1 : Below W.heap.size W (W.alloc (.cells #[.int .i64 p1, .int .i64 p2] 86)).drew.drew := ((below_new W _).drew).drew
    exact ⟨HB.out.2.1.keep hb1.size fun k hk _ => hb1.block k hk, HB.out.1.trans (hb1.mono HB.out.1.size), (hb1.cell (p := ⟨w.heap.size, 0, none⟩) hgl2).trans e0, (hb1.cell (p := ⟨w.heap.size, 1, none⟩) hgl2).trans e1, (hb1.cell (p := ⟨w.heap.size, 2, none⟩) hgl2).trans e2⟩
  have NS : Hid (W.heap.size ≤ (W.alloc (.cells #[.int .i64 p1, .int .i64 p2] 86)).drew.drew.heap.size) := ((below_new W _).drew).drew.size
  by_cases heL : e ∈ L
  · have d : decide (e ∈ L) = true := decide_eq_true heL
    rw [d] at KS
    have HEL := Lib_hid heL
    clear heL d
    go_region_held3 (fun V => V.cell? ⟨p, 1, none⟩ = some (.map (some m)) ∧ V.cell? ⟨w.heap.size, 0, none⟩ = some (.int .i64 e.1) ∧ V.cell? ⟨w.heap.size, 1, none⟩ = some (.int .i64 e.2.1) ∧ V.cell? ⟨w.heap.size, 2, none⟩ = some (.int .i64 e.2.2) ∧
        (Instr.lookup 73 (.map (some m)) (.agg #[.int .i64 e.1, .int .i64 e.2.1, .int .i64 e.2.2]) true).run Try.prog V = .ok (.tuple #[.agg #[.int .i64 p1, .int .i64 p2], .bool true]) V)
      (first | exact KS.out _ b0 | exact KS.out _ (b0.alloc (Nat.le_refl _) _))
      (fail)
    all_goals
      have FIN := Lib_hid (FIN1.out HEL.out)
      go_wp2
      go_end0
      exact ⟨rfl, FIN.out⟩
  · have d : decide (e ∈ L) = false := decide_eq_false heL
    rw [d] at KS
    have HEL := Lib_hid heL
    clear heL d FIN1
    go_region_held3 (fun V => V.cell? ⟨p, 1, none⟩ = some (.map (some m)) ∧ V.cell? ⟨w.heap.size, 0, none⟩ = some (.int .i64 e.1) ∧ V.cell? ⟨w.heap.size, 1, none⟩ = some (.int .i64 e.2.1) ∧ V.cell? ⟨w.heap.size, 2, none⟩ = some (.int .i64 e.2.2) ∧
        (Instr.lookup 73 (.map (some m)) (.agg #[.int .i64 e.1, .int .i64 e.2.1, .int .i64 e.2.2]) true).run Try.prog V = .ok (.tuple #[.agg #[.int .i64 p1, .int .i64 p2], .bool false]) V)
      (first | exact KS.out _ b0 | exact KS.out _ (b0.alloc (Nat.le_refl _) _))
      (fail)
    all_goals
      clear KS b0 LK c1 e0 e1 e2
      go_upto_region 3 with (fail)
      obtain ⟨hXd, hBd, g0, g1, g2⟩ := NX.out
      have hbl : w.heap.size < (W.alloc (.cells #[.int .i64 p1, .int .i64 p2] 86)).drew.drew.heap.size := Nat.lt_of_lt_of_le hgl2 NS.out
      clear NX NS
      generalize (W.alloc (.cells #[.int .i64 p1, .int .i64 p2] 86)).drew = V0 at *
      have HX := Lib_hid hXd
      have t0 := HB.out.2.2.2.2.2.2.2.1
      have KS : Hid (∀ V : World, V.heap[p]? = V0.drew.heap[p]? → V.heap[w.heap.size]? = V0.drew.heap[w.heap.size]? → V.cell? ⟨p, 1, none⟩ = some (.map (some m)) ∧ V.cell? ⟨p, 2, none⟩ = some (.slice (some ⟨go, 0, none⟩) N N) ∧ V.cell? ⟨p, 3, none⟩ = some (.slice (some ⟨gi, 0, none⟩) N N) ∧ V.cell? ⟨w.heap.size, 0, none⟩ = some (.int .i64 e.1) ∧ V.cell? ⟨w.heap.size, 1, none⟩ = some (.int .i64 e.2.1) ∧ V.cell? ⟨w.heap.size, 2, none⟩ = some (.int .i64 e.2.2)) := fun V h1 h2 =>
        ⟨(World.cell?_of_block h1).trans hXd.c1, (World.cell?_of_block h1).trans hXd.c2, (World.cell?_of_block h1).trans hXd.c3, (World.cell?_of_block h2).trans g0, (World.cell?_of_block h2).trans g1, (World.cell?_of_block h2).trans g2⟩
      have RB : Hid (∀ n : Nat, n < N → (R n).length ≤ 1000000000) := fun n hn => Nat.le_trans (HX.out.pl.out_len hn) HB.out.2.2.2.2.1
      have IB : Hid (∀ n : Nat, n < N → (I n).length ≤ 1000000000) := fun n hn => Nat.le_trans (HX.out.pl.in_len hn) HB.out.2.2.2.2.1
      have hnN : n < N := by have := HB.out.2.2.2.2.2.1; have h1 := HB.out.2.2.2.2.2.2.2.2.1; omega
      have hkN : k < N := by have := HB.out.2.2.2.2.2.1; have h1 := HB.out.2.2.2.2.2.2.2.2.2; omega
      have OA := Lib_hid (oadd_any hXd.out (by decide) hnN HB.out.2.2.2.1 hXd.al e HB.out.2.2.2.2.2.2.2.2.1 (RB.out n hnN))
      have IA : Hid (∀ (w1 : World) (tg1 : Nat → Nat), Half w1 N gi Si I tg1 4 → (∀ k, w1.heap.size ≤ k → tg1 k = 0) → Calls Try.prog 58 #[.agg #[.slice (some ⟨gi, 0, none⟩) N N], .agg #[.int .i64 e.1, .int .i64 e.2.1, .int .i64 e.2.2]] w1 fun r w' => r = .returned (.int .i64 ((I k).length : Int)) ∧ ∃ v tg', HalfEnd w1 w' N gi (upS Si k v) (upR I k (I k ++ [e])) tg1 tg' 4) := fun w1 tg1 h1 h2 =>
        iadd_any h1 (by decide) hkN HB.out.2.2.2.1 h2 e HB.out.2.2.2.2.2.2.2.2.2 (IB.out k hkN)
      have P1 : Hid (∀ (w1 : World) (v1 : Sl2) (tg1 : Nat → Nat), HalfEnd V0.drew w1 N go (upS So n v1) (upR R n (R n ++ [e])) tg tg1 3 → Half w1 N gi Si I tg1 4 ∧ (∀ k, w1.heap.size ≤ k → tg1 k = 0) ∧ w1.heap[p]? = V0.drew.heap[p]? ∧ w1.heap[w.heap.size]? = V0.drew.heap[w.heap.size]?) := fun w1 v1 tg1 hE => by
        obtain ⟨a1, a2, a3, a4, a5⟩ := HX.out.put1 hE
        exact ⟨a1, hE.al, a3, a5 _ hbl t0⟩
      have P2 : Hid (∀ (w1 : World) (v1 : Sl2) (tg1 : Nat → Nat) (w2 : World) (v2 : Sl2) (tg2 : Nat → Nat), HalfEnd V0.drew w1 N go (upS So n v1) (upR R n (R n ++ [e])) tg tg1 3 → HalfEnd w1 w2 N gi (upS Si k v2) (upR I k (I k ++ [e])) tg1 tg2 4 → w2.heap[p]? = V0.drew.heap[p]? ∧ w2.heap[w.heap.size]? = V0.drew.heap[w.heap.size]? ∧
          ∃ w7, (Instr.mapUpdate 73 (.map (some m)) (.agg #[.int .i64 e.1, .int .i64 e.2.1, .int .i64 e.2.2]) (.agg #[.int .i64 ((R n).length : Int), .int .i64 ((I k).length : Int)])).run Try.prog w2 = .ok () w7 ∧ GmEnd N (addE L e) S p w w7 ∧ w7.heap[p]? = V0.drew.heap[p]? ∧ w7.heap[w.heap.size]? = V0.drew.heap[w.heap.size]?) := fun w1 v1 tg1 w2 v2 tg2 h1 h2 => by
        obtain ⟨q1, q2, w7, hrun, hX7, hT7, hS7⟩ := HX.out.put2 h1 h2 HEL.out HB.out.2.2.2.2.2.2.1 HB.out.2.2.2.2.2.2.2.2.1 HB.out.2.2.2.2.2.2.2.2.2 hnN hkN HB.out.2.2.2.2.1
        refine ⟨q1, q2 _ hbl t0, w7, hrun, ?_, ?_, ?_⟩
        · rw [show addE L e = insE L e from if_neg HEL.out]
          refine ⟨fun k => tg2 k ≠ 0, ⟨_, _, _, _, _, _, _, _, _, hX7, fun _ => Iff.rfl⟩, (Turns.of_below hBd).trans hT7 fun k hk => .inl ((HB.out.2.2.1 k).2 hk), fun k hk => ?_⟩
          have hs := hBd.size
          rcases hS7 k hk with h3 | h3
          · exact .inl ((HB.out.2.2.1 k).2 h3)
          · exact .inr (by omega)
        · exact hX7.box.trans HX.out.box.symm
        · exact hT7.block _ hbl (fun hc => hc t0)
      clear hXd hBd g0 g1 g2 t0 HX
      unfold eV at OA
      go_region_held3 (fun V => V.cell? ⟨p, 1, none⟩ = some (.map (some m)) ∧ V.cell? ⟨p, 2, none⟩ = some (.slice (some ⟨go, 0, none⟩) N N) ∧ V.cell? ⟨p, 3, none⟩ = some (.slice (some ⟨gi, 0, none⟩) N N) ∧ V.cell? ⟨w.heap.size, 0, none⟩ = some (.int .i64 e.1) ∧ V.cell? ⟨w.heap.size, 1, none⟩ = some (.int .i64 e.2.1) ∧ V.cell? ⟨w.heap.size, 2, none⟩ = some (.int .i64 e.2.2))
        (first | exact KS.out _ rfl rfl | exact KS.out _ hp1.2.2.1 hp1.2.2.2 | exact KS.out _ hp2.1 hp2.2.1 | exact KS.out _ hp7.2.1 hp7.2.2)
        (first | (go_at_call 57; ((with_reducible refine OA.out.mono ?_); rintro r ws1 ⟨rfl, v1, tg1, hE1⟩; have hp1 := P1.out ws1 v1 tg1 hE1)) | (go_at_call 58; ((with_reducible refine (IA.out ws1 tg1 hp1.1 hp1.2.1).mono ?_); rintro r ws2 ⟨rfl, v2, tg2, hE2⟩; have hp2 := P2.out ws1 v1 tg1 ws2 v2 tg2 hE1 hE2; obtain ⟨w7, hrun7, hp7⟩ := hp2.2.2)))
      all_goals
        have FIN := Lib_hid hp7.1
        clear hp1 hp2 hp7 hE1 hE2
        go_wp2
        go_end0
        exact ⟨rfl, FIN.out⟩

end Go.Proofs.Ytopecdkkmbpnbaa
