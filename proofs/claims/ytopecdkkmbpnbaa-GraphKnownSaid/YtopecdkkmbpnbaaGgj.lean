/-
  Layer 13: an edge taken away: Remove of the program.
-/
import Derived.Test.YtopecdkkmbpnbaaGgi
namespace Go.Proofs.Ytopecdkkmbpnbaa
open Go Go.RowKit Go.Maps
set_option linter.unusedVariables false

theorem eV_agg (e : Ed) : Value.agg #[.int .i64 e.1, .int .i64 e.2.1, .int .i64 e.2.2] = eV e := rfl

/-- Ends with a graph, and tells whether the edge was there. -/
def RmEnd (N : Nat) (L : List Ed) (e : Ed) (S : Nat → Prop) (p : Nat) (w : World) (r : Ending) (w' : World) : Prop := r = .returned (.bool (decide (e ∈ L))) ∧ GmEnd N (remE L e) S p w w'

set_option maxRecDepth 100000 in
set_option maxHeartbeats 3200000 in
theorem gremove_any {w : World} {p N : Nat} {S : Nat → Prop} {L : List Ed} (h : GmIs w p S N L) {e : Ed} (he : EdOk e) (hN : N ≤ 65536) (hL : L.length ≤ 1000000000) :
    Calls Try.prog 18 #[.pointer (some ⟨p, 0, none⟩), eV e] w (RmEnd N L e S p w) := by
  have hb0 := below_new w (.cells #[.int .i64 e.1, .int .i64 e.2.1, .int .i64 e.2.2] 39)
  have hbx := heap_alloc_new w (.cells #[.int .i64 e.1, .int .i64 e.2.1, .int .i64 e.2.2] 39)
  have h0 : GmIs (w.alloc (.cells #[.int .i64 e.1, .int .i64 e.2.1, .int .i64 e.2.2] 39)) p S N L := h.later hb0
  have HAS := Lib_hid (phas_any h0 he)
  have HW := Lib_hid (And.intro h (And.intro hb0 (And.intro h0 (And.intro he (And.intro hN hL)))))
  have e0 : (w.alloc (.cells #[.int .i64 e.1, .int .i64 e.2.1, .int .i64 e.2.2] 39)).cell? ⟨w.heap.size, 0, none⟩ = some (.int .i64 e.1) := cell_of_row _ w.heap.size 0 _ _ _ hbx
  have e1 : (w.alloc (.cells #[.int .i64 e.1, .int .i64 e.2.1, .int .i64 e.2.2] 39)).cell? ⟨w.heap.size, 1, none⟩ = some (.int .i64 e.2.1) := cell_of_row _ w.heap.size 1 _ _ _ hbx
  have e2 : (w.alloc (.cells #[.int .i64 e.1, .int .i64 e.2.1, .int .i64 e.2.2] 39)).cell? ⟨w.heap.size, 2, none⟩ = some (.int .i64 e.2.2) := cell_of_row _ w.heap.size 2 _ _ _ hbx
  have hgl : w.heap.size < (w.alloc (.cells #[.int .i64 e.1, .int .i64 e.2.1, .int .i64 e.2.2] 39)).heap.size := by simp
  have HBX := Lib_hid hbx
  clear h hb0 h0 he hN hL hbx
  unfold eV at HAS ⊢
  by_cases hm : e ∈ L
  · have d : decide (e ∈ L) = true := decide_eq_true hm
    rw [d] at HAS
    have HM := Lib_hid hm
    clear hm d
    go_enter Try.func18, Try.ntmps18
    go_upto_region 1 with (fail)
    generalize w.alloc (.cells #[.int .i64 e.1, .int .i64 e.2.1, .int .i64 e.2.2] 39) = W at *
    go_wp2_with fail
    refine HAS.out.mono ?_
    rintro r w1 ⟨rfl, hB1⟩
    go_upto_region 3 with (fail)
    obtain ⟨m, go, gi, So, Si, R, I, f, tg, hX, hS⟩ := HW.out.2.2.1
    have hX1 := hX.keep hB1.size fun k hk _ => hB1.block k hk
    have c1 := hX1.c1
    obtain ⟨a, ha⟩ : ∃ a, a = ((f e).getD (0, 0)).1 := ⟨_, rfl⟩
    obtain ⟨b, hb⟩ : ∃ b, b = ((f e).getD (0, 0)).2 := ⟨_, rfl⟩
    have hplv : plV ((f e).getD (0, 0)) = .agg #[.int .i64 (a : Int), .int .i64 (b : Int)] := by rw [ha, hb]; rfl
    have LK : ∀ V : World, V.heap[m]? = w1.heap[m]? → (Instr.lookup 73 (.map (some m)) (.agg #[.int .i64 e.1, .int .i64 e.2.1, .int .i64 e.2.2]) false).run Try.prog V = .ok (.agg #[.int .i64 (a : Int), .int .i64 (b : Int)]) V := fun V hV => by rw [← hplv]; exact (hX1.map.keep hV).look1 HW.out.2.2.2.1
    have e0' := (hB1.cell (p := ⟨w.heap.size, 0, none⟩) hgl).trans e0
    have e1' := (hB1.cell (p := ⟨w.heap.size, 1, none⟩) hgl).trans e1
    have e2' := (hB1.cell (p := ⟨w.heap.size, 2, none⟩) hgl).trans e2
    have hplt := hX1.plt
    have hmlt := hX1.map.lt
    have hgl1 : w.heap.size < w1.heap.size := by have := hB1.size; omega
    have KS : Hid (∀ V, Below w1.heap.size w1 V → V.cell? ⟨p, 1, none⟩ = some (.map (some m)) ∧ V.cell? ⟨w.heap.size, 0, none⟩ = some (.int .i64 e.1) ∧ V.cell? ⟨w.heap.size, 1, none⟩ = some (.int .i64 e.2.1) ∧ V.cell? ⟨w.heap.size, 2, none⟩ = some (.int .i64 e.2.2) ∧ (Instr.lookup 73 (.map (some m)) (.agg #[.int .i64 e.1, .int .i64 e.2.1, .int .i64 e.2.2]) false).run Try.prog V = .ok (.agg #[.int .i64 (a : Int), .int .i64 (b : Int)]) V) := fun V hV =>
      ⟨(hV.cell (p := ⟨p, 1, none⟩) hplt).trans c1, (hV.cell (p := ⟨w.heap.size, 0, none⟩) hgl1).trans e0', (hV.cell (p := ⟨w.heap.size, 1, none⟩) hgl1).trans e1', (hV.cell (p := ⟨w.heap.size, 2, none⟩) hgl1).trans e2', LK V (hV.block m hmlt)⟩
    have b0 := below_drew1 w1
    have HX := Lib_hid (And.intro hX1 (And.intro hS (And.intro ha (And.intro hb (And.intro (HW.out.2.1.trans (hB1.mono (Nat.le_of_lt hgl))) (hX.al))))))
    have tB : tg w.heap.size = 0 := by
      obtain ⟨m', go', gi', So', Si', R', I', f', tg', hX', hS'⟩ := HW.out.1
      rcases Nat.eq_zero_or_pos (tg w.heap.size) with h | h
      · exact h
      · exact absurd ((hS' w.heap.size).1 ((hS w.heap.size).2 (by omega))) (by rw [hX'.al _ (Nat.le_refl _)]; exact fun h => h rfl)
    have HTB := Lib_hid tB
    clear hX hX1 hS c1 ha hb hplv LK e0' e1' e2' hB1 e0 e1 e2 HAS tB
    go_region_held3 (fun V => V.cell? ⟨p, 1, none⟩ = some (.map (some m)) ∧ V.cell? ⟨w.heap.size, 0, none⟩ = some (.int .i64 e.1) ∧ V.cell? ⟨w.heap.size, 1, none⟩ = some (.int .i64 e.2.1) ∧ V.cell? ⟨w.heap.size, 2, none⟩ = some (.int .i64 e.2.2) ∧ (Instr.lookup 73 (.map (some m)) (.agg #[.int .i64 e.1, .int .i64 e.2.1, .int .i64 e.2.2]) false).run Try.prog V = .ok (.agg #[.int .i64 (a : Int), .int .i64 (b : Int)]) V)
      (first | exact KS.out _ b0 | exact KS.out _ (b0.alloc (Nat.le_refl _) _))
      (fail)
    all_goals
      have hy : (w1.alloc (.cells #[.int .i64 (a : Int), .int .i64 (b : Int)] 86)).drew.heap[w1.heap.size]? = some (.cells #[.int .i64 (a : Int), .int .i64 (b : Int)] 86 (0, 0)) := heap_alloc_new w1 _
      have bN : Below w1.heap.size w1 (w1.alloc (.cells #[.int .i64 (a : Int), .int .i64 (b : Int)] 86)).drew := (below_new w1 _).drew
      have sN : (w1.alloc (.cells #[.int .i64 (a : Int), .int .i64 (b : Int)] 86)).drew.heap.size = w1.heap.size + 1 := by simp
      obtain ⟨k1, k2, k3, k4, -⟩ := KS.out _ bN
      go_upto_region 4 with (fail)
      obtain ⟨x, hx⟩ : ∃ x, x = w1.heap.size := ⟨_, rfl⟩
      rw [← hx] at hy sN ⊢
      obtain ⟨hX1, hS, ha, hb, hBw, hal⟩ := HX.out
      have hX2 : GmX (w1.alloc (.cells #[.int .i64 (a : Int), .int .i64 (b : Int)] 86)).drew p N m go gi So Si R I f tg L := hX1.keep bN.size fun k hk _ => bN.block k hk
      have tX : tg x = 0 := hX1.al _ (by omega)
      have hBw2 : Below w.heap.size w (w1.alloc (.cells #[.int .i64 (a : Int), .int .i64 (b : Int)] 86)).drew := hBw.trans (bN.mono hBw.size)
      have lB : w.heap.size < (w1.alloc (.cells #[.int .i64 (a : Int), .int .i64 (b : Int)] 86)).drew.heap.size := by omega
      have lX : x < (w1.alloc (.cells #[.int .i64 (a : Int), .int .i64 (b : Int)] 86)).drew.heap.size := by omega
      clear KS b0 HX bN sN hX1 hBw
      generalize (w1.alloc (.cells #[.int .i64 (a : Int), .int .i64 (b : Int)] 86)).drew = W2 at *
      have hnd := hX2.pl.node e HM.out
      obtain ⟨n, hn⟩ : ∃ n : Nat, e.1 = n := ⟨e.1.toNat, by omega⟩
      obtain ⟨k, hk⟩ : ∃ k : Nat, e.2.1 = k := ⟨e.2.1.toNat, by omega⟩
      have hnN : n < N := by omega
      have hkN : k < N := by omega
      have hat : (R n)[((f e).getD (0, 0)).1]? = some e := hX2.pl.out.at_ e HM.out n hn
      have hbt : (I k)[((f e).getD (0, 0)).2]? = some e := hX2.pl.inn.at_ e HM.out k hk
      rw [← ha] at hat
      rw [← hb] at hbt
      have han := (List.getElem?_eq_some_iff.1 hat).1
      have hbk := (List.getElem?_eq_some_iff.1 hbt).1
      obtain ⟨z, hz⟩ : ∃ z, (R n)[(R n).length - 1]? = some z := ⟨_, List.getElem?_eq_getElem (by omega)⟩
      obtain ⟨y, hy2⟩ : ∃ y, (I k)[(I k).length - 1]? = some y := ⟨_, List.getElem?_eq_getElem (by omega)⟩
      have hzL := (hX2.pl.out.mem n hnN z (List.mem_of_getElem? hz)).1
      have hyL := (hX2.pl.inn.mem k hkN y (List.mem_of_getElem? hy2)).1
      have hzs : (f z).isSome = true := by rw [hX2.pl.has]; exact decide_eq_true hzL
      have hL := HW.out.2.2.2.2.2
      have hN := HW.out.2.2.2.2.1
      have hXd : GmX W2.drew p N m go gi So Si R I f tg L := hX2.keep (Nat.le_refl _) fun _ _ _ => rfl
      have DR1 : Hid (Calls Try.prog 45 #[.slice (some ⟨go, 0, none⟩) N N, .int .i64 e.1, .int .i64 (a : Int)] W2.drew fun r w' => r = .returned (eV z) ∧ ∃ S' tg', HalfEnd W2.drew w' N go S' (upR R n (dropAt (R n) a z)) tg tg' 3) := by
        rw [hn]; exact pdrop_any (w := W2.drew) hXd.out (by decide) hnN hN hXd.al hz han (Nat.le_trans (hX2.pl.out_len hnN) hL)
      have M1 : Hid (∀ (v1 : World) (S' : Nat → Sl2) (tg1 : Nat → Nat), HalfEnd W2.drew v1 N go S' (upR R n (dropAt (R n) a z)) tg tg1 3 → GmM v1 p N m go gi S' Si (upR R n (dropAt (R n) a z)) I f tg1 L.length ∧ v1.heap[p]? = W2.heap[p]? ∧ v1.heap[w.heap.size]? = W2.heap[w.heap.size]? ∧ v1.heap[x]? = W2.heap[x]?) := fun v1 S' tg1 h1 => by
        have hm : GmM W2.drew p N m go gi So Si R I f tg L.length := hXd.mem
        have h2 := hm.half1 h1
        exact ⟨h2, h2.box.trans hX2.box.symm, h1.zero _ lB HTB.out, h1.zero _ lX tX⟩
      have ST1 : Hid (∀ (v1 : World) (S' : Nat → Sl2) (tg1 : Nat → Nat), HalfEnd W2.drew v1 N go S' (upR R n (dropAt (R n) a z)) tg tg1 3 → Calls Try.prog 44 #[.pointer (some ⟨p, 0, none⟩), eV z, .func (.func 46) #[] #[.pointer (some ⟨x, 0, none⟩)]] v1 fun r w' => r = .returned (.tuple #[]) ∧ StEnd v1 w' p N m go gi S' Si (upR R n (dropAt (R n) a z)) I (upF f z (some (a, ((f z).getD (0, 0)).2))) tg1 L.length) := fun v1 S' tg1 h1 => by
        obtain ⟨h2, _, _, h5⟩ := M1.out v1 S' tg1 h1
        exact pstands0_any h2 (hX2.ok z hzL) hzs hL ((World.cell?_of_block h5).trans (cell_of_row _ _ 0 _ _ _ hy)) ((h1.old x lX).trans tX)
      have M2 : Hid (∀ (v1 : World) (S' : Nat → Sl2) (tg1 : Nat → Nat) (v2 : World), HalfEnd W2.drew v1 N go S' (upR R n (dropAt (R n) a z)) tg tg1 3 → StEnd v1 v2 p N m go gi S' Si (upR R n (dropAt (R n) a z)) I (upF f z (some (a, ((f z).getD (0, 0)).2))) tg1 L.length →
          v2.heap[p]? = W2.heap[p]? ∧ v2.heap[w.heap.size]? = W2.heap[w.heap.size]? ∧ v2.heap[x]? = W2.heap[x]? ∧ W2.heap.size ≤ v2.heap.size) := fun v1 S' tg1 v2 h1 h2 => by
        obtain ⟨a1, a2, a3, a4⟩ := M1.out v1 S' tg1 h1
        have s1 := h1.turns.size
        have s1 : W2.heap.size ≤ v1.heap.size := s1
        have s2 := h2.turns.size
        have t2 := a1.tgm
        have tb : tg1 w.heap.size = 0 := (h1.old _ lB).trans HTB.out
        have tx : tg1 x = 0 := (h1.old _ lX).trans tX
        exact ⟨h2.gm.box.trans hX2.box.symm, (h2.turns.block _ (by omega) (fun e => by rw [e] at tb; omega)).trans a3, (h2.turns.block _ (by omega) (fun e => by rw [e] at tx; omega)).trans a4, by omega⟩
      have KS4 : Hid (∀ V : World, V.heap[p]? = W2.heap[p]? → V.heap[w.heap.size]? = W2.heap[w.heap.size]? → V.heap[x]? = W2.heap[x]? → V.cell? ⟨p, 1, none⟩ = some (.map (some m)) ∧ V.cell? ⟨p, 2, none⟩ = some (.slice (some ⟨go, 0, none⟩) N N) ∧ V.cell? ⟨p, 3, none⟩ = some (.slice (some ⟨gi, 0, none⟩) N N) ∧ V.cell? ⟨w.heap.size, 0, none⟩ = some (.int .i64 e.1) ∧ V.cell? ⟨w.heap.size, 1, none⟩ = some (.int .i64 e.2.1) ∧ V.cell? ⟨w.heap.size, 2, none⟩ = some (.int .i64 e.2.2) ∧ V.cell? ⟨x, 0, none⟩ = some (.int .i64 (a : Int)) ∧ V.cell? ⟨x, 1, none⟩ = some (.int .i64 (b : Int))) := fun V h1 h2 h3 =>
        ⟨(World.cell?_of_block h1).trans hX2.c1, (World.cell?_of_block h1).trans hX2.c2, (World.cell?_of_block h1).trans hX2.c3, (World.cell?_of_block h2).trans k2, (World.cell?_of_block h2).trans k3, (World.cell?_of_block h2).trans k4, (World.cell?_of_block h3).trans (cell_of_row _ _ 0 _ _ _ hy), (World.cell?_of_block h3).trans (cell_of_row _ _ 1 _ _ _ hy)⟩
      have HZ := Lib_hid (And.intro hX2 (And.intro hn (And.intro hk (And.intro hnN (And.intro hkN (And.intro hbk (And.intro hz (And.intro hy2 (And.intro hyL (And.intro hzs (And.intro tX (And.intro lB (And.intro lX (And.intro hBw2 (And.intro ha (And.intro hb hS))))))))))))))))
      have HXC : Hid (W2.cell? ⟨x, 1, none⟩ = some (.int .i64 (b : Int))) := cell_of_row _ _ 1 _ _ _ hy
      have HLN := Lib_hid (And.intro hL hN)
      clear hX2 hXd hn hk hnN hkN hat hbt han hbk hz hy2 hzL hyL hzs hL hN hnd ha hb hS hal tX lB lX hBw2 k1 k2 k3 k4 hy hx
      go_region_held3 (fun V => V.cell? ⟨p, 1, none⟩ = some (.map (some m)) ∧ V.cell? ⟨p, 2, none⟩ = some (.slice (some ⟨go, 0, none⟩) N N) ∧ V.cell? ⟨p, 3, none⟩ = some (.slice (some ⟨gi, 0, none⟩) N N) ∧ V.cell? ⟨w.heap.size, 0, none⟩ = some (.int .i64 e.1) ∧ V.cell? ⟨w.heap.size, 1, none⟩ = some (.int .i64 e.2.1) ∧ V.cell? ⟨w.heap.size, 2, none⟩ = some (.int .i64 e.2.2) ∧ V.cell? ⟨x, 0, none⟩ = some (.int .i64 (a : Int)) ∧ V.cell? ⟨x, 1, none⟩ = some (.int .i64 (b : Int)))
        (first | exact KS4.out _ rfl rfl rfl | exact KS4.out _ hm1.2.1 hm1.2.2.1 hm1.2.2.2 | exact KS4.out _ hm2.1 hm2.2.1 hm2.2.2.1)
        (first | (go_at_call 45; ((with_reducible refine DR1.out.mono ?_); rintro r v1 ⟨rfl, S1, tg1, hE1⟩; have hm1 := M1.out v1 S1 tg1 hE1)) | (go_at_call 44; ((with_reducible refine (ST1.out v1 S1 tg1 hE1).mono ?_); rintro r v2 ⟨rfl, hE2⟩; have hm2 := M2.out v1 S1 tg1 v2 hE1 hE2)))
      all_goals
        clear DR1 ST1
        go_upto_region 5 with (fail)
        obtain ⟨hX2, hn, hk, hnN, hkN, hbk, hz, hy2, hyL, hzs, tX, lB, lX, hBw2, ha, hb, hS⟩ := HZ.out
        obtain ⟨hL, hN⟩ := HLN.out
        obtain ⟨n1, n2, n3, n4⟩ := hm2
        have G2 := hE2.gm
        have s1 := hE1.turns.size
        have s1 : W2.heap.size ≤ v1.heap.size := s1
        have G2d : GmM v2.drew p N m go gi S1 Si (upR R n (dropAt (R n) a z)) I (upF f z (some (a, ((f z).getD (0, 0)).2))) tg1 L.length := G2.keep (Nat.le_refl _) fun _ _ _ => rfl
        have tB1 : tg1 w.heap.size = 0 := (hE1.old _ lB).trans HTB.out
        have tX1 : tg1 x = 0 := (hE1.old _ lX).trans tX
        have lB2 : w.heap.size < v2.heap.size := by omega
        have lX2 : x < v2.heap.size := by omega
        have DR2 : Hid (Calls Try.prog 45 #[.slice (some ⟨gi, 0, none⟩) N N, .int .i64 e.2.1, .int .i64 (b : Int)] v2.drew fun r w' => r = .returned (eV y) ∧ ∃ S' tg', HalfEnd v2.drew w' N gi S' (upR I k (dropAt (I k) b y)) tg1 tg' 4) := by
          rw [hk]; exact pdrop_any (w := v2.drew) G2d.inn (by decide) hkN hN G2d.al hy2 hbk (Nat.le_trans (hX2.pl.in_len hkN) hL)
        have M3 : Hid (∀ (v3 : World) (S' : Nat → Sl2) (tg2 : Nat → Nat), HalfEnd v2.drew v3 N gi S' (upR I k (dropAt (I k) b y)) tg1 tg2 4 → GmM v3 p N m go gi S1 S' (upR R n (dropAt (R n) a z)) (upR I k (dropAt (I k) b y)) (upF f z (some (a, ((f z).getD (0, 0)).2))) tg2 L.length ∧ v3.heap[p]? = W2.heap[p]? ∧ v3.heap[w.heap.size]? = W2.heap[w.heap.size]? ∧ v3.heap[x]? = W2.heap[x]?) := fun v3 S' tg2 h1 => by
          have h2 := G2d.half2 h1
          exact ⟨h2, h2.box.trans hX2.box.symm, (h1.zero _ lB2 tB1).trans n2, (h1.zero _ lX2 tX1).trans n3⟩
        have hyo := hX2.ok y hyL
        have hys : (f y).isSome = true := by rw [hX2.pl.has]; exact decide_eq_true hyL
        have hy1 : (upF f z (some (a, ((f z).getD (0, 0)).2)) y).isSome = true := by
          by_cases hyz : y = z
          · rw [hyz, upF_same]; rfl
          · rw [upF_other _ _ hyz]; exact hys
        have ST2 : Hid (∀ (v3 : World) (S' : Nat → Sl2) (tg2 : Nat → Nat), HalfEnd v2.drew v3 N gi S' (upR I k (dropAt (I k) b y)) tg1 tg2 4 → Calls Try.prog 44 #[.pointer (some ⟨p, 0, none⟩), eV y, .func (.func 47) #[] #[.pointer (some ⟨x, 0, none⟩)]] v3 fun r w' => r = .returned (.tuple #[]) ∧ StEnd v3 w' p N m go gi S1 S' (upR R n (dropAt (R n) a z)) (upR I k (dropAt (I k) b y)) (upF (upF f z (some (a, ((f z).getD (0, 0)).2))) y (some (((upF f z (some (a, ((f z).getD (0, 0)).2)) y).getD (0, 0)).1, b))) tg2 L.length) := fun v3 S' tg2 h1 => by
          obtain ⟨h2, _, _, h5⟩ := M3.out v3 S' tg2 h1
          exact pstands1_any h2 hyo hy1 hL ((World.cell?_of_block h5).trans HXC.out) ((h1.old x lX2).trans tX1)
        have M4 : Hid (∀ (v3 : World) (S' : Nat → Sl2) (tg2 : Nat → Nat) (v4 : World), HalfEnd v2.drew v3 N gi S' (upR I k (dropAt (I k) b y)) tg1 tg2 4 → StEnd v3 v4 p N m go gi S1 S' (upR R n (dropAt (R n) a z)) (upR I k (dropAt (I k) b y)) (upF (upF f z (some (a, ((f z).getD (0, 0)).2))) y (some (((upF f z (some (a, ((f z).getD (0, 0)).2)) y).getD (0, 0)).1, b))) tg2 L.length →
            v4.heap[p]? = W2.heap[p]? ∧ v4.heap[w.heap.size]? = W2.heap[w.heap.size]? ∧ v4.heap[x]? = W2.heap[x]?) := fun v3 S' tg2 v4 h1 h2 => by
          obtain ⟨a1, a2, a3, a4⟩ := M3.out v3 S' tg2 h1
          have s1 := h1.turns.size
          have s1 : v2.heap.size ≤ v3.heap.size := s1
          have t2 := a1.tgm
          have tb : tg2 w.heap.size = 0 := (h1.old _ lB2).trans tB1
          have tx : tg2 x = 0 := (h1.old _ lX2).trans tX1
          exact ⟨h2.gm.box.trans hX2.box.symm, (h2.turns.block _ (by omega) (fun e => by rw [e] at tb; omega)).trans a3, (h2.turns.block _ (by omega) (fun e => by rw [e] at tx; omega)).trans a4⟩
        have FIN : Hid (∀ (v3 : World) (S2 : Nat → Sl2) (tg2 : Nat → Nat) (v4 : World), HalfEnd v2.drew v3 N gi S2 (upR I k (dropAt (I k) b y)) tg1 tg2 4 → StEnd v3 v4 p N m go gi S1 S2 (upR R n (dropAt (R n) a z)) (upR I k (dropAt (I k) b y)) (upF (upF f z (some (a, ((f z).getD (0, 0)).2))) y (some (((upF f z (some (a, ((f z).getD (0, 0)).2)) y).getD (0, 0)).1, b))) tg2 L.length →
            ∃ v7, (∀ ty, (Builtin.delete_ #[73, 39] ty #[.map (some m), .agg #[.int .i64 e.1, .int .i64 e.2.1, .int .i64 e.2.2]]).run Try.prog v4.drew = .ok (.tuple #[]) v7) ∧ RmEnd N L e S p w (.returned (.bool true)) v7) := fun v3 S2 tg2 v4 h3 h4 => by
          have G4 := h4.gm
          have G4d : GmM v4.drew p N m go gi S1 S2 (upR R n (dropAt (R n) a z)) (upR I k (dropAt (I k) b y)) (upF (upF f z (some (a, ((f z).getD (0, 0)).2))) y (some (((upF f z (some (a, ((f z).getD (0, 0)).2)) y).getD (0, 0)).1, b))) tg2 L.length := G4.keep (Nat.le_refl _) fun _ _ _ => rfl
          have hes : (upF (upF f z (some (a, ((f z).getD (0, 0)).2))) y (some (((upF f z (some (a, ((f z).getD (0, 0)).2)) y).getD (0, 0)).1, b)) e).isSome = true := by
            by_cases h1 : e = y
            · rw [h1, upF_same]; rfl
            · rw [upF_other _ _ h1]
              by_cases h2 : e = z
              · rw [h2, upF_same]; rfl
              · rw [upF_other _ _ h2, hX2.pl.has]; exact decide_eq_true HM.out
          obtain ⟨v7, r1, r2, r3⟩ := G4d.map.drop HW.out.2.2.2.1 hes 0
          have hrun : ∀ ty, (Builtin.delete_ #[73, 39] ty #[.map (some m), .agg #[.int .i64 e.1, .int .i64 e.2.1, .int .i64 e.2.2]]).run Try.prog v4.drew = .ok (.tuple #[]) v7 := fun ty => r1
          have hpl := hX2.pl.drop (z := z) (y := y) HM.out hn hk hz hy2
          have hre : remF f e z y = upF (upF (upF f z (some (a, ((f z).getD (0, 0)).2))) y (some (((upF f z (some (a, ((f z).getD (0, 0)).2)) y).getD (0, 0)).1, b))) e none := by rw [ha, hb]; rfl
          rw [hre, ← ha, ← hb] at hpl
          have hlen := remE_len (hX2.pl.srt.nodup) HM.out
          have G7 := (G4d.mapped r2 r3).gm (L := remE L e) (by omega) hpl (fun q hq => hX2.ok q (mem_remE.1 hq).1)
          refine ⟨v7, hrun, by rw [decide_eq_true HM.out], fun q => tg2 q ≠ 0, ⟨_, _, _, _, _, _, _, _, _, G7, fun _ => Iff.rfl⟩, ?_, ?_⟩
          · have tm := hX2.tgm
            have tm1 := G2.tgm
            have tm2 := G4.tgm
            have s0 := hBw2.size
            have u1 : Turns S w v1 := ((Turns.of_below hBw2).drewN 1).trans (hE1.turns.mono (S' := fun q => tg q ≠ 0) fun q hq => by have := hq.2; show tg q ≠ 0; omega) fun q hq => .inl ((hS q).2 hq)
            have u2 : Turns S w v2 := u1.trans hE2.turns fun q hq => .inl ((hS q).2 (by rw [hq, tm]; decide))
            have u3 : Turns S w v3 := (u2.drewN 1).trans h3.turns fun q hq => by
              rcases Nat.lt_or_ge q W2.heap.size with h5 | h5
              · have := hE1.old q h5
                have := hq.2
                exact .inl ((hS q).2 (by omega))
              · exact .inr (by omega)
            have u4 : Turns S w v4 := u3.trans h4.turns fun q hq => .inl ((hS q).2 (by rw [hq, tm]; decide))
            exact (u4.drewN 1).trans (Turns.grown (S := fun q => q = m) ⟨r3.os, r3.tape, r3.output, r3.size, r3.block⟩ fun q e => .inl (by injection e with e; exact e.symm)) fun q hq => .inl ((hS q).2 (by rw [hq, tm]; decide))
          · intro q hq
            have s0 := hBw2.size
            rcases Nat.lt_or_ge q W2.heap.size with h5 | h5
            · have h6 := hE1.old q h5
              have h7 := h3.old q (by show q < v2.heap.size; omega)
              exact .inl ((hS q).2 (by omega))
            · exact .inr (by omega)
        have HK2 := Lib_hid (And.intro n1 (And.intro n2 n3))
        clear hX2 hn hk hnN hkN hbk hz hy2 hyL hzs tX lB lX hBw2 ha hb hS hL hN n1 n2 n3 n4 G2 s1 G2d tB1 tX1 lB2 lX2 hyo hys hy1 hE1 hE2 HZ hm1 M1 M2
        go_region_held3 (fun V => V.cell? ⟨p, 1, none⟩ = some (.map (some m)) ∧ V.cell? ⟨p, 2, none⟩ = some (.slice (some ⟨go, 0, none⟩) N N) ∧ V.cell? ⟨p, 3, none⟩ = some (.slice (some ⟨gi, 0, none⟩) N N) ∧ V.cell? ⟨w.heap.size, 0, none⟩ = some (.int .i64 e.1) ∧ V.cell? ⟨w.heap.size, 1, none⟩ = some (.int .i64 e.2.1) ∧ V.cell? ⟨w.heap.size, 2, none⟩ = some (.int .i64 e.2.2) ∧ V.cell? ⟨x, 0, none⟩ = some (.int .i64 (a : Int)) ∧ V.cell? ⟨x, 1, none⟩ = some (.int .i64 (b : Int)))
          (first | exact KS4.out _ HK2.out.1 HK2.out.2.1 HK2.out.2.2 | exact KS4.out _ hm3.2.1 hm3.2.2.1 hm3.2.2.2 | exact KS4.out _ hm4.1 hm4.2.1 hm4.2.2)
          (first | (go_at_call 45; ((with_reducible refine DR2.out.mono ?_); rintro r v3 ⟨rfl, S2, tg2, hE3⟩; have hm3 := M3.out v3 S2 tg2 hE3)) | (go_at_call 44; ((with_reducible refine (ST2.out v3 S2 tg2 hE3).mono ?_); rintro r v4 ⟨rfl, hE4⟩; have hm4 := M4.out v3 S2 tg2 v4 hE3 hE4)))
        all_goals
          clear DR2 ST2 M3 M4
          obtain ⟨v7, hrun7, HF⟩ := FIN.out v3 S2 tg2 v4 hE3 hE4
          have HFF := Lib_hid HF
          obtain ⟨j1, j2, j3, j4, j5, j6, j7, j8⟩ := KS4.out v4 hm4.1 hm4.2.1 hm4.2.2
          clear FIN HF hm3 hm4 hE3 hE4 KS4 HK2
          go_upto_region 6 with (fail)
          have hr7 := hrun7 0
          clear hrun7
          go_region
          all_goals
            go_wp2
            go_ret
            exact HFF.out
  · have d : decide (e ∈ L) = false := decide_eq_false hm
    rw [d] at HAS
    have HM := Lib_hid hm
    clear hm d
    go_enter Try.func18, Try.ntmps18
    go_upto_region 1 with (fail)
    generalize w.alloc (.cells #[.int .i64 e.1, .int .i64 e.2.1, .int .i64 e.2.2] 39) = W at *
    go_wp2_with fail
    refine HAS.out.mono ?_
    rintro r w1 ⟨rfl, hB1⟩
    have FIN : Hid (RmEnd N L e S p w (.returned (.bool false)) w1) := ⟨by rw [decide_eq_false HM.out], by
      rw [remE_no HM.out]
      have hb : Below w.heap.size w w1 := HW.out.2.1.trans (hB1.mono (Nat.le_of_lt hgl))
      exact ⟨S, HW.out.1.later hb, Turns.of_below hb, fun _ hk => .inl hk⟩⟩
    clear hB1 e0 e1 e2
    go_wp2
    go_ret
    exact FIN.out

end Go.Proofs.Ytopecdkkmbpnbaa
