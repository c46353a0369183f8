/-
  Layer 5: the document's entries: its walk. (Out of gen_vzg.py.)
  Layer 5: the document's payload, plainly: what its numbers, text, predicate and entries make of it.
  Layer 5: the document's reading of a text, plainly: loosely, and held against the text.
  Layer 5: the document's Cuts, Value, version, Told, words.
  Layer 5: the document's Value, version, Told, words.
-/
import Derived.Test.YtdmoknnnlfkfoaaGreatDoorZpVcm
import Derived.Test.YtdmoknnnlfkfoaaGreatDoorZpVdc
import Derived.Deep.RegionHeld3
import Derived.Test.YtdmoknnnlfkfoaaGreatDoorZpInr
import Derived.Test.YtdmoknnnlfkfoaaGreatDoorZpVze
import Derived.Test.YtdmoknnnlfkfoaaGreatDoorZpTdq
import Derived.Test.YtdmoknnnlfkfoaaGreatDoorZpVpm
import Derived.StillTailTactics
import Derived.Test.YtdmoknnnlfkfoaaGreatDoorZpVpw

namespace Go.Proofs.YtdmoknnnlfkfoaaGreatDoor
open Go Go.RowKit
set_option linter.unusedVariables false
def DEns (l : List Nat) (a e : Nat) (w : World) (en : Ending) (w' : World) : Prop :=
  ∃ (A' : Option Addr) (c' : Nat) (es : List En) (a' e' : Nat) (ok : Bool), en = .returned (.tuple #[.agg #[.string (str l), .int .i64 (a' : Int), .int .i64 (e' : Int)], .slice A' es.length c', .bool ok]) ∧ (∀ x ∈ es, x.ok) ∧ 4 * es.length ≤ l.length + 4 ∧ w'.ownsRow w.heap.size 91 4 (.slice A' es.length c') es.length (enCells es) ∧ Below w.heap.size w w' ∧ a' ≤ l.length ∧ e' < 1000 ∧
      (e = 0 → (ok = true ∧ e' = 0 ∧ ensT l a = some (es, a')) ∨ (ok = false ∧ ensT l a = none)) ∧ (e ≠ 0 → ok = false)
theorem dens_ret {Q : Ending → World → Prop} {W : World} {h0 : Nat} {x y z s k : Value} (H : W.heap[h0]? = some (.cells #[x, y, z] 125 (0, 0))) (HF : Q (.returned (.tuple #[.agg #[x, y, z], s, k])) W)
    (tmps : Array Value) (h2 : tmps.getD 2 undef = .pointer (some ⟨h0, 0, none⟩)) (h3 : tmps.getD 3 undef = s) (h4 : tmps.getD 4 undef = k) : bodyPost Tryz.prog Tryz.f57 Q .ret { tmps := tmps, defers := [] } W := by
  rw [Array.getD_eq_getD_getElem?] at h2 h3 h4
  obtain ⟨d0, d1, d2, -, -, -⟩ := blk3 H
  exact bodyPost_ret (v := .tuple #[.agg #[x, y, z], s, k]) (by simp [results, Tryz.results57, go_sem, h2, h3, h4, d0, d1, d2]) rfl HF
set_option maxRecDepth 100000 in
set_option maxHeartbeats 6400000 in
theorem dents_any (l : List Nat) (a e : Nat) (w : World) (hb : ∀ x ∈ l, x < 256) (hl : l.length ≤ 1000) (ha : a ≤ l.length) (he : e < 1000) :
    Calls Tryz.prog 57 #[.agg #[.string (str l), .int .i64 (a : Int), .int .i64 (e : Int)]] w (DEns l a e w) := by
  obtain ⟨i0, hi0, hz0, hz1, hz2⟩ := info_parts Tryz.infoE5
  obtain ⟨⟨a1, e1, N⟩, hS⟩ : ∃ x, numR l a e = x := ⟨_, rfl⟩
  obtain ⟨ha1, he1, hN⟩ := numR_le hb ha he hS
  have hN0 : e1 ≠ 0 → N = 0 := fun h => by
    unfold numR at hS
    split at hS
    · injection hS with _ hS; injection hS with _ hS; exact hS.symm
    · split at hS
      · injection hS with _ hS; injection hS with _ hS; exact hS.symm
      · injection hS with _ hS; injection hS with hS _; exact absurd hS.symm h
  have hT := num_took hS false
  have RNUM := fun W => rnum_any l a e W hb hl (by omega) he a1 e1 N hS
  have FINT : Hid (∀ (W : World) (A' : Option Addr) (n' c' : Nat) (es : List En) (m a2 e2 : Nat), n' = es.length → EI l N a1 e1 false es m a2 e2 false → m = 0 → e2 < 1000 → W.ownsRow w.heap.size 91 4 (.slice A' n' c') n' (enCells es) → Below w.heap.size w W →
      DEns l a e w (.returned (.tuple #[.agg #[.string (str l), .int .i64 (a2 : Int), .int .i64 (e2 : Int)], .slice A' n' c', .bool (decide (e2 = 0))])) W) := fun W A' n' c' es m a2 e2 h1 h2 h3 h4 h5 h6 => by
    subst h1
    have hf := Took.bind (f := fun x : Nat × Nat => entsT l x.1 x.2) hT (h2.fin (.inl h3))
    refine ⟨A', c', es, a2, e2, _, rfl, h2.ok, h2.len, h5, h6, h2.le, h4, fun h0 => ?_, fun h0 => ?_⟩
    · rcases hf.2 ⟨h0, rfl⟩ with ⟨k1, k2⟩ | ⟨k1, k2⟩
      · exact .inl ⟨decide_eq_true k2.1, k2.1, k1⟩
      · exact .inr ⟨decide_eq_false fun k => k2 ⟨k, rfl⟩, k1⟩
    · exact decide_eq_false fun k => hf.1 (fun k => h0 k.1) ⟨k, rfl⟩
  have FINF : Hid (∀ (W : World) (es : List En) (m a2 q e4 : Nat), EI l N a1 e1 false es (m + 1) a2 0 false → entT l a2 = none → q ≤ l.length → e4 < 1000 → Below w.heap.size w W →
      DEns l a e w (.returned (.tuple #[.agg #[.string (str l), .int .i64 (q : Int), .int .i64 (e4 : Int)], .slice none 0 0, .bool false])) W) := fun W es m a2 q e4 h2 h3 h4 h5 h6 => by
    refine ⟨none, 0, [], q, e4, false, rfl, (fun x hx => by cases hx), by simp, World.ownsRow_nil _ _ _ _, h6, h4, h5, fun h0 => .inr ⟨rfl, ?_⟩, fun _ => rfl⟩
    have hg : GoodB e1 false := Classical.byContradiction fun hn => h2.bd hn ⟨rfl, rfl⟩
    have hz : entsT l N a1 = none := by
      rcases h2.rd hg with ⟨_, _, k⟩ | ⟨k, _⟩
      · rw [k]
        have : entsT l (m + 1) a2 = none := by
          show (entT l a2).bind _ = none
          rw [h3]; rfl
        rw [this]; rfl
      · exact absurd ⟨rfl, rfl⟩ k
    unfold ensT
    rcases hT.2 ⟨h0, rfl⟩ with ⟨k1, _⟩ | ⟨_, k2⟩
    · rw [k1]; exact hz
    · exact absurd hg k2
  have HB8 := Lib_hid hb
  clear hS hT
  have H1 := heap_alloc_new w (.cells #[.string (str l), .int .i64 (a : Int), .int .i64 (e : Int)] 125)
  have hbA := below_new w (.cells #[.string (str l), .int .i64 (a : Int), .int .i64 (e : Int)] 125)
  have H2 := heap_alloc_new (w.alloc (.cells #[.string (str l), .int .i64 (a : Int), .int .i64 (e : Int)] 125)) (.cells #[.string ⟨#[]⟩, .int .i64 0, .int .i64 0] 125)
  have hbB := below_new (w.alloc (.cells #[.string (str l), .int .i64 (a : Int), .int .i64 (e : Int)] 125)) (.cells #[.string ⟨#[]⟩, .int .i64 0, .int .i64 0] 125)
  have hsA : (w.alloc (.cells #[.string (str l), .int .i64 (a : Int), .int .i64 (e : Int)] 125)).heap.size = w.heap.size + 1 := by simp
  rw [hsA] at H2
  have H1b := (hbB.block _ (by rw [hsA]; omega)).trans H1
  have hb1 := hbA.trans (hbB.mono (by rw [hsA]; omega))
  clear H1 hbA hbB hsA
  go_enter Tryz.func57, Tryz.ntmps57
  go_upto_region 1 with (fail)
  generalize (w.alloc (.cells #[.string (str l), .int .i64 (a : Int), .int .i64 (e : Int)] 125)).alloc (.cells #[.string ⟨#[]⟩, .int .i64 0, .int .i64 0] 125) = w1 at *
  obtain ⟨p1, p2, p3, -, -, -⟩ := blk3 H1b
  go_wp2_with fail
  refine (RNUM w1).mono ?_
  rintro en w2 ⟨rfl, hb2⟩
  clear p1 p2 p3 RNUM H1b
  have H2b := (hb2.block _ (lt_of_block H2)).trans H2
  have hbw2 := hb1.trans (hb2.mono hb1.size)
  have H5 := heap_alloc_new w2 (.cells #[.string (str l), .int .i64 (a1 : Int), .int .i64 (e1 : Int)] 125)
  have hb5 := below_new w2 (.cells #[.string (str l), .int .i64 (a1 : Int), .int .i64 (e1 : Int)] 125)
  have H2c := (hb5.block _ (lt_of_block H2b)).trans H2b
  have hbw3 := hbw2.trans (hb5.mono hbw2.size)
  have hs2 := hbw2.size
  have hl2 := lt_of_block H2b
  clear H2 H2b hb2 hb1 hb5 hbw2
  go_upto_region 2 with (fail)
  generalize w2.alloc (.cells #[.string (str l), .int .i64 (a1 : Int), .int .i64 (e1 : Int)] 125) = w3 at *
  generalize w2.heap.size = g at *
  go_wp2
  go_loopw [6, 7] (fun y v wr => ∃ (n' c' m a2 e2 : Nat) (A' : Option Addr) (es : List En), v = .slice A' n' c' ∧ y = .int .u64 (m : Int) ∧ m < 18446744073709551616 ∧ Hid (m = 0 ∨ e2 = 0) ∧ Hid (n' = es.length) ∧ Hid (EI l N a1 e1 false es m a2 e2 false) ∧ Hid (e2 < 1000) ∧ wr.ownsRow w.heap.size 91 4 (.slice A' n' c') n' (enCells es) ∧ Hid (wr.heap[g]? = some (.cells #[.string (str l), .int .i64 (a2 : Int), .int .i64 (e2 : Int)] 125 (0, 0))) ∧ Hid (wr.heap[w.heap.size + 1]? = some (.cells #[.string ⟨#[]⟩, .int .i64 0, .int .i64 0] 125 (0, 0))) ∧ Hid (Below w.heap.size w wr)) (fun y _ _ => (intOf y).toNat)
  case atStart =>
    refine ⟨0, 0, N, a1, e1, none, [], rfl, rfl, by omega, ?_, rfl, EI.zero ha1, he1, World.ownsRow_nil _ _ _ _, H5, H2c, hbw3⟩
    by_cases h : e1 = 0
    · exact .inr h
    · exact .inl (hN0 h)
  case round =>
    clear hN0 H5 H2c hbw3
    obtain ⟨n', c', m, a2, e2, A', es, rfl, rfl, hm, hor, hn, hI, he2, hown, HG, HZ, hbw⟩ := hrel
    obtain ⟨p1, p2, p3, f1, f2, f3⟩ := blk3 HG.out
    by_cases h0 : m = 0
    · have HF := Lib_hid (fun W hW hO => FINT.out W A' n' c' es m a2 e2 hn.out hI.out h0 he2.out hO hW)
      obtain ⟨d0, d1, d2, y0, y1, y2⟩ := blk3 HZ.out
      have hsz := lt_of_block HG.out
      have hdec : ((e2 : Int) == 0) = decide (e2 = 0) := by rw [Bool.eq_iff_iff]; simp
      have hne1 := own_ne_blk hown HZ.out (by decide)
      have HX : Hid (DEns l a e w (.returned (.tuple #[.agg #[.string (str l), .int .i64 (a2 : Int), .int .i64 (e2 : Int)], .slice A' n' c', .bool (decide (e2 = 0))])) (set3 wr (w.heap.size + 1) (.string (str l)) (.int .i64 (a2 : Int)) (.int .i64 (e2 : Int))).drew) := HF.out _ (below_drew_ (set3_below hbw.out (by omega) _ _ _) (n := 1)) (own_keep (set3_own hown hne1 _ _ _) fun _ _ => rfl)
      have HR : Hid ((set3 wr (w.heap.size + 1) (.string (str l)) (.int .i64 (a2 : Int)) (.int .i64 (e2 : Int))).drew.heap[w.heap.size + 1]? = some (.cells #[.string (str l), .int .i64 (a2 : Int), .int .i64 (e2 : Int)] 125 (0, 0))) := set3_block HZ.out
      subst h0
      clear FINT FINF HF hI hor hn he2 HB8 hown HG HZ hbw hne1
      go_upto_region 11 with (fail)
      have hgne : g ≠ w.heap.size + 1 := by omega
      have SS : Hid (∀ (W : World), W.heap = wr.heap → (W.cell? ⟨g, 0, none⟩ = some (.string (str l)) ∧ W.cell? ⟨g, 1, none⟩ = some (.int .i64 (a2 : Int)) ∧ W.cell? ⟨g, 2, none⟩ = some (.int .i64 (e2 : Int)))) := fun W hW => ⟨(World.cell?_of_block (by rw [hW])).trans p1, (World.cell?_of_block (by rw [hW])).trans p2, (World.cell?_of_block (by rw [hW])).trans p3⟩
      have SS2 : Hid (∀ (W : World) (x y z : Value), W.heap = wr.heap → ((set3 W (w.heap.size + 1) x y z).cell? ⟨g, 0, none⟩ = some (.string (str l)) ∧ (set3 W (w.heap.size + 1) x y z).cell? ⟨g, 1, none⟩ = some (.int .i64 (a2 : Int)) ∧ (set3 W (w.heap.size + 1) x y z).cell? ⟨g, 2, none⟩ = some (.int .i64 (e2 : Int)))) := fun W x y z hW => by
        have hk := set3_other W (w.heap.size + 1) x y z g hgne
        rw [hW] at hk
        exact ⟨(World.cell?_of_block hk).trans p1, (World.cell?_of_block hk).trans p2, (World.cell?_of_block hk).trans p3⟩
      go_region_held3 (fun W => W.cell? ⟨g, 0, none⟩ = some (.string (str l)) ∧ W.cell? ⟨g, 1, none⟩ = some (.int .i64 (a2 : Int)) ∧ W.cell? ⟨g, 2, none⟩ = some (.int .i64 (e2 : Int))) (first | exact SS.out _ (by rfl) | exact SS2.out _ _ _ _ (by rfl)) (fail)
      all_goals
        change Exit.then _ _ _ _ (set3 wr (w.heap.size + 1) (.string (str l)) (.int .i64 (a2 : Int)) (.int .i64 (e2 : Int))).drew
        generalize (set3 wr (w.heap.size + 1) (.string (str l)) (.int .i64 (a2 : Int)) (.int .i64 (e2 : Int))).drew = W4 at *
        go_wp2
        exact dens_ret HR.out HX.out _ rfl rfl rfl
    · obtain ⟨m', rfl⟩ : ∃ m', m = m' + 1 := ⟨m - 1, by omega⟩
      obtain rfl : e2 = 0 := by rcases hor.out with h | h <;> omega
      have hmi : (0 : Int) < ((m' + 1 : Nat) : Int) := by omega
      have ha2 := hI.out.le
      obtain ⟨⟨p, e3, xs⟩, hR⟩ : ∃ x, numsR l a2 0 3 = x := ⟨_, rfl⟩
      obtain ⟨⟨q, e4, ms⟩, hW⟩ : ∃ x, rawS l p e3 1 = x := ⟨_, rfl⟩
      obtain ⟨hpp, he3, -⟩ := numsR_le (n := 3) HB8.out ha2 hR
      obtain ⟨hq, he4, hcase⟩ := dent_step HB8.out ha2 hR hW
      have RN := rnums_any l a2 0 3 wr HB8.out hl ha2 (by omega) (by omega)
      rw [hR] at RN
      have RW : Hid (∀ W, Calls Tryz.prog 83 #[.agg #[.string (str l), .int .i64 (p : Int), .int .i64 (e3 : Int)], .int .i64 1] W (RawPost l (q, e4, ms) W)) := fun W => by
        have h := rraw_any l p e3 1 W HB8.out hl hpp he3
        rw [hW] at h
        exact h
      have hsz := lt_of_block HG.out
      clear hR hW FINT he2 hor
      go_upto_region 5 with (fail)
      go_wp2_with fail
      refine RN.mono ?_
      rintro en w4 ⟨A4, c4, rfl, hr4, hb4, hge4⟩
      have H8 := heap_alloc_new w4 (.cells #[.string (str l), .int .i64 (p : Int), .int .i64 (e3 : Int)] 125)
      have hb8 := below_new w4 (.cells #[.string (str l), .int .i64 (p : Int), .int .i64 (e3 : Int)] 125)
      clear p1 p2 p3 f1 f2 f3 RN
      go_upto_region 6 with (fail)
      generalize w4.alloc (.cells #[.string (str l), .int .i64 (p : Int), .int .i64 (e3 : Int)] 125) = w5 at *
      have hr5 := (hr4.below hb8).more hb8.size
      have hb45 := hb4.trans (hb8.mono hb4.size)
      obtain ⟨d0, d1, d2, -, -, -⟩ := blk3 H8
      go_wp2_with fail
      refine (RW.out w5).mono ?_
      rintro en w6 ⟨A6, c6, rfl, hr6, hb6, hge6⟩
      have H10 := heap_alloc_new w6 (.cells #[.string (str l), .int .i64 (q : Int), .int .i64 (e4 : Int)] 125)
      have hb10 := below_new w6 (.cells #[.string (str l), .int .i64 (q : Int), .int .i64 (e4 : Int)] 125)
      clear d0 d1 d2 RW H8
      go_upto_region 7 with (fail)
      generalize w6.alloc (.cells #[.string (str l), .int .i64 (q : Int), .int .i64 (e4 : Int)] 125) = w7 at *
      have hb56 := hb6.trans (hb10.mono hb6.size)
      have hb47 := hb45.trans (hb56.mono hb45.size)
      have hr7n := (hr5.below hb56).more hb56.size
      have hr7b := (hr6.below hb10).more hb10.size
      have HG7 := (hb47.block _ hsz).trans HG.out
      have HZ7 := (hb47.block _ (lt_of_block HZ.out)).trans HZ.out
      have ho7 : w7.ownsRow w.heap.size 91 4 (.slice A' n' c') n' (enCells es) := own_keep hown fun k hk => hb47.block k (own_lt hown k hk)
      have hbw7 := hbw.out.trans (hb47.mono hbw.out.size)
      have hg10 := lt_of_block H10
      obtain ⟨d0, d1, d2, -, -, -⟩ := blk3 H10
      obtain ⟨k0, k1, k2, f1, f2, f3⟩ := blk3 HG7
      have hne := own_ne_blk ho7 HG7 (by decide)
      have hgN : ∀ ad, A4 = some ad → ad.block ≠ g := fun ad h => by have := hge4 ad h; omega
      have hgM : ∀ ad, A6 = some ad → ad.block ≠ g := fun ad h => by have := hge6 ad h; have := hb45.size; omega
      have hrn8 : Hid (Rd (set3 w7 g (.string (str l)) (.int .i64 (q : Int)) (.int .i64 (e4 : Int))) (set3 w7 g (.string (str l)) (.int .i64 (q : Int)) (.int .i64 (e4 : Int))).heap.size 1 A4 xs.length (us xs)) := hr7n.off (fun ad h _ => set3_other _ _ _ _ _ _ (hgN ad h)) (by rw [set3_size]; exact Nat.le_refl _)
      have hrb8 : Hid (Rd (set3 w7 g (.string (str l)) (.int .i64 (q : Int)) (.int .i64 (e4 : Int))) (set3 w7 g (.string (str l)) (.int .i64 (q : Int)) (.int .i64 (e4 : Int))).heap.size 1 A6 ms.length (bs ms)) := hr7b.off (fun ad h _ => set3_other _ _ _ _ _ _ (hgM ad h)) (by rw [set3_size]; exact Nat.le_refl _)
      have HG8 : Hid ((set3 w7 g (.string (str l)) (.int .i64 (q : Int)) (.int .i64 (e4 : Int))).heap[g]? = some (.cells #[.string (str l), .int .i64 (q : Int), .int .i64 (e4 : Int)] 125 (0, 0))) := set3_block HG7
      have HZ8 : Hid ((set3 w7 g (.string (str l)) (.int .i64 (q : Int)) (.int .i64 (e4 : Int))).heap[w.heap.size + 1]? = some (.cells #[.string ⟨#[]⟩, .int .i64 0, .int .i64 0] 125 (0, 0))) := (set3_other _ _ _ _ _ _ (by omega)).trans HZ7
      have ho8 : Hid ((set3 w7 g (.string (str l)) (.int .i64 (q : Int)) (.int .i64 (e4 : Int))).ownsRow w.heap.size 91 4 (.slice A' n' c') n' (enCells es)) := set3_own ho7 hne _ _ _
      have hbw8 : Hid (Below w.heap.size w (set3 w7 g (.string (str l)) (.int .i64 (q : Int)) (.int .i64 (e4 : Int)))) := set3_below hbw7 (by omega) _ _ _
      clear hr4 hb4 hge4 hb8 hr5 hb45 hr6 hb6 hge6 hb10 hb56 hb47 hr7n hr7b HG7 HZ7 ho7 hbw7 hg10 hne hgN hgM H10 hown HG HZ hbw
      go_upto_region 8 with (fail)
      change Code.wp _ _ _ _ (set3 w7 g (.string (str l)) (.int .i64 (q : Int)) (.int .i64 (e4 : Int)))
      generalize set3 w7 g (.string (str l)) (.int .i64 (q : Int)) (.int .i64 (e4 : Int)) = w8 at *
      clear d0 d1 d2 f1 f2 f3 k0 k1 k2
      obtain ⟨p1, p2, p3, -, -, -⟩ := blk3 HG8.out
      obtain ⟨d0, d1, d2, y0, y1, y2⟩ := blk3 HZ8.out
      rcases hcase with ⟨h4, hE⟩ | ⟨rfl, cc, rfl, hc8, h1c, hE⟩ | ⟨rfl, cc, x, y, z, rfl, hc8, h1c, rfl, hE⟩
      · have hz4 : ((e4 : Int) != 0) = true := by simp; omega
        have HX : Hid (DEns l a e w (.returned (.tuple #[.agg #[.string (str l), .int .i64 (q : Int), .int .i64 (e4 : Int)], .slice none 0 0, .bool false])) (set3 w8 (w.heap.size + 1) (.string (str l)) (.int .i64 (q : Int)) (.int .i64 (e4 : Int)))) := FINF.out _ es m' a2 q e4 hI.out hE hq he4 (set3_below hbw8.out (by omega) _ _ _)
        have HR : Hid ((set3 w8 (w.heap.size + 1) (.string (str l)) (.int .i64 (q : Int)) (.int .i64 (e4 : Int))).heap[w.heap.size + 1]? = some (.cells #[.string (str l), .int .i64 (q : Int), .int .i64 (e4 : Int)] 125 (0, 0))) := set3_block HZ8.out
        clear FINF hI HB8 hrn8 hrb8 HG8 HZ8 ho8 hbw8
        go_wp2
        change bodyPost _ _ _ _ _ (set3 w8 (w.heap.size + 1) (.string (str l)) (.int .i64 (q : Int)) (.int .i64 (e4 : Int)))
        generalize (set3 w8 (w.heap.size + 1) (.string (str l)) (.int .i64 (q : Int)) (.int .i64 (e4 : Int))) = W4 at *
        exact dens_ret HR.out HX.out _ rfl rfl rfl
      · obtain ⟨ad, hA, -, hc0⟩ := hrb8.out.byte (k := 0) (by show 0 < 1; omega)
        subst hA
        have hc0 : w8.cell? (ad.add 0) = some (.int .u8 (cc : Int)) := hc0
        rw [show ad.add 0 = ad by simp [Addr.add]] at hc0
        have h1i : (1 : Int) < (cc : Int) := by omega
        have HX : Hid (DEns l a e w (.returned (.tuple #[.agg #[.string (str l), .int .i64 (q : Int), .int .i64 (((0 : Nat)) : Int)], .slice none 0 0, .bool false])) (set3 w8 (w.heap.size + 1) (.string (str l)) (.int .i64 (q : Int)) (.int .i64 (((0 : Nat)) : Int)))) := FINF.out _ es m' a2 q ((0 : Nat)) hI.out hE hq he4 (set3_below hbw8.out (by omega) _ _ _)
        have HR : Hid ((set3 w8 (w.heap.size + 1) (.string (str l)) (.int .i64 (q : Int)) (.int .i64 (((0 : Nat)) : Int))).heap[w.heap.size + 1]? = some (.cells #[.string (str l), .int .i64 (q : Int), .int .i64 (((0 : Nat)) : Int)] 125 (0, 0))) := set3_block HZ8.out
        clear FINF hI HB8 hrn8 hrb8 HG8 HZ8 ho8 hbw8
        go_wp2
        change bodyPost _ _ _ _ _ (set3 w8 (w.heap.size + 1) (.string (str l)) (.int .i64 (q : Int)) (.int .i64 (((0 : Nat)) : Int)))
        generalize (set3 w8 (w.heap.size + 1) (.string (str l)) (.int .i64 (q : Int)) (.int .i64 (((0 : Nat)) : Int))) = W4 at *
        exact dens_ret HR.out HX.out _ rfl rfl rfl
      · have hn3 : ([x, y, z] : List Nat).length = 3 := rfl
        have hn1 : ([cc] : List Nat).length = 1 := rfl
        rw [hn3] at *
        rw [hn1] at *
        obtain ⟨ad, v0, rfl, hv0, -⟩ := hrn8.out.num (k := 0) (by simp)
        obtain ⟨ad6, rfl, -, -⟩ := hrb8.out.byte (k := 0) (by simp)
        have CX : Hid (∀ W, Below w8.heap.size w8 W → W.cell? ad = some (.int .u64 (x : Int)) ∧ W.cell? (ad.add 1) = some (.int .u64 (y : Int)) ∧ W.cell? (ad.add 2) = some (.int .u64 (z : Int)) ∧ W.cell? ad6 = some (.int .u8 (cc : Int))) := fun W hW => by
          obtain ⟨b0, u0, i0', j0, c0⟩ := (hrn8.out.below hW).num (k := 0) (by simp)
          obtain ⟨b1, u1, i1, j1, c1⟩ := (hrn8.out.below hW).num (k := 1) (by simp)
          obtain ⟨b2, u2, i2, j2, c2⟩ := (hrn8.out.below hW).num (k := 2) (by simp)
          obtain ⟨b3, i3, -, c3⟩ := (hrb8.out.below hW).byte (k := 0) (by simp)
          injection i0' with i0'
          injection i1 with i1
          injection i2 with i2
          injection i3 with i3
          subst i0' i1 i2 i3
          obtain rfl : x = u0 := Option.some.inj j0
          obtain rfl : y = u1 := Option.some.inj j1
          obtain rfl : z = u2 := Option.some.inj j2
          rw [show ad.add 0 = ad by simp [Addr.add]] at c0
          rw [show ad6.add 0 = ad6 by simp [Addr.add]] at c3
          exact ⟨c0, c1, c2, c3⟩
        have h1i : ¬ (1 : Int) < (cc : Int) := by omega
        obtain ⟨em, hem⟩ : ∃ em, (cc == 1) = em := ⟨_, rfl⟩
        have hem2 : ((cc : Int) == 1) = em := by rw [← hem, Bool.eq_iff_iff]; simp; omega
        rw [hem] at hE
        have hex := (entT_some HB8.out hE).1
        have HEI := Lib_hid (hI.out.step HB8.out ⟨rfl, rfl⟩ hex hq (⟨fun hn => absurd ⟨rfl, rfl⟩ hn, fun _ => .inl ⟨hE, ⟨rfl, rfl⟩⟩⟩ : Took (entT l a2) 0 false ⟨x, y, z, em⟩ q 0 false))
        have hlen := hI.out.len
        have hm1 : n' + 1 ≤ maxLen := by have := hn.out; unfold maxLen; omega
        have hm2 : (n' + 1) * 32 ≤ 140737488355328 := by have := hn.out; omega
        obtain ⟨-, -, -, cb⟩ := CX.out w8 (Below.refl _ _)
        clear FINF hI hrn8 hrb8 hE hex hem hv0
        go_upto_region 10 with (fail)
        clear p1 p2 p3 d0 d1 d2 y0 y1 y2 cb
        refine wp_region_midU (N := 70) 17 (fun i v ww => ([fun v ww => v = .slice A' n' c', fun v ww => v = .slice (some ad) 3 c4, fun v ww => v = .pointer (some ad), fun v ww => v = .int .u64 (x : Int), fun v ww => v = .slice (some ad) 3 c4, fun v ww => v = .pointer (some (ad.add 1)), fun v ww => v = .int .u64 (y : Int), fun v ww => v = .slice (some ad) 3 c4, fun v ww => v = .pointer (some (ad.add 2)), fun v ww => v = .int .u64 (z : Int), fun v ww => v = .agg #[.int .u64 (y : Int), .int .u64 (z : Int)], fun v ww => v = .slice (some ad6) 1 c6, fun v ww => v = .pointer (some ad6), fun v ww => v = .int .u8 (cc : Int), fun v ww => v = .bool em, fun v ww => v = .agg #[.int .u64 (x : Int), .int .u64 (y : Int), .int .u64 (z : Int), .bool em], fun v ww => ∃ h, v = .slice (some ⟨h, 0, none⟩) 1 1 ∧ ww.heap[h]? = some (.cells #[.int .u64 (x : Int), .int .u64 (y : Int), .int .u64 (z : Int), .bool em] 91 (0, 0))] : List (Value → World → Prop)).getD i (fun _ _ => True) v ww) (by kernel_rfl) (by kernel_rfl) (by kernel_rfl) rfl ?_ ?_ ?_
        · intro i v wa wb h0 hb hp
          by_cases hi : i < 17
          · have hcase : i = 0 ∨ i = 1 ∨ i = 2 ∨ i = 3 ∨ i = 4 ∨ i = 5 ∨ i = 6 ∨ i = 7 ∨ i = 8 ∨ i = 9 ∨ i = 10 ∨ i = 11 ∨ i = 12 ∨ i = 13 ∨ i = 14 ∨ i = 15 ∨ i = 16 := by omega
            rcases hcase with rfl | rfl | rfl | rfl | rfl | rfl | rfl | rfl | rfl | rfl | rfl | rfl | rfl | rfl | rfl | rfl | rfl
            · exact hp
            · exact hp
            · exact hp
            · exact hp
            · exact hp
            · exact hp
            · exact hp
            · exact hp
            · exact hp
            · exact hp
            · exact hp
            · exact hp
            · exact hp
            · exact hp
            · exact hp
            · exact hp
            · obtain ⟨h, e, hh⟩ := hp
              exact ⟨h, e, (hb.block h (lt_of_block hh)).trans hh⟩
          · have hnn : ([fun v ww => v = .slice A' n' c', fun v ww => v = .slice (some ad) 3 c4, fun v ww => v = .pointer (some ad), fun v ww => v = .int .u64 (x : Int), fun v ww => v = .slice (some ad) 3 c4, fun v ww => v = .pointer (some (ad.add 1)), fun v ww => v = .int .u64 (y : Int), fun v ww => v = .slice (some ad) 3 c4, fun v ww => v = .pointer (some (ad.add 2)), fun v ww => v = .int .u64 (z : Int), fun v ww => v = .agg #[.int .u64 (y : Int), .int .u64 (z : Int)], fun v ww => v = .slice (some ad6) 1 c6, fun v ww => v = .pointer (some ad6), fun v ww => v = .int .u8 (cc : Int), fun v ww => v = .bool em, fun v ww => v = .agg #[.int .u64 (x : Int), .int .u64 (y : Int), .int .u64 (z : Int), .bool em], fun v ww => ∃ h, v = .slice (some ⟨h, 0, none⟩) 1 1 ∧ ww.heap[h]? = some (.cells #[.int .u64 (x : Int), .int .u64 (y : Int), .int .u64 (z : Int), .bool em] 91 (0, 0))] : List (Value → World → Prop))[i]? = none := List.getElem?_eq_none (by simpa using hi)
            rw [List.getD_eq_getElem?_getD, hnn]
            trivial
        · intro i o a wx hi8 hi hM hU hD
          have hcase : i = 0 ∨ i = 1 ∨ i = 2 ∨ i = 3 ∨ i = 4 ∨ i = 5 ∨ i = 6 ∨ i = 7 ∨ i = 8 ∨ i = 9 ∨ i = 10 ∨ i = 11 ∨ i = 12 ∨ i = 13 ∨ i = 14 ∨ i = 15 ∨ i = 16 := by omega
          clear hi8
          rcases hcase with rfl | rfl | rfl | rfl | rfl | rfl | rfl | rfl | rfl | rfl | rfl | rfl | rfl | rfl | rfl | rfl | rfl
          · obtain rfl := Option.some.inj hi
            have e7 : a.tmps.getD 7 undef = .slice A' n' c' := (hU 7 ⟨18, _, by decide, rfl, rfl⟩).trans rfl
            refine ⟨rfl, mid_step (.slice A' n' c') wx (fun K hK => ?_) ⟨_, rfl, rfl, Below.refl _ _⟩⟩
            go_simp
            exact hK
          · obtain rfl := Option.some.inj hi
            have e9 : a.tmps.getD 9 undef = .slice (some ad) 3 c4 := (hM.other 9 (by decide +kernel)).trans rfl
            refine ⟨rfl, mid_step (.slice (some ad) 3 c4) wx (fun K hK => ?_) ⟨_, rfl, rfl, Below.refl _ _⟩⟩
            go_simp
            exact hK
          · obtain rfl := Option.some.inj hi
            have e48 : a.tmps.getD 48 undef = .slice (some ad) 3 c4 := hD 1 (by kernel_rfl) _ 48 rfl rfl
            refine ⟨rfl, mid_step (.pointer (some ad)) wx (fun K hK => ?_) ⟨_, rfl, rfl, Below.refl _ _⟩⟩
            go_simp
            exact hK
          · obtain rfl := Option.some.inj hi
            have e49 : a.tmps.getD 49 undef = .pointer (some ad) := hD 2 (by kernel_rfl) _ 49 rfl rfl
            obtain ⟨j0, j1, j2, j3⟩ := CX.out wx hM.below
            refine ⟨rfl, mid_step (.int .u64 (x : Int)) wx (fun K hK => ?_) ⟨_, rfl, rfl, Below.refl _ _⟩⟩
            go_simp
            exact hK
          · obtain rfl := Option.some.inj hi
            have e9 : a.tmps.getD 9 undef = .slice (some ad) 3 c4 := (hM.other 9 (by decide +kernel)).trans rfl
            refine ⟨rfl, mid_step (.slice (some ad) 3 c4) wx (fun K hK => ?_) ⟨_, rfl, rfl, Below.refl _ _⟩⟩
            go_simp
            exact hK
          · obtain rfl := Option.some.inj hi
            have e51 : a.tmps.getD 51 undef = .slice (some ad) 3 c4 := hD 4 (by kernel_rfl) _ 51 rfl rfl
            refine ⟨rfl, mid_step (.pointer (some (ad.add 1))) wx (fun K hK => ?_) ⟨_, rfl, rfl, Below.refl _ _⟩⟩
            go_simp
            exact hK
          · obtain rfl := Option.some.inj hi
            have e52 : a.tmps.getD 52 undef = .pointer (some (ad.add 1)) := hD 5 (by kernel_rfl) _ 52 rfl rfl
            obtain ⟨j0, j1, j2, j3⟩ := CX.out wx hM.below
            simp [Addr.add] at j1 j2
            refine ⟨rfl, mid_step (.int .u64 (y : Int)) wx (fun K hK => ?_) ⟨_, rfl, rfl, Below.refl _ _⟩⟩
            go_simp
            exact hK
          · obtain rfl := Option.some.inj hi
            have e9 : a.tmps.getD 9 undef = .slice (some ad) 3 c4 := (hM.other 9 (by decide +kernel)).trans rfl
            refine ⟨rfl, mid_step (.slice (some ad) 3 c4) wx (fun K hK => ?_) ⟨_, rfl, rfl, Below.refl _ _⟩⟩
            go_simp
            exact hK
          · obtain rfl := Option.some.inj hi
            have e54 : a.tmps.getD 54 undef = .slice (some ad) 3 c4 := hD 7 (by kernel_rfl) _ 54 rfl rfl
            refine ⟨rfl, mid_step (.pointer (some (ad.add 2))) wx (fun K hK => ?_) ⟨_, rfl, rfl, Below.refl _ _⟩⟩
            go_simp
            exact hK
          · obtain rfl := Option.some.inj hi
            have e55 : a.tmps.getD 55 undef = .pointer (some (ad.add 2)) := hD 8 (by kernel_rfl) _ 55 rfl rfl
            obtain ⟨j0, j1, j2, j3⟩ := CX.out wx hM.below
            simp [Addr.add] at j1 j2
            refine ⟨rfl, mid_step (.int .u64 (z : Int)) wx (fun K hK => ?_) ⟨_, rfl, rfl, Below.refl _ _⟩⟩
            go_simp
            exact hK
          · obtain rfl := Option.some.inj hi
            have e53 : a.tmps.getD 53 undef = .int .u64 (y : Int) := hD 6 (by kernel_rfl) _ 53 rfl rfl
            have e56 : a.tmps.getD 56 undef = .int .u64 (z : Int) := hD 9 (by kernel_rfl) _ 56 rfl rfl
            have f53 := e53
            have f56 := e56
            rw [Array.getD_eq_getD_getElem?] at f53 f56
            refine ⟨rfl, mid_step (.agg #[.int .u64 (y : Int), .int .u64 (z : Int)]) wx (fun K hK => ?_) ⟨_, rfl, rfl, Below.refl _ _⟩⟩
            go_simp
            exact hK
          · obtain rfl := Option.some.inj hi
            have e11 : a.tmps.getD 11 undef = .slice (some ad6) 1 c6 := (hM.other 11 (by decide +kernel)).trans rfl
            refine ⟨rfl, mid_step (.slice (some ad6) 1 c6) wx (fun K hK => ?_) ⟨_, rfl, rfl, Below.refl _ _⟩⟩
            go_simp
            exact hK
          · obtain rfl := Option.some.inj hi
            have e58 : a.tmps.getD 58 undef = .slice (some ad6) 1 c6 := hD 11 (by kernel_rfl) _ 58 rfl rfl
            refine ⟨rfl, mid_step (.pointer (some ad6)) wx (fun K hK => ?_) ⟨_, rfl, rfl, Below.refl _ _⟩⟩
            go_simp
            exact hK
          · obtain rfl := Option.some.inj hi
            have e59 : a.tmps.getD 59 undef = .pointer (some ad6) := hD 12 (by kernel_rfl) _ 59 rfl rfl
            obtain ⟨j0, j1, j2, j3⟩ := CX.out wx hM.below
            refine ⟨rfl, mid_step (.int .u8 (cc : Int)) wx (fun K hK => ?_) ⟨_, rfl, rfl, Below.refl _ _⟩⟩
            go_simp
            exact hK
          · obtain rfl := Option.some.inj hi
            have e60 : a.tmps.getD 60 undef = .int .u8 (cc : Int) := hD 13 (by kernel_rfl) _ 60 rfl rfl
            refine ⟨rfl, mid_step (.bool em) wx (fun K hK => ?_) ⟨_, rfl, rfl, Below.refl _ _⟩⟩
            go_simp
            first | exact hK | (rw [hem2]; exact hK) | simpa [hem2] using hK
          · obtain rfl := Option.some.inj hi
            have e50 : a.tmps.getD 50 undef = .int .u64 (x : Int) := hD 3 (by kernel_rfl) _ 50 rfl rfl
            have e57 : a.tmps.getD 57 undef = .agg #[.int .u64 (y : Int), .int .u64 (z : Int)] := hD 10 (by kernel_rfl) _ 57 rfl rfl
            have e61 : a.tmps.getD 61 undef = .bool em := hD 14 (by kernel_rfl) _ 61 rfl rfl
            have f50 := e50
            have f57 := e57
            have f61 := e61
            rw [Array.getD_eq_getD_getElem?] at f50 f57 f61
            refine ⟨rfl, mid_step (.agg #[.int .u64 (x : Int), .int .u64 (y : Int), .int .u64 (z : Int), .bool em]) wx (fun K hK => ?_) ⟨_, rfl, rfl, Below.refl _ _⟩⟩
            go_simp
            exact hK
          · obtain rfl := Option.some.inj hi
            have e62 : a.tmps.getD 62 undef = .agg #[.int .u64 (x : Int), .int .u64 (y : Int), .int .u64 (z : Int), .bool em] := hD 15 (by kernel_rfl) _ 62 rfl rfl
            have f62 := e62
            rw [Array.getD_eq_getD_getElem?] at f62
            refine ⟨rfl, mid_step (.slice (some ⟨wx.heap.size, 0, none⟩) 1 1) (wx.alloc (.cells #[.int .u64 (x : Int), .int .u64 (y : Int), .int .u64 (z : Int), .bool em] 91)) (fun K hK => ?_) ⟨_, rfl, ⟨_, rfl, heap_alloc_new _ _⟩, below_new _ _⟩⟩
            go_simp
            exact hK
        · intro a wx hM hU hD
          have q0 := hD 0 (by decide) _ 47 rfl rfl
          have q1 := hD 1 (by decide) _ 48 rfl rfl
          have q2 := hD 2 (by decide) _ 49 rfl rfl
          have q3 := hD 3 (by decide) _ 50 rfl rfl
          have q4 := hD 4 (by decide) _ 51 rfl rfl
          have q5 := hD 5 (by decide) _ 52 rfl rfl
          have q6 := hD 6 (by decide) _ 53 rfl rfl
          have q7 := hD 7 (by decide) _ 54 rfl rfl
          have q8 := hD 8 (by decide) _ 55 rfl rfl
          have q9 := hD 9 (by decide) _ 56 rfl rfl
          have q10 := hD 10 (by decide) _ 57 rfl rfl
          have q11 := hD 11 (by decide) _ 58 rfl rfl
          have q12 := hD 12 (by decide) _ 59 rfl rfl
          have q13 := hD 13 (by decide) _ 60 rfl rfl
          have q14 := hD 14 (by decide) _ 61 rfl rfl
          have q15 := hD 15 (by decide) _ 62 rfl rfl
          obtain ⟨hx, e63, hh⟩ := hD 16 (by decide) _ 63 rfl rfl
          have q16 : a.tmps.getD 63 undef = .slice (some ⟨hx, 0, none⟩) 1 1 := by assumption
          have hact := act_puts (a := a) [(47, .slice A' n' c'), (48, .slice (some ad) 3 c4), (49, .pointer (some ad)), (50, .int .u64 (x : Int)), (51, .slice (some ad) 3 c4), (52, .pointer (some (ad.add 1))), (53, .int .u64 (y : Int)), (54, .slice (some ad) 3 c4), (55, .pointer (some (ad.add 2))), (56, .int .u64 (z : Int)), (57, .agg #[.int .u64 (y : Int), .int .u64 (z : Int)]), (58, .slice (some ad6) 1 c6), (59, .pointer (some ad6)), (60, .int .u8 (cc : Int)), (61, .bool em), (62, .agg #[.int .u64 (x : Int), .int .u64 (y : Int), .int .u64 (z : Int), .bool em]), (63, .slice (some ⟨hx, 0, none⟩) 1 1)] _ hM.tmps hM.defers (by
            intro s v hm
            simp only [List.mem_cons, Prod.mk.injEq, List.not_mem_nil, or_false] at hm
            rcases hm with ⟨rfl, rfl⟩ | ⟨rfl, rfl⟩ | ⟨rfl, rfl⟩ | ⟨rfl, rfl⟩ | ⟨rfl, rfl⟩ | ⟨rfl, rfl⟩ | ⟨rfl, rfl⟩ | ⟨rfl, rfl⟩ | ⟨rfl, rfl⟩ | ⟨rfl, rfl⟩ | ⟨rfl, rfl⟩ | ⟨rfl, rfl⟩ | ⟨rfl, rfl⟩ | ⟨rfl, rfl⟩ | ⟨rfl, rfl⟩ | ⟨rfl, rfl⟩ | ⟨rfl, rfl⟩
            · exact ⟨(by show 47 < 70; decide), q0⟩
            · exact ⟨(by show 48 < 70; decide), q1⟩
            · exact ⟨(by show 49 < 70; decide), q2⟩
            · exact ⟨(by show 50 < 70; decide), q3⟩
            · exact ⟨(by show 51 < 70; decide), q4⟩
            · exact ⟨(by show 52 < 70; decide), q5⟩
            · exact ⟨(by show 53 < 70; decide), q6⟩
            · exact ⟨(by show 54 < 70; decide), q7⟩
            · exact ⟨(by show 55 < 70; decide), q8⟩
            · exact ⟨(by show 56 < 70; decide), q9⟩
            · exact ⟨(by show 57 < 70; decide), q10⟩
            · exact ⟨(by show 58 < 70; decide), q11⟩
            · exact ⟨(by show 59 < 70; decide), q12⟩
            · exact ⟨(by show 60 < 70; decide), q13⟩
            · exact ⟨(by show 61 < 70; decide), q14⟩
            · exact ⟨(by show 62 < 70; decide), q15⟩
            · exact ⟨(by show 63 < 70; decide), q16⟩) (fun s hs => by
      by_cases ht : s ∈ ([64, 7] : List Nat)
      · simp only [List.mem_cons, List.not_mem_nil, or_false] at ht
        rcases ht with rfl | rfl
        · exact hU 64 ⟨17, _, by decide, rfl, rfl⟩
        · exact hU 7 ⟨18, _, by decide, rfl, rfl⟩
      · exact hM.other s fun h => (List.mem_append.1 (show s ∈ ([47, 48, 49, 50, 51, 52, 53, 54, 55, 56, 57, 58, 59, 60, 61, 62, 63] : List Nat) ++ [64, 7] from h)).elim (fun h => hs h) (fun h => ht h))
          rw [hact]
          have hBX := hM.below
          clear hact hD hM hU q0 q1 q2 q3 q4 q5 q6 q7 q8 q9 q10 q11 q12 q13 q14 q15 q16
          simp only [List.foldl, Act.put, List.setIfInBounds_toArray, List.set_cons_succ, List.set_cons_zero, List.drop_succ_cons, List.drop_zero]
          have ho9 := own_below ho8.out hBX (own_lt ho8.out)
          have HG9 := (hBX.block _ (lt_of_block HG8.out)).trans HG8.out
          have HZ9 := (hBX.block _ (lt_of_block HZ8.out)).trans HZ8.out
          have hbw9 := hbw8.out.trans (hBX.mono hbw8.out.size)
          have hr9 := rd_row (size := 4) (n := 1) (l := [.int .u64 (x : Int), .int .u64 (y : Int), .int .u64 (z : Int), .bool em]) hh rfl
          have h1c : ∀ u ∈ ([.int .u64 (x : Int), .int .u64 (y : Int), .int .u64 (z : Int), .bool em] : List Value), u.oneCell' = true := by
            intro u hu
            simp only [List.mem_cons, List.not_mem_nil, or_false] at hu
            rcases hu with rfl | rfl | rfl | rfl <;> rfl
          have hs9 := hbw9.size
          have hneG := own_ne_blk ho9 HG9 (by decide)
          have hneZ := own_ne_blk ho9 HZ9 (by decide)
          have HG9' := Lib_hid HG9
          have HZ9' := Lib_hid HZ9
          have HB9 := Lib_hid hbw9
          have HNG := Lib_hid hneG
          have HNZ := Lib_hid hneZ
          clear HG9 HZ9 hbw9 hneG hneZ hBX e63 CX HG8 HZ8 ho8 hbw8 h1i hem2 hlen HB8
          go_wp2_with (at_builtin; (refine wpList_app rfl _ _ 35 rfl w.heap.size 91 i0 (.agg #[.int .u64 0, .int .u64 0, .int .u64 0, .bool false]) 4 32 Tryz.underlying35 hi0 hz0 hz1 hz2 rfl (by decide) (.slice A' n' c') n' _ rfl ho9 _ _ 1 1 _ rfl hr9 h1c hm1 hm2 hs9 ?_); intro v' w13 hown' hst; obtain ⟨A7, c7, rfl, _⟩ := own_form hown')
          go_roundw
          case rel =>
            have hge := own_ge ho9
            have hec : enCells (es ++ [⟨x, y, z, em⟩]) = enCells es ++ [.int .u64 (x : Int), .int .u64 (y : Int), .int .u64 (z : Int), .bool em] := by rw [enCells_append]; simp [enCells, En.cells]
            refine ⟨n' + 1, c7, m', q, 0, A7, es ++ [⟨x, y, z, em⟩], rfl, by go_num, by omega, .inr rfl, Lib_hid (by rw [List.length_append, ← hn.out]; rfl), HEI, by show 0 < 1000; omega, by rw [hec]; exact hown', ?_, ?_, ?_⟩
            · exact (hst.grow.block _ (lt_of_block HG9'.out) (fun h => HNG.out h.symm)).trans HG9'.out
            · exact (hst.grow.block _ (lt_of_block HZ9'.out) (fun h => HNZ.out h.symm)).trans HZ9'.out
            · exact ⟨hst.grow.os.trans HB9.out.os, hst.grow.tape.trans HB9.out.tape, hst.grow.output.trans HB9.out.output, Nat.le_trans HB9.out.size hst.grow.size, fun i hi => (hst.grow.block i (by omega) (fun h => by have := hge i h.symm; omega)).trans (HB9.out.block i hi)⟩
          case measure => simp [intOf]
end Go.Proofs.YtdmoknnnlfkfoaaGreatDoor

namespace Go.Proofs.YtdmoknnnlfkfoaaGreatDoor
open Go Go.RowKit
set_option linter.unusedVariables false
def manyP (k : Nat) : Nat := ([0, 1, 4, 3, 2, 1, 1, 1] : List Nat).getD k 0
theorem pay_1 (l : List Nat) {k : Nat} (hk : k = 1 ∨ k = 6 ∨ k = 7) : payB k l = (nusT l 0 1).bind fun x => if x.2 = l.length then some ({ Rc.zero k with t := x.1.getD 0 0 } : Rc) else none := by
  unfold payB
  have h : partsN (k : Int) 6 = [0] := by rcases hk with rfl | rfl | rfl <;> decide
  rw [h, goT_1]
  cases nusT l 0 1 with
  | none => rfl
  | some x => rfl
theorem pay_2 (l : List Nat) : payB 2 l = (nusT l 0 4).bind fun x => if x.2 = l.length then some ({ Rc.zero 2 with t := x.1.getD 0 0, x := x.1.getD 1 0, w := x.1.getD 2 0, n := x.1.getD 3 0 } : Rc) else none := by
  unfold payB
  rw [show partsN ((2 : Nat) : Int) 6 = [0, 1, 2] from by decide]
  show (goT l (Rc.zero 2) 0 [0, 1, 2]).bind _ = _
  rw [goT_2]
  cases nusT l 0 4 with
  | none => rfl
  | some x => rfl
theorem pay_3 (l : List Nat) : payB 3 l = (nusT l 0 3).bind fun x => if x.2 = l.length then some ({ Rc.zero 3 with t := x.1.getD 0 0, x := x.1.getD 1 0, v := x.1.getD 2 0 } : Rc) else none := by
  unfold payB
  rw [show partsN ((3 : Nat) : Int) 6 = [0, 1, 3] from by decide]
  show (goT l (Rc.zero 3) 0 [0, 1, 3]).bind _ = _
  rw [goT_3]
  cases nusT l 0 3 with
  | none => rfl
  | some x => rfl
theorem pay_4 (l : List Nat) : payB 4 l = (nusT l 0 2).bind fun x => if x.2 = l.length then some ({ Rc.zero 4 with t := x.1.getD 0 0, x := x.1.getD 1 0 } : Rc) else none := by
  unfold payB
  rw [show partsN ((4 : Nat) : Int) 6 = [0, 1] from by decide]
  show (goT l (Rc.zero 4) 0 [0, 1]).bind _ = _
  rw [goT_4]
  cases nusT l 0 2 with
  | none => rfl
  | some x => rfl
theorem pay_5 (l : List Nat) : payB 5 l = (nusT l 0 1).bind fun x => (txtT l x.2).bind fun y => (parseT y.1).bind fun p => (ensT l y.2).bind fun z => if z.2 = l.length then some ({ Rc.zero 5 with t := x.1.getD 0 0, p := p, es := z.1 } : Rc) else none := by
  unfold payB
  rw [show partsN ((5 : Nat) : Int) 6 = [0, 4, 5] from by decide]
  show (goT l (Rc.zero 5) 0 [0, 4, 5]).bind _ = _
  rw [goT_5]
  cases nusT l 0 1 with
  | none => rfl
  | some x =>
    simp only [Option.bind_some]
    cases txtT l x.2 with
    | none => rfl
    | some y =>
      simp only [Option.bind_some]
      cases parseT y.1 with
      | none => rfl
      | some p =>
        simp only [Option.bind_some]
        cases ensT l y.2 with
        | none => rfl
        | some z => rfl
theorem kinds7 {k : Nat} (h1 : 1 ≤ k) (h7 : k ≤ 7) : (k = 1 ∨ k = 6 ∨ k = 7) ∨ k = 2 ∨ k = 3 ∨ k = 4 ∨ k = 5 := by omega
theorem pay_none {k : Nat} {l : List Nat} (h1 : 1 ≤ k) (h7 : k ≤ 7) (h : nusT l 0 (manyP k) = none) : payB k l = none := by
  rcases kinds7 h1 h7 with hk | rfl | rfl | rfl | rfl
  · rw [pay_1 l hk]
    rw [show manyP k = 1 by rcases hk with rfl | rfl | rfl <;> rfl] at h
    rw [h]; rfl
  · rw [pay_2, show nusT l 0 4 = none from h]; rfl
  · rw [pay_3, show nusT l 0 3 = none from h]; rfl
  · rw [pay_4, show nusT l 0 2 = none from h]; rfl
  · rw [pay_5, show nusT l 0 1 = none from h]; rfl
theorem pay5_bad {l m : List Nat} {t a a1 e1 : Nat} {ok : Bool} (h : nusT l 0 1 = some ([t], a)) (hS : Took (txtT l a) 0 false m a1 e1 false)
    (hE : e1 = 0 → ok = false → ensT l a1 = none) (hE1 : e1 ≠ 0 → ok = false) (hb : (ansT (parseT m)).2 ≠ 0 ∨ ok = false) : payB 5 l = none := by
  rw [pay_5, h, Option.bind_some]
  show (txtT l a).bind _ = none
  rcases hS.2 ⟨rfl, rfl⟩ with ⟨k1, k2⟩ | ⟨k1, k2⟩
  · rw [k1, Option.bind_some]
    show (parseT m).bind _ = none
    cases hp : parseT m with
    | none => rfl
    | some p =>
      rw [Option.bind_some]
      show (ensT l a1).bind _ = none
      rw [hp] at hb
      rcases hb with hb | hb
      · exact absurd rfl hb
      · rw [hE k2.1 hb]; rfl
  · rw [k1]; rfl
theorem pay5_good {l m : List Nat} {t a a1 e1 a2 : Nat} {es : List En} (h : nusT l 0 1 = some ([t], a)) (hS : Took (txtT l a) 0 false m a1 e1 false) (he : e1 = 0)
    (hz : (ansT (parseT m)).2 = 0) (hE : ensT l a1 = some (es, a2)) : payB 5 l = if a2 = l.length then some ({ Rc.zero 5 with t := t, p := (ansT (parseT m)).1, es := es } : Rc) else none := by
  rw [pay_5, h, Option.bind_some]
  show (txtT l a).bind _ = _
  rcases hS.2 ⟨rfl, rfl⟩ with ⟨k1, k2⟩ | ⟨k1, k2⟩
  · rw [k1, Option.bind_some]
    show (parseT m).bind _ = _
    cases hp : parseT m with
    | none => rw [hp] at hz; cases hz
    | some p =>
      rw [Option.bind_some]
      show (ensT l a1).bind _ = _
      rw [hE]
      rfl
  · exact absurd ⟨he, rfl⟩ k2
end Go.Proofs.YtdmoknnnlfkfoaaGreatDoor

namespace Go.Proofs.YtdmoknnnlfkfoaaGreatDoor
open Go Go.RowKit
set_option linter.unusedVariables false
end Go.Proofs.YtdmoknnnlfkfoaaGreatDoor

namespace Go.Proofs.YtdmoknnnlfkfoaaGreatDoor
open Go Go.RowKit
set_option linter.unusedVariables false
end Go.Proofs.YtdmoknnnlfkfoaaGreatDoor

namespace Go.Proofs.YtdmoknnnlfkfoaaGreatDoor
open Go Go.RowKit
set_option linter.unusedVariables false
end Go.Proofs.YtdmoknnnlfkfoaaGreatDoor
