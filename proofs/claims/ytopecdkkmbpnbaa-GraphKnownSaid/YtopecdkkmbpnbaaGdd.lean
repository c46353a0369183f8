/-
  Layer 13: the document's Add, where all edges are between nodes.
-/
import Derived.Test.YtopecdkkmbpnbaaGdc
namespace Go.Proofs.Ytopecdkkmbpnbaa
open Go Go.RowKit Go.Maps
set_option linter.unusedVariables false

theorem Rd.offD {w w' : World} {B B' size n : Nat} {A : Option Addr} {xs : List Value} (h : Rd w B size A n xs) (hk : ∀ ad, A = some ad → ad.block < B → w'.heap[ad.block]? = w.heap[ad.block]?) (hB : B ≤ B') : Rd w' B' size A n xs :=
  ⟨h.len, fun hn => by
    obtain ⟨ad, e, hb, hc⟩ := h.lies hn
    refine ⟨ad, e, by omega, fun j u hu => (World.cell?_of_block ?_).trans (hc j u hu)⟩
    show w'.heap[(ad.add j).block]? = w.heap[(ad.add j).block]?
    have e2 : (ad.add j).block = ad.block := by unfold Addr.add; split <;> rfl
    rw [e2]; exact hk ad e hb⟩
/-- A graph stored whole into its box: the row behind it stays. -/
theorem add_store {w w9 : World} {q base n c4 size : Nat} {T E : TypeId} {x v : Value} {N : Int} {A4 : Option Addr} {xs : List Value} (zo : w9.heap[q]? = some (.cells #[.int .i64 N, x] T (0, 0))) (ho : w9.ownsRow base E size (.slice A4 n c4) n xs) (hq : q + 2 ≤ base) (hb : Below q w w9) :
    ((w9.setCell ⟨q, 0, none⟩ (.int .i64 N)).setCell ⟨q, 1, none⟩ v).heap[q]? = some (.cells #[.int .i64 N, v] T (0, 0)) ∧ ((w9.setCell ⟨q, 0, none⟩ (.int .i64 N)).setCell ⟨q, 1, none⟩ v).heap[q + 1]? = w9.heap[q + 1]? ∧ Below q w ((w9.setCell ⟨q, 0, none⟩ (.int .i64 N)).setCell ⟨q, 1, none⟩ v) ∧
      ∀ V : World, ((w9.setCell ⟨q, 0, none⟩ (.int .i64 N)).setCell ⟨q, 1, none⟩ v).heap.size ≤ V.heap.size → (∀ p, p < ((w9.setCell ⟨q, 0, none⟩ (.int .i64 N)).setCell ⟨q, 1, none⟩ v).heap.size → p ≠ q → p ≠ q + 1 → V.heap[p]? = ((w9.setCell ⟨q, 0, none⟩ (.int .i64 N)).setCell ⟨q, 1, none⟩ v).heap[p]?) → Rd V ((w9.setCell ⟨q, 0, none⟩ (.int .i64 N)).setCell ⟨q, 1, none⟩ v).heap.size size A4 n xs := by
  have z1 : (w9.setCell ⟨q, 0, none⟩ (.int .i64 N)).heap[q]? = some (.cells #[.int .i64 N, x] T (0, 0)) := by rw [heap_setCell_same _ q 0 _ _ _ zo]; rfl
  have ho2 : ∀ p, p ≠ q → ((w9.setCell ⟨q, 0, none⟩ (.int .i64 N)).setCell ⟨q, 1, none⟩ v).heap[p]? = w9.heap[p]? := fun p hp => (heap_setCell_other _ ⟨q, 1, none⟩ p _ hp).trans (heap_setCell_other _ ⟨q, 0, none⟩ p _ hp)
  have hs : ((w9.setCell ⟨q, 0, none⟩ (.int .i64 N)).setCell ⟨q, 1, none⟩ v).heap.size = w9.heap.size := by simp
  refine ⟨by rw [heap_setCell_same _ q 1 _ _ _ z1]; rfl, ho2 _ (by omega), (hb.setCell (p := ⟨q, 0, none⟩) (Nat.le_refl _) _).setCell (p := ⟨q, 1, none⟩) (Nat.le_refl _) _, fun V hV hk => ?_⟩
  refine Rd.offD (Rd.own ho) (fun ad hA hlt => ?_) (by rw [hs]; exact Nat.le_refl _)
  have hg : base ≤ ad.block := own_ge ho ad.block (by subst hA; rfl)
  rw [hk _ (by rw [hs]; exact hlt) (by omega) (by omega)]
  exact ho2 _ (by omega)

/-- How the document's Add ends. -/
def RaEnd (A0 : Option Addr) (N : Nat) (l : List Ed) (cnt : Int) (w : World) (r : Ending) (w' : World) : Prop := ∃ (A : Option Addr) (c : Nat), r = .returned (.tuple #[.agg #[.int .i64 (N : Int), .slice A l.length c], .int .i64 cnt, .int .i64 0]) ∧ Rd w' w'.heap.size 3 A l.length (ec l) ∧ Below w.heap.size w w' ∧ (A = A0 ∨ ∀ ad, A = some ad → w.heap.size ≤ ad.block)

set_option maxRecDepth 100000 in
set_option maxHeartbeats 3200000 in
theorem radd_any {w : World} {B n c n' c' : Nat} {A A' : Option Addr} {L l : List Ed} {N : Nat} (h : Rd w B 3 A n (ec L)) (h' : Rd w B 3 A' n' (ec l)) (hB : B ≤ w.heap.size) (hn : n ≤ 500000) (hn' : n' ≤ 10000) (hok : ∀ e ∈ l, okE N e = true) (hN : N ≤ 65536) :
    Calls Try.prog 14 #[.agg #[.int .i64 (N : Int), .slice A n c], .slice A' n' c'] w (RaEnd A N (addEs L l) (((addEs L l).length : Int) - (L.length : Int)) w) := by
  have HC := Lib_hid (rde_count h)
  have HC' := Lib_hid (rde_count h')
  have HI := Lib_hid (fun (W : World) (hW : Below w.heap.size w W) (i : Nat) (hi : i < n') => e_at (h'.below (hW.mono hB)) hi)
  have HO : Hid (∀ i, i < n' → 0 ≤ (at3 l i).1 ∧ (at3 l i).1 < N ∧ 0 ≤ (at3 l i).2.1 ∧ (at3 l i).2.1 < N) := fun i hi => okE_iff.1 (hok _ (at3_mem (by rw [HC'.out]; exact hi)))
  have HT : Hid (∀ i, i < n' → addEs L (l.take (i + 1)) = addE (addEs L (l.take i)) (at3 l i)) := fun i hi => by rw [take_snoc3 (by rw [HC'.out]; exact hi), addEs_snoc]
  have HLN : Hid (∀ i, i ≤ n' → (addEs L (l.take i)).length ≤ n + i ∧ n ≤ (addEs L (l.take i)).length) := fun i hi => by have h1 := addEs_len (l.take i) L; have h2 := HC.out; rw [List.length_take] at h1; omega
  have HN := Lib_hid (And.intro hn hn')
  obtain ⟨W, hW⟩ : ∃ W, W = (w.alloc (.cells #[.int .i64 (N : Int), .slice A n c] 31)).alloc (.cells #[.int .i64 0, .slice none 0 0] 31) := ⟨_, rfl⟩
  have b1 := below_new w (.cells #[.int .i64 (N : Int), .slice A n c] 31)
  have s1 : (w.alloc (.cells #[.int .i64 (N : Int), .slice A n c] 31)).heap.size = w.heap.size + 1 := by simp
  have b2 := below_new (w.alloc (.cells #[.int .i64 (N : Int), .slice A n c] 31)) (.cells #[.int .i64 0, .slice none 0 0] 31)
  have x1 := (b2.block w.heap.size (by omega)).trans (heap_alloc_new w _)
  have x2 := heap_alloc_new (w.alloc (.cells #[.int .i64 (N : Int), .slice A n c] 31)) (.cells #[.int .i64 0, .slice none 0 0] 31)
  rw [s1] at x2
  have hbW : Below w.heap.size w W := by rw [hW]; exact b1.trans (b2.mono b1.size)
  rw [← hW] at x1 x2
  have HQ : Hid (W.heap[w.heap.size]? = some (.cells #[.int .i64 (N : Int), .slice A n c] 31 (0, 0)) ∧ W.heap[w.heap.size + 1]? = some (.cells #[.int .i64 0, .slice none 0 0] 31 (0, 0)) ∧ Below w.heap.size w W) := ⟨x1, x2, hbW⟩
  have HR0 : Hid ((∀ ad, A = some ad → 0 < n → ad.block < w.heap.size) ∧ Rd w B 3 A n (ec L)) := ⟨fun ad hA h0 => by
    obtain ⟨ad', e, hb, _⟩ := h.lies h0
    rw [hA] at e
    cases e
    omega, h⟩
  clear h h' b1 b2 s1 x1 x2 hbW hok
  go_enter Try.func14, Try.ntmps14
  go_wp2
  rw [← hW]
  clear hW
  have w0 := cell_of_row _ _ 0 _ _ _ HQ.out.1
  go_loopw [7] (fun i wr => ∃ k q : Nat, i = .int .i64 k ∧ k ≤ n' ∧ wr = W.drewN q) (fun i _ => n' - (intOf i).toNat)
  case atStart => exact ⟨0, 0, rfl, Nat.zero_le _, rfl⟩
  case round =>
    obtain ⟨k, q, rfl, hk, rfl⟩ := hrel
    have hn6 := HN.out.2
    by_cases hlt : k < n'
    · obtain ⟨b, off, rfl, _, c0, c1, c2⟩ := HI.out W HQ.out.2.2 k hlt
      have ho := HO.out k hlt
      have d1 : decide ((at3 l k).1 < 0) = false := decide_eq_false (by omega)
      have d2 : decide ((N : Int) ≤ (at3 l k).1) = false := decide_eq_false (by omega)
      have d3 : decide ((at3 l k).2.1 < 0) = false := decide_eq_false (by omega)
      have d4 : decide ((N : Int) ≤ (at3 l k).2.1) = false := decide_eq_false (by omega)
      have hki : (k : Int) < (n' : Int) := by omega
      have hk0 : (0 : Int) ≤ (k : Int) := by omega
      clear ho
      generalize (at3 l k).1 = a1 at *
      generalize (at3 l k).2.1 = a2 at *
      generalize (at3 l k).2.2 = a3 at *
      go_wp2
      go_quiet (fail)
      go_wp2
      go_roundw
      case rel => exact ⟨k + 1, q + nq, by go_num, by omega, rfl⟩
      case measure => simp [intOf]; omega
    · obtain rfl : k = n' := by omega
      clear w0
      have hb0 : Hid (Below W.heap.size W (W.drewN q)) := below_drew_ (Below.refl _ _)
      obtain ⟨W1, hW1⟩ : ∃ W1, W1 = W.drewN q := ⟨_, rfl⟩
      rw [← hW1] at hb0
      have HB0 : Hid (W1.heap = W.heap) := by rw [hW1]; rfl
      go_wp2
      rw [← hW1]
      clear hW1
      go_loopw [8, 9] (fun s i wr => ∃ (j m c2 : Nat) (A2 : Option Addr) (X : List Ed), s = .int .i64 ((m : Int) - (n : Int)) ∧ i = .int .i64 j ∧ j ≤ k ∧ Hid (X = addEs L (l.take j) ∧ m = X.length) ∧ Hid (wr.heap[w.heap.size]? = some (.cells #[.int .i64 (N : Int), .slice A2 m c2] 31 (0, 0)) ∧ wr.heap[w.heap.size + 1]? = some (.cells #[.int .i64 0, .slice none 0 0] 31 (0, 0)) ∧ Below w.heap.size w wr) ∧
          Hid (∀ V : World, wr.heap.size ≤ V.heap.size → (∀ p, p < wr.heap.size → p ≠ w.heap.size → p ≠ w.heap.size + 1 → V.heap[p]? = wr.heap[p]?) → Rd V wr.heap.size 3 A2 m (ec X)) ∧ Hid (A2 = A ∨ ∀ ad, A2 = some ad → w.heap.size ≤ ad.block)) (fun _ i _ => k - (intOf i).toNat)
      case atStart =>
        refine ⟨0, n, c, A, L, by simp, rfl, Nat.zero_le _, ⟨rfl, HC.out.symm⟩, ⟨by rw [HB0.out]; exact HQ.out.1, by rw [HB0.out]; exact HQ.out.2.1, HQ.out.2.2.trans (hb0.out.mono HQ.out.2.2.size)⟩, ⟨fun V hV hk => ?_, .inl rfl⟩⟩
        have hsz := HQ.out.2.2.size
        have hsz2 := hb0.out.size
        refine ((HR0.out.2.more hB).keep fun p hp => World.cell?_of_block ?_).more (by omega)
        rw [hk _ (by omega) (by omega) (by omega), HB0.out]
        exact HQ.out.2.2.block _ hp
      case round =>
        obtain ⟨j, m, c2, A2, X, rfl, rfl, hj, hX, hV, hR, hOA⟩ := hrel
        by_cases hlj : j < k
        · have hIJ := Lib_hid (fun (V : World) (hV : Below w.heap.size w V) => HI.out V hV j hlj)
          obtain ⟨b, off, hA, hbB, _, _, _⟩ := hIJ.out _ hV.out.2.2
          have hT := Lib_hid (HT.out j hlj)
          have hbnd := HLN.out j (by omega)
          rw [← hX.out.1, ← hX.out.2] at hbnd
          have hm6 : m ≤ 1000000 := by have := HN.out; omega
          have hszw := (Array.getElem?_eq_some_iff.1 hV.out.2.1).1
          have HAS := Lib_hid (rhas_any (w := wr.drew) (c := c2) (N : Int) (hR.out wr.drew (Nat.le_refl _) (fun _ _ _ _ => rfl)) (Nat.le_refl _) (by omega) (at3 l j))
          have HWI := Lib_hid (fun (V : World) (hs : wr.heap.size ≤ V.heap.size) (hk : ∀ p, p < wr.heap.size → V.heap[p]? = wr.heap[p]?) => rwith_any (w := V) (c := c2) (N : Int) (hR.out V hs (fun p hp _ _ => hk p hp)) hs hm6 (at3 l j))
          have hxx : Hid (at3 l j = ((at3 l j).1, (at3 l j).2.1, (at3 l j).2.2)) := rfl
          subst hA
          have KC : Hid (∀ V : World, Below wr.drew.heap.size wr.drew V → V.cell? ⟨w.heap.size, 0, none⟩ = some (.int .i64 (N : Int)) ∧ V.cell? ⟨w.heap.size, 1, none⟩ = some (.slice A2 m c2) ∧ V.cell? ⟨b, off + j * 3, none⟩ = some (.int .i64 (at3 l j).1) ∧ V.cell? ⟨b, off + j * 3 + 1, none⟩ = some (.int .i64 (at3 l j).2.1) ∧ V.cell? ⟨b, off + j * 3 + 2, none⟩ = some (.int .i64 (at3 l j).2.2)) := fun V hb => by
            have h1 := (hb.block w.heap.size (by show _ < wr.heap.size; omega)).trans hV.out.1
            obtain ⟨b', o', e', _, c0, c1, c2'⟩ := hIJ.out V (hV.out.2.2.drew.trans (hb.mono (by show _ ≤ wr.heap.size; omega)))
            simp only [Option.some.injEq, Addr.mk.injEq, and_true] at e'
            obtain ⟨rfl, rfl⟩ := e'
            exact ⟨cell_of_row _ _ 0 _ _ _ h1, cell_of_row _ _ 1 _ _ _ h1, c0, c1, c2'⟩
          have hji : (j : Int) < (k : Int) := by omega
          have hj0 : (0 : Int) ≤ (j : Int) := by omega
          unfold eV at HAS HWI
          have hn6 := HN.out.2
          by_cases hin : at3 l j ∈ X
          · rw [decide_eq_true hin] at HAS
            have hae : Hid (addEs L (l.take (j + 1)) = X) := by rw [hT.out, ← hX.out.1]; exact if_pos hin
            clear hin hbnd
            generalize (at3 l j).1 = a1 at *
            generalize (at3 l j).2.1 = a2 at *
            generalize (at3 l j).2.2 = a3 at *
            go_wp2
            go_region_held3 (fun V => V.cell? ⟨w.heap.size, 0, none⟩ = some (.int .i64 (N : Int)) ∧ V.cell? ⟨w.heap.size, 1, none⟩ = some (.slice A2 m c2) ∧ V.cell? ⟨b, off + j * 3, none⟩ = some (.int .i64 a1) ∧ V.cell? ⟨b, off + j * 3 + 1, none⟩ = some (.int .i64 a2) ∧ V.cell? ⟨b, off + j * 3 + 2, none⟩ = some (.int .i64 a3))
              (first | exact KC.out _ (Below.refl _ _) | exact KC.out _ hbc)
              (first | (go_at_call 40; ((with_reducible refine HAS.out.mono ?_); rintro r V ⟨rfl, hbc⟩)))
            have hV2 : Hid (V.heap[w.heap.size]? = some (.cells #[.int .i64 (N : Int), .slice A2 m c2] 31 (0, 0)) ∧ V.heap[w.heap.size + 1]? = some (.cells #[.int .i64 0, .slice none 0 0] 31 (0, 0)) ∧ Below w.heap.size w V) :=
              ⟨(hbc.block _ (by show _ < wr.heap.size; omega)).trans hV.out.1, (hbc.block _ hszw).trans hV.out.2.1, hV.out.2.2.drew.trans (hbc.mono (by show _ ≤ wr.heap.size; omega))⟩
            have hR2 : Hid (∀ V' : World, V.heap.size ≤ V'.heap.size → (∀ p, p < V.heap.size → p ≠ w.heap.size → p ≠ w.heap.size + 1 → V'.heap[p]? = V.heap[p]?) → Rd V' V.heap.size 3 A2 m (ec X)) := fun V' h1 h2 => by
              have hs : wr.heap.size ≤ V.heap.size := hbc.size
              exact (hR.out V' (by omega) fun p hp n1 n2 => (h2 p (by omega) n1 n2).trans (hbc.block p hp)).more hs
            clear hbc hV hR KC
            go_wp2
            go_roundw
            case rel => exact ⟨j + 1, m, c2, A2, X, rfl, by go_num, by omega, ⟨hae.out.symm, hX.out.2⟩, hV2, hR2, hOA⟩
            case measure => simp [intOf]; omega
          · rw [decide_eq_false hin] at HAS
            have hae : Hid (addEs L (l.take (j + 1)) = insE X (at3 l j)) := by rw [hT.out, ← hX.out.1]; exact if_neg hin
            rw [hxx.out] at hae
            have HWI2 : Hid (∀ (V : World), wr.heap.size ≤ V.heap.size → (∀ p, p < wr.heap.size → V.heap[p]? = wr.heap[p]?) → Calls Try.prog 41 #[.agg #[.int .i64 (N : Int), .slice A2 m c2], .agg #[.int .i64 (at3 l j).1, .int .i64 (at3 l j).2.1, .int .i64 (at3 l j).2.2]] V (WiEnd N (insE X ((at3 l j).1, (at3 l j).2.1, (at3 l j).2.2)) V)) := fun V h1 h2 => HWI.out V h1 h2
            clear HWI hin hbnd
            generalize (at3 l j).1 = a1 at *
            generalize (at3 l j).2.1 = a2 at *
            generalize (at3 l j).2.2 = a3 at *
            go_wp2
            go_region_held3 (fun V => V.cell? ⟨w.heap.size, 0, none⟩ = some (.int .i64 (N : Int)) ∧ V.cell? ⟨w.heap.size, 1, none⟩ = some (.slice A2 m c2) ∧ V.cell? ⟨b, off + j * 3, none⟩ = some (.int .i64 a1) ∧ V.cell? ⟨b, off + j * 3 + 1, none⟩ = some (.int .i64 a2) ∧ V.cell? ⟨b, off + j * 3 + 2, none⟩ = some (.int .i64 a3))
              (first | exact KC.out _ (Below.refl _ _) | exact KC.out _ hbc)
              (first | (go_at_call 40; ((with_reducible refine HAS.out.mono ?_); rintro r V ⟨rfl, hbc⟩)))
            have hV2 : Hid (V.heap[w.heap.size]? = some (.cells #[.int .i64 (N : Int), .slice A2 m c2] 31 (0, 0)) ∧ V.heap[w.heap.size + 1]? = some (.cells #[.int .i64 0, .slice none 0 0] 31 (0, 0)) ∧ Below w.heap.size w V ∧ wr.heap.size ≤ V.heap.size) :=
              ⟨(hbc.block _ (by show _ < wr.heap.size; omega)).trans hV.out.1, (hbc.block _ hszw).trans hV.out.2.1, hV.out.2.2.drew.trans (hbc.mono (by show _ ≤ wr.heap.size; omega)), hbc.size⟩
            obtain ⟨e0, e1, e2, e3, e4⟩ := KC.out V hbc
            have HWV : Hid (∀ Y : World, Below V.heap.size V Y → Calls Try.prog 41 #[.agg #[.int .i64 (N : Int), .slice A2 m c2], .agg #[.int .i64 a1, .int .i64 a2, .int .i64 a3]] Y (WiEnd N (insE X (a1, a2, a3)) Y)) := fun Y hXb => HWI2.out Y (Nat.le_trans hbc.size hXb.size) (fun p hp => (hXb.block p (Nat.lt_of_lt_of_le hp hbc.size)).trans (hbc.block p hp))
            have hln : Hid ((insE X (a1, a2, a3)).length = m + 1) := by rw [len_insE, ← hX.out.2]; rfl
            clear hV hR KC HAS HWI2 hX hT hIJ
            go_wp2
            go_region_with ((first | (go_at_call 41; refine (HWV.out _ (below_drew_ (Below.refl _ _))).mono ?_; rintro e w9 ⟨A4, c4, rfl, ho, hb9⟩; have zo : w9.heap[w.heap.size]? = _ := (hb9.block _ (by have h := hV2.out.2.2.1.size; show _ < V.heap.size; have h2 := hV2.out.2.2.2; omega)).trans hV2.out.1; have f0 := frozen_of_row _ _ 0 _ _ zo; have f1 := frozen_of_row _ _ 1 _ _ zo; have y0 := cell_of_row _ _ 0 _ _ _ zo; have y1 := cell_of_row _ _ 1 _ _ _ zo)))
            all_goals
              have hq9 := hV2.out.2.2.1.size
              have hq8 := (Array.getElem?_eq_some_iff.1 hV2.out.2.1).1
              have z9 : w9.heap[w.heap.size + 1]? = _ := (hb9.block _ (show _ < V.heap.size by omega)).trans hV2.out.2.1
              have HS := Lib_hid (add_store (w := w) (v := .slice A4 (insE X (a1, a2, a3)).length c4) zo ho (show _ ≤ V.heap.size by omega) ((hV2.out.2.2.1.drew).trans (hb9.mono (show w.heap.size ≤ V.heap.size by omega))))
              have HZ := Lib_hid (HS.out.2.1.trans z9)
              have HOA : Hid (A4 = A ∨ ∀ ad, A4 = some ad → w.heap.size ≤ ad.block) := .inr fun ad hA => by
                have h5 := own_ge ho ad.block (by subst hA; rfl)
                have h6 : V.heap.size ≤ ad.block := h5
                omega
              clear ho hb9 zo f0 f1 y0 y1 z9 hq9
              rw [hln.out] at HS HZ ⊢
              generalize (w9.setCell ⟨w.heap.size, 0, none⟩ (.int .i64 (N : Int))).setCell ⟨w.heap.size, 1, none⟩ (.slice A4 (m + 1) c4) = U at *
              go_wp2
              go_roundw
              case rel => exact ⟨j + 1, m + 1, c4, A4, insE X (a1, a2, a3), by go_num, by go_num, by omega, ⟨hae.out.symm, hln.out.symm⟩, ⟨HS.out.1, HZ.out, HS.out.2.2.1⟩, HS.out.2.2.2, HOA⟩
              case measure => simp [intOf]; omega
        · obtain rfl : j = k := by omega
          have hq9 := hV.out.2.2.size
          have hq8 := (Array.getElem?_eq_some_iff.1 hV.out.2.1).1
          have g0 := cell_of_row _ _ 0 _ _ _ hV.out.1
          have g1 := cell_of_row _ _ 1 _ _ _ hV.out.1
          have x0 := cell_of_row _ _ 0 _ _ _ hV.out.2.1
          have x1 := cell_of_row _ _ 1 _ _ _ hV.out.2.1
          have f0 := frozen_of_row _ _ 0 _ _ hV.out.2.1
          have f1 := frozen_of_row _ _ 1 _ _ hV.out.2.1
          have HX : Hid (X = addEs L l ∧ m = X.length) := ⟨hX.out.1.trans (by rw [List.take_of_length_le (by rw [HC'.out]; exact Nat.le_refl _)]), hX.out.2⟩
          clear hX hq9 hq8
          go_wp2
          have ze : (wr.setCell ⟨w.heap.size + 1, 0, none⟩ (.int .i64 (N : Int))).heap[w.heap.size + 1]? = some (.cells #[.int .i64 (N : Int), .slice none 0 0] 31 (0, 0)) := by rw [heap_setCell_same _ (w.heap.size + 1) 0 _ _ _ hV.out.2.1]; rfl
          have zf : ((wr.setCell ⟨w.heap.size + 1, 0, none⟩ (.int .i64 (N : Int))).setCell ⟨w.heap.size + 1, 1, none⟩ (.slice A2 m c2)).heap[w.heap.size + 1]? = some (.cells #[.int .i64 (N : Int), .slice A2 m c2] 31 (0, 0)) := by rw [heap_setCell_same _ (w.heap.size + 1) 1 _ _ _ ze]; rfl
          have hRR := hR.out ((wr.setCell ⟨w.heap.size + 1, 0, none⟩ (.int .i64 (N : Int))).setCell ⟨w.heap.size + 1, 1, none⟩ (.slice A2 m c2)) (by simp) (fun p _ _ hp => (heap_setCell_other _ ⟨w.heap.size + 1, 1, none⟩ p _ hp).trans (heap_setCell_other _ ⟨w.heap.size + 1, 0, none⟩ p _ hp))
          have hBB := (hV.out.2.2.setCell (p := ⟨w.heap.size + 1, 0, none⟩) (show w.heap.size ≤ w.heap.size + 1 by omega) (.int .i64 (N : Int))).setCell (p := ⟨w.heap.size + 1, 1, none⟩) (show w.heap.size ≤ w.heap.size + 1 by omega) (.slice A2 m c2)
          have hsz : ((wr.setCell ⟨w.heap.size + 1, 0, none⟩ (.int .i64 (N : Int))).setCell ⟨w.heap.size + 1, 1, none⟩ (.slice A2 m c2)).heap.size = wr.heap.size := by simp
          clear ze
          generalize (wr.setCell ⟨w.heap.size + 1, 0, none⟩ (.int .i64 (N : Int))).setCell ⟨w.heap.size + 1, 1, none⟩ (.slice A2 m c2) = U at *
          have q0 := cell_of_row _ _ 0 _ _ _ zf
          have q1 := cell_of_row _ _ 1 _ _ _ zf
          obtain ⟨rfl, rfl⟩ := HX.out
          exact bodyPost_ret (v := .tuple #[.agg #[.int .i64 (N : Int), .slice A2 (addEs L l).length c2], .int .i64 (((addEs L l).length : Int) - (n : Int)), .int .i64 0]) (by simp [results, Try.results14, go_sem, q0, q1]) rfl ⟨A2, c2, by rw [HC.out], by rw [hsz]; exact hRR, hBB, hOA.out⟩

end Go.Proofs.Ytopecdkkmbpnbaa
