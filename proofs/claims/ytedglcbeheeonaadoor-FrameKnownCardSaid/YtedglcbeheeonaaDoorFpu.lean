/-
  The statement's function FramePuts returns true, for every input.
-/
import Derived.Test.YtedglcbeheeonaaDoorFdo
import Derived.Test.YtedglcbeheeonaaDoorFwk
namespace Go.Proofs.YtedglcbeheeonaaDoor
open Go Go.RowKit
set_option linter.unusedVariables false

theorem Tryd.info30 : (Tryd.prog.info? 30).map (fun i => (i.zero, i.size, i.bytes)) = some (some (.agg #[.int .u8 0, .string ⟨#[]⟩]), 2, 24) := by kernel_rfl

def dfCells (ds : List (Nat × List Nat)) : List Value := ds.flatMap fun d => [.int .u8 (d.1 : Int), .string (str d.2)]
theorem dfCells_length (ds : List (Nat × List Nat)) : (dfCells ds).length = ds.length * 2 := by
  induction ds with
  | nil => rfl
  | cons x l ih => show ([_, _] ++ dfCells l).length = _; rw [List.length_append, ih]; simp; omega
theorem dfCells_take {ds : List (Nat × List Nat)} {i : Nat} {d : Nat × List Nat} (h : ds[i]? = some d) : dfCells (ds.take (i + 1)) = dfCells (ds.take i) ++ dfCells [d] := by
  have hi := (List.getElem?_eq_some_iff.1 h).1
  have e : ds[i] = d := (List.getElem?_eq_some_iff.1 h).2
  rw [List.take_succ_eq_append_getElem hi, dfCells, List.flatMap_append, e]
  rfl
theorem df_one (ds : List (Nat × List Nat)) : ∀ u ∈ dfCells ds, u.oneCell' = true := by
  intro u hu
  obtain ⟨d, _, hu⟩ := List.mem_flatMap.1 hu
  simp only [List.mem_cons, List.not_mem_nil, or_false] at hu
  rcases hu with rfl | rfl <;> rfl
theorem dfCells_get : ∀ (l : List (Nat × List Nat)) (i : Nat) (d : Nat × List Nat), l[i]? = some d → (dfCells l)[i * 2]? = some (.int .u8 (d.1 : Int)) ∧ (dfCells l)[i * 2 + 1]? = some (.string (str d.2)) := by
  intro l
  induction l with
  | nil => intro i d h; simp at h
  | cons x l ih =>
    intro i d h
    have e : dfCells (x :: l) = [.int .u8 (x.1 : Int), .string (str x.2)] ++ dfCells l := rfl
    cases i with
    | zero => simp at h; subst h; rw [e]; simp
    | succ i =>
      rw [e, List.getElem?_append_right (by simp; omega), List.getElem?_append_right (by simp; omega)]
      have := ih i d (by simpa using h)
      rw [show (i + 1) * 2 - [Value.int .u8 (x.1 : Int), .string (str x.2)].length = i * 2 by simp; omega, show (i + 1) * 2 + 1 - [Value.int .u8 (x.1 : Int), .string (str x.2)].length = i * 2 + 1 by simp; omega]
      exact this

theorem frAll_bound (ds : List (Nat × List Nat)) (h : ∀ (i : Nat) (d : Nat × List Nat), ds[i]? = some d → d.2.length ≤ 200) : ∀ i, i ≤ ds.length → (frAll (ds.take i)).length ≤ i * 215 := by
  intro i
  induction i with
  | zero => intro _; simp [frAll]
  | succ i ih =>
    intro hi
    have hd : ds[i]? = some (ds[i]'(by omega)) := List.getElem?_eq_getElem (by omega)
    have h2 := h i _ hd
    have h3 := enc_ten (v := (ds[i]'(by omega)).2.length) (by omega)
    rw [frAll_take hd, List.length_append, frS_length]
    have := ih (by omega)
    omega

theorem ne_block {w : World} {b b' size size' n n' : Nat} {e e' : TypeId} {v v' : Value} {xs xs' : List Value} (h : w.ownsRow b e size v n xs) (h' : w.ownsRow b' e' size' v' n' xs') (hne : e ≠ e') : ∀ k, v.ownBlock = some k → v'.ownBlock ≠ some k := by
  intro k hk hk'
  rcases h.2 with ⟨rfl, _⟩ | ⟨g, cap, cur, rfl, _, hh, _⟩
  · simp [Value.ownBlock] at hk
  · rcases h'.2 with ⟨rfl, _⟩ | ⟨g', cap', cur', rfl, _, hh', _⟩
    · simp [Value.ownBlock] at hk'
    · have e1 : g = k := by simpa [Value.ownBlock] using hk
      have e2 : g' = k := by simpa [Value.ownBlock] using hk'
      subst e1 e2
      rw [hh] at hh'
      injection hh' with h1
      injection h1 with _ h2
      exact hne h2

/-- The rows that the statement keeps, next to the box of its second argument. -/
structure PuS (w0 w : World) (ds : List (Nat × List Nat)) (i : Nat) (cs : Array Value) (Aw : Option Addr) (nw cw : Nat) (Ao : Option Addr) (co : Nat) : Prop where
  want : w.ownsRow (w0.heap.size + 1) 5 1 (.slice Aw nw cw) nw (bs (frAll (ds.take i)))
  own : w.ownsRow (w0.heap.size + 1) 30 2 (.slice Ao i co) i (dfCells (ds.take i))
  oth : w.heap[w0.heap.size]? = some (.cells cs 25 (0, 0))
  below : Below w0.heap.size w0 w

section
variable {w0 w w' : World} {ds : List (Nat × List Nat)} {i nw cw co : Nat} {cs : Array Value} {Aw Ao : Option Addr}
theorem PuS.keep (h : PuS w0 w ds i cs Aw nw cw Ao co) (hb : Below w.heap.size w w') : PuS w0 w' ds i cs Aw nw cw Ao co :=
  ⟨own_below h.want hb (own_lt h.want), own_below h.own hb (own_lt h.own), (hb.block _ (Array.getElem?_eq_some_iff.1 h.oth).1).trans h.oth, h.below.trans (hb.mono h.below.size)⟩
end

set_option maxRecDepth 100000 in
set_option maxHeartbeats 3200000 in
theorem fputs_any (B : Nat) (AL : Option Addr) (N C : Nat) (fs : List FrV) (ds : List (Nat × List Nat)) (k' : Nat) (A' : Option Addr) (n' c' : Nat) (p' : List Nat) (w : World) (hT : Tab w) (h : Rd w B 2 AL N (frCells fs)) (hF : FrRow w B fs ds) (hB : B = w.heap.size) (hN : N ≤ 9223372036854775807)
    (hk' : k' < 256) (h' : Rd w B 1 A' n' (bs p')) (hp' : ∀ x ∈ p', x < 256) :
    Calls Tryd.prog 3 #[.slice AL N C, .agg #[.int .u8 (k' : Int), .slice A' n' c']] w fun e w' => e = .returned (.bool true) ∧ Below w.heap.size w w' := by
  have hw0 := hT.1
  have hb0 := below_new w (.cells #[.int .u8 (k' : Int), .slice A' n' c'] 25)
  have hh0 := heap_alloc_new w (.cells #[.int .u8 (k' : Int), .slice A' n' c'] 25)
  have FW := ffew_any B N C AL fs _ (h.below (hb0.mono (by omega))) hN
  have WK := fun W (hb : Below w.heap.size w W) => fworks_any W (hT.below hb hw0)
  have HWK := Lib_hid WK
  clear WK
  go_enter Tryd.func3, Tryd.ntmps3
  go_wp2_with fail
  refine FW.mono ?_
  rintro e w1 ⟨b, rfl, rfl, hfew⟩
  clear FW
  cases b with
  | false =>
    clear hfew
    go_wp2_with fail
    refine (HWK.out _ hb0).mono ?_
    rintro e w1 ⟨rfl, hb1⟩
    have hbw := hb0.trans (hb1.mono hb0.size)
    go_wp2_with fail
    go_ret
    exact ⟨rfl, hbw⟩
  | true =>
    obtain ⟨hN12, hFe⟩ := hfew rfl
    clear hfew
    by_cases hn2 : n' ≤ 200
    · have hfl : fs.length = N := by have := h.len; rw [frCells_length] at this; omega
      have HD : Hid (∀ (i : Nat) (d : Nat × List Nat), ds[i]? = some d → d.2.length ≤ 200) := by
        intro i d hd
        have hi := (List.getElem?_eq_some_iff.1 hd).1
        have hfi : i < fs.length := by rw [hF.len]; exact hi
        have ok := hF.ok i _ d (List.getElem?_eq_getElem hfi) hd
        rw [ok.p.count]
        exact hFe i _ (by omega) (List.getElem?_eq_getElem hfi)
      have HAT : Hid (∀ W : World, Below w.heap.size w W → ∀ i, i < N → _) := Lib_hid fun (W : World) (hW : Below w.heap.size w W) (i : Nat) (hi : i < N) => (hF.below (hW.mono (by omega))).at (h.below (hW.mono (by omega))) hi
      have HDN : Hid (ds.length = N) := by unfold Hid; rw [← hF.len]; exact hfl
      have HOT : Hid (∀ W : World, Below w.heap.size w W → Rd W B 1 A' n' (bs p')) := fun W hW => h'.below (hW.mono (by omega))
      have HP' := Lib_hid hp'
      have HFR := Lib_hid hF
      have HRL := Lib_hid h
      clear hFe hfl h hF h' hp'
      go_wp2_with fail
      go_loopw [5, 6, 7] (fun u o x wr => ∃ (i nw cw co : Nat) (Aw Ao : Option Addr), u = .slice Aw nw cw ∧ o = .slice Ao i co ∧ x = .int .i64 i ∧ i ≤ N ∧ PuS w wr ds i #[.int .u8 (k' : Int), .slice A' n' c'] Aw nw cw Ao co) (fun _ _ x _ => N - (intOf x).toNat)
      case atStart => exact ⟨0, 0, 0, 0, none, none, rfl, rfl, rfl, Nat.zero_le _, own_none _ _ _, World.ownsRow_nil _ _ _ 2, hh0, hb0⟩
      case round =>
        obtain ⟨i, nw, cw, co, Aw, Ao, rfl, rfl, rfl, hi, hS⟩ := hrel
        by_cases hlt : i < N
        · obtain ⟨b, off, k, A2, m, c2, p, rfl, hbB, hd, c0, c1, hk, hp, hp8, hmc, hc2⟩ := HAT.out wr hS.below i hlt
          have hpl := HD.out i _ hd
          simp only at hpl
          have hpm : p.length = m := hp.count
          have hm200 : m ≤ 200 := by omega
          have hsz := hS.below.size
          have DF := dframe_any B k A2 m c2 p wr hp (by omega)
          unfold dfv at DF
          have RFP := fun W => rfput_any k p W hk hp8 (by omega)
          have hkeepP : Hid (∀ W : World, Below w.heap.size w W → Rd W B 1 A2 m (bs p)) := by
            intro W hW
            obtain ⟨b', off', k2, A3, m3, c3, p3, hA, _, hd3, _, d1, _, hq, _, _, _⟩ := HAT.out W hW i hlt
            rw [hd] at hd3
            obtain ⟨rfl, rfl⟩ : k = k2 ∧ p = p3 := by simpa using hd3
            injection hA with hA
            injection hA with h1 h2 h3
            subst h1 h2
            have e1 : wr.cell? ⟨b, off + i * 2 + 1, none⟩ = W.cell? ⟨b, off + i * 2 + 1, none⟩ := (hS.below.cell (p := ⟨b, off + i * 2 + 1, none⟩) (by show b < _; omega)).trans (hW.cell (p := ⟨b, off + i * 2 + 1, none⟩) (by show b < _; omega)).symm
            rw [c1, d1] at e1
            injection e1 with e1
            injection e1 with g1 g2 g3
            subst g1 g2
            exact hq
          have HC : Hid (∀ W : World, Below w.heap.size w W → W.cell? ⟨b, off + i * 2, none⟩ = some (.int .u8 (k : Int)) ∧ W.cell? ⟨b, off + i * 2 + 1, none⟩ = some (.slice A2 m c2)) := by
            intro W hW
            exact ⟨(hW.cell (p := ⟨b, off + i * 2, none⟩) (by show b < _; omega)).trans ((hS.below.cell (p := ⟨b, off + i * 2, none⟩) (by show b < _; omega)).symm.trans c0), (hW.cell (p := ⟨b, off + i * 2 + 1, none⟩) (by show b < _; omega)).trans ((hS.below.cell (p := ⟨b, off + i * 2 + 1, none⟩) (by show b < _; omega)).symm.trans c1)⟩
          have hfl2 := frS_length k p
          have hten := enc_ten (v := p.length) (by omega)
          have htk := frAll_take hd
          have hdk := dfCells_take hd
          have hsm : Hid (∀ q : Nat × List Nat, sameF (k, p) q = true ↔ (k, p) = q) := fun q => sameF_eq
          have HDF := Lib_hid DF
          have HRFP := Lib_hid RFP
          have HD1 := Lib_hid hd
          have HP8 := Lib_hid hp8
          have HTK := Lib_hid htk
          have HDK := Lib_hid hdk
          have HFL := Lib_hid hfl2
          have HPM := Lib_hid hpm
          clear DF RFP hd hp8 htk hdk hfl2 hpm hp
          go_wp2_with fail
          refine HDF.out.mono ?_
          rintro e w2 ⟨rfl, hb2⟩
          have hS3 := (hS.keep hb2).keep (below_new w2 (.cells #[.int .u8 (k : Int), .string (str p)] 30))
          have hf3 := heap_alloc_new w2 (.cells #[.int .u8 (k : Int), .string (str p)] 30)
          have hz2 := hb2.size
          have hz3 := hS3.below.size
          have hs3 : (w2.alloc (.cells #[.int .u8 (k : Int), .string (str p)] 30)).heap.size = w2.heap.size + 1 := by simp
          have hs3' : w2.heap.size < (w2.alloc (.cells #[.int .u8 (k : Int), .string (str p)] 30)).heap.size := by omega
          clear hs3
          have hcapo := own_cap hS3.own
          have hwl : ∀ j, (Value.slice Aw nw cw).ownBlock = some j → j < wr.heap.size := own_lt hS.want
          have hol : ∀ j, (Value.slice Ao i co).ownBlock = some j → j < wr.heap.size := own_lt hS.own
          clear hS hb2 c0 c1
          go_upto_region 9 with (fail)
          generalize w2.alloc (.cells #[.int .u8 (k : Int), .string (str p)] 30) = w3 at *
          have d0 : w3.cell? ⟨w2.heap.size, 0, none⟩ = some (.int .u8 (k : Int)) := cell_of_row w3 _ 0 _ _ _ hf3
          have d1 : w3.cell? ⟨w2.heap.size, 1, none⟩ = some (.string (str p)) := cell_of_row w3 _ 1 _ _ _ hf3
          obtain ⟨i30, hi3, hy0, hy1, hy2⟩ := info_parts Tryd.info30
          have hnw : Rd (w3.alloc (.cells #[.int .u8 (k : Int), .string (str p)] 30)) (w3.heap.size + 1) 2 (some ⟨w3.heap.size, 0, none⟩) 1 (dfCells [(k, p)]) := fr_in_row (cs := dfCells [(k, p)]) (heap_alloc_new w3 _) (by omega) rfl
          have hm1 : i + 1 ≤ maxLen := by unfold maxLen; omega
          have hm2 : (i + 1) * 24 ≤ 140737488355328 := by omega
          have hsB : ∀ o, w.heap.size + 1 ≤ (w3.alloc o).heap.size := by intro o; simp; omega
          have HS3 := Lib_hid hS3
          have HF3 := Lib_hid hf3
          have HNW := Lib_hid hnw
          clear hS3 hf3 hnw
          go_upto_region 10 with (at_builtin; (refine wpList_app rfl _ _ 28 rfl (w.heap.size + 1) 30 i30 (.agg #[.int .u8 0, .string ⟨#[]⟩]) 2 24 Tryd.underlying28 hi3 hy0 hy1 hy2 rfl (by decide) _ i _ rfl (HS3.out.own.alloc _) (w3.heap.size + 1) (some ⟨w3.heap.size, 0, none⟩) 1 1 (dfCells [(k, p)]) rfl HNW.out (df_one _) hm1 hm2 (hsB _) ?_); intro v' w4 hown' hst; obtain ⟨Ao4, co4, rfl, _⟩ := own_form hown')
          have hS3' := HS3.out.keep (below_new w3 (.cells #[.int .u8 (k : Int), .string (str p)] 30))
          rw [← HDK.out] at hown'
          have hz4 := hst.grow.size
          rw [World.size_alloc] at hz4
          have hS4w := own_keep hS3'.want fun j hj => hst.grow.block j (own_lt hS3'.want j hj) (fun e => ne_block hS3'.want hS3'.own (by decide) j hj e.symm)
          have hf4 := (hst.grow.block w2.heap.size (by simp; omega) (fun e => by have := hol _ e.symm; omega)).trans ((heap_alloc_old w3 _ (by omega)).trans HF3.out)
          have ho4 := (hst.grow.block w.heap.size (by simp; omega) (fun e => by have := own_ge hS3'.own _ e.symm; omega)).trans hS3'.oth
          have hb4 : Below w.heap.size w w4 := hS3'.below.grown hst.grow hS3'.below.size (fun j hj => by have := own_ge hS3'.own j hj; omega)
          clear hst hS3' HS3 HF3 HNW hsB
          have hnw2 : nw ≤ 2600 := by
            have h1 := frAll_bound ds HD.out i (by rw [HDN.out]; exact hi)
            have h2 := hS4w.1
            rw [bs_length] at h2
            omega
          have e0 : w4.cell? ⟨w2.heap.size, 0, none⟩ = some (.int .u8 (k : Int)) := cell_of_row w4 _ 0 _ _ _ hf4
          have e1 : w4.cell? ⟨w2.heap.size, 1, none⟩ = some (.string (str p)) := cell_of_row w4 _ 1 _ _ _ hf4
          go_wp2_with fail
          refine (HRFP.out w4).mono ?_
          rintro e w5 ⟨A5, c5, rfl, ho5, hb5⟩
          have hz5 := hb5.size
          have hS5w := own_below hS4w hb5 (own_lt hS4w)
          have hS5o := own_below hown' hb5 (own_lt hown')
          have hf5 := (hb5.block w2.heap.size (by omega)).trans hf4
          have ho5' := (hb5.block w.heap.size (by omega)).trans ho4
          have hb5' := hb4.trans (hb5.mono hb4.size)
          have hr5 := Rd.own ho5
          obtain ⟨q, hq⟩ : ∃ q, q = (frS k p).length := ⟨_, rfl⟩
          have hql : q ≤ 215 := by rw [hq, HFL.out]; omega
          rw [← hq] at hr5 ⊢
          have HQ := Lib_hid hq
          obtain ⟨i0, hi0, hz0, hz1, hzz2⟩ := info_parts Tryd.info5
          have hm3 : nw + q ≤ maxLen := by unfold maxLen; omega
          have hm4 : (nw + q) * 1 ≤ 140737488355328 := by omega
          have hsB5 : w.heap.size + 1 ≤ w5.heap.size := by omega
          clear hS4w hown' hf4 ho4 hb4 hb5 ho5 e0 e1 hq d0 d1
          go_upto_region 12 with (at_builtin; (refine wpList_app rfl _ _ 23 rfl (w.heap.size + 1) 5 i0 (.int .u8 0) 1 1 Tryd.underlying23 hi0 hz0 hz1 hzz2 rfl (by decide) _ nw _ rfl hS5w w5.heap.size A5 q c5 (bs (frS k p)) rfl hr5 (bs_one _) hm3 hm4 hsB5 ?_); intro v' w6 hown6 hst; obtain ⟨Aw6, cw6, rfl, _⟩ := own_form hown6)
          rw [← bs_append, ← HTK.out] at hown6
          have hz6 := hst.grow.size
          have hS6o := own_keep hS5o fun j hj => hst.grow.block j (own_lt hS5o j hj) (fun e => ne_block hS5w hS5o (by decide) j e.symm hj)
          have hf6 := (hst.grow.block w2.heap.size (by omega) (fun e => by have := hwl _ e.symm; omega)).trans hf5
          have ho6 := (hst.grow.block w.heap.size (by omega) (fun e => by have := own_ge hS5w _ e.symm; omega)).trans ho5'
          have hb6 := hb5'.grown hst.grow hb5'.size (fun j hj => by have := own_ge hS5w j hj; omega)
          have hS6 : PuS w w6 ds (i + 1) #[.int .u8 (k' : Int), .slice A' n' c'] Aw6 (nw + q) cw6 Ao4 co4 := ⟨hown6, hS6o, ho6, hb6⟩
          clear hst hS5w hS5o hf5 ho5' hb5' hr5 hown6 hS6o hsB5
          obtain ⟨r, hr⟩ : ∃ r, r = sameF (k, p) (k', p') := ⟨_, rfl⟩
          have EQ := fun wx => eql_fr k k' p p' wx HP8.out HP'.out
          unfold dfv at EQ
          have S6 : Hid (∀ W : World, Below w6.heap.size w6 W → W.cell? ⟨b, off + i * 2, none⟩ = some (.int .u8 (k : Int)) ∧ W.cell? ⟨b, off + i * 2 + 1, none⟩ = some (.slice A2 m c2) ∧ W.cell? ⟨w2.heap.size, 0, none⟩ = some (.int .u8 (k : Int)) ∧ W.cell? ⟨w2.heap.size, 1, none⟩ = some (.string (str p)) ∧
              W.cell? ⟨w.heap.size, 0, none⟩ = some (.int .u8 (k' : Int)) ∧ W.cell? ⟨w.heap.size, 1, none⟩ = some (.slice A' n' c')) := fun W hW =>
            ⟨(HC.out W (hb6.trans (hW.mono hb6.size))).1, (HC.out W (hb6.trans (hW.mono hb6.size))).2, (hW.cell (p := ⟨w2.heap.size, 0, none⟩) (by show w2.heap.size < _; omega)).trans (cell_of_row w6 _ 0 _ _ _ hf6), (hW.cell (p := ⟨w2.heap.size, 1, none⟩) (by show w2.heap.size < _; omega)).trans (cell_of_row w6 _ 1 _ _ _ hf6),
              (hW.cell (p := ⟨w.heap.size, 0, none⟩) (by show w.heap.size < _; omega)).trans (cell_of_row w6 _ 0 _ _ _ ho6), (hW.cell (p := ⟨w.heap.size, 1, none⟩) (by show w.heap.size < _; omega)).trans (cell_of_row w6 _ 1 _ _ _ ho6)⟩
          have SZ : Hid (Calls Tryd.prog 11 #[.agg #[.int .u8 (k : Int), .slice A2 m c2]] w6.drew fun e w' => e = .returned (.int .i64 (q : Int)) ∧ Below w6.drew.heap.size w6.drew w') := by
            have := fsize_any k A2 m c2 w6.drew (by omega)
            rw [show 1 + (enc m).length + m + 4 = q by rw [HQ.out, HFL.out, HPM.out]] at this
            exact this
          have SM : Hid (∀ W : World, Below w6.heap.size w6 W → Calls Tryd.prog 12 #[.agg #[.int .u8 (k : Int), .slice A2 m c2], .agg #[.int .u8 (k' : Int), .slice A' n' c']] W fun e w' => e = .returned (.bool r) ∧ Below W.heap.size W w') := fun W hW => by
            rw [hr]
            have hWw := hb6.trans (hW.mono hb6.size)
            exact fsame_any B B k k' A2 A' m n' c2 c' p p' W (hkeepP.out W hWw) (HOT.out W hWw) HP8.out HP'.out (by have := hWw.size; omega) (by have := hWw.size; omega)
          have DO : Hid (∀ W : World, Below w6.heap.size w6 W → Calls Tryd.prog 9 #[.agg #[.int .u8 (k' : Int), .slice A' n' c']] W fun e w' => e = .returned (.agg #[.int .u8 (k' : Int), .string (str p')]) ∧ Below W.heap.size W w') := fun W hW => by
            have hWw := hb6.trans (hW.mono hb6.size)
            exact dframe_any B k' A' n' c' p' W (HOT.out W hWw) (by have := hWw.size; omega)
          rw [← hr] at EQ
          have HS6 := Lib_hid hS6
          clear hr hS6 hb6 hf6 ho6 HC hkeepP
          cases r <;>
          · go_region_held3 (fun W => W.cell? ⟨b, off + i * 2, none⟩ = some (.int .u8 (k : Int)) ∧ W.cell? ⟨b, off + i * 2 + 1, none⟩ = some (.slice A2 m c2) ∧ W.cell? ⟨w2.heap.size, 0, none⟩ = some (.int .u8 (k : Int)) ∧ W.cell? ⟨w2.heap.size, 1, none⟩ = some (.string (str p)) ∧ W.cell? ⟨w.heap.size, 0, none⟩ = some (.int .u8 (k' : Int)) ∧ W.cell? ⟨w.heap.size, 1, none⟩ = some (.slice A' n' c'))
              (first | exact S6.out _ (below_like (Below.refl _ _) rfl rfl rfl rfl) | exact S6.out _ hbs | exact S6.out _ hbt | exact S6.out _ hbu)
              ((first | (go_at_call 11; ((with_reducible refine SZ.out.mono ?_); rintro e ws ⟨rfl, hs'⟩; have hbs : Below w6.heap.size w6 ws := ⟨hs'.os, hs'.tape, hs'.output, hs'.size, hs'.block⟩)) | (go_at_call 12; ((with_reducible refine (SM.out ws hbs).mono ?_); rintro e wt ⟨rfl, ht'⟩; have hbt := hbs.trans (ht'.mono hbs.size))) | (go_at_call 9; ((with_reducible refine (DO.out ws hbs).mono ?_); rintro e wt ⟨rfl, ht'⟩; have hbt := hbs.trans (ht'.mono hbs.size))) | (go_at_call 12; ((with_reducible refine (SM.out wt hbt).mono ?_); rintro e wu ⟨rfl, hu'⟩; have hbu := hbt.trans (hu'.mono hbt.size))) | (go_at_call 9; ((with_reducible refine (DO.out wt hbt).mono ?_); rintro e wu ⟨rfl, hu'⟩; have hbu := hbt.trans (hu'.mono hbt.size)))))
            all_goals
              have hS7 := HS6.out.keep hbu
              go_wp2
              exact ⟨⟨i + 1, nw + q, cw6, co4, Aw6, Ao4, rfl, rfl, by go_num, by omega, hS7⟩, by simp [intOf]; omega⟩
        · obtain rfl : i = N := by omega
          clear hlt hi
          have HTA : Hid (ds.take i = ds) := List.take_of_length_le (by rw [HDN.out]; exact Nat.le_refl _)
          have hfb : (frAll ds).length ≤ 2600 := by
            have h1 := frAll_bound ds HD.out i (by rw [HDN.out]; exact Nat.le_refl _)
            rw [HTA.out] at h1
            omega
          have PUT : Hid (∀ W : World, Below w.heap.size w W → Calls Tryd.prog 13 #[.slice AL i C] W (Made 5 (frAll ds) W)) := fun W hW =>
            fput_any B AL i C fs ds W (hT.below hW hw0) (HRL.out.below (hW.mono (by omega))) (HFR.out.below (hW.mono (by omega))) (by have := hW.size; omega) (by omega) (by omega)
          clear HRL HFR
          go_wp2
          go_loopw [10] (fun t wr => ∃ q : Nat, t = .int .i64 q ∧ q ≤ 2 ∧ PuS w wr ds i #[.int .u8 (k' : Int), .slice A' n' c'] Aw nw cw Ao co) (fun t _ => 2 - (intOf t).toNat)
          case atStart => exact ⟨0, rfl, by omega, hS⟩
          case round =>
            clear hS
            obtain ⟨q, rfl, hq, hS⟩ := hrel
            by_cases hq2 : q < 2
            · have PW := PUT.out _ hS.below
              have hwl := own_lt hS.want
              have hol := own_lt hS.own
              have hsz := hS.below.size
              have hol2 := (Array.getElem?_eq_some_iff.1 hS.oth).1
              have HS := Lib_hid hS
              clear hS
              go_wp2_with fail
              refine PW.mono ?_
              rintro e w2 ⟨A2, c2, rfl, ho2, hb2⟩
              clear PW
              have hS2 := HS.out.keep hb2
              have hw2 := Rd.own hS2.want
              rw [HTA.out] at hw2
              have SB := same_yes (c := c2) (c' := cw) (frAll ds) w2 (Rd.own ho2) hw2 (by omega)
              have hz2 := hb2.size
              have HS2 := Lib_hid hS2
              clear HS hS2 hb2 hw2
              go_wp2_with fail
              refine SB.mono ?_
              rintro e w3 ⟨rfl, qq, rfl⟩
              clear SB
              have SP := spoil_any _ _ c2 A2 _ (w2.drewN qq) (own_keep ho2 fun _ _ => rfl) (by omega)
              go_wp2_with fail
              refine SP.mono ?_
              rintro e w4 ⟨rfl, hg4⟩
              have hS3 : PuS w (w2.drewN qq) ds i #[.int .u8 (k' : Int), .slice A' n' c'] Aw nw cw Ao co := HS2.out.keep (below_drew_ (Below.refl _ _))
              have hS4 : PuS w w4 ds i #[.int .u8 (k' : Int), .slice A' n' c'] Aw nw cw Ao co :=
                ⟨own_keep hS3.want fun j hj => hg4.block j (own_lt hS3.want j hj) (fun e => by have h1 := hwl j hj; have h2 := own_ge ho2 j e.symm; omega), own_keep hS3.own fun j hj => hg4.block j (own_lt hS3.own j hj) (fun e => by have h1 := hol j hj; have h2 := own_ge ho2 j e.symm; omega),
                  (hg4.block _ (Array.getElem?_eq_some_iff.1 hS3.oth).1 (fun e => by have h2 := own_ge ho2 _ e.symm; omega)).trans hS3.oth, hS3.below.grown hg4 hS3.below.size (fun j hj => by have h2 := own_ge ho2 j hj; omega)⟩
              clear hS3 HS2 hg4 SP ho2 hwl hol
              go_wp2
              go_roundw
              case rel => exact ⟨q + 1, by go_num, by omega, hS4⟩
              case measure => simp [intOf]; omega
            · obtain rfl : q = 2 := by omega
              clear hq2 hq PUT
              simp only [show ((2 : Nat) : Int) = 2 from rfl]
              go_wp2
              go_loopw [12] (fun x wr => ∃ j : Nat, x = .int .i64 j ∧ j ≤ i ∧ PuS w wr ds i #[.int .u8 (k' : Int), .slice A' n' c'] Aw nw cw Ao co) (fun x _ => i - (intOf x).toNat)
              case atStart => exact ⟨0, rfl, by omega, hS⟩
              case round =>
                clear hS
                obtain ⟨j, rfl, hj, hS⟩ := hrel
                by_cases hlt : j < i
                · obtain ⟨b, off, k, A2, m, c2, p, rfl, hbB, hd, c0, c1, hk, hp, hp8, hmc, hc2⟩ := HAT.out _ hS.below j hlt
                  rename World => wr
                  have hsz := hS.below.size
                  obtain ⟨g, cap, hv, hgw, hgl⟩ := hS.own.form (by omega)
                  have hA : Ao = some ⟨g, 0, none⟩ := by injection hv
                  subst hA
                  have hgk := dfCells_get ds j _ hd
                  have d0 : wr.cell? ⟨g, j * 2, none⟩ = some (.int .u8 (k : Int)) := by
                    rw [hS.own.cellAt _ (by omega), HTA.out]; exact hgk.1
                  have d1 : wr.cell? ⟨g, j * 2 + 1, none⟩ = some (.string (str p)) := by
                    rw [hS.own.cellAt _ (by omega), HTA.out]; exact hgk.2
                  have hgb := own_lt hS.own g rfl
                  have DF : Hid (∀ W : World, Below wr.heap.size wr W → Calls Tryd.prog 9 #[.agg #[.int .u8 (k : Int), .slice A2 m c2]] W fun e w' => e = .returned (.agg #[.int .u8 (k : Int), .string (str p)]) ∧ Below W.heap.size W w') := fun W hW =>
                    dframe_any B k A2 m c2 p W (hp.below (hW.mono (by omega))) (by have := hW.size; omega)
                  have S0 : Hid (∀ W : World, Below wr.heap.size wr W → W.cell? ⟨b, off + j * 2, none⟩ = some (.int .u8 (k : Int)) ∧ W.cell? ⟨b, off + j * 2 + 1, none⟩ = some (.slice A2 m c2) ∧ W.cell? ⟨g, j * 2, none⟩ = some (.int .u8 (k : Int)) ∧ W.cell? ⟨g, j * 2 + 1, none⟩ = some (.string (str p))) := fun W hW =>
                    ⟨(hW.cell (p := ⟨b, off + j * 2, none⟩) (by show b < _; omega)).trans c0, (hW.cell (p := ⟨b, off + j * 2 + 1, none⟩) (by show b < _; omega)).trans c1, (hW.cell (p := ⟨g, j * 2, none⟩) (by show g < _; omega)).trans d0, (hW.cell (p := ⟨g, j * 2 + 1, none⟩) (by show g < _; omega)).trans d1⟩
                  have EQN := fun wx => neq_fr k k p p wx hp8 hp8
                  rw [show sameF (k, p) (k, p) = true from sameF_eq.2 rfl] at EQN
                  unfold dfv at EQN
                  have HS := Lib_hid hS
                  clear hS c0 c1 d0 d1 hgk hp hp8 hd hv hgl
                  go_wp2_with fail
                  go_region_held3 (fun W => W.cell? ⟨b, off + j * 2, none⟩ = some (.int .u8 (k : Int)) ∧ W.cell? ⟨b, off + j * 2 + 1, none⟩ = some (.slice A2 m c2) ∧ W.cell? ⟨g, j * 2, none⟩ = some (.int .u8 (k : Int)) ∧ W.cell? ⟨g, j * 2 + 1, none⟩ = some (.string (str p)))
                    (first | exact S0.out _ (below_like (Below.refl _ _) rfl rfl rfl rfl) | exact S0.out _ hbs)
                    ((go_at_call 9; ((with_reducible refine (DF.out wr.drew (below_like (Below.refl _ _) rfl rfl rfl rfl)).mono ?_); rintro e ws ⟨rfl, hs'⟩; have hbs : Below wr.heap.size wr ws := ⟨hs'.os, hs'.tape, hs'.output, hs'.size, hs'.block⟩)))
                  all_goals
                    have hS7 := HS.out.keep hbs
                    go_wp2
                    go_roundw
                    case rel => exact ⟨j + 1, by go_num, by omega, hS7⟩
                    case measure => simp [intOf]; omega
                · rename World => wr
                  have hsz := hS.below.size
                  have o0 := cell_of_row wr w.heap.size 0 _ _ _ hS.oth
                  have o1 := cell_of_row wr w.heap.size 1 _ _ _ hS.oth
                  have SM := fsame_any B B k' k' A' A' n' n' c' c' p' p' wr (HOT.out wr hS.below) (HOT.out wr hS.below) HP'.out HP'.out (by omega) (by omega)
                  rw [show sameF (k', p') (k', p') = true from sameF_eq.2 rfl] at SM
                  have HB := Lib_hid hS.below
                  obtain rfl : j = i := by omega
                  clear hS hlt hj
                  go_wp2_with fail
                  refine SM.mono ?_
                  rintro e w5 ⟨rfl, hb5⟩
                  have hbw5 := HB.out.trans (hb5.mono hsz)
                  have WK := HWK.out w5 hbw5
                  clear SM
                  go_wp2_with fail
                  refine WK.mono ?_
                  rintro e w6 ⟨rfl, hb6⟩
                  have hbw6 := hbw5.trans (hb6.mono hbw5.size)
                  clear WK
                  go_wp2_with fail
                  go_ret
                  exact ⟨rfl, hbw6⟩
    · have hn3 : (200 : Int) < (n' : Int) := by omega
      go_wp2_with fail
      refine (HWK.out _ hb0).mono ?_
      rintro e w1 ⟨rfl, hb1⟩
      have hbw := hb0.trans (hb1.mono hb0.size)
      go_wp2_with fail
      go_ret
      exact ⟨rfl, hbw⟩

end Go.Proofs.YtedglcbeheeonaaDoor
