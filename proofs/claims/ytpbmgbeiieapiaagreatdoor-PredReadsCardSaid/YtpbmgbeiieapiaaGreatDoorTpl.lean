/-
  Layer 4: the program's reader.list, where node is known.
-/
import Derived.Test.YtpbmgbeiieapiaaGreatDoorTli
import Derived.Test.YtpbmgbeiieapiaaGreatDoorTcl
namespace Go.Proofs.YtpbmgbeiieapiaaGreatDoor
open Go Go.RowKit
set_option linter.unusedVariables false

theorem own_uniq {w : World} {b n c : Nat} {E : TypeId} {A : Option Addr} {xs ys : List Value} (h1 : w.ownsRow b E 4 (.slice A n c) n xs) (h2 : w.ownsRow b E 4 (.slice A n c) n ys) : xs = ys := by
  rcases Nat.eq_zero_or_pos n with h0 | h0
  · subst h0
    have e1 : xs = [] := List.eq_nil_of_length_eq_zero (by have := h1.1; omega)
    have e2 : ys = [] := List.eq_nil_of_length_eq_zero (by have := h2.1; omega)
    rw [e1, e2]
  · obtain ⟨g, cap, hv, _, _⟩ := h1.form h0
    have hA : A = some ⟨g, 0, none⟩ := by injection hv
    subst hA
    apply List.ext_getElem?
    intro i
    rcases Nat.lt_or_ge i (n * 4) with hi | hi
    · rw [← h1.cellAt i hi, ← h2.cellAt i hi]
    · rw [List.getElem?_eq_none (by have := h1.1; omega), List.getElem?_eq_none (by have := h2.1; omega)]

/-- How many bytes the reader in that box has left. -/
def leftLen (g : Nat) (W : World) : Nat := match W.heap[g]? with
  | some (.cells cs _ _) => match cs[1]? with
    | some (Value.string b) => b.size
    | _ => 0
  | _ => 0
theorem leftLen_eq {g : Nat} {W : World} {m : Int} {s : List UInt8} {bad : Bool} (h : W.heap[g]? = some (RdrC m s bad)) : leftLen g W = s.length := by
  unfold leftLen
  rw [h]
  simp [RdrC, ByteArray.size]

set_option maxRecDepth 100000 in
set_option maxHeartbeats 3200000 in
theorem plist_any (d : Nat) (hd : d ≤ 8) (IH : NodeOK d) (m : Nat) (s : List UInt8) (bad : Bool) (B g : Nat) (w : World) (hg : w.heap[g]? = some (RdrC (m : Int) s bad)) (hE : Env B w) (hB : B ≤ g) (hl : s.length ≤ 1000000) (hm : bad = false → m ≤ 32) (hm2 : m ≤ 90) :
    Calls Tryz.prog 71 #[.pointer (some ⟨g, 0, none⟩), .int .i64 ((9 - d : Nat) : Int)] w (LsEnd d m s bad g w) := by
  have hgl := (Array.getElem?_eq_some_iff.1 hg).1
  have MU := must_any m s [40] bad g w hg
  obtain ⟨i0, hi0, hz0, hz1, hz2⟩ := info_parts Tryz.infoE
  have HE : Hid (∀ W, w.grownBy W (some g) → Env B W) := fun W h => hE.keep fun k hk => h.block k (by omega) (fun e => by injection e with e; omega)
  have HIH := Lib_hid IH
  have HEND : Hid (∀ (n c m' : Nat) (A : Option Addr) (s' : List UInt8) (bad' : Bool) (w' : World), w.grownBy w' (some g) → w'.heap[g]? = some (RdrC (m' : Int) s' bad') → LsR d m s bad w w' (.slice A n c) m' s' bad' → LsEnd d m s bad g w (.returned (.slice A n c)) w') := fun n c m' A s' bad' w' h1 h2 h3 => ⟨n, c, m', A, s', bad', rfl, h1, h2, h3⟩
  clear IH hE
  generalize hdeep : ((9 - d : Nat) : Int) = deep at *
  go_enter Tryz.func71, Tryz.ntmps71
  go_wp2_with fail
  refine MU.mono ?_
  rintro e w1 ⟨rfl, hgr1, hg1⟩
  have MK := mark_any m (Lib.trimPrefix s [40]) [41] (bad || !Lib.hasPrefix s [40]) g w1 hg1
  clear MU
  go_wp2_with fail
  refine MK.mono ?_
  rintro e w2 ⟨rfl, hgr2, hg2⟩
  have hgr12 := hgr1.trans hgr2
  clear MK
  cases h41 : Lib.hasPrefix (Lib.trimPrefix s [40]) [41] with
  | true =>
    have HX := Lib_hid (HEND.out 0 0 m none _ _ w2 hgr12 hg2 (LsR.empty hm h41))
    go_wp2_with fail
    go_ret
    exact HX.out
  | false =>
    rw [trim_no h41] at hg2
    have htl := trim_le s [40]
    have ND := HIH.out m (Lib.trimPrefix s [40]) (bad || !Lib.hasPrefix s [40]) B g w2 hg2 (HE.out w2 hgr12) hB (by omega) (fun hb => hm (by cases hbb : bad with | false => rfl | true => rw [hbb] at hb; cases hb)) (by omega)
    rw [hdeep] at ND
    have hs12 := hgr12.size
    have H41 := Lib_hid h41
    clear hg1 h41
    go_wp2_with fail
    refine ND.mono ?_
    rintro e w3 ⟨k, a, b, n, c, m', A, s', bad', rfl, hgr3, hg3, hR⟩
    have HI := Lib_hid (LsI.start hm hs12 hgr3 H41.out hR)
    have hgr13 := hgr12.trans hgr3
    have hnew := below_new w3 (.cells #[.int .i64 k, .int .u64 (a : Int), .int .u64 (b : Int), .slice A n c] 25)
    have hg4 := (hnew.block g (Array.getElem?_eq_some_iff.1 hg3).1).trans hg3
    have hgr4 := hgr13.trans (grow_below hnew (some g))
    have hm' : m' ≤ 100 := by
      cases hbb : bad with
      | true => have := (hR.bd (by rw [hbb]; rfl)).2; omega
      | false =>
        cases h40 : Lib.hasPrefix s [40] with
        | true => have := (hR.ok (by rw [hbb, h40]; rfl)).1; omega
        | false => have := (hR.bd (by rw [hbb, h40]; rfl)).2; have := hm hbb; omega
    clear ND hR hnew hg3 hgr3 hgr13
    go_wp2
    go_loopw [5] (fun v W => ∃ (A : Option Addr) (n c mm : Nat) (ss : List UInt8) (bb : Bool), v = .slice A n c ∧ mm ≤ 100 ∧ W.heap[g]? = some (RdrC (mm : Int) ss bb) ∧ w.grownBy W (some g) ∧ Hid (LsI d m s bad w W (.slice A n c) mm ss bb)) (fun _ W => leftLen g W)
    case atStart => exact ⟨_, _, _, m', s', bad', rfl, hm', hg4, hgr4, HI⟩
    case round =>
      clear hg4 hgr4 HI hm'
      obtain ⟨A', n', c', mm, ss, bb, rfl, hmm, hgW, hgrW, HI⟩ := hrel
      rename World => W
      have hsW := hgrW.size
      have c2 := cell_of_row W _ 2 _ _ _ hgW
      simp at c2
      have HLL : Hid (leftLen g W = ss.length) := leftLen_eq hgW
      cases bb with
      | true =>
        have MU := must_any mm ss [41] true g W hgW
        go_wp2_with fail
        refine MU.mono ?_
        rintro e w5 ⟨rfl, hgr5, hg5⟩
        have HX := Lib_hid (HEND.out n' c' mm A' _ _ w5 (hgrW.trans hgr5) hg5 (HI.out.done hgl hgr5 hsW (fun h => by cases h)))
        clear MU hg5 hgr5
        go_wp2_with fail
        go_ret
        exact HX.out
      | false =>
        have MK := mark_any mm ss [44] false g W hgW
        go_wp2_with fail
        refine MK.mono ?_
        rintro e w5 ⟨rfl, hgr5, hg5⟩
        clear MK
        cases h44 : Lib.hasPrefix ss [44] with
        | false =>
          rw [trim_no h44] at hg5
          have MU := must_any mm ss [41] false g w5 hg5
          have H44 := Lib_hid h44
          clear h44
          go_wp2_with fail
          refine MU.mono ?_
          rintro e w6 ⟨rfl, hgr6, hg6⟩
          have HX := Lib_hid (HEND.out n' c' mm A' _ _ w6 ((hgrW.trans hgr5).trans hgr6) hg6 (HI.out.done hgl (hgr5.trans hgr6) hsW (fun _ => H44.out)))
          clear MU hg6 hgr6 hg5 hgr5
          go_wp2_with fail
          go_ret
          exact HX.out
        | true =>
          have hbf : bad = false := by
            cases hb : bad with
            | false => rfl
            | true => have := (HI.out.bd hb).1; cases this
          obtain ⟨hm34, hus⟩ := HI.out.ok hbf
          obtain ⟨us, hT, -, hmu, h32, hspec⟩ : ∃ us, TRow 25 w.heap.size (.slice A' n' c') us W ∧ false = false ∧ mm = m + T.countL (V.absL us) ∧ mm ≤ 32 ∧ listS (rdS d) s = (moreS (rdS d) (ss.length + 1) ss).map fun x => (V.absL us ++ x.1, x.2) := by
            rcases hus with h | ⟨-, h⟩
            · exact h
            · cases h
          have hgr15 := hgrW.trans hgr5
          have hsl := trim_lt h44
          have hls : ss.length ≤ s.length := HI.out.len
          have ND := HIH.out mm (Lib.trimPrefix ss [44]) false B g w5 hg5 (HE.out w5 hgr15) hB (by omega) (fun _ => h32) (by omega)
          rw [hdeep] at ND
          have hun : us.length = n' := by
            obtain ⟨A2, c2, e, _⟩ := own_form hT.own
            injection e with _ e
            exact e.symm
          have hn32 : n' ≤ 32 := by have := length_le_countL (V.absL us); rw [absL_length] at this; omega
          have hm1 : n' + 1 ≤ maxLen := by unfold maxLen; omega
          have hm2 : (n' + 1) * 48 ≤ 140737488355328 := by omega
          have H44 := Lib_hid h44
          have HT := Lib_hid hT
          have HUN := Lib_hid hun
          have HBF := Lib_hid hbf
          clear h44 hT hus hspec hmu hm34 hun hbf
          go_wp2_with fail
          refine ND.mono ?_
          rintro e w6 ⟨k, a, b, n, c, m', A, s', bad', rfl, hgr6, hg6, hR⟩
          have hgr16 := hgr15.trans hgr6
          have hs56 := hgr5.size
          have hs66 := hgr6.size
          have hown6 : w6.ownsRow w.heap.size 25 4 (.slice A' n' c') n' (vCells us) := by
            have h1 := HT.out.own
            rw [HUN.out] at h1
            exact own_keep h1 fun j hj => ((hgr5.trans hgr6).block j (own_lt h1 j hj) (fun e => by injection e with e; have := own_ge h1 j hj; omega))
          have hnew := below_new w6 (.cells #[.int .i64 k, .int .u64 (a : Int), .int .u64 (b : Int), .slice A n c] 25)
          have hRd := new_raw w6 25 (.int .i64 k) (.int .u64 (a : Int)) (.int .u64 (b : Int)) (.slice A n c)
          have hone : ∀ u ∈ [Value.int .i64 k, .int .u64 (a : Int), .int .u64 (b : Int), .slice A n c], u.oneCell' = true := by
            intro u hu
            simp only [List.mem_cons, List.not_mem_nil, or_false] at hu
            rcases hu with rfl | rfl | rfl | rfl <;> rfl
          have HNW := Lib_hid hnew
          have HG6 := Lib_hid hg6
          clear ND hg5 hgW c2
          go_wp2_with (at_builtin; (refine wpList_app rfl _ _ 23 rfl w.heap.size 25 i0 (.agg #[.int .i64 0, .int .u64 0, .int .u64 0, .slice none 0 0]) 4 48 Tryz.underlying23 hi0 hz0 hz1 hz2 rfl (by decide) (.slice A' n' c') n' (vCells us) rfl (own_below hown6 hnew (own_lt hown6)) (w6.heap.size + 1) (some ⟨w6.heap.size, 0, none⟩) 1 1 _ rfl hRd hone hm1 hm2 (by simp; omega) ?_); intro v7 w7 ho7 hs7; obtain ⟨A7, c7, rfl, _⟩ := own_form ho7)
          have hg7 : w7.heap[g]? = some (RdrC (m' : Int) s' bad') := by
            have h1 := own_ge hown6
            have hnb := HNW.out.size
            refine (hs7.grow.block g (by omega) (fun e => ?_)).trans ((HNW.out.block g (by omega)).trans HG6.out)
            have := h1 g e.symm
            omega
          have hgr7 : w.grownBy w7 (some g) := by
            have h1 := own_ge hown6
            refine ⟨hs7.grow.os.trans ((HNW.out.os).trans hgr16.os), hs7.grow.tape.trans ((HNW.out.tape).trans hgr16.tape), hs7.grow.output.trans ((HNW.out.output).trans hgr16.output), by have := hs7.grow.size; have := HNW.out.size; have := hgr16.size; omega, fun i hi hne => ?_⟩
            have := hgr16.size
            have hnb := HNW.out.size
            refine (hs7.grow.block i (by omega) (fun e => ?_)).trans ((HNW.out.block i (by omega)).trans (hgr16.block i hi hne))
            have := h1 i e.symm
            omega
          have hst := HI.out.step hsW hgl hgr5 hgr6 H44.out hR hs7 (fun us' hT' => by
            have e1 : us'.length = n' := by
              obtain ⟨A2, c2, e, _⟩ := own_form hT'.own
              injection e with _ e
              exact e.symm
            have e2 : vCells us' = vCells us := by
              have h1 := hT'.own
              have h2 := HT.out.own
              rw [e1] at h1
              rw [HUN.out] at h2
              exact own_uniq h1 h2
            rw [e1, e2]
            exact ho7)
          have HI7 := Lib_hid hst
          have hmm7 : m' ≤ 100 := by have := (hR.ok rfl).1; omega
          have HL7 : Hid (leftLen g w7 < leftLen g W) := by
            unfold Hid
            rw [HLL.out, leftLen_eq hg7]
            have := hR.len
            omega
          clear hst hR ho7 hs7 hRd hown6 hgr16 hgr6 hgr5
          go_wp2
          go_roundw
          case rel => exact ⟨A7, _, c7, m', s', bad', rfl, hmm7, hg7, hgr7, HI7⟩
          case measure => exact HL7.out

end Go.Proofs.YtpbmgbeiieapiaaGreatDoor
