/-
  Layer 4: the program's reader.list, where node is known.
  Layer 4: the program's reader: the steps of a node, plainly.
  Layer 4: the document's read, plainly.
  Layer 4: the document's row, where read is known.
  Layer 4: the document's read.
-/
import Derived.Test.YtpbmgbeiieapiaaGreatDoorTli
import Derived.Test.YtpbmgbeiieapiaaGreatDoorZbTrn
import Derived.Test.YtpbmgbeiieapiaaGreatDoorTvl
import Derived.Test.YtpbmgbeiieapiaaGreatDoorTex

namespace Go.Proofs.YtpbmgbeiieapiaaGreatDoor
open Go Go.RowKit
set_option linter.unusedVariables false

theorem own_uniq {w : World} {b n c : Nat} {E : TypeId} {A : Option Addr} {xs ys : List Value} (h1 : w.ownsRow b E 4 (.slice A n c) n xs) (h2 : w.ownsRow b E 4 (.slice A n c) n ys) : xs = ys := by
  rcases Nat.eq_zero_or_pos n with h0 | h0
  · subst h0
    have e1 : xs = [] := List.eq_nil_of_length_eq_zero (by have := h1.1; omega)
    have e2 : ys = [] := List.eq_nil_of_length_eq_zero (by have := h2.1; omega)
    rw [e1, e2]
  · obtain ⟨g, cap, hv, _, _⟩ := h1.form h0
    have hA : A = some ⟨g, 0, none⟩ := by injection hv
    subst hA
    apply List.ext_getElem?
    intro i
    rcases Nat.lt_or_ge i (n * 4) with hi | hi
    · rw [← h1.cellAt i hi, ← h2.cellAt i hi]
    · rw [List.getElem?_eq_none (by have := h1.1; omega), List.getElem?_eq_none (by have := h2.1; omega)]

/-- How many bytes the reader in that box has left. -/
def leftLen (g : Nat) (W : World) : Nat := match W.heap[g]? with
  | some (.cells cs _ _) => match cs[1]? with
    | some (Value.string b) => b.size
    | _ => 0
  | _ => 0
theorem leftLen_eq {g : Nat} {W : World} {m : Int} {s : List UInt8} {bad : Bool} (h : W.heap[g]? = some (RdrC m s bad)) : leftLen g W = s.length := by
  unfold leftLen
  rw [h]
  simp [RdrC, ByteArray.size]

set_option maxRecDepth 100000 in
set_option maxHeartbeats 3200000 in
theorem plist_any (d : Nat) (hd : d ≤ 8) (IH : NodeOK d) (m : Nat) (s : List UInt8) (bad : Bool) (B g : Nat) (w : World) (hg : w.heap[g]? = some (RdrC (m : Int) s bad)) (hE : Env B w) (hB : B ≤ g) (hl : s.length ≤ 1000000) (hm : bad = false → m ≤ 32) (hm2 : m ≤ 90) :
    Calls Tryz.prog 71 #[.pointer (some ⟨g, 0, none⟩), .int .i64 ((9 - d : Nat) : Int)] w (LsEnd d m s bad g w) := by
  have hgl := (Array.getElem?_eq_some_iff.1 hg).1
  have MU := must_any m s [40] bad g w hg
  obtain ⟨i0, hi0, hz0, hz1, hz2⟩ := info_parts Tryz.infoE
  have HE : Hid (∀ W, w.grownBy W (some g) → Env B W) := fun W h => hE.keep fun k hk => h.block k (by omega) (fun e => by injection e with e; omega)
  have HIH := Lib_hid IH
  have HEND : Hid (∀ (n c m' : Nat) (A : Option Addr) (s' : List UInt8) (bad' : Bool) (w' : World), w.grownBy w' (some g) → w'.heap[g]? = some (RdrC (m' : Int) s' bad') → LsR d m s bad w w' (.slice A n c) m' s' bad' → LsEnd d m s bad g w (.returned (.slice A n c)) w') := fun n c m' A s' bad' w' h1 h2 h3 => ⟨n, c, m', A, s', bad', rfl, h1, h2, h3⟩
  clear IH hE
  generalize hdeep : ((9 - d : Nat) : Int) = deep at *
  go_enter Tryz.func71, Tryz.ntmps71
  go_wp2_with fail
  refine MU.mono ?_
  rintro e w1 ⟨rfl, hgr1, hg1⟩
  have MK := mark_any m (Lib.trimPrefix s [40]) [41] (bad || !Lib.hasPrefix s [40]) g w1 hg1
  clear MU
  go_wp2_with fail
  refine MK.mono ?_
  rintro e w2 ⟨rfl, hgr2, hg2⟩
  have hgr12 := hgr1.trans hgr2
  clear MK
  cases h41 : Lib.hasPrefix (Lib.trimPrefix s [40]) [41] with
  | true =>
    have HX := Lib_hid (HEND.out 0 0 m none _ _ w2 hgr12 hg2 (LsR.empty hm h41))
    go_wp2_with fail
    go_ret
    exact HX.out
  | false =>
    rw [trim_no h41] at hg2
    have htl := trim_le s [40]
    have ND := HIH.out m (Lib.trimPrefix s [40]) (bad || !Lib.hasPrefix s [40]) B g w2 hg2 (HE.out w2 hgr12) hB (by omega) (fun hb => hm (by cases hbb : bad with | false => rfl | true => rw [hbb] at hb; cases hb)) (by omega)
    rw [hdeep] at ND
    have hs12 := hgr12.size
    have H41 := Lib_hid h41
    clear hg1 h41
    go_wp2_with fail
    refine ND.mono ?_
    rintro e w3 ⟨k, a, b, n, c, m', A, s', bad', rfl, hgr3, hg3, hR⟩
    have HI := Lib_hid (LsI.start hm hs12 hgr3 H41.out hR)
    have hgr13 := hgr12.trans hgr3
    have hnew := below_new w3 (.cells #[.int .i64 k, .int .u64 (a : Int), .int .u64 (b : Int), .slice A n c] 25)
    have hg4 := (hnew.block g (Array.getElem?_eq_some_iff.1 hg3).1).trans hg3
    have hgr4 := hgr13.trans (grow_below hnew (some g))
    have hm' : m' ≤ 100 := by
      cases hbb : bad with
      | true => have := (hR.bd (by rw [hbb]; rfl)).2; omega
      | false =>
        cases h40 : Lib.hasPrefix s [40] with
        | true => have := (hR.ok (by rw [hbb, h40]; rfl)).1; omega
        | false => have := (hR.bd (by rw [hbb, h40]; rfl)).2; have := hm hbb; omega
    clear ND hR hnew hg3 hgr3 hgr13
    go_wp2
    go_loopw [5] (fun v W => ∃ (A : Option Addr) (n c mm : Nat) (ss : List UInt8) (bb : Bool), v = .slice A n c ∧ mm ≤ 100 ∧ W.heap[g]? = some (RdrC (mm : Int) ss bb) ∧ w.grownBy W (some g) ∧ Hid (LsI d m s bad w W (.slice A n c) mm ss bb)) (fun _ W => leftLen g W)
    case atStart => exact ⟨_, _, _, m', s', bad', rfl, hm', hg4, hgr4, HI⟩
    case round =>
      clear hg4 hgr4 HI hm'
      obtain ⟨A', n', c', mm, ss, bb, rfl, hmm, hgW, hgrW, HI⟩ := hrel
      rename World => W
      have hsW := hgrW.size
      have c2 := cell_of_row W _ 2 _ _ _ hgW
      simp at c2
      have HLL : Hid (leftLen g W = ss.length) := leftLen_eq hgW
      cases bb with
      | true =>
        have MU := must_any mm ss [41] true g W hgW
        go_wp2_with fail
        refine MU.mono ?_
        rintro e w5 ⟨rfl, hgr5, hg5⟩
        have HX := Lib_hid (HEND.out n' c' mm A' _ _ w5 (hgrW.trans hgr5) hg5 (HI.out.done hgl hgr5 hsW (fun h => by cases h)))
        clear MU hg5 hgr5
        go_wp2_with fail
        go_ret
        exact HX.out
      | false =>
        have MK := mark_any mm ss [44] false g W hgW
        go_wp2_with fail
        refine MK.mono ?_
        rintro e w5 ⟨rfl, hgr5, hg5⟩
        clear MK
        cases h44 : Lib.hasPrefix ss [44] with
        | false =>
          rw [trim_no h44] at hg5
          have MU := must_any mm ss [41] false g w5 hg5
          have H44 := Lib_hid h44
          clear h44
          go_wp2_with fail
          refine MU.mono ?_
          rintro e w6 ⟨rfl, hgr6, hg6⟩
          have HX := Lib_hid (HEND.out n' c' mm A' _ _ w6 ((hgrW.trans hgr5).trans hgr6) hg6 (HI.out.done hgl (hgr5.trans hgr6) hsW (fun _ => H44.out)))
          clear MU hg6 hgr6 hg5 hgr5
          go_wp2_with fail
          go_ret
          exact HX.out
        | true =>
          have hbf : bad = false := by
            cases hb : bad with
            | false => rfl
            | true => have := (HI.out.bd hb).1; cases this
          obtain ⟨hm34, hus⟩ := HI.out.ok hbf
          obtain ⟨us, hT, -, hmu, h32, hspec⟩ : ∃ us, TRow 25 w.heap.size (.slice A' n' c') us W ∧ false = false ∧ mm = m + T.countL (V.absL us) ∧ mm ≤ 32 ∧ listS (rdS d) s = (moreS (rdS d) (ss.length + 1) ss).map fun x => (V.absL us ++ x.1, x.2) := by
            rcases hus with h | ⟨-, h⟩
            · exact h
            · cases h
          have hgr15 := hgrW.trans hgr5
          have hsl := trim_lt h44
          have hls : ss.length ≤ s.length := HI.out.len
          have ND := HIH.out mm (Lib.trimPrefix ss [44]) false B g w5 hg5 (HE.out w5 hgr15) hB (by omega) (fun _ => h32) (by omega)
          rw [hdeep] at ND
          have hun : us.length = n' := by
            obtain ⟨A2, c2, e, _⟩ := own_form hT.own
            injection e with _ e
            exact e.symm
          have hn32 : n' ≤ 32 := by have := length_le_countL (V.absL us); rw [absL_length] at this; omega
          have hm1 : n' + 1 ≤ maxLen := by unfold maxLen; omega
          have hm2 : (n' + 1) * 48 ≤ 140737488355328 := by omega
          have H44 := Lib_hid h44
          have HT := Lib_hid hT
          have HUN := Lib_hid hun
          have HBF := Lib_hid hbf
          clear h44 hT hus hspec hmu hm34 hun hbf
          go_wp2_with fail
          refine ND.mono ?_
          rintro e w6 ⟨k, a, b, n, c, m', A, s', bad', rfl, hgr6, hg6, hR⟩
          have hgr16 := hgr15.trans hgr6
          have hs56 := hgr5.size
          have hs66 := hgr6.size
          have hown6 : w6.ownsRow w.heap.size 25 4 (.slice A' n' c') n' (vCells us) := by
            have h1 := HT.out.own
            rw [HUN.out] at h1
            exact own_keep h1 fun j hj => ((hgr5.trans hgr6).block j (own_lt h1 j hj) (fun e => by injection e with e; have := own_ge h1 j hj; omega))
          have hnew := below_new w6 (.cells #[.int .i64 k, .int .u64 (a : Int), .int .u64 (b : Int), .slice A n c] 25)
          have hRd := new_raw w6 25 (.int .i64 k) (.int .u64 (a : Int)) (.int .u64 (b : Int)) (.slice A n c)
          have hone : ∀ u ∈ [Value.int .i64 k, .int .u64 (a : Int), .int .u64 (b : Int), .slice A n c], u.oneCell' = true := by
            intro u hu
            simp only [List.mem_cons, List.not_mem_nil, or_false] at hu
            rcases hu with rfl | rfl | rfl | rfl <;> rfl
          have HNW := Lib_hid hnew
          have HG6 := Lib_hid hg6
          clear ND hg5 hgW c2
          go_wp2_with (at_builtin; (refine wpList_app rfl _ _ 23 rfl w.heap.size 25 i0 (.agg #[.int .i64 0, .int .u64 0, .int .u64 0, .slice none 0 0]) 4 48 Tryz.underlying23 hi0 hz0 hz1 hz2 rfl (by decide) (.slice A' n' c') n' (vCells us) rfl (own_below hown6 hnew (own_lt hown6)) (w6.heap.size + 1) (some ⟨w6.heap.size, 0, none⟩) 1 1 _ rfl hRd hone hm1 hm2 (by simp; omega) ?_); intro v7 w7 ho7 hs7; obtain ⟨A7, c7, rfl, _⟩ := own_form ho7)
          have hg7 : w7.heap[g]? = some (RdrC (m' : Int) s' bad') := by
            have h1 := own_ge hown6
            have hnb := HNW.out.size
            refine (hs7.grow.block g (by omega) (fun e => ?_)).trans ((HNW.out.block g (by omega)).trans HG6.out)
            have := h1 g e.symm
            omega
          have hgr7 : w.grownBy w7 (some g) := by
            have h1 := own_ge hown6
            refine ⟨hs7.grow.os.trans ((HNW.out.os).trans hgr16.os), hs7.grow.tape.trans ((HNW.out.tape).trans hgr16.tape), hs7.grow.output.trans ((HNW.out.output).trans hgr16.output), by have := hs7.grow.size; have := HNW.out.size; have := hgr16.size; omega, fun i hi hne => ?_⟩
            have := hgr16.size
            have hnb := HNW.out.size
            refine (hs7.grow.block i (by omega) (fun e => ?_)).trans ((HNW.out.block i (by omega)).trans (hgr16.block i hi hne))
            have := h1 i e.symm
            omega
          have hst := HI.out.step hsW hgl hgr5 hgr6 H44.out hR hs7 (fun us' hT' => by
            have e1 : us'.length = n' := by
              obtain ⟨A2, c2, e, _⟩ := own_form hT'.own
              injection e with _ e
              exact e.symm
            have e2 : vCells us' = vCells us := by
              have h1 := hT'.own
              have h2 := HT.out.own
              rw [e1] at h1
              rw [HUN.out] at h2
              exact own_uniq h1 h2
            rw [e1, e2]
            exact ho7)
          have HI7 := Lib_hid hst
          have hmm7 : m' ≤ 100 := by have := (hR.ok rfl).1; omega
          have HL7 : Hid (leftLen g w7 < leftLen g W) := by
            unfold Hid
            rw [HLL.out, leftLen_eq hg7]
            have := hR.len
            omega
          clear hst hR ho7 hs7 hRd hown6 hgr16 hgr6 hgr5
          go_wp2
          go_roundw
          case rel => exact ⟨A7, _, c7, m', s', bad', rfl, hmm7, hg7, hgr7, HI7⟩
          case measure => exact HL7.out

end Go.Proofs.YtpbmgbeiieapiaaGreatDoor

namespace Go.Proofs.YtpbmgbeiieapiaaGreatDoor
open Go Go.RowKit
set_option linter.unusedVariables false

/-- The numbers of a node that have been read. -/
structure NmI (r : List UInt8) (bad : Bool) (j a b : Nat) (ss : List UInt8) (bb : Bool) : Prop where
  len : ss.length ≤ r.length
  bd : bad = true → bb = true
  ok : bad = false → (∃ vs, numsS j r = some (vs, ss) ∧ bb = false ∧ a = vs.getD 0 0 ∧ b = vs.getD 1 0) ∨ (numsS j r = none ∧ bb = true)
  a64 : a < 18446744073709551616
  b64 : b < 18446744073709551616
/-- How a number's reading ends. -/
def NumR (ss : List UInt8) (bb : Bool) (v : Nat) (s2 : List UInt8) (b2 : Bool) : Prop := (numS ss = some (v, s2) ∧ b2 = bb) ∨ (numS ss = none ∧ v = 0 ∧ s2 = ss ∧ b2 = true)
section
variable {r ss s2 : List UInt8} {bad bb b2 : Bool} {a b v : Nat}
theorem NmI.zero (r : List UInt8) (bad : Bool) : NmI r bad 0 0 0 r bad := ⟨Nat.le_refl _, fun h => h, fun h => .inl ⟨[], rfl, h, rfl, rfl⟩, by omega, by omega⟩
theorem NumR.lt (h : NumR ss bb v s2 b2) : v < 18446744073709551616 ∧ s2.length ≤ ss.length := by
  rcases h with ⟨h, _⟩ | ⟨_, rfl, rfl, _⟩
  · exact numS_lt h
  · exact ⟨by omega, Nat.le_refl _⟩
theorem NmI.one (h : NmI r bad 0 a b ss bb) (hn : NumR ss bb v s2 b2) : NmI r bad 1 v b s2 b2 := by
  obtain ⟨l1, l2⟩ := hn.lt
  refine ⟨Nat.le_trans l2 h.len, fun hb => ?_, fun hb => ?_, l1, h.b64⟩
  · rcases hn with ⟨_, e⟩ | ⟨_, _, _, e⟩
    · rw [e]; exact h.bd hb
    · exact e
  · rcases h.ok hb with ⟨vs, e1, e2, e3, e4⟩ | ⟨e1, e2⟩
    · have hu : numsS 1 r = (numS ss).map fun x => (vs ++ [x.1], x.2) := by
        show ((numsS 0 r).bind _) = _
        rw [e1]
        rfl
      have hv : vs = [] := by
        unfold numsS at e1
        injection e1 with e1
        injection e1 with e1 _
        exact e1.symm
      rcases hn with ⟨e, eb⟩ | ⟨e, _, _, eb⟩
      · exact .inl ⟨vs ++ [v], by rw [hu, e]; rfl, by rw [eb, e2], by rw [hv]; rfl, by rw [e4, hv]; rfl⟩
      · exact .inr ⟨by rw [hu, e]; rfl, eb⟩
    · cases e1
theorem NmI.two (h : NmI r bad 1 a b ss bb) (hn : NumR (Lib.trimPrefix ss [61]) (bb || !Lib.hasPrefix ss [61]) v s2 b2) : NmI r bad 2 a v s2 b2 := by
  obtain ⟨l1, l2⟩ := hn.lt
  refine ⟨Nat.le_trans l2 (Nat.le_trans (trim_le _ _) h.len), fun hb => ?_, fun hb => ?_, h.a64, l1⟩
  · rcases hn with ⟨_, e⟩ | ⟨_, _, _, e⟩
    · rw [e, h.bd hb]; rfl
    · exact e
  · rcases h.ok hb with ⟨vs, e1, e2, e3, e4⟩ | ⟨e1, e2⟩
    · have hu : numsS 2 r = if Lib.hasPrefix ss [61] then (numS (Lib.trimPrefix ss [61])).map fun x => (vs ++ [x.1], x.2) else none := by
        show ((numsS 1 r).bind _) = _
        rw [e1]
        rfl
      have hv := (numsS_len 1 r vs ss e1).1
      obtain ⟨x, rfl⟩ : ∃ x, vs = [x] := by
        match vs, hv with
        | [x], _ => exact ⟨x, rfl⟩
      cases h61 : Lib.hasPrefix ss [61] with
      | false =>
        refine .inr ⟨by rw [hu, h61]; rfl, ?_⟩
        rcases hn with ⟨_, e⟩ | ⟨_, _, _, e⟩
        · rw [e, h61]; simp
        · exact e
      | true =>
        rw [h61, if_pos rfl] at hu
        rcases hn with ⟨e, eb⟩ | ⟨e, _, _, eb⟩
        · exact .inl ⟨[x] ++ [v], by rw [hu, e]; rfl, by rw [eb, e2, h61]; rfl, by rw [e3]; rfl, rfl⟩
        · exact .inr ⟨by rw [hu, e]; rfl, eb⟩
    · refine .inr ⟨?_, ?_⟩
      · show ((numsS 1 r).bind _) = _
        rw [e1]; rfl
      · rcases hn with ⟨_, e⟩ | ⟨_, _, _, e⟩
        · rw [e, e2]; rfl
        · exact e
end

theorem rdS_succ {d kd : Nat} {s r : List UInt8} (h : kindS s = (kd, r)) (h0 : kd ≠ 0) : rdS (d + 1) s = (numsS (numN kd) r).bind fun x => (partsS (rdS d) kd x.2).map fun y => (.node kd (x.1.getD 0 0) (x.1.getD 1 0) y.1, y.2) := by
  show (if (kindS s).1 = 0 then none else _) = _
  rw [h, if_neg h0]

/-- A node's parts have been read, too. -/
structure PtI (d m : Nat) (s : List UInt8) (bad : Bool) (B2 kd a b : Nat) (W : World) (v : Value) (m' : Nat) (s' : List UInt8) (bad' : Bool) : Prop where
  len : s'.length ≤ s.length
  bd : bad = true → bad' = true ∧ m' ≤ m + (d + 1) + 1
  ok : bad = false → m' ≤ 34 + (d + 1) ∧ ((∃ us, rdS (d + 1) s = some (.node kd a b (V.absL us), s') ∧ m + 1 + T.countL (V.absL us) ≤ 32 ∧ bad' = false ∧ m' = m + 1 + T.countL (V.absL us) ∧ TRow 25 B2 v us W) ∨
    ((∀ t r, rdS (d + 1) s = some (t, r) → 32 < m + t.count) ∧ bad' = true))
section
variable {d m B2 kd a b : Nat} {s r ss : List UInt8} {bad bb : Bool}
theorem PtI.none (hk : kindS s = (kd, r)) (h1 : 1 ≤ kd) (h4 : kd ≤ 4) (hm : m + 1 ≤ 32) (h : NmI r bad (numN kd) a b ss bb) (W : World) : PtI d m s bad B2 kd a b W (.slice none 0 0) (m + 1) ss bb := by
  have hr := (kindS_le s).2.1
  rw [hk] at hr
  refine ⟨Nat.le_trans h.len hr, fun hb => ⟨h.bd hb, by omega⟩, fun hb => ⟨by omega, ?_⟩⟩
  have hu := rdS_succ (d := d) hk (by omega)
  rcases h.ok hb with ⟨vs, e1, e2, e3, e4⟩ | ⟨e1, e2⟩
  · refine .inl ⟨[], ?_, by simp [V.absL, T.countL]; omega, e2, by simp [V.absL, T.countL], TRow.nil _ _ _⟩
    rw [hu, e1, Option.bind_some]
    have : partsS (rdS d) kd ss = some ([], ss) := by unfold partsS; rw [if_neg (by omega), if_neg (by omega)]
    simp only [this, Option.map_some, V.absL, e3, e4]
  · refine .inr ⟨fun t q hq => ?_, e2⟩
    rw [hu, e1] at hq
    cases hq
theorem PtI.one {w8 w9 : World} {k2 : Int} {a2 b2 n2 c2 m' g : Nat} {A2 : Option Addr} {s' : List UInt8} {bad' : Bool} (hk : kindS s = (kd, r)) (h5 : kd = 5) (hm : m + 1 ≤ 32) (h : NmI r bad (numN kd) a b ss bb)
    (hB : w8.heap.size = B2) (hgr : w8.grownBy w9 (some g)) (hn : NdR d (m + 1) ss bb w8 w9 k2 a2 b2 n2 c2 m' A2 s' bad') :
    PtI d m s bad B2 kd a b (w9.alloc (.cells #[.int .i64 k2, .int .u64 (a2 : Int), .int .u64 (b2 : Int), .slice A2 n2 c2] 25)) (.slice (some ⟨w9.heap.size, 0, Option.none⟩) 1 1) m' s' bad' := by
  have hr := (kindS_le s).2.1
  rw [hk] at hr
  refine ⟨Nat.le_trans hn.len (Nat.le_trans h.len hr), fun hb => ?_, fun hb => ?_⟩
  · obtain ⟨q1, q2⟩ := hn.bd (h.bd hb)
    exact ⟨q1, by omega⟩
  have hu := rdS_succ (d := d) hk (by omega)
  rcases h.ok hb with ⟨vs, e1, e2, e3, e4⟩ | ⟨e1, e2⟩
  · obtain ⟨q1, q2⟩ := hn.ok e2
    refine ⟨by omega, ?_⟩
    rw [e1, Option.bind_some] at hu
    have hp : partsS (rdS d) kd ss = (rdS d ss).map fun x => ([x.1], x.2) := by unfold partsS; rw [if_pos h5]
    simp only [hp] at hu
    rcases q2 with ⟨t, us, p1, p2, p3, p4, p5, p6, hL, hS⟩ | ⟨hno, hbad⟩
    · subst p6
      refine .inl ⟨[.node k2 a2 b2 A2 c2 us], ?_, ?_, p3, ?_, ?_, ?_⟩
      · rw [hu, p1]; simp [V.absL, p5, e3, e4]
      · simp [V.absL, T.countL, p5]; omega
      · simp [V.absL, T.countL, p5]; omega
      · have := World.ownsRow_lit (base := w9.heap.size) (e := 25) (size := 4) w9 #[.int .i64 k2, .int .u64 (a2 : Int), .int .u64 (b2 : Int), .slice A2 us.length c2] 1 (Nat.le_refl _) (by decide) rfl
        exact own_base this fun j hj => by have e : w9.heap.size = j := Option.some.inj hj; have := hgr.size; omega
      · intro u hu'
        obtain rfl : u = .node k2 a2 b2 A2 c2 us := by simpa using hu'
        have hb2 := below_new w9 (.cells #[.int .i64 k2, .int .u64 (a2 : Int), .int .u64 (b2 : Int), .slice A2 us.length c2] 25)
        exact ⟨w8.heap.size, w9.heap.size, by omega, hb2.size, hL.under (hb2.mono (Nat.le_refl _)), hS.under hb2, fun g' hg' => .inr (by have e : w9.heap.size = g' := Option.some.inj hg'; omega)⟩
    · refine .inr ⟨fun t q hq => ?_, hbad⟩
      rw [hu] at hq
      obtain ⟨⟨ts, q1⟩, hq1, he⟩ := Option.map_eq_some_iff.1 hq
      obtain ⟨⟨t1, r1⟩, hq2, he2⟩ := Option.map_eq_some_iff.1 hq1
      injection he with x1 x2
      injection he2 with x3 x4
      subst x1 x3
      have := hno _ _ hq2
      simp only [T.count, T.countL]
      omega
  · obtain ⟨q1, q2⟩ := hn.bd e2
    refine ⟨by omega, .inr ⟨fun t q hq => ?_, q1⟩⟩
    rw [hu, e1] at hq
    cases hq
theorem PtI.list {w8 w9 : World} {v : Value} {m' : Nat} {s' : List UInt8} {bad' : Bool} (hk : kindS s = (kd, r)) (h6 : 6 ≤ kd) (hm : m + 1 ≤ 32) (h : NmI r bad (numN kd) a b ss bb)
    (hB : w8.heap.size = B2) (hn : LsR d (m + 1) ss bb w8 w9 v m' s' bad') : PtI d m s bad B2 kd a b w9 v m' s' bad' := by
  have hr := (kindS_le s).2.1
  rw [hk] at hr
  refine ⟨Nat.le_trans hn.len (Nat.le_trans h.len hr), fun hb => ?_, fun hb => ?_⟩
  · obtain ⟨q1, q2⟩ := hn.bd (h.bd hb)
    exact ⟨q1, by omega⟩
  have hu := rdS_succ (d := d) hk (by omega)
  rcases h.ok hb with ⟨vs, e1, e2, e3, e4⟩ | ⟨e1, e2⟩
  · obtain ⟨q1, q2⟩ := hn.ok e2
    refine ⟨by omega, ?_⟩
    rw [e1, Option.bind_some] at hu
    have hp : partsS (rdS d) kd ss = listS (rdS d) ss := by unfold partsS; rw [if_neg (by omega), if_pos h6]
    simp only [hp] at hu
    rcases q2 with ⟨us, p1, p2, p3, p4, hT⟩ | ⟨hno, hbad⟩
    · exact .inl ⟨us, by rw [hu, p1]; simp [e3, e4], by omega, p3, by omega, hB ▸ hT⟩
    · refine .inr ⟨fun t q hq => ?_, hbad⟩
      rw [hu] at hq
      obtain ⟨⟨ts, q1⟩, hq1, he⟩ := Option.map_eq_some_iff.1 hq
      injection he with x1 x2
      subst x1
      have := hno _ _ hq1
      simp only [T.count]
      omega
  · obtain ⟨q1, q2⟩ := hn.bd e2
    refine ⟨by omega, .inr ⟨fun t q hq => ?_, q1⟩⟩
    rw [hu, e1] at hq
    cases hq
/-- The node is told. -/
theorem PtI.fin {w W w' : World} {n c m' : Nat} {A : Option Addr} {s' : List UInt8} {bad' : Bool} (h : PtI d m s bad B2 kd a b W (.slice A n c) m' s' bad') (hkd : kd ≤ 7) (ha : a < 18446744073709551616) (hb : b < 18446744073709551616)
    (hwB : w.heap.size ≤ B2) (hs : W.heap.size ≤ w'.heap.size) (hk : ∀ g, B2 ≤ g → g < W.heap.size → w'.heap[g]? = W.heap[g]?) : NdR (d + 1) m s bad w w' kd a b n c m' A s' bad' := by
  refine ⟨h.len, h.bd, fun hbf => ?_⟩
  obtain ⟨h1, h2⟩ := h.ok hbf
  refine ⟨h1, ?_⟩
  rcases h2 with ⟨us, e1, e2, e3, e4, hT⟩ | h2
  · obtain ⟨hn, hL, hS⟩ := (hT.keep hs hk).tree (k := kd) (a := a) (b := b) (by omega) ha hb
    refine .inl ⟨_, us, e1, by rw [T.count]; omega, e3, by rw [T.count]; omega, by rw [V.abs], hn.symm, hL.more hwB (Nat.le_refl _), hS.more hwB⟩
  · exact .inr h2
/-- A node that is none. -/
theorem NdR.none0 {w w' : World} {s' : List UInt8} {m' : Nat} (hl : s'.length ≤ s.length) (hm : m' ≤ m + 1) (hm2 : bad = false → m ≤ 32) (hno : bad = false → ∀ t r, rdS d s = some (t, r) → 32 < m + t.count) : NdR d m s bad w w' 0 0 0 0 0 m' Option.none s' true :=
  ⟨hl, fun _ => ⟨rfl, by omega⟩, fun hb => ⟨by have := hm2 hb; omega, .inr ⟨hno hb, rfl⟩⟩⟩
end

end Go.Proofs.YtpbmgbeiieapiaaGreatDoor

namespace Go.Proofs.YtpbmgbeiieapiaaGreatDoor
open Go Go.RowKit
set_option linter.unusedVariables false

/-- A list's parts behind its bracket. -/
def listB (f : List UInt8 → Option (T × List UInt8)) (q : List UInt8) : Option (List T × List UInt8) :=
  if Lib.hasPrefix q [41] then some ([], Lib.trimPrefix q [41]) else (f q).bind fun (t, r') => (moreS f (r'.length + 1) r').map fun (ts, r2) => (t :: ts, r2)
/-- A part, and what stands behind. -/
def contS (f : List UInt8 → Option (T × List UInt8)) (q : List UInt8) : Option (List T × List UInt8) := (f q).bind fun (t, r') => (moreS f (r'.length + 1) r').map fun (ts, r2) => (t :: ts, r2)
theorem listS_B (f : List UInt8 → Option (T × List UInt8)) (s : List UInt8) : listS f s = if Lib.hasPrefix s [40] then listB f (Lib.trimPrefix s [40]) else none := rfl
theorem pre_one (c x : UInt8) (l : List UInt8) : Lib.hasPrefix (c :: l) [x] = (x == c) := by simp [Lib.hasPrefix, List.isPrefixOf]
theorem pre_nil (x : UInt8) : Lib.hasPrefix [] [x] = false := rfl
theorem trim_one (c : UInt8) (l : List UInt8) : Lib.trimPrefix (c :: l) [c] = l := by unfold Lib.trimPrefix; rw [pre_one]; simp
theorem trim_yes {s x : List UInt8} (h : Lib.hasPrefix s x = true) : Lib.trimPrefix s x = s.drop x.length := by unfold Lib.trimPrefix; rw [if_pos h]
theorem pre_len {s x : List UInt8} (h : Lib.hasPrefix s x = true) : x.length ≤ s.length := by
  unfold Lib.hasPrefix at h
  exact (List.isPrefixOf_iff_prefix.1 h).length_le

section
variable {f : List UInt8 → Option (T × List UInt8)} {q rest : List UInt8} {t : T}
theorem cont_none (h : f q = none) : contS f q = none := by unfold contS; rw [h]; rfl
theorem cont_end (h : f q = some (t, [])) : contS f q = none := by
  unfold contS; rw [h]
  simp only [Option.bind_some]
  rw [show moreS f ([].length + 1) [] = none by unfold moreS; simp [pre_nil]]
  rfl
theorem cont_shut {l : List UInt8} (h : f q = some (t, 41 :: l)) : contS f q = some ([t], l) := by
  unfold contS; rw [h]
  simp only [Option.bind_some]
  rw [show moreS f ((41 :: l).length + 1) (41 :: l) = some ([], l) by unfold moreS; rw [pre_one, pre_one, trim_one]; rfl]
  rfl
theorem cont_bad {c : UInt8} {l : List UInt8} (h : f q = some (t, c :: l)) (h1 : c ≠ 41) (h2 : c ≠ 44) : contS f q = none := by
  unfold contS; rw [h]
  simp only [Option.bind_some]
  rw [show moreS f ((c :: l).length + 1) (c :: l) = none by
    unfold moreS
    rw [pre_one, pre_one]
    have e1 : (44 == c) = false := by simp; exact fun e => h2 e.symm
    have e2 : (41 == c) = false := by simp; exact fun e => h1 e.symm
    rw [e1, e2]; rfl]
  rfl
theorem cont_more {l : List UInt8} (hf : ∀ s t r, f s = some (t, r) → r.length < s.length) (h : f q = some (t, 44 :: l)) : contS f q = (contS f l).map fun (ts, r) => (t :: ts, r) := by
  conv => lhs; unfold contS
  rw [h]
  simp only [Option.bind_some]
  have : moreS f ((44 :: l).length + 1) (44 :: l) = contS f l := by
    conv => lhs; unfold moreS
    rw [pre_one, trim_one]
    simp only [beq_self_eq_true, if_true]
    unfold contS
    cases hl : f l with
    | none => rfl
    | some x =>
      obtain ⟨t2, r2⟩ := x
      have := hf _ _ _ hl
      simp only [Option.bind_some]
      rw [moreS_fuel hf (44 :: l).length (r2.length + 1) r2 (by simp; omega) (Nat.le_refl _)]
  rw [this]
end

section
variable {d : Nat} {s : List UInt8}
theorem kind_hit {j : Nat} (h1 : 1 ≤ j) (h7 : j ≤ 7) (hn : ∀ i, 1 ≤ i → i < j → Lib.hasPrefix s (wordL i) = false) (hy : Lib.hasPrefix s (wordL j) = true) : kindS s = (j, s.drop (wordL j).length) := by
  rw [kindS_at h1 h7 hn hy, trim_yes hy]
theorem rd_all (h : Lib.hasPrefix s [97, 108, 108] = true) : rdS (d + 1) s = some (.node 1 0 0 [], s.drop 3) := by
  rw [rdS_succ (kind_hit (j := 1) (by omega) (by omega) (fun i h1 h2 => by omega) h) (by omega)]
  rfl
theorem rd_x (h1 : Lib.hasPrefix s [97, 108, 108] = false) (h : Lib.hasPrefix s [120, 60, 61] = true) : rdS (d + 1) s = (numS (s.drop 3)).map fun x => (.node 2 x.1 0 [], x.2) := by
  rw [rdS_succ (kind_hit (j := 2) (by omega) (by omega) (fun i q1 q2 => by obtain rfl : i = 1 := by omega
                                                                           exact h1) h) (by omega)]
  show (numsS 1 (s.drop 3)).bind _ = _
  show (((numS (s.drop 3)).map _).bind _) = _
  cases numS (s.drop 3) with
  | none => rfl
  | some x => rfl
theorem rd_v (h1 : Lib.hasPrefix s [97, 108, 108] = false) (h2 : Lib.hasPrefix s [120, 60, 61] = false) (h : Lib.hasPrefix s [118, 60, 61] = true) : rdS (d + 1) s = (numS (s.drop 3)).map fun x => (.node 3 x.1 0 [], x.2) := by
  rw [rdS_succ (kind_hit (j := 3) (by omega) (by omega) (fun i q1 q2 => by
    have : i = 1 ∨ i = 2 := by omega
    rcases this with rfl | rfl
    · exact h1
    · exact h2) h) (by omega)]
  show (((numS (s.drop 3)).map _).bind _) = _
  cases numS (s.drop 3) with
  | none => rfl
  | some x => rfl
theorem rd_m (h1 : Lib.hasPrefix s [97, 108, 108] = false) (h2 : Lib.hasPrefix s [120, 60, 61] = false) (h3 : Lib.hasPrefix s [118, 60, 61] = false) (h : Lib.hasPrefix s [118, 37] = true) :
    rdS (d + 1) s = (numS (s.drop 2)).bind fun x => if Lib.hasPrefix x.2 [61] then (numS (x.2.drop 1)).map fun y => (.node 4 x.1 y.1 [], y.2) else none := by
  rw [rdS_succ (kind_hit (j := 4) (by omega) (by omega) (fun i q1 q2 => by
    have : i = 1 ∨ i = 2 ∨ i = 3 := by omega
    rcases this with rfl | rfl | rfl
    · exact h1
    · exact h2
    · exact h3) h) (by omega)]
  show (((((numS (s.drop 2)).map _).bind _).bind _)) = _
  cases numS (s.drop 2) with
  | none => rfl
  | some x =>
    obtain ⟨v, r⟩ := x
    simp only [Option.map_some, Option.bind_some]
    cases h61 : Lib.hasPrefix r [61] with
    | false => rfl
    | true =>
      simp only [if_true, trim_yes h61]
      show (((numS (r.drop 1)).map _).bind _) = _
      cases numS (r.drop 1) with
      | none => rfl
      | some y => rfl
theorem rd_n (hn : ∀ i, 1 ≤ i → i < 5 → Lib.hasPrefix s (wordL i) = false) (h : Lib.hasPrefix s [33] = true) : rdS (d + 1) s = (rdS d (s.drop 1)).map fun x => (.node 5 0 0 [x.1], x.2) := by
  rw [rdS_succ (kind_hit (j := 5) (by omega) (by omega) hn h) (by omega)]
  show (((rdS d (s.drop 1)).map _).map _) = _
  cases rdS d (s.drop 1) with
  | none => rfl
  | some x => rfl
theorem pre_two {a b : UInt8} : Lib.hasPrefix s [a, b] = (Lib.hasPrefix s [a] && Lib.hasPrefix (s.drop 1) [b]) := by
  cases s with
  | nil => rfl
  | cons c l =>
    cases l with
    | nil => simp [Lib.hasPrefix, List.isPrefixOf]
    | cons x l => simp [Lib.hasPrefix, List.isPrefixOf]
theorem rd_r (j : Nat) (c : UInt8) (hj : j = 6 ∧ c = 38 ∨ j = 7 ∧ c = 124) (hn : ∀ i, 1 ≤ i → i < j → Lib.hasPrefix s (wordL i) = false) (h : Lib.hasPrefix s [c] = true) :
    rdS (d + 1) s = if Lib.hasPrefix s [c, 40] then (listB (rdS d) (s.drop 2)).map fun x => (.node j 0 0 x.1, x.2) else none := by
  have hk : kindS s = (j, s.drop 1) := by
    rcases hj with ⟨rfl, rfl⟩ | ⟨rfl, rfl⟩
    · exact kind_hit (by omega) (by omega) hn h
    · exact kind_hit (by omega) (by omega) hn h
  rw [rdS_succ hk (by omega), pre_two, h, Bool.true_and]
  have h0 : numN ((j : Nat) : Int) = 0 := by rcases hj with ⟨rfl, _⟩ | ⟨rfl, _⟩ <;> rfl
  rw [h0]
  show (((partsS (rdS d) j (s.drop 1)).map _)) = _
  have hp : partsS (rdS d) j (s.drop 1) = listS (rdS d) (s.drop 1) := by unfold partsS; rw [if_neg (by omega), if_pos (by omega)]
  rw [hp, listS_B]
  cases h40 : Lib.hasPrefix (s.drop 1) [40] with
  | false => rfl
  | true =>
    rw [if_pos rfl, if_pos rfl, trim_yes h40, List.drop_drop]
    rfl
theorem rd_0 (hn : ∀ i, 1 ≤ i → i < 6 → Lib.hasPrefix s (wordL i) = false) (h6 : Lib.hasPrefix s [38, 40] = false) (h7 : Lib.hasPrefix s [124, 40] = false) : rdS (d + 1) s = none := by
  cases e6 : Lib.hasPrefix s [38] with
  | true => rw [rd_r 6 38 (.inl ⟨rfl, rfl⟩) hn e6, h6]; rfl
  | false =>
    have hn7 : ∀ i, 1 ≤ i → i < 7 → Lib.hasPrefix s (wordL i) = false := fun i q1 q2 => by
      rcases Nat.lt_or_ge i 6 with h | h
      · exact hn i q1 h
      · obtain rfl : i = 6 := by omega
        exact e6
    cases e7 : Lib.hasPrefix s [124] with
    | true => rw [rd_r 7 124 (.inr ⟨rfl, rfl⟩) hn7 e7, h7]; rfl
    | false =>
      have hk := kindS_none (s := s) (fun i q1 q2 => by
        rcases Nat.lt_or_ge i 7 with h | h
        · exact hn7 i q1 h
        · obtain rfl : i = 7 := by omega
          exact e7)
      show (if (kindS s).1 = 0 then none else _) = _
      rw [hk, if_pos rfl]
end

end Go.Proofs.YtpbmgbeiieapiaaGreatDoor

namespace Go.Proofs.YtpbmgbeiieapiaaGreatDoor
open Go Go.RowKit
set_option linter.unusedVariables false

/-- How the document's read ends. -/
structure RrR (d : Nat) (s : List UInt8) (w w' : World) (k : Int) (a b n c : Nat) (A : Option Addr) (s' : List UInt8) (ok : Bool) : Prop where
  yes : ok = true → ∃ t us, rdS d s = some (t, s') ∧ (V.node k a b A c us).abs = t ∧ us.length = n ∧ Lies w' w.heap.size w'.heap.size (.node k a b A c us) ∧ Shp 30 w' w.heap.size (.node k a b A c us)
  no : ok = false → rdS d s = none
def RdE4 (d : Nat) (s : List UInt8) (w : World) (e : Ending) (w' : World) : Prop :=
  ∃ (k : Int) (a b n c : Nat) (A : Option Addr) (s' : List UInt8) (ok : Bool), e = .returned (.tuple #[.agg #[.int .i64 k, .int .u64 (a : Int), .int .u64 (b : Int), .slice A n c], .string ⟨s'.toArray⟩, .bool ok]) ∧ Below w.heap.size w w' ∧ RrR d s w w' k a b n c A s' ok
def ROK (d : Nat) : Prop := ∀ (s : List UInt8) (w : World), s.length ≤ 1000000 → Calls Tryz.prog 54 #[.string ⟨s.toArray⟩, .int .i64 (d : Int)] w (RdE4 d s w)
def RowEnd4 (d kd : Nat) (s : List UInt8) (w : World) (e : Ending) (w' : World) : Prop :=
  ∃ (n c : Nat) (A : Option Addr) (s' : List UInt8) (ok : Bool), e = .returned (.tuple #[.agg #[.int .i64 (kd : Int), .int .u64 0, .int .u64 0, .slice A n c], .string ⟨s'.toArray⟩, .bool ok]) ∧ Below w.heap.size w w' ∧
    (ok = true → ∃ us, listB (rdS d) s = some (V.absL us, s') ∧ us.length = n ∧ TRow 30 w.heap.size (.slice A n c) us w') ∧ (ok = false → listB (rdS d) s = none)

theorem ext_drop (s : List UInt8) (k : Nat) : (⟨s.toArray⟩ : ByteArray).extract k s.length = ⟨(s.drop k).toArray⟩ := by
  apply ByteArray.ext
  simp [ByteArray.data_extract]
  rw [List.take_of_length_le (by simp)]
def strLen (v : Value) : Nat := match v with
  | Value.string b => b.size
  | _ => 0
theorem strLen_eq (s : List UInt8) : strLen (.string ⟨s.toArray⟩) = s.length := by simp [strLen, ByteArray.size]

set_option maxRecDepth 100000 in
theorem row_ret {Q : Ending → World → Prop} {W : World} {h0 : Nat} {x0 x1 x2 x3 y : Value} {b : Bool} (HR2 : W.heap[h0]? = some (.cells #[x0, x1, x2, x3] 30 (0, 0))) (HF2 : Q (.returned (.tuple #[.agg #[x0, x1, x2, x3], y, .bool b])) W)
    (tmps : Array Value) (h6 : tmps.getD 6 undef = .pointer (some ⟨h0, 0, none⟩)) (h7 : tmps.getD 7 undef = y) (h8 : tmps.getD 8 undef = .bool b) : bodyPost Tryz.prog Tryz.f74 Q .ret { tmps := tmps, defers := [] } W := by
  rw [Array.getD_eq_getD_getElem?] at h6 h7 h8
  have d0 := cell_of_row W _ 0 _ _ _ HR2
  have d1 := cell_of_row W _ 1 _ _ _ HR2
  have d2 := cell_of_row W _ 2 _ _ _ HR2
  have d3 := cell_of_row W _ 3 _ _ _ HR2
  simp at d0 d1 d2 d3
  exact bodyPost_ret (v := .tuple #[.agg #[x0, x1, x2, x3], y, .bool b]) (by simp [results, Tryz.results74, go_sem, h6, h7, h8, d0, d1, d2, d3]) rfl HF2

set_option maxRecDepth 100000 in
set_option maxHeartbeats 3200000 in
theorem rrow_any (d kd : Nat) (hd : d ≤ 8) (hkd : kd ≤ 7) (IH : ROK d) (s : List UInt8) (hl : s.length ≤ 1000000) (w : World) :
    Calls Tryz.prog 74 #[.agg #[.int .i64 (kd : Int), .int .u64 0, .int .u64 0, .slice none 0 0], .string ⟨s.toArray⟩, .int .i64 ((d : Int) + 1)] w (RowEnd4 d kd s w) := by
  obtain ⟨i0, hi0, hz0, hz1, hz2⟩ := info_parts Tryz.infoR
  obtain ⟨w1, hw1⟩ : ∃ w1, w1 = w.alloc (.cells #[.int .i64 (kd : Int), .int .u64 0, .int .u64 0, .slice none 0 0] 30) := ⟨_, rfl⟩
  have p1 := heap_alloc_new w (.cells #[.int .i64 (kd : Int), .int .u64 0, .int .u64 0, .slice none 0 0] 30)
  have b1 := below_new w (.cells #[.int .i64 (kd : Int), .int .u64 0, .int .u64 0, .slice none 0 0] 30)
  have s1 : w1.heap.size = w.heap.size + 1 := by rw [hw1]; simp
  rw [← hw1] at p1 b1
  obtain ⟨w2, hw2⟩ : ∃ w2, w2 = w1.alloc (.cells #[.int .i64 0, .int .u64 0, .int .u64 0, .slice none 0 0] 30) := ⟨_, rfl⟩
  have q2 := heap_alloc_new w1 (.cells #[.int .i64 0, .int .u64 0, .int .u64 0, .slice none 0 0] 30)
  have b2 := below_new w1 (.cells #[.int .i64 0, .int .u64 0, .int .u64 0, .slice none 0 0] 30)
  have s2 : w2.heap.size = w.heap.size + 2 := by rw [hw2]; simp [s1]
  rw [← hw2, s1] at q2 b2
  have p2 := (b2.block w.heap.size (by omega)).trans p1
  have hbw := b1.trans (b2.mono (by omega))
  have BG := Lib_hid (fun (x : List UInt8) W => rbegins_any s x W)
  have HIH := Lib_hid IH
  have HRET : Hid (∀ (W : World) (n c : Nat) (A : Option Addr) (s' : List UInt8) (ok : Bool) (us : List V), W.heap[w.heap.size + 1]? = some (.cells #[.int .i64 0, .int .u64 0, .int .u64 0, .slice none 0 0] 30 (0, 0)) → Below w.heap.size w W →
      (ok = true → ∃ us, listB (rdS d) s = some (V.absL us, s') ∧ us.length = n ∧ TRow 30 (w.heap.size + 2) (.slice A n c) us W) → (ok = false → listB (rdS d) s = none) → w.heap.size + 2 ≤ W.heap.size →
      RowEnd4 d kd s w (.returned (.tuple #[.agg #[.int .i64 (kd : Int), .int .u64 0, .int .u64 0, .slice A n c], .string ⟨s'.toArray⟩, .bool ok])) (put4 W (w.heap.size + 1) (.int .i64 (kd : Int)) (.int .u64 0) (.int .u64 0) (.slice A n c)) ∧
      (put4 W (w.heap.size + 1) (.int .i64 (kd : Int)) (.int .u64 0) (.int .u64 0) (.slice A n c)).heap[w.heap.size + 1]? = some (.cells #[.int .i64 (kd : Int), .int .u64 0, .int .u64 0, .slice A n c] 30 (0, 0))) := by
    intro W n c A s' ok us0 h1 h2 h3 h4 h5
    refine ⟨⟨n, c, A, s', ok, rfl, put4_below h2 (by omega) _ _ _ _, fun ho => ?_, h4⟩, put4_row h1 _ _ _ _⟩
    obtain ⟨us, e1, e2, hT⟩ := h3 ho
    have hT2 := hT.keep (w' := put4 W (w.heap.size + 1) (.int .i64 (kd : Int)) (.int .u64 0) (.int .u64 0) (.slice A n c)) (by rw [put4_size]; exact Nat.le_refl _) (fun g hg _ => put4_else W (by omega) _ _ _ _)
    exact ⟨us, e1, e2, own_base hT2.own fun k hk => by have := own_ge hT2.own k hk; omega, fun u hu => by
      obtain ⟨lo, hi, q1, q2, q3, q4, q5⟩ := hT2.el u hu
      exact ⟨lo, hi, by omega, q2, q3, q4, q5⟩⟩
  have HB2 := Lib_hid (And.intro q2 (And.intro hbw s2))
  subst hw2 hw1
  clear b1 b2 p1 IH q2 hbw s1
  go_enter Tryz.func74, Tryz.ntmps74
  go_upto_region 1 with (fail)
  generalize (w.alloc _).alloc (.cells #[.int .i64 0, .int .u64 0, .int .u64 0, .slice none 0 0] 30) = w2 at *
  have BG1 := BG.out [41] w2
  clear BG
  cases h41 : Lib.hasPrefix s [41] with
  | true =>
    rw [h41] at BG1
    have hls := pre_len h41
    have hext := ext_drop s 1
    have hLB : listB (rdS d) s = some (V.absL [], s.drop 1) := by unfold listB; rw [if_pos h41, trim_yes h41]; simp [V.absL]
    have hi1 : (1 : Int) ≤ (s.length : Int) := by have := hls; simp at this; omega
    generalize s.drop 1 = s' at *
    have pE := p2
    have qE := HB2.out.1
    have bE := HB2.out.2.1
    have sE : w.heap.size + 2 ≤ w2.heap.size := by have := HB2.out.2.2; omega
    clear p2 HB2 s2 h41 hls
    have e0 := cell_of_row w2 _ 0 _ _ _ pE
    have e1 := cell_of_row w2 _ 1 _ _ _ pE
    have e2 := cell_of_row w2 _ 2 _ _ _ pE
    have e3 := cell_of_row w2 _ 3 _ _ _ pE
    have f0 := cell_of_row w2 _ 0 _ _ _ qE
    have f1 := cell_of_row w2 _ 1 _ _ _ qE
    have f2 := cell_of_row w2 _ 2 _ _ _ qE
    have f3 := cell_of_row w2 _ 3 _ _ _ qE
    have y0 := frozen_of_row w2 (w.heap.size + 1) 0 _ _ qE
    have y1 := frozen_of_row w2 (w.heap.size + 1) 1 _ _ qE
    have y2 := frozen_of_row w2 (w.heap.size + 1) 2 _ _ qE
    have y3 := frozen_of_row w2 (w.heap.size + 1) 3 _ _ qE
    simp at e0 e1 e2 e3 f0 f1 f2 f3
    have HX := Lib_hid (HRET.out w2.drew 0 0 none s' true [] qE bE.drew (fun _ => ⟨[], hLB, rfl, TRow.nil _ _ _⟩) (fun h => by cases h) sE)
    clear pE qE bE sE
    clear hLB HRET
    go_upto_region 2 with (go_at_call 72; refine BG1.mono ?_; rintro e w' ⟨rfl, rfl⟩)
    go_region
    all_goals
      go_wp2_with fail
      show bodyPost _ _ _ _ _ (put4 w2.drew (w.heap.size + 1) (.int .i64 (kd : Int)) (.int .u64 0) (.int .u64 0) (.slice none 0 0))
      have HX2 := HX.out
      clear HX e0 e1 e2 e3 f0 f1 f2 f3 y0 y1 y2 y3
      generalize put4 w2.drew (w.heap.size + 1) (.int .i64 (kd : Int)) (.int .u64 0) (.int .u64 0) (.slice none 0 0) = W2 at *
      exact row_ret (b := true) HX2.2 HX2.1 _ rfl rfl rfl
  | false =>
    have H41 := Lib_hid h41
    have hT0 := TRow.nil 30 (w.heap.size + 2) w2
    have hlb : listB (rdS d) s = (contS (rdS d) s).map fun x => (V.absL [] ++ x.1, x.2) := by
      show (if _ then _ else contS (rdS d) s) = _
      rw [if_neg (by rw [h41]; simp)]
      cases contS (rdS d) s with
      | none => rfl
      | some x => simp [V.absL]
    have HLB := Lib_hid hlb
    have HT0 := Lib_hid hT0
    have hq2 := HB2.out.1
    have hbw := HB2.out.2.1
    have hs2 := HB2.out.2.2
    have hd1 : IntKind.i64.wrap ((d : Int) + 1 - 1) = (d : Int) := by rw [IntKind.wrap_i64]; omega
    rw [h41] at BG1
    clear h41 hT0 hlb HB2
    go_wp2_with (go_at_call 72; refine BG1.mono ?_; rintro e w' ⟨rfl, rfl⟩)
    clear BG1
    go_loopw [1] (fun x W => ∃ (us : List V) (A : Option Addr) (n c : Nat) (ss : List UInt8), x = .string ⟨ss.toArray⟩ ∧ W.heap[w.heap.size]? = some (.cells #[.int .i64 (kd : Int), .int .u64 0, .int .u64 0, .slice A n c] 30 (0, 0)) ∧ W.heap[w.heap.size + 1]? = some (.cells #[.int .i64 0, .int .u64 0, .int .u64 0, .slice none 0 0] 30 (0, 0)) ∧
        Hid (TRow 30 (w.heap.size + 2) (.slice A n c) us W) ∧ Hid (listB (rdS d) s = (contS (rdS d) ss).map fun x => (V.absL us ++ x.1, x.2)) ∧ n + ss.length ≤ s.length ∧ Below w.heap.size w W ∧ w.heap.size + 2 ≤ W.heap.size) (fun x _ => strLen x)
    case atStart => exact ⟨[], none, 0, 0, s, rfl, p2, hq2, HT0, HLB, by omega, hbw, by omega⟩
    case round =>
      clear p2 hq2 HT0 HLB hbw hs2
      obtain ⟨us, A, n, c, ss, rfl, pW, qW, hT, hlb, hns, hbW, sW⟩ := hrel
      rename World => W
      have CH := HIH.out ss W (by omega)
      have hun : us.length = n := by
        obtain ⟨A2, c2, e, _⟩ := own_form hT.out.own
        injection e with _ e
        exact e.symm
      have HUN := Lib_hid hun
      have hSL : Hid (strLen (.string ⟨ss.toArray⟩) = ss.length) := strLen_eq ss
      clear hun
      go_wp2_with fail
      refine CH.mono ?_
      rintro e w3 ⟨k, a, b, n', c', A', s', ok, rfl, hb3, hR⟩
      have s3 := hb3.size
      have b4 := below_new w3 (.cells #[.int .i64 k, .int .u64 (a : Int), .int .u64 (b : Int), .slice A' n' c'] 30)
      have r4 := heap_alloc_new w3 (.cells #[.int .i64 k, .int .u64 (a : Int), .int .u64 (b : Int), .slice A' n' c'] 30)
      have s4 := b4.size
      have hb4 := hb3.trans (b4.mono s3)
      have bW4 := hbW.trans (hb4.mono (by omega))
      have p4 := (hb4.block w.heap.size (by omega)).trans pW
      have q4 := (hb4.block (w.heap.size + 1) (by omega)).trans qW
      have HB4 := Lib_hid b4
      have sw4 : w3.heap.size < (w3.alloc (.cells #[.int .i64 k, .int .u64 (a : Int), .int .u64 (b : Int), .slice A' n' c'] 30)).heap.size := by simp
      clear CH pW qW hbW b4
      go_upto_region 4 with (fail)
      generalize w3.alloc (.cells #[.int .i64 k, .int .u64 (a : Int), .int .u64 (b : Int), .slice A' n' c'] 30) = w4 at *
      cases ok with
      | false =>
        have hno : listB (rdS d) s = none := by rw [hlb.out, cont_none (hR.no rfl)]; rfl
        have pE := p4
        have qE := q4
        have bE := bW4
        have sE : w.heap.size + 2 ≤ w4.heap.size := by omega
        clear p4 q4 bW4
        have e0 := cell_of_row w4 _ 0 _ _ _ pE
        have e1 := cell_of_row w4 _ 1 _ _ _ pE
        have e2 := cell_of_row w4 _ 2 _ _ _ pE
        have e3 := cell_of_row w4 _ 3 _ _ _ pE
        have f0 := cell_of_row w4 _ 0 _ _ _ qE
        have f1 := cell_of_row w4 _ 1 _ _ _ qE
        have f2 := cell_of_row w4 _ 2 _ _ _ qE
        have f3 := cell_of_row w4 _ 3 _ _ _ qE
        have y0 := frozen_of_row w4 (w.heap.size + 1) 0 _ _ qE
        have y1 := frozen_of_row w4 (w.heap.size + 1) 1 _ _ qE
        have y2 := frozen_of_row w4 (w.heap.size + 1) 2 _ _ qE
        have y3 := frozen_of_row w4 (w.heap.size + 1) 3 _ _ qE
        simp at e0 e1 e2 e3 f0 f1 f2 f3
        have HX := Lib_hid (HRET.out w4 n c A ss false [] qE bE (fun h => by cases h) (fun _ => hno) sE)
        clear pE qE bE sE HRET
        go_wp2_with fail
        show bodyPost _ _ _ _ _ (put4 w4 (w.heap.size + 1) (.int .i64 (kd : Int)) (.int .u64 0) (.int .u64 0) (.slice A n c))
        have HX2 := HX.out
        clear HX e0 e1 e2 e3 f0 f1 f2 f3 y0 y1 y2 y3
        generalize put4 w4 (w.heap.size + 1) (.int .i64 (kd : Int)) (.int .u64 0) (.int .u64 0) (.slice A n c) = W2 at *
        exact row_ret (b := false) HX2.2 HX2.1 _ rfl rfl rfl
      | true =>
        obtain ⟨t, us2, e1, e2, e3, hL, hS⟩ := hR.yes rfl
        have hlr := rdS_len d _ _ _ e1
        by_cases hnil : s' = []
        · subst hnil
          have hno : listB (rdS d) s = none := by rw [hlb.out, cont_end e1]; rfl
          have pE := p4
          have qE := q4
          have bE := bW4
          have sE : w.heap.size + 2 ≤ w4.heap.size := by omega
          clear p4 q4 bW4
          have e0 := cell_of_row w4 _ 0 _ _ _ pE
          have e1 := cell_of_row w4 _ 1 _ _ _ pE
          have e2 := cell_of_row w4 _ 2 _ _ _ pE
          have e3 := cell_of_row w4 _ 3 _ _ _ pE
          have f0 := cell_of_row w4 _ 0 _ _ _ qE
          have f1 := cell_of_row w4 _ 1 _ _ _ qE
          have f2 := cell_of_row w4 _ 2 _ _ _ qE
          have f3 := cell_of_row w4 _ 3 _ _ _ qE
          have y0 := frozen_of_row w4 (w.heap.size + 1) 0 _ _ qE
          have y1 := frozen_of_row w4 (w.heap.size + 1) 1 _ _ qE
          have y2 := frozen_of_row w4 (w.heap.size + 1) 2 _ _ qE
          have y3 := frozen_of_row w4 (w.heap.size + 1) 3 _ _ qE
          simp at e0 e1 e2 e3 f0 f1 f2 f3
          have HX := Lib_hid (HRET.out w4 n c A ss false [] qE bE (fun h => by cases h) (fun _ => hno) sE)
          clear pE qE bE sE HRET
          go_wp2_with fail
          show bodyPost _ _ _ _ _ (put4 w4 (w.heap.size + 1) (.int .i64 (kd : Int)) (.int .u64 0) (.int .u64 0) (.slice A n c))
          have HX2 := HX.out
          clear HX e0 e1 e2 e3 f0 f1 f2 f3 y0 y1 y2 y3
          generalize put4 w4 (w.heap.size + 1) (.int .i64 (kd : Int)) (.int .u64 0) (.int .u64 0) (.slice A n c) = W2 at *
          exact row_ret (b := false) HX2.2 HX2.1 _ rfl rfl rfl
        · obtain ⟨ch, l, hs'⟩ : ∃ ch l, s' = ch :: l := by
            cases s' with
            | nil => exact absurd rfl hnil
            | cons ch l => exact ⟨ch, l, rfl⟩
          have hsb : (s' == []) = false := by rw [hs']; rfl
          have hix : ∀ W, (Instr.index 9 (.string ⟨s'.toArray⟩) (.int .i64 0)).run Tryz.prog W = .ok (.int .u8 ((ch.toNat : Nat) : Int)) W := fun W => by have := ix_str s' 0 (by rw [hs']; simp) W; simp only [hs', List.getElem_cons_zero] at this ⊢; exact this
          have hext := ext_drop s' 1
          rw [show s'.drop 1 = l by rw [hs']; rfl] at hext
          have hi1 : (1 : Int) ≤ (s'.length : Int) := by rw [hs']; simp; omega
          have hll : l.length + 1 = s'.length := by rw [hs']; simp
          have HS' := Lib_hid hs'
          have e1' := e1
          rw [hs'] at e1'
          clear hs' hnil
          subst e3
          have hm1 : n + 1 ≤ maxLen := by unfold maxLen; omega
          have hm2 : (n + 1) * 48 ≤ 140737488355328 := by omega
          have hown4 : w4.ownsRow (w.heap.size + 2) 30 4 (.slice A n c) n (vCells us) := by
            have h1 := hT.out.own
            rw [HUN.out] at h1
            exact own_below h1 hb4 (own_lt h1)
          have hnew := below_new w4 (.cells #[.int .i64 k, .int .u64 (a : Int), .int .u64 (b : Int), .slice A' us2.length c'] 30)
          have hRd := new_val w4 30 (.node k a b A' c' us2)
          simp only [V.kind, V.a, V.b, V.sl, V.addr, V.parts, V.cap] at hRd
          have p3 := cell_of_row w4 _ 3 _ _ _ p4
          have d0 := cell_of_row w4 _ 0 _ _ _ r4
          have d1 := cell_of_row w4 _ 1 _ _ _ r4
          have d2 := cell_of_row w4 _ 2 _ _ _ r4
          have d3 := cell_of_row w4 _ 3 _ _ _ r4
          simp at p3 d0 d1 d2 d3
          have HE : Hid (∀ (w5 : World) (v' : Value), Stp (w4.alloc (.cells #[.int .i64 k, .int .u64 (a : Int), .int .u64 (b : Int), .slice A' us2.length c'] 30)) w5 (.slice A n c) v' → w5.ownsRow (w.heap.size + 2) 30 4 v' (n + 1) (vCells us ++ vCells [.node k a b A' c' us2]) →
              TRow 30 (w.heap.size + 2) v' (us ++ [V.node k a b A' c' us2]) w5 ∧ (∀ i, i < w.heap.size + 2 → w5.heap[i]? = w4.heap[i]?) ∧ w4.heap.size ≤ w5.heap.size ∧ Below w.heap.size w w5) := by
            intro w5 v' hst ho
            have hge := own_ge hT.out.own
            have hns := hnew.size
            refine ⟨hT.out.push (w2 := w3) (w3 := w4.alloc _) (by omega) hb3 hL hS (HB4.out.trans (hnew.mono (by omega))) hst (by rw [HUN.out]; exact ho), fun i hi => ?_, by have := hst.grow.size; omega, ?_⟩
            · exact (hst.grow.block i (by omega) (fun e => by have := hge i e.symm; omega)).trans (hnew.block i (by omega))
            · exact (bW4.trans (hnew.mono (by omega))).trans (hst.below (by omega) fun q hq => by have := hge q hq; omega)
          have HPQ := Lib_hid (And.intro p4 q4)
          have HSP := Lib_hid (And.intro hlb.out (And.intro e1' e2))
          clear hT hL hS hb3 hR hlb e1 e1' e2 bW4 p4 q4 r4 hb4
          go_upto_region 7 with (at_builtin; (refine wpList_app rfl _ _ 28 rfl (w.heap.size + 2) 30 i0 (.agg #[.int .i64 0, .int .u64 0, .int .u64 0, .slice none 0 0]) 4 48 Tryz.underlying28 hi0 hz0 hz1 hz2 rfl (by decide) (.slice A n c) n (vCells us) rfl (own_below hown4 hnew (own_lt hown4)) (w4.heap.size + 1) (some ⟨w4.heap.size, 0, none⟩) 1 1 (vCells [.node k a b A' c' us2]) rfl hRd (v_one _) hm1 hm2 (by simp; omega) ?_); intro v5 w5 ho5 hs5; have hx := HE.out w5 v5 hs5 ho5; obtain ⟨A5, c5, rfl, _⟩ := own_form ho5; have p5 := (hx.2.1 w.heap.size (by omega)).trans HPQ.out.1; have g5 := cell_of_row w5 _ 3 _ _ _ p5; have z5 := frozen_of_row w5 w.heap.size 3 _ _ p5; simp at g5)
          have p6 := Joins.block_setCell (i := 3) p5 (.slice A5 (n + 1) c5)
          have q6 := (Below.heap_setCell w5 ⟨w.heap.size, 3, none⟩ (.slice A5 (n + 1) c5) (w.heap.size + 1) (by show w.heap.size + 1 ≠ w.heap.size; omega)).trans ((hx.2.1 (w.heap.size + 1) (by omega)).trans HPQ.out.2)
          have hT6 := hx.1.keep (w' := w5.setCell ⟨w.heap.size, 3, none⟩ (.slice A5 (n + 1) c5)) (by simp [World.setCell]) (fun g hg _ => Below.heap_setCell w5 ⟨w.heap.size, 3, none⟩ _ g (by show g ≠ w.heap.size; omega))
          have b6 := hx.2.2.2.setCell (p := ⟨w.heap.size, 3, none⟩) (by show w.heap.size ≤ w.heap.size; omega) (.slice A5 (n + 1) c5)
          have s6 : w.heap.size + 2 ≤ (w5.setCell ⟨w.heap.size, 3, none⟩ (.slice A5 (n + 1) c5)).heap.size := by have := hx.2.2.1; simp [World.setCell]; omega
          have HT6 := Lib_hid hT6
          have habs : Hid (V.absL (us ++ [V.node k a b A' c' us2]) = V.absL us ++ [t]) := by unfold Hid; rw [absL_map, List.map_append, ← absL_map, List.map_cons, List.map_nil, HSP.out.2.2]
          have hulen : Hid ((us ++ [V.node k a b A' c' us2]).length = n + 1) := by unfold Hid; rw [List.length_append, HUN.out]; rfl
          clear hx p5 g5 z5 ho5 hs5 hT6 HE hown4 hnew hRd p3 d0 d1 d2 d3
          generalize w5.setCell ⟨w.heap.size, 3, none⟩ (.slice A5 (n + 1) c5) = w6 at *
          have p6 : w6.heap[w.heap.size]? = some (.cells #[.int .i64 (kd : Int), .int .u64 0, .int .u64 0, .slice A5 (n + 1) c5] 30 (0, 0)) := p6
          by_cases h41 : ch = 41
          · have hq : ((ch.toNat : Int) == 41) = true := by rw [h41]; decide
            have hspec : listB (rdS d) s = some (V.absL (us ++ [V.node k a b A' c' us2]), l) := by
              rw [HSP.out.1, cont_shut (by rw [← h41]; exact HSP.out.2.1), habs.out]; rfl
            have pE := p6
            have qE := q6
            have bE := b6
            have sE := s6
            clear p6 q6 b6 s6 h41
            have e0 := cell_of_row w6 _ 0 _ _ _ pE
            have e1 := cell_of_row w6 _ 1 _ _ _ pE
            have e2 := cell_of_row w6 _ 2 _ _ _ pE
            have e3 := cell_of_row w6 _ 3 _ _ _ pE
            have f0 := cell_of_row w6 _ 0 _ _ _ qE
            have f1 := cell_of_row w6 _ 1 _ _ _ qE
            have f2 := cell_of_row w6 _ 2 _ _ _ qE
            have f3 := cell_of_row w6 _ 3 _ _ _ qE
            have y0 := frozen_of_row w6 (w.heap.size + 1) 0 _ _ qE
            have y1 := frozen_of_row w6 (w.heap.size + 1) 1 _ _ qE
            have y2 := frozen_of_row w6 (w.heap.size + 1) 2 _ _ qE
            have y3 := frozen_of_row w6 (w.heap.size + 1) 3 _ _ qE
            simp at e0 e1 e2 e3 f0 f1 f2 f3
            have HX := Lib_hid (HRET.out w6 (n + 1) c5 A5 l true [] qE bE (fun _ => ⟨_, hspec, hulen.out, HT6.out⟩) (fun h => by cases h) sE)
            clear pE qE bE sE HRET
            go_wp2_with fail
            show bodyPost _ _ _ _ _ (put4 w6 (w.heap.size + 1) (.int .i64 (kd : Int)) (.int .u64 0) (.int .u64 0) (.slice A5 (n + 1) c5))
            have HX2 := HX.out
            clear HX e0 e1 e2 e3 f0 f1 f2 f3 y0 y1 y2 y3
            generalize put4 w6 (w.heap.size + 1) (.int .i64 (kd : Int)) (.int .u64 0) (.int .u64 0) (.slice A5 (n + 1) c5) = W2 at *
            exact row_ret (b := true) HX2.2 HX2.1 _ rfl rfl rfl
          · have hq : ((ch.toNat : Int) == 41) = false := by
              simp only [beq_eq_false_iff_ne, ne_eq]
              intro e
              apply h41
              have e2 : ch.toNat = 41 := by omega
              rw [← UInt8.toNat_inj]
              exact e2
            by_cases h44 : ch = 44
            · have hq2 : ((ch.toNat : Int) != 44) = false := by rw [h44]; decide
              have hspec : listB (rdS d) s = (contS (rdS d) l).map fun x => (V.absL (us ++ [V.node k a b A' c' us2]) ++ x.1, x.2) := by
                rw [HSP.out.1, cont_more (rdS_len d) (by rw [← h44]; exact HSP.out.2.1), habs.out]
                cases contS (rdS d) l with
                | none => rfl
                | some x => simp
              have HSPEC := Lib_hid hspec
              have HML : Hid (strLen (.string ⟨l.toArray⟩) < strLen (.string ⟨ss.toArray⟩)) := by unfold Hid; rw [hSL.out, strLen_eq]; omega
              clear hspec h41 h44
              go_wp2_with fail
              go_roundw
              case rel => exact ⟨us ++ [.node k a b A' c' us2], A5, n + 1, c5, l, by go_num, p6, q6, HT6, HSPEC, by omega, b6, s6⟩
              case measure => exact HML.out
            · have hq2 : ((ch.toNat : Int) != 44) = true := by
                simp only [bne_iff_ne, ne_eq]
                intro e
                apply h44
                have e2 : ch.toNat = 44 := by omega
                rw [← UInt8.toNat_inj]
                exact e2
              have hno : listB (rdS d) s = none := by rw [HSP.out.1, cont_bad HSP.out.2.1 h41 h44]; rfl
              have pE := p6
              have qE := q6
              have bE := b6
              have sE := s6
              clear p6 q6 b6 s6 h41 h44
              have e0 := cell_of_row w6 _ 0 _ _ _ pE
              have e1 := cell_of_row w6 _ 1 _ _ _ pE
              have e2 := cell_of_row w6 _ 2 _ _ _ pE
              have e3 := cell_of_row w6 _ 3 _ _ _ pE
              have f0 := cell_of_row w6 _ 0 _ _ _ qE
              have f1 := cell_of_row w6 _ 1 _ _ _ qE
              have f2 := cell_of_row w6 _ 2 _ _ _ qE
              have f3 := cell_of_row w6 _ 3 _ _ _ qE
              have y0 := frozen_of_row w6 (w.heap.size + 1) 0 _ _ qE
              have y1 := frozen_of_row w6 (w.heap.size + 1) 1 _ _ qE
              have y2 := frozen_of_row w6 (w.heap.size + 1) 2 _ _ qE
              have y3 := frozen_of_row w6 (w.heap.size + 1) 3 _ _ qE
              simp at e0 e1 e2 e3 f0 f1 f2 f3
              have HX := Lib_hid (HRET.out w6 (n + 1) c5 A5 l false [] qE bE (fun h => by cases h) (fun _ => hno) sE)
              clear pE qE bE sE HRET
              go_wp2_with fail
              show bodyPost _ _ _ _ _ (put4 w6 (w.heap.size + 1) (.int .i64 (kd : Int)) (.int .u64 0) (.int .u64 0) (.slice A5 (n + 1) c5))
              have HX2 := HX.out
              clear HX e0 e1 e2 e3 f0 f1 f2 f3 y0 y1 y2 y3
              generalize put4 w6 (w.heap.size + 1) (.int .i64 (kd : Int)) (.int .u64 0) (.int .u64 0) (.slice A5 (n + 1) c5) = W2 at *
              exact row_ret (b := false) HX2.2 HX2.1 _ rfl rfl rfl

end Go.Proofs.YtpbmgbeiieapiaaGreatDoor

namespace Go.Proofs.YtpbmgbeiieapiaaGreatDoor
open Go Go.RowKit
set_option linter.unusedVariables false

set_option maxRecDepth 100000 in
theorem rread_ret {Q : Ending → World → Prop} {W : World} {h0 : Nat} {x0 x1 x2 x3 y : Value} {b : Bool} (HR2 : W.heap[h0]? = some (.cells #[x0, x1, x2, x3] 30 (0, 0))) (HF2 : Q (.returned (.tuple #[.agg #[x0, x1, x2, x3], y, .bool b])) W)
    (tmps : Array Value) (h6 : tmps.getD 4 undef = .pointer (some ⟨h0, 0, none⟩)) (h7 : tmps.getD 5 undef = y) (h8 : tmps.getD 6 undef = .bool b) : bodyPost Tryz.prog Tryz.f54 Q .ret { tmps := tmps, defers := [] } W := by
  rw [Array.getD_eq_getD_getElem?] at h6 h7 h8
  have d0 := cell_of_row W _ 0 _ _ _ HR2
  have d1 := cell_of_row W _ 1 _ _ _ HR2
  have d2 := cell_of_row W _ 2 _ _ _ HR2
  have d3 := cell_of_row W _ 3 _ _ _ HR2
  simp at d0 d1 d2 d3
  exact bodyPost_ret (v := .tuple #[.agg #[x0, x1, x2, x3], y, .bool b]) (by simp [results, Tryz.results54, go_sem, h6, h7, h8, d0, d1, d2, d3]) rfl HF2

theorem leaf_lies (w : World) (lo hi k a b : Nat) (hk : k ≤ 7) (ha : a < 18446744073709551616) (hb : b < 18446744073709551616) : Lies w lo hi (.node k a b none 0 []) := .mk _ _ _ _ _ _ (by omega) ha hb Rd.zero (by simp) (fun ad e => by cases e) (by simp)
theorem leaf_shp (E : TypeId) (w : World) (lo k a b : Nat) : Shp E w lo (.node k a b none 0 []) := .mk _ _ _ _ _ _ (by simp) (by simp)
theorem pre_head {s : List UInt8} {c : UInt8} {l : List UInt8} (h : Lib.hasPrefix s (c :: l) = true) : ∃ r, s = c :: r := by
  cases s with
  | nil => cases h
  | cons x r =>
    simp [Lib.hasPrefix, List.isPrefixOf] at h
    exact ⟨r, by rw [h.1]⟩

set_option maxRecDepth 100000 in
set_option maxHeartbeats 6400000 in
theorem rread4_any (d : Nat) : d ≤ 8 → ROK d := by
  induction d with
  | zero =>
    intro _ s w hl
    obtain ⟨w1, hw1⟩ : ∃ w1, w1 = w.alloc (.cells #[.int .i64 0, .int .u64 0, .int .u64 0, .slice none 0 0] 30) := ⟨_, rfl⟩
    have q1 := heap_alloc_new w (.cells #[.int .i64 0, .int .u64 0, .int .u64 0, .slice none 0 0] 30)
    have b1 := below_new w (.cells #[.int .i64 0, .int .u64 0, .int .u64 0, .slice none 0 0] 30)
    rw [← hw1] at q1 b1
    have HX : Hid (RdE4 0 s w (.returned (.tuple #[.agg #[.int .i64 0, .int .u64 0, .int .u64 0, .slice none 0 0], .string ⟨s.toArray⟩, .bool false])) (put4 w1 w.heap.size (.int .i64 0) (.int .u64 0) (.int .u64 0) (.slice none 0 0)) ∧
        (put4 w1 w.heap.size (.int .i64 0) (.int .u64 0) (.int .u64 0) (.slice none 0 0)).heap[w.heap.size]? = some (.cells #[.int .i64 0, .int .u64 0, .int .u64 0, .slice none 0 0] 30 (0, 0))) :=
      ⟨⟨0, 0, 0, 0, 0, none, s, false, rfl, put4_below b1 (Nat.le_refl _) _ _ _ _, (fun h => by cases h), fun _ => rfl⟩, put4_row q1 _ _ _ _⟩
    have f0 := cell_of_row w1 _ 0 _ _ _ q1
    have f1 := cell_of_row w1 _ 1 _ _ _ q1
    have f2 := cell_of_row w1 _ 2 _ _ _ q1
    have f3 := cell_of_row w1 _ 3 _ _ _ q1
    have y0 := frozen_of_row w1 w.heap.size 0 _ _ q1
    have y1 := frozen_of_row w1 w.heap.size 1 _ _ q1
    have y2 := frozen_of_row w1 w.heap.size 2 _ _ q1
    have y3 := frozen_of_row w1 w.heap.size 3 _ _ q1
    simp at f0 f1 f2 f3
    subst hw1
    clear q1 b1
    go_enter Tryz.func54, Tryz.ntmps54
    go_upto_region 1 with (fail)
    generalize w.alloc (.cells #[.int .i64 0, .int .u64 0, .int .u64 0, .slice none 0 0] 30) = w1 at *
    go_wp2_with fail
    show bodyPost _ _ _ _ _ (put4 w1 w.heap.size (.int .i64 0) (.int .u64 0) (.int .u64 0) (.slice none 0 0))
    have HX2 := HX.out
    clear HX f0 f1 f2 f3 y0 y1 y2 y3
    generalize put4 w1 w.heap.size (.int .i64 0) (.int .u64 0) (.int .u64 0) (.slice none 0 0) = W2 at *
    exact rread_ret (b := false) HX2.2 HX2.1 _ rfl rfl rfl
  | succ d ih =>
  intro hd s w hl
  have IH := ih (by omega)
  clear ih
  obtain ⟨w1, hw1⟩ : ∃ w1, w1 = w.alloc (.cells #[.int .i64 0, .int .u64 0, .int .u64 0, .slice none 0 0] 30) := ⟨_, rfl⟩
  have q1 := heap_alloc_new w (.cells #[.int .i64 0, .int .u64 0, .int .u64 0, .slice none 0 0] 30)
  have b1 := below_new w (.cells #[.int .i64 0, .int .u64 0, .int .u64 0, .slice none 0 0] 30)
  have s1 : w1.heap.size = w.heap.size + 1 := by rw [hw1]; simp
  rw [← hw1] at q1 b1
  have BG := Lib_hid (fun (q x : List UInt8) W => rbegins_any q x W)
  have VA := Lib_hid (fun (q : List UInt8) (hq : q.length ≤ 1000000) W => rvalue_any q hq W)
  have HIH := Lib_hid IH
  have HRET : Hid (∀ (W : World) (k : Int) (a b n c : Nat) (A : Option Addr) (s' : List UInt8) (ok : Bool), W.heap[w.heap.size]? = some (.cells #[.int .i64 0, .int .u64 0, .int .u64 0, .slice none 0 0] 30 (0, 0)) → Below w.heap.size w W →
      (ok = true → ∃ t us, rdS (d + 1) s = some (t, s') ∧ (V.node k a b A c us).abs = t ∧ us.length = n ∧ Lies W (w.heap.size + 1) W.heap.size (.node k a b A c us) ∧ Shp 30 W (w.heap.size + 1) (.node k a b A c us)) → (ok = false → rdS (d + 1) s = none) →
      RdE4 (d + 1) s w (.returned (.tuple #[.agg #[.int .i64 k, .int .u64 (a : Int), .int .u64 (b : Int), .slice A n c], .string ⟨s'.toArray⟩, .bool ok])) (put4 W w.heap.size (.int .i64 k) (.int .u64 (a : Int)) (.int .u64 (b : Int)) (.slice A n c)) ∧
      (put4 W w.heap.size (.int .i64 k) (.int .u64 (a : Int)) (.int .u64 (b : Int)) (.slice A n c)).heap[w.heap.size]? = some (.cells #[.int .i64 k, .int .u64 (a : Int), .int .u64 (b : Int), .slice A n c] 30 (0, 0))) := by
    intro W k a b n c A s' ok h1 h2 h3 h4
    refine ⟨⟨k, a, b, n, c, A, s', ok, rfl, put4_below h2 (Nat.le_refl _) _ _ _ _, fun ho => ?_, h4⟩, put4_row h1 _ _ _ _⟩
    obtain ⟨t, us, e1, e2, e3, hL, hS⟩ := h3 ho
    refine ⟨t, us, e1, e2, e3, ?_, ?_⟩
    · rw [put4_size]
      exact (hL.keep fun p h1 _ => World.cell?_of_block (put4_else W (by omega) _ _ _ _)).more (by omega) (Nat.le_refl _)
    · exact (Shp.keepL _ hL hS fun g' h1 _ => put4_else W (by omega) _ _ _ _).more (by omega)
  have hd0 : (((d + 1 : Nat) : Int) == 0) = false := by simp; omega
  have hdc : ((d + 1 : Nat) : Int) = (d : Int) + 1 := by omega
  rw [hdc] at hd0 ⊢
  have hd1 : IntKind.i64.wrap ((d : Int) + 1 - 1) = (d : Int) := by rw [IntKind.wrap_i64]; omega
  subst hw1
  clear IH hdc
  go_enter Tryz.func54, Tryz.ntmps54
  go_upto_region 1 with (fail)
  generalize w.alloc (.cells #[.int .i64 0, .int .u64 0, .int .u64 0, .slice none 0 0] 30) = w1 at *
  cases h1 : Lib.hasPrefix s [97, 108, 108] with
  | true =>
    have hl3 := pre_len h1
    have hi3 : (3 : Int) ≤ (s.length : Int) := by simp at hl3; omega
    have hext := ext_drop s 3
    have hsp := rd_all (d := d) h1
    have BG1 := BG.out s [97, 108, 108] w1
    rw [h1] at BG1
    generalize s.drop 3 = s' at *
    have qE := q1
    have bE := b1
    clear q1 b1 h1 hl3 BG VA HIH
    have f0 := cell_of_row w1 _ 0 _ _ _ qE
    have f1 := cell_of_row w1 _ 1 _ _ _ qE
    have f2 := cell_of_row w1 _ 2 _ _ _ qE
    have f3 := cell_of_row w1 _ 3 _ _ _ qE
    have y0 := frozen_of_row w1 w.heap.size 0 _ _ qE
    have y1 := frozen_of_row w1 w.heap.size 1 _ _ qE
    have y2 := frozen_of_row w1 w.heap.size 2 _ _ qE
    have y3 := frozen_of_row w1 w.heap.size 3 _ _ qE
    simp at f0 f1 f2 f3
    have HX := Lib_hid (HRET.out w1.drew 1 0 0 0 0 none s' true qE bE.drew (fun _ => ⟨_, [], hsp, by simp [V.abs, V.absL], rfl, leaf_lies _ _ _ 1 0 0 (by omega) (by omega) (by omega), leaf_shp _ _ _ 1 0 0⟩) (fun h => by cases h))
    clear qE bE HRET
    go_upto_region 4 with (go_at_call 72; refine BG1.mono ?_; rintro e w' ⟨rfl, rfl⟩)
    clear hsp
    go_region
    all_goals (go_wp2_with fail)
    show bodyPost _ _ _ _ _ (put4 w1.drew w.heap.size (.int .i64 1) (.int .u64 0) (.int .u64 0) (.slice none 0 0))
    have HX2 := HX.out
    clear HX f0 f1 f2 f3 y0 y1 y2 y3
    generalize put4 w1.drew w.heap.size (.int .i64 1) (.int .u64 0) (.int .u64 0) (.slice none 0 0) = W2 at *
    exact rread_ret (b := true) HX2.2 HX2.1 _ rfl rfl rfl
  | false =>
  cases h2 : Lib.hasPrefix s [120, 60, 61] with
  | true =>
    have hl3 := pre_len h2
    have hi3 : (3 : Int) ≤ (s.length : Int) := by simp at hl3; omega
    have hext := ext_drop s 3
    have hsp := rd_x (d := d) h1 h2
    obtain ⟨rr, hrr⟩ := pre_head h2
    have hix : ∀ W, (Instr.index 9 (.string ⟨s.toArray⟩) (.int .i64 0)).run Tryz.prog W = .ok (.int .u8 120) W := fun W => by have := ix_str s 0 (by rw [hrr]; simp) W; simp only [hrr, List.getElem_cons_zero] at this ⊢; exact this
    have VV := VA.out (s.drop 3) (by rw [List.length_drop]; omega) w1
    have HSP := Lib_hid hsp
    clear hsp hrr hl3 VA HIH
    generalize s.drop 3 = s' at *
    go_wp2_with (first | (go_at_call 72; refine (BG.out _ _ _).mono ?_; rintro e w' ⟨rfl, rfl⟩) | (go_at_call 73; refine VV.mono ?_; rintro e w2 ⟨hb2, v, r, ok, rfl, hv, hok, hno⟩; have q2 := (hb2.block w.heap.size (by omega)).trans q1; have f0 := cell_of_row w2 _ 0 _ _ _ q2; have f1 := cell_of_row w2 _ 1 _ _ _ q2; have f2 := cell_of_row w2 _ 2 _ _ _ q2; have f3 := cell_of_row w2 _ 3 _ _ _ q2; have y0 := frozen_of_row w2 w.heap.size 0 _ _ q2; have y1 := frozen_of_row w2 w.heap.size 1 _ _ q2; have y2 := frozen_of_row w2 w.heap.size 2 _ _ q2; have y3 := frozen_of_row w2 w.heap.size 3 _ _ q2; simp at f0 f1 f2 f3))
    have HX := Lib_hid (HRET.out w2 2 v 0 0 0 none r ok q2 (b1.trans (hb2.mono (by omega))) (fun h => ⟨_, [], by rw [HSP.out, hok h]; rfl, by simp [V.abs, V.absL], rfl, leaf_lies _ _ _ 2 v 0 (by omega) hv (by omega), leaf_shp _ _ _ 2 v 0⟩) (fun h => by rw [HSP.out, hno h]; rfl))
    show bodyPost _ _ _ _ _ (put4 w2 w.heap.size (.int .i64 2) (.int .u64 (v : Int)) (.int .u64 0) (.slice none 0 0))
    have HX2 := HX.out
    clear HX f0 f1 f2 f3 y0 y1 y2 y3
    generalize put4 w2 w.heap.size (.int .i64 2) (.int .u64 (v : Int)) (.int .u64 0) (.slice none 0 0) = W2 at *
    exact rread_ret (b := ok) HX2.2 HX2.1 _ rfl rfl rfl
  | false =>
  cases h3 : Lib.hasPrefix s [118, 60, 61] with
  | true =>
    have hl3 := pre_len h3
    have hi3 : (3 : Int) ≤ (s.length : Int) := by simp at hl3; omega
    have hext := ext_drop s 3
    have hsp := rd_v (d := d) h1 h2 h3
    obtain ⟨rr, hrr⟩ := pre_head h3
    have hix : ∀ W, (Instr.index 9 (.string ⟨s.toArray⟩) (.int .i64 0)).run Tryz.prog W = .ok (.int .u8 118) W := fun W => by have := ix_str s 0 (by rw [hrr]; simp) W; simp only [hrr, List.getElem_cons_zero] at this ⊢; exact this
    have VV := VA.out (s.drop 3) (by rw [List.length_drop]; omega) w1
    have HSP := Lib_hid hsp
    clear hsp hrr hl3 VA HIH
    generalize s.drop 3 = s' at *
    go_wp2_with (first | (go_at_call 72; refine (BG.out _ _ _).mono ?_; rintro e w' ⟨rfl, rfl⟩) | (go_at_call 73; refine VV.mono ?_; rintro e w2 ⟨hb2, v, r, ok, rfl, hv, hok, hno⟩; have q2 := (hb2.block w.heap.size (by omega)).trans q1; have f0 := cell_of_row w2 _ 0 _ _ _ q2; have f1 := cell_of_row w2 _ 1 _ _ _ q2; have f2 := cell_of_row w2 _ 2 _ _ _ q2; have f3 := cell_of_row w2 _ 3 _ _ _ q2; have y0 := frozen_of_row w2 w.heap.size 0 _ _ q2; have y1 := frozen_of_row w2 w.heap.size 1 _ _ q2; have y2 := frozen_of_row w2 w.heap.size 2 _ _ q2; have y3 := frozen_of_row w2 w.heap.size 3 _ _ q2; simp at f0 f1 f2 f3))
    have HX := Lib_hid (HRET.out w2 3 v 0 0 0 none r ok q2 (b1.trans (hb2.mono (by omega))) (fun h => ⟨_, [], by rw [HSP.out, hok h]; rfl, by simp [V.abs, V.absL], rfl, leaf_lies _ _ _ 3 v 0 (by omega) hv (by omega), leaf_shp _ _ _ 3 v 0⟩) (fun h => by rw [HSP.out, hno h]; rfl))
    show bodyPost _ _ _ _ _ (put4 w2 w.heap.size (.int .i64 3) (.int .u64 (v : Int)) (.int .u64 0) (.slice none 0 0))
    have HX2 := HX.out
    clear HX f0 f1 f2 f3 y0 y1 y2 y3
    generalize put4 w2 w.heap.size (.int .i64 3) (.int .u64 (v : Int)) (.int .u64 0) (.slice none 0 0) = W2 at *
    exact rread_ret (b := ok) HX2.2 HX2.1 _ rfl rfl rfl
  | false =>
  cases h4 : Lib.hasPrefix s [118, 37] with
  | true =>
    have hl2 := pre_len h4
    have hi2 : (2 : Int) ≤ (s.length : Int) := by simp at hl2; omega
    have hext := ext_drop s 2
    have hsp := rd_m (d := d) h1 h2 h3 h4
    have VV := VA.out (s.drop 2) (by rw [List.length_drop]; omega) w1
    have hdl : (s.drop 2).length ≤ s.length := by rw [List.length_drop]; omega
    have HSP := Lib_hid hsp
    clear hsp hl2
    generalize s.drop 2 = s' at *
    go_wp2_with (first | (go_at_call 72; refine (BG.out _ _ _).mono ?_; rintro e w' ⟨rfl, rfl⟩))
    refine VV.mono ?_
    rintro e w2 ⟨hb2, v, r, ok, rfl, hv, hok, hno⟩
    have q2 := (hb2.block w.heap.size (by omega)).trans q1
    have bw2 := b1.trans (hb2.mono (by omega))
    have s2 := hb2.size
    clear VV
    cases ok with
    | false =>
      have hno2 : rdS (d + 1) s = none := by rw [HSP.out, hno rfl]; rfl
      have f0 := cell_of_row w2 _ 0 _ _ _ q2
      have f1 := cell_of_row w2 _ 1 _ _ _ q2
      have f2 := cell_of_row w2 _ 2 _ _ _ q2
      have f3 := cell_of_row w2 _ 3 _ _ _ q2
      have y0 := frozen_of_row w2 w.heap.size 0 _ _ q2
      have y1 := frozen_of_row w2 w.heap.size 1 _ _ q2
      have y2 := frozen_of_row w2 w.heap.size 2 _ _ q2
      have y3 := frozen_of_row w2 w.heap.size 3 _ _ q2
      simp at f0 f1 f2 f3
      have HX := Lib_hid (HRET.out w2 0 0 0 0 0 none s false q2 bw2 (fun h => by cases h) (fun _ => hno2))
      clear hno2
      go_wp2_with fail
      show bodyPost _ _ _ _ _ (put4 w2 w.heap.size (.int .i64 0) (.int .u64 0) (.int .u64 0) (.slice none 0 0))
      have HX2 := HX.out
      clear HX f0 f1 f2 f3 y0 y1 y2 y3
      generalize put4 w2 w.heap.size (.int .i64 0) (.int .u64 0) (.int .u64 0) (.slice none 0 0) = W2 at *
      exact rread_ret (b := false) HX2.2 HX2.1 _ rfl rfl rfl
    | true =>
      have hns := hok rfl
      have hrl : r.length ≤ s'.length := (numS_lt hns).2
      have BG2 := BG.out r [61] w2
      cases h61 : Lib.hasPrefix r [61] with
      | false =>
        rw [h61] at BG2
        have hno2 : rdS (d + 1) s = none := by
          rw [HSP.out, hns, Option.bind_some]
          simp only [h61]
          rfl
        have f0 := cell_of_row w2 _ 0 _ _ _ q2
        have f1 := cell_of_row w2 _ 1 _ _ _ q2
        have f2 := cell_of_row w2 _ 2 _ _ _ q2
        have f3 := cell_of_row w2 _ 3 _ _ _ q2
        have y0 := frozen_of_row w2 w.heap.size 0 _ _ q2
        have y1 := frozen_of_row w2 w.heap.size 1 _ _ q2
        have y2 := frozen_of_row w2 w.heap.size 2 _ _ q2
        have y3 := frozen_of_row w2 w.heap.size 3 _ _ q2
        simp at f0 f1 f2 f3
        have HX := Lib_hid (HRET.out w2 0 0 0 0 0 none s false q2 bw2 (fun h => by cases h) (fun _ => hno2))
        clear hno2 h61
        go_wp2_with (go_at_call 72; refine BG2.mono ?_; rintro e w' ⟨rfl, rfl⟩)
        show bodyPost _ _ _ _ _ (put4 w2 w.heap.size (.int .i64 0) (.int .u64 0) (.int .u64 0) (.slice none 0 0))
        have HX2 := HX.out
        clear HX f0 f1 f2 f3 y0 y1 y2 y3
        generalize put4 w2 w.heap.size (.int .i64 0) (.int .u64 0) (.int .u64 0) (.slice none 0 0) = W2 at *
        exact rread_ret (b := false) HX2.2 HX2.1 _ rfl rfl rfl
      | true =>
        rw [h61] at BG2
        have hl1 := pre_len h61
        have hi1 : (1 : Int) ≤ (r.length : Int) := by simp at hl1; omega
        have hext2 := ext_drop r 1
        have VV2 := VA.out (r.drop 1) (by rw [List.length_drop]; omega) w2
        have hsp2 : rdS (d + 1) s = (numS (r.drop 1)).map fun y => (.node 4 v y.1 [], y.2) := by
          rw [HSP.out, hns, Option.bind_some]
          simp only [h61, if_true]
        have HSP2 := Lib_hid hsp2
        clear hsp2 hl1 h61
        generalize r.drop 1 = r2 at *
        go_wp2_with (go_at_call 72; refine BG2.mono ?_; rintro e w' ⟨rfl, rfl⟩)
        refine VV2.mono ?_
        rintro e w3 ⟨hb3, v2, r3, ok3, rfl, hv2, hok3, hno3⟩
        have q3 := (hb3.block w.heap.size (by omega)).trans q2
        have bw3 := bw2.trans (hb3.mono (by omega))
        have f0 := cell_of_row w3 _ 0 _ _ _ q3
        have f1 := cell_of_row w3 _ 1 _ _ _ q3
        have f2 := cell_of_row w3 _ 2 _ _ _ q3
        have f3 := cell_of_row w3 _ 3 _ _ _ q3
        have y0 := frozen_of_row w3 w.heap.size 0 _ _ q3
        have y1 := frozen_of_row w3 w.heap.size 1 _ _ q3
        have y2 := frozen_of_row w3 w.heap.size 2 _ _ q3
        have y3 := frozen_of_row w3 w.heap.size 3 _ _ q3
        simp at f0 f1 f2 f3
        have HX := Lib_hid (HRET.out w3 4 v v2 0 0 none r3 ok3 q3 bw3 (fun h => ⟨_, [], by rw [HSP2.out, hok3 h]; rfl, by simp [V.abs, V.absL], rfl, leaf_lies _ _ _ 4 v v2 (by omega) hv hv2, leaf_shp _ _ _ 4 v v2⟩) (fun h => by rw [HSP2.out, hno3 h]; rfl))
        clear VV2 BG2
        go_wp2_with fail
        show bodyPost _ _ _ _ _ (put4 w3 w.heap.size (.int .i64 4) (.int .u64 v) (.int .u64 v2) (.slice none 0 0))
        have HX2 := HX.out
        clear HX f0 f1 f2 f3 y0 y1 y2 y3
        generalize put4 w3 w.heap.size (.int .i64 4) (.int .u64 v) (.int .u64 v2) (.slice none 0 0) = W2 at *
        exact rread_ret (b := ok3) HX2.2 HX2.1 _ rfl rfl rfl
  | false =>
  have HN5 : Hid (∀ i, 1 ≤ i → i < 5 → Lib.hasPrefix s (wordL i) = false) := fun i q1 q2 => by
    have : i = 1 ∨ i = 2 ∨ i = 3 ∨ i = 4 := by omega
    rcases this with rfl | rfl | rfl | rfl
    · exact h1
    · exact h2
    · exact h3
    · exact h4
  cases h5 : Lib.hasPrefix s [33] with
  | true =>
    have hl1 := pre_len h5
    have hi1 : (1 : Int) ≤ (s.length : Int) := by simp at hl1; omega
    have hext := ext_drop s 1
    have hsp := rd_n (d := d) HN5.out h5
    have CH := HIH.out (s.drop 1) w1 (by rw [List.length_drop]; omega)
    have HSP := Lib_hid hsp
    clear hsp hl1
    generalize s.drop 1 = s' at *
    go_wp2_with (first | (go_at_call 72; refine (BG.out _ _ _).mono ?_; rintro e w' ⟨rfl, rfl⟩))
    refine CH.mono ?_
    rintro e w2 ⟨k, a, b, n, c, A, r, ok, rfl, hb2, hR⟩
    have s2 := hb2.size
    have b3 := below_new w2 (.cells #[.int .i64 k, .int .u64 (a : Int), .int .u64 (b : Int), .slice A n c] 30)
    have r3 := heap_alloc_new w2 (.cells #[.int .i64 k, .int .u64 (a : Int), .int .u64 (b : Int), .slice A n c] 30)
    have q3 := (b3.block w.heap.size (by omega)).trans ((hb2.block w.heap.size (by omega)).trans q1)
    have bw3 := (b1.trans (hb2.mono (by omega))).trans (b3.mono (by omega))
    have s3 : (w2.alloc (.cells #[.int .i64 k, .int .u64 (a : Int), .int .u64 (b : Int), .slice A n c] 30)).heap.size = w2.heap.size + 1 := by simp
    have HB3 := Lib_hid b3
    clear CH b3
    go_upto_region 19 with (fail)
    generalize w2.alloc (.cells #[.int .i64 k, .int .u64 (a : Int), .int .u64 (b : Int), .slice A n c] 30) = w3 at *
    have d0 := cell_of_row w3 _ 0 _ _ _ r3
    have d1 := cell_of_row w3 _ 1 _ _ _ r3
    have d2 := cell_of_row w3 _ 2 _ _ _ r3
    have d3 := cell_of_row w3 _ 3 _ _ _ r3
    simp at d0 d1 d2 d3
    obtain ⟨w4, hw4⟩ : ∃ w4, w4 = w3.alloc (.cells #[.int .i64 k, .int .u64 (a : Int), .int .u64 (b : Int), .slice A n c] 30) := ⟨_, rfl⟩
    have b4 := below_new w3 (.cells #[.int .i64 k, .int .u64 (a : Int), .int .u64 (b : Int), .slice A n c] 30)
    have hoL := World.ownsRow_lit (base := w3.heap.size) (e := 30) (size := 4) w3 #[.int .i64 k, .int .u64 (a : Int), .int .u64 (b : Int), .slice A n c] 1 (Nat.le_refl _) (by decide) rfl
    rw [← hw4] at b4 hoL
    have q4 := (b4.block w.heap.size (by omega)).trans q3
    have bw4 := bw3.trans (b4.mono (by omega))
    have s4 := b4.size
    have hyes : ok = true → ∃ t us, rdS (d + 1) s = some (t, r) ∧ (V.node 5 0 0 (some ⟨w3.heap.size, 0, none⟩) 1 us).abs = t ∧ us.length = 1 ∧ Lies w4 (w.heap.size + 1) w4.heap.size (.node 5 0 0 (some ⟨w3.heap.size, 0, none⟩) 1 us) ∧ Shp 30 w4 (w.heap.size + 1) (.node 5 0 0 (some ⟨w3.heap.size, 0, none⟩) 1 us) := by
      intro ho
      obtain ⟨t, us, e1, e2, e3, hL, hS⟩ := hR.yes ho
      subst e3
      have hT : TRow 30 (w.heap.size + 1) (.slice (some ⟨w3.heap.size, 0, none⟩) 1 1) [.node k a b A c us] w4 := by
        refine ⟨own_base hoL fun j hj => by have e : w3.heap.size = j := Option.some.inj hj; omega, fun u hu => ?_⟩
        obtain rfl : u = .node k a b A c us := by simpa using hu
        have hb24 : Below w2.heap.size w2 w4 := HB3.out.trans (b4.mono (by omega))
        exact ⟨w1.heap.size, w2.heap.size, by omega, hb24.size, hL.under hb24, hS.under hb24, fun g hg => .inr (by have e : w3.heap.size = g := Option.some.inj hg; omega)⟩
      obtain ⟨_, hL4, hS4⟩ := hT.tree (k := 5) (a := 0) (b := 0) (by omega) (by omega) (by omega)
      refine ⟨.node 5 0 0 [t], [.node k a b A c us], by rw [HSP.out, e1]; rfl, by rw [V.abs, V.absL, V.absL, e2], rfl, hL4, hS4⟩
    have hno2 : ok = false → rdS (d + 1) s = none := fun h => by rw [HSP.out, hR.no h]; rfl
    clear q3 bw3 hoL hR
    have f0 := cell_of_row w4 _ 0 _ _ _ q4
    have f1 := cell_of_row w4 _ 1 _ _ _ q4
    have f2 := cell_of_row w4 _ 2 _ _ _ q4
    have f3 := cell_of_row w4 _ 3 _ _ _ q4
    have y0 := frozen_of_row w4 w.heap.size 0 _ _ q4
    have y1 := frozen_of_row w4 w.heap.size 1 _ _ q4
    have y2 := frozen_of_row w4 w.heap.size 2 _ _ q4
    have y3 := frozen_of_row w4 w.heap.size 3 _ _ q4
    simp at f0 f1 f2 f3
    have HX := Lib_hid (HRET.out w4 5 0 0 1 1 (some ⟨w3.heap.size, 0, none⟩) r ok q4 bw4 hyes hno2)
    subst hw4
    clear q4 bw4 hyes hno2 HB3 b4 s3
    go_wp2_with fail
    show bodyPost _ _ _ _ _ (put4 (w3.alloc (.cells #[.int .i64 k, .int .u64 (a : Int), .int .u64 (b : Int), .slice A n c] 30)) w.heap.size (.int .i64 5) (.int .u64 0) (.int .u64 0) (.slice (some ⟨w3.heap.size, 0, none⟩) 1 1))
    have HX2 := HX.out
    clear HX f0 f1 f2 f3 y0 y1 y2 y3
    generalize put4 (w3.alloc (.cells #[.int .i64 k, .int .u64 (a : Int), .int .u64 (b : Int), .slice A n c] 30)) w.heap.size (.int .i64 5) (.int .u64 0) (.int .u64 0) (.slice (some ⟨w3.heap.size, 0, none⟩) 1 1) = W2 at *
    exact rread_ret (b := ok) HX2.2 HX2.1 _ rfl rfl rfl
  | false =>
  have HN6 : Hid (∀ i, 1 ≤ i → i < 6 → Lib.hasPrefix s (wordL i) = false) := fun i q1 q2 => by
    rcases Nat.lt_or_ge i 5 with h | h
    · exact HN5.out i q1 h
    · obtain rfl : i = 5 := by omega
      exact h5
  cases h6 : Lib.hasPrefix s [38, 40] with
  | true =>
    have hl2 := pre_len h6
    have hi2 : (2 : Int) ≤ (s.length : Int) := by simp at hl2; omega
    have hext := ext_drop s 2
    have hw1p : Lib.hasPrefix s [38] = true := by
      have h := h6
      rw [pre_two, Bool.and_eq_true] at h
      exact h.1
    have hsp := rd_r (d := d) 6 38 (by decide) HN6.out hw1p
    rw [h6, if_pos rfl] at hsp
    have RW := rrow_any d 6 (by omega) (by omega) HIH.out (s.drop 2) (by rw [List.length_drop]; omega) w1
    have RW : Calls Tryz.prog 74 #[.agg #[.int .i64 6, .int .u64 0, .int .u64 0, .slice none 0 0], .string ⟨(s.drop 2).toArray⟩, .int .i64 ((d : Int) + 1)] w1 (RowEnd4 d 6 (s.drop 2) w1) := RW
    have HSP := Lib_hid hsp
    clear hsp hl2 hw1p
    generalize s.drop 2 = s' at *
    go_wp2_with (first | (go_at_call 72; refine (BG.out _ _ _).mono ?_; rintro e w' ⟨rfl, rfl⟩))
    refine RW.mono ?_
    rintro e w2 ⟨n, c, A, r, ok, rfl, hb2, hyes, hno⟩
    have q2 := (hb2.block w.heap.size (by omega)).trans q1
    have bw2 := b1.trans (hb2.mono (by omega))
    have s2 := hb2.size
    have hyes2 : ok = true → ∃ t us, rdS (d + 1) s = some (t, r) ∧ (V.node 6 0 0 A c us).abs = t ∧ us.length = n ∧ Lies w2 (w.heap.size + 1) w2.heap.size (.node 6 0 0 A c us) ∧ Shp 30 w2 (w.heap.size + 1) (.node 6 0 0 A c us) := by
      intro ho
      obtain ⟨us, e1, e2, hT⟩ := hyes ho
      obtain ⟨_, hL4, hS4⟩ := hT.tree (k := 6) (a := 0) (b := 0) (by omega) (by omega) (by omega)
      exact ⟨_, us, by rw [HSP.out, e1]; rfl, by rw [V.abs]; rfl, e2, hL4.more (by omega) (Nat.le_refl _), hS4.more (by omega)⟩
    have hno2 : ok = false → rdS (d + 1) s = none := fun h => by rw [HSP.out, hno h]; rfl
    clear RW hyes hno
    have f0 := cell_of_row w2 _ 0 _ _ _ q2
    have f1 := cell_of_row w2 _ 1 _ _ _ q2
    have f2 := cell_of_row w2 _ 2 _ _ _ q2
    have f3 := cell_of_row w2 _ 3 _ _ _ q2
    have y0 := frozen_of_row w2 w.heap.size 0 _ _ q2
    have y1 := frozen_of_row w2 w.heap.size 1 _ _ q2
    have y2 := frozen_of_row w2 w.heap.size 2 _ _ q2
    have y3 := frozen_of_row w2 w.heap.size 3 _ _ q2
    simp at f0 f1 f2 f3
    have HX := Lib_hid (HRET.out w2 6 0 0 n c A r ok q2 bw2 hyes2 hno2)
    clear hyes2 hno2
    go_wp2_with fail
    show bodyPost _ _ _ _ _ (put4 w2 w.heap.size (.int .i64 6) (.int .u64 0) (.int .u64 0) (.slice A n c))
    have HX2 := HX.out
    clear HX f0 f1 f2 f3 y0 y1 y2 y3
    generalize put4 w2 w.heap.size (.int .i64 6) (.int .u64 0) (.int .u64 0) (.slice A n c) = W2 at *
    exact rread_ret (b := ok) HX2.2 HX2.1 _ rfl rfl rfl
  | false =>
  cases h7 : Lib.hasPrefix s [124, 40] with
  | true =>
    have HN7 : Hid (Lib.hasPrefix s [124] = true → ∀ i, 1 ≤ i → i < 7 → Lib.hasPrefix s (wordL i) = false) := fun h124 i q1 q2 => by
      rcases Nat.lt_or_ge i 6 with h | h
      · exact HN6.out i q1 h
      · obtain rfl : i = 6 := by omega
        obtain ⟨rr, hrr⟩ := pre_head h124
        rw [hrr]
        rfl
    have hl2 := pre_len h7
    have hi2 : (2 : Int) ≤ (s.length : Int) := by simp at hl2; omega
    have hext := ext_drop s 2
    have hw1p : Lib.hasPrefix s [124] = true := by
      have h := h7
      rw [pre_two, Bool.and_eq_true] at h
      exact h.1
    have hsp := rd_r (d := d) 7 124 (by decide) (HN7.out hw1p) hw1p
    rw [h7, if_pos rfl] at hsp
    have RW := rrow_any d 7 (by omega) (by omega) HIH.out (s.drop 2) (by rw [List.length_drop]; omega) w1
    have RW : Calls Tryz.prog 74 #[.agg #[.int .i64 7, .int .u64 0, .int .u64 0, .slice none 0 0], .string ⟨(s.drop 2).toArray⟩, .int .i64 ((d : Int) + 1)] w1 (RowEnd4 d 7 (s.drop 2) w1) := RW
    have HSP := Lib_hid hsp
    clear hsp hl2 hw1p
    generalize s.drop 2 = s' at *
    go_wp2_with (first | (go_at_call 72; refine (BG.out _ _ _).mono ?_; rintro e w' ⟨rfl, rfl⟩))
    refine RW.mono ?_
    rintro e w2 ⟨n, c, A, r, ok, rfl, hb2, hyes, hno⟩
    have q2 := (hb2.block w.heap.size (by omega)).trans q1
    have bw2 := b1.trans (hb2.mono (by omega))
    have s2 := hb2.size
    have hyes2 : ok = true → ∃ t us, rdS (d + 1) s = some (t, r) ∧ (V.node 7 0 0 A c us).abs = t ∧ us.length = n ∧ Lies w2 (w.heap.size + 1) w2.heap.size (.node 7 0 0 A c us) ∧ Shp 30 w2 (w.heap.size + 1) (.node 7 0 0 A c us) := by
      intro ho
      obtain ⟨us, e1, e2, hT⟩ := hyes ho
      obtain ⟨_, hL4, hS4⟩ := hT.tree (k := 7) (a := 0) (b := 0) (by omega) (by omega) (by omega)
      exact ⟨_, us, by rw [HSP.out, e1]; rfl, by rw [V.abs]; rfl, e2, hL4.more (by omega) (Nat.le_refl _), hS4.more (by omega)⟩
    have hno2 : ok = false → rdS (d + 1) s = none := fun h => by rw [HSP.out, hno h]; rfl
    clear RW hyes hno
    have f0 := cell_of_row w2 _ 0 _ _ _ q2
    have f1 := cell_of_row w2 _ 1 _ _ _ q2
    have f2 := cell_of_row w2 _ 2 _ _ _ q2
    have f3 := cell_of_row w2 _ 3 _ _ _ q2
    have y0 := frozen_of_row w2 w.heap.size 0 _ _ q2
    have y1 := frozen_of_row w2 w.heap.size 1 _ _ q2
    have y2 := frozen_of_row w2 w.heap.size 2 _ _ q2
    have y3 := frozen_of_row w2 w.heap.size 3 _ _ q2
    simp at f0 f1 f2 f3
    have HX := Lib_hid (HRET.out w2 7 0 0 n c A r ok q2 bw2 hyes2 hno2)
    clear hyes2 hno2
    go_wp2_with fail
    show bodyPost _ _ _ _ _ (put4 w2 w.heap.size (.int .i64 7) (.int .u64 0) (.int .u64 0) (.slice A n c))
    have HX2 := HX.out
    clear HX f0 f1 f2 f3 y0 y1 y2 y3
    generalize put4 w2 w.heap.size (.int .i64 7) (.int .u64 0) (.int .u64 0) (.slice A n c) = W2 at *
    exact rread_ret (b := ok) HX2.2 HX2.1 _ rfl rfl rfl
  | false =>
    have hno2 := rd_0 (d := d) HN6.out h6 h7
    have qE := q1
    have bE := b1
    clear q1 b1
    have f0 := cell_of_row w1 _ 0 _ _ _ qE
    have f1 := cell_of_row w1 _ 1 _ _ _ qE
    have f2 := cell_of_row w1 _ 2 _ _ _ qE
    have f3 := cell_of_row w1 _ 3 _ _ _ qE
    have y0 := frozen_of_row w1 w.heap.size 0 _ _ qE
    have y1 := frozen_of_row w1 w.heap.size 1 _ _ qE
    have y2 := frozen_of_row w1 w.heap.size 2 _ _ qE
    have y3 := frozen_of_row w1 w.heap.size 3 _ _ qE
    simp at f0 f1 f2 f3
    have HX := Lib_hid (HRET.out w1 0 0 0 0 0 none s false qE bE (fun h => by cases h) (fun _ => hno2))
    clear hno2
    go_wp2_with (first | (go_at_call 72; refine (BG.out _ _ _).mono ?_; rintro e w' ⟨rfl, rfl⟩))
    show bodyPost _ _ _ _ _ (put4 w1 w.heap.size (.int .i64 0) (.int .u64 0) (.int .u64 0) (.slice none 0 0))
    have HX2 := HX.out
    clear HX f0 f1 f2 f3 y0 y1 y2 y3
    generalize put4 w1 w.heap.size (.int .i64 0) (.int .u64 0) (.int .u64 0) (.slice none 0 0) = W2 at *
    exact rread_ret (b := false) HX2.2 HX2.1 _ rfl rfl rfl

end Go.Proofs.YtpbmgbeiieapiaaGreatDoor
