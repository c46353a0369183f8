/-
  Layer 7: tables of pairs: put of the program.
-/
import Derived.Test.YtidlpiamiglppaaIpk
import Derived.Test.YtidlpiamiglppaaItv
import Derived.Deep.RegionLaw
namespace Go.Proofs.Ytidlpiamiglppaa
open Go Go.RowKit Go.Maps
set_option linter.unusedVariables false

theorem pc_new (w : World) (q : PP) (t : TypeId) : Rd (w.alloc (.cells #[.int .u64 (q.1 : Int), .int .u64 (q.2 : Int)] t)) (w.heap.size + 1) 2 (some ⟨w.heap.size, 0, none⟩) 1 (pc [q]) :=
  rd_pair w q _ t _ rfl rfl

set_option maxRecDepth 100000 in
set_option maxHeartbeats 1600000 in
theorem pput_some {w : World} {p c b : Nat} {A : Option Addr} {l : List PP} (h : Tab kP w p A c (some b) l) {q : PP} (hq : U64 q) (hn : q ∉ l) (hl : l.length ≤ 1000000000) :
    Calls Try.prog 49 #[.pointer (some ⟨p, 0, none⟩), pv q] w (PutEnd kP l.length (l ++ [q]) (Own p A (some b)) p w) := by
  obtain ⟨i0, hi, hz0, hz1, hz2⟩ := info_parts Try.infoQ
  obtain ⟨SS, hSS⟩ : ∃ S : Nat → Prop, S = Own p A (some b) := ⟨_, rfl⟩
  have NM := nil_mapP (some b)
  have hb0 := below_new w (.cells #[.int .u64 (q.1 : Int), .int .u64 (q.2 : Int)] 59)
  have hbx := heap_alloc_new w (.cells #[.int .u64 (q.1 : Int), .int .u64 (q.2 : Int)] 59)
  have h1 := h.below hb0 h.lt
  have hsz : (w.alloc (.cells #[.int .u64 (q.1 : Int), .int .u64 (q.2 : Int)] 59)).heap.size = w.heap.size + 1 := by simp
  have hm1 : l.length + 1 ≤ maxLen := by unfold maxLen; omega
  have hm2 : (l.length + 1) * 16 ≤ 140737488355328 := by omega
  have c0 := h1.c0
  have c1 := h1.c1
  have hcap := h.cap
  have HQ := Lib_hid (And.intro hq (And.intro hn hl))
  have HW : Hid ((w.alloc (.cells #[.int .u64 (q.1 : Int), .int .u64 (q.2 : Int)] 59)).heap[w.heap.size]? = some (.cells #[.int .u64 (q.1 : Int), .int .u64 (q.2 : Int)] 59 (0, 0)) ∧ ¬ Own p A (some b) w.heap.size ∧ Turns SS w (w.alloc (.cells #[.int .u64 (q.1 : Int), .int .u64 (q.2 : Int)] 59)) ∧ ∀ k, Own p A (some b) k → SS k ∨ w.heap.size ≤ k) :=
    ⟨hbx, fun hk => Nat.lt_irrefl _ (h.lt _ hk), turns_alloc _ _ _, fun k hk => .inl (by rw [hSS]; exact hk)⟩
  rw [← hSS]
  have HT := Lib_hid h1
  have hpl := h1.lt p (.inl rfl)
  clear h h1 hb0 hbx hq hn hSS
  go_enter Try.func49, Try.ntmps49
  unfold pv
  go_upto_region 4 with (fail)
  have hgl : w.heap.size < (w.alloc (.cells #[.int .u64 (q.1 : Int), .int .u64 (q.2 : Int)] 59)).heap.size := by omega
  clear hsz
  generalize w.alloc (.cells #[.int .u64 (q.1 : Int), .int .u64 (q.2 : Int)] 59) = W at *
  have e0 : W.cell? ⟨w.heap.size, 0, none⟩ = some (.int .u64 (q.1 : Int)) := cell_of_row _ _ 0 _ _ _ HW.out.1
  have e1 : W.cell? ⟨w.heap.size, 1, none⟩ = some (.int .u64 (q.2 : Int)) := cell_of_row _ _ 1 _ _ _ HW.out.1
  have HTd : Hid (Tab kP W.drew p A c (some b) l) := HT.out.keep fun _ _ => rfl
  have ho1 := own_below HTd.out.row (below_new W.drew (.cells #[.int .u64 (q.1 : Int), .int .u64 (q.2 : Int)] 59)) (own_lt HTd.out.row)
  have hr1 := pc_new W.drew q 59
  have hbs : 0 ≤ (W.drew.alloc (.cells #[.int .u64 (q.1 : Int), .int .u64 (q.2 : Int)] 59)).heap.size := Nat.zero_le _
  have HO := Lib_hid (And.intro ho1 hr1)
  clear ho1 hr1
  go_region_law
    ((refine step_app rfl (.tmp 24) (.tmp 26) 58 rfl 0 59 i0 (.agg #[.int .u64 0, .int .u64 0]) 2 16 Try.underlying58 hi hz0 hz1 hz2 rfl (by decide) (.slice A l.length c) l.length (pc l) (by go_simp) HO.out.1 (W.heap.size + 1) (some ⟨W.heap.size, 0, none⟩) 1 1 (pc [q]) (by go_simp) HO.out.2 (pc_one _) hm1 hm2 hbs ?_); intro v' w6 hown6 hst; obtain ⟨A6, cw6, rfl, _⟩ := own_form hown6; have hst2 := (Stp.alloc W.drew (.cells #[.int .u64 (q.1 : Int), .int .u64 (q.2 : Int)] 59) (.slice A l.length c)).trans hst; (have hown6' : w6.ownsRow 0 kP.E kP.size (.slice A6 (l.length + 1) cw6) (l.length + 1) (kP.cs (l ++ [q])) := by rw [show kP.cs (l ++ [q]) = pc l ++ pc [q] from pc_append _ _]; exact hown6); have PU := Lib_hid (HTd.out.pushed hst2 hown6'); have hbx := PU.out.1; have c0' := cell_of_row w6 p 0 _ _ _ (hbx.trans HTd.out.box); have z0' := frozen_of_row w6 p 0 _ _ (hbx.trans HTd.out.box); have hp6 : p < w6.heap.size := (Array.getElem?_eq_some_iff.1 (hbx.trans HTd.out.box)).1; simp at c0')
  all_goals
    clear c0 c1 hst hst2 hown6 hown6' hbx c0' z0' hp6
    generalize w6.setCell ⟨p, 0, none⟩ (.slice A6 (l.length + 1) cw6) = W6 at *
    obtain ⟨-, P1, P2, P3, P4, P5, P6⟩ := PU.out
    have c2 := cell_of_row W6 p 1 _ _ _ P1
    have y0 := (P5.cell (p := ⟨w.heap.size, 0, none⟩) (show w.heap.size < W.heap.size from hgl) HW.out.2.1).trans (show W.drew.cell? _ = _ from e0)
    have y1 := (P5.cell (p := ⟨w.heap.size, 1, none⟩) (show w.heap.size < W.heap.size from hgl) HW.out.2.1).trans (show W.drew.cell? _ = _ from e1)
    obtain ⟨w7, hrun, hm7, hg7⟩ := MapHas.put_run kP_ok (w := W6.drew) (P3.keep fun _ _ => rfl) HQ.out.1 HQ.out.2.1 hl
    have hrun' : (Instr.mapUpdate 60 (.map (some b)) (.agg #[.int .u64 (q.1 : Int), .int .u64 (q.2 : Int)]) (.int .i64 (l.length : Int))).run Try.prog W6.drew = .ok () w7 := hrun
    have HE := Lib_hid (((HTd.out.done (w' := w7) (W := W6) HQ.out.1 HQ.out.2.1 P1 P2 P4 P5 P6 P3 hm7 ⟨hg7.os, hg7.tape, hg7.output, hg7.size, hg7.block⟩).later (w := w) (S := SS) (HW.out.2.2.1.trans (Turns.drewN (Turns.refl SS _) 1) (fun k hk => .inl hk)) HW.out.2.2.2))
    clear P1 P2 P3 P4 P5 P6 PU hm7 hg7 hrun e0 e1 hgl
    go_wp2
    go_region
    all_goals
      go_wp2
      go_ret
      exact ⟨rfl, HE.out⟩

set_option maxRecDepth 100000 in
set_option maxHeartbeats 1600000 in
theorem pput_none {w : World} {p c : Nat} {A : Option Addr} {l : List PP} (h : Tab kP w p A c none l) {q : PP} (hq : U64 q) (hn : q ∉ l) (hl : l.length ≤ 1000000000) :
    Calls Try.prog 49 #[.pointer (some ⟨p, 0, none⟩), pv q] w (PutEnd kP l.length (l ++ [q]) (Own p A none) p w) := by
  obtain ⟨i0, hi, hz0, hz1, hz2⟩ := info_parts Try.infoQ
  obtain ⟨SS, hSS⟩ : ∃ S : Nat → Prop, S = Own p A none := ⟨_, rfl⟩
  have hmm := @run_makeMap Try.prog
  have NM := nil_mapP none
  have hb0 := below_new w (.cells #[.int .u64 (q.1 : Int), .int .u64 (q.2 : Int)] 59)
  have hbx := heap_alloc_new w (.cells #[.int .u64 (q.1 : Int), .int .u64 (q.2 : Int)] 59)
  have h1 := h.below hb0 h.lt
  have hsz : (w.alloc (.cells #[.int .u64 (q.1 : Int), .int .u64 (q.2 : Int)] 59)).heap.size = w.heap.size + 1 := by simp
  have hm1 : l.length + 1 ≤ maxLen := by unfold maxLen; omega
  have hm2 : (l.length + 1) * 16 ≤ 140737488355328 := by omega
  have hcap := h.cap
  have HQ := Lib_hid (And.intro hq (And.intro hn hl))
  have ht0 : Turns SS w (w.alloc (.cells #[.int .u64 (q.1 : Int), .int .u64 (q.2 : Int)] 59)) := turns_alloc _ _ _
  have hlw := h.lt
  rw [← hSS]
  have c1 := h1.c1
  have z1 := h1.z 1
  have hpl := h1.lt p (.inl rfl)
  have H1 := Lib_hid (And.intro h1 (And.intro hbx (And.intro hsz (And.intro ht0 hlw))))
  have HSS := Lib_hid hSS
  clear h h1 hb0 hbx hq hn hsz ht0 hlw hSS
  go_enter Try.func49, Try.ntmps49
  unfold pv
  go_upto_region 1 with (fail)
  generalize w.alloc (.cells #[.int .u64 (q.1 : Int), .int .u64 (q.2 : Int)] 59) = W0 at *
  have hba := (below_new W0 (.map #[] 0)).block p hpl
  have c1a := cell_of_row (W0.alloc (.map #[] 0)) p 1 _ _ _ (hba.trans H1.out.1.box)
  have z1a := frozen_of_row (W0.alloc (.map #[] 0)) p 1 _ _ (hba.trans H1.out.1.box)
  clear hba
  go_upto_region 3 with (fail)
  obtain ⟨h2, ht2⟩ := H1.out.1.mapped
  rw [World.setCell_alloc_past (w := W0) (.map #[] 0) p 1 (.map (some W0.heap.size)) hpl] at h2 ht2
  obtain ⟨b, hb⟩ : ∃ b, b = W0.heap.size := ⟨_, rfl⟩
  have hs2 : ((W0.setCell ⟨p, 1, none⟩ (.map (some W0.heap.size))).alloc (.map #[] 0)).heap.size = w.heap.size + 2 := by simp [H1.out.2.2.1]
  rw [← hb] at h2 ht2 hs2 ⊢
  have hb1 : b = w.heap.size + 1 := by rw [hb, H1.out.2.2.1]
  have hno : ¬ Own p A none w.heap.size := fun hk => Nat.lt_irrefl _ (H1.out.2.2.2.2 _ hk)
  have HW : Hid (((W0.setCell ⟨p, 1, none⟩ (.map (some b))).alloc (.map #[] 0)).heap[w.heap.size]? = some (.cells #[.int .u64 (q.1 : Int), .int .u64 (q.2 : Int)] 59 (0, 0)) ∧ ¬ Own p A (some b) w.heap.size ∧ Turns SS w ((W0.setCell ⟨p, 1, none⟩ (.map (some b))).alloc (.map #[] 0)) ∧ ∀ k, Own p A (some b) k → SS k ∨ w.heap.size ≤ k) := by
    refine ⟨(ht2.block w.heap.size (by rw [H1.out.2.2.1]; omega) hno).trans H1.out.2.1, ?_, ?_, ?_⟩
    · rintro (e | e | e)
      · exact hno (.inl e)
      · exact hno (.inr (.inl e))
      · have : b = w.heap.size := by injection e
        omega
    · rw [HSS.out] at *
      exact H1.out.2.2.2.1.trans ht2 (fun k hk => .inl hk)
    · rw [HSS.out]
      rintro k (e | e | e)
      · exact .inl (.inl e)
      · exact .inl (.inr (.inl e))
      · have : b = k := by injection e
        exact .inr (by omega)
  have HT := Lib_hid h2
  clear h2 ht2 c1 z1 c1a z1a H1 HSS hb hb1 hno NM hpl
  generalize (W0.setCell ⟨p, 1, none⟩ (.map (some b))).alloc (.map #[] 0) = W at *
  have hpl := HT.out.lt p (.inl rfl)
  have c0 := HT.out.c0
  have c1 := HT.out.c1
  have hgl : w.heap.size < W.heap.size := by omega
  clear hs2
  go_upto_region 4 with (fail)
  have e0 : W.cell? ⟨w.heap.size, 0, none⟩ = some (.int .u64 (q.1 : Int)) := cell_of_row _ _ 0 _ _ _ HW.out.1
  have e1 : W.cell? ⟨w.heap.size, 1, none⟩ = some (.int .u64 (q.2 : Int)) := cell_of_row _ _ 1 _ _ _ HW.out.1
  have HTd : Hid (Tab kP W.drew p A c (some b) l) := HT.out.keep fun _ _ => rfl
  have ho1 := own_below HTd.out.row (below_new W.drew (.cells #[.int .u64 (q.1 : Int), .int .u64 (q.2 : Int)] 59)) (own_lt HTd.out.row)
  have hr1 := pc_new W.drew q 59
  have hbs : 0 ≤ (W.drew.alloc (.cells #[.int .u64 (q.1 : Int), .int .u64 (q.2 : Int)] 59)).heap.size := Nat.zero_le _
  have HO := Lib_hid (And.intro ho1 hr1)
  clear ho1 hr1
  go_region_law
    ((refine step_app rfl (.tmp 24) (.tmp 26) 58 rfl 0 59 i0 (.agg #[.int .u64 0, .int .u64 0]) 2 16 Try.underlying58 hi hz0 hz1 hz2 rfl (by decide) (.slice A l.length c) l.length (pc l) (by go_simp) HO.out.1 (W.heap.size + 1) (some ⟨W.heap.size, 0, none⟩) 1 1 (pc [q]) (by go_simp) HO.out.2 (pc_one _) hm1 hm2 hbs ?_); intro v' w6 hown6 hst; obtain ⟨A6, cw6, rfl, _⟩ := own_form hown6; have hst2 := (Stp.alloc W.drew (.cells #[.int .u64 (q.1 : Int), .int .u64 (q.2 : Int)] 59) (.slice A l.length c)).trans hst; (have hown6' : w6.ownsRow 0 kP.E kP.size (.slice A6 (l.length + 1) cw6) (l.length + 1) (kP.cs (l ++ [q])) := by rw [show kP.cs (l ++ [q]) = pc l ++ pc [q] from pc_append _ _]; exact hown6); have PU := Lib_hid (HTd.out.pushed hst2 hown6'); have hbx := PU.out.1; have c0' := cell_of_row w6 p 0 _ _ _ (hbx.trans HTd.out.box); have z0' := frozen_of_row w6 p 0 _ _ (hbx.trans HTd.out.box); have hp6 : p < w6.heap.size := (Array.getElem?_eq_some_iff.1 (hbx.trans HTd.out.box)).1; simp at c0')
  all_goals
    clear c0 c1 hst hst2 hown6 hown6' hbx c0' z0' hp6
    generalize w6.setCell ⟨p, 0, none⟩ (.slice A6 (l.length + 1) cw6) = W6 at *
    obtain ⟨-, P1, P2, P3, P4, P5, P6⟩ := PU.out
    have c2 := cell_of_row W6 p 1 _ _ _ P1
    have y0 := (P5.cell (p := ⟨w.heap.size, 0, none⟩) (show w.heap.size < W.heap.size from hgl) HW.out.2.1).trans (show W.drew.cell? _ = _ from e0)
    have y1 := (P5.cell (p := ⟨w.heap.size, 1, none⟩) (show w.heap.size < W.heap.size from hgl) HW.out.2.1).trans (show W.drew.cell? _ = _ from e1)
    obtain ⟨w7, hrun, hm7, hg7⟩ := MapHas.put_run kP_ok (w := W6.drew) (P3.keep fun _ _ => rfl) HQ.out.1 HQ.out.2.1 hl
    have hrun' : (Instr.mapUpdate 60 (.map (some b)) (.agg #[.int .u64 (q.1 : Int), .int .u64 (q.2 : Int)]) (.int .i64 (l.length : Int))).run Try.prog W6.drew = .ok () w7 := hrun
    have HE := Lib_hid (((HTd.out.done (w' := w7) (W := W6) HQ.out.1 HQ.out.2.1 P1 P2 P4 P5 P6 P3 hm7 ⟨hg7.os, hg7.tape, hg7.output, hg7.size, hg7.block⟩).later (w := w) (S := SS) (HW.out.2.2.1.trans (Turns.drewN (Turns.refl SS _) 1) (fun k hk => .inl hk)) HW.out.2.2.2))
    clear P1 P2 P3 P4 P5 P6 PU hm7 hg7 hrun e0 e1 hgl
    go_wp2
    go_region
    all_goals
      go_wp2
      go_ret
      exact ⟨rfl, HE.out⟩

theorem pput_any {w : World} {p c : Nat} {A : Option Addr} {m : Option Nat} {l : List PP} (h : Tab kP w p A c m l) {q : PP} (hq : U64 q) (hn : q ∉ l) (hl : l.length ≤ 1000000000) :
    Calls Try.prog 49 #[.pointer (some ⟨p, 0, none⟩), pv q] w (PutEnd kP l.length (l ++ [q]) (Own p A m) p w) := by
  rcases m with _ | b
  · exact pput_none h hq hn hl
  · exact pput_some h hq hn hl

end Go.Proofs.Ytidlpiamiglppaa
