/-
  Layer 7: tables of names: put of the program.
-/
import Derived.Test.YtidlpiamiglppaaItu
namespace Go.Proofs.Ytidlpiamiglppaa
open Go Go.RowKit Go.Maps
set_option linter.unusedVariables false

theorem nil_map (m : Option Nat) (wx : World) : (binOp .eql 27 (.map m) (.map none)).run Try.prog wx = .ok (.bool m.isNone) wx := run_eql_map_nil wx _ _ _ m Try.underlying27

theorem uc_new (w : World) (q : PP) (t : TypeId) : Rd (w.alloc (.cells #[.int .u64 (q.1 : Int)] t)) (w.heap.size + 1) 1 (some ⟨w.heap.size, 0, none⟩) 1 (uc [q]) :=
  ⟨rfl, fun _ => ⟨_, rfl, by simp, fun j u hu => by
    match j, hu with
    | 0, hu => simp [uc] at hu; subst hu; simp [Addr.add]⟩⟩

/-- How put ends. -/
def PutEnd (s : Sk) (n : Nat) (l : List PP) (S : Nat → Prop) (p : Nat) (w : World) (e : Ending) (w' : World) : Prop := e = .returned (.int .i64 (n : Int)) ∧ TabEnd s l S p w w'

set_option maxRecDepth 100000 in
/-- Behind its first test: the table has a map. -/
theorem uput_some {w : World} {p c b : Nat} {A : Option Addr} {l : List PP} (h : Tab kU w p A c (some b) l) {q : PP} (hq : NmU q) (hn : q ∉ l) (hl : l.length ≤ 1000000000) :
    Calls Try.prog 45 #[.pointer (some ⟨p, 0, none⟩), .int .u64 (q.1 : Int)] w (PutEnd kU l.length (l ++ [q]) (Own p A (some b)) p w) := by
  obtain ⟨i0, hi, hz0, hz1, hz2⟩ := info_parts Try.infoU
  have NM := nil_map (some b)
  have c0 := h.c0
  have c1 := h.c1
  have hcap := h.cap
  have hpl : p < w.heap.size := h.lt p (.inl rfl)
  have hm1 : l.length + 1 ≤ maxLen := by unfold maxLen; omega
  have hm2 : (l.length + 1) * 8 ≤ 140737488355328 := by omega
  have ho1 := own_below h.row (below_new w (.cells #[.int .u64 (q.1 : Int)] 23)) (own_lt h.row)
  have hr1 := uc_new w q 23
  have hbs : 0 ≤ (w.alloc (.cells #[.int .u64 (q.1 : Int)] 23)).heap.size := Nat.zero_le _
  have HT := Lib_hid h
  have HQ := Lib_hid (And.intro hq (And.intro hn hl))
  clear h hq hn
  go_enter Try.func45, Try.ntmps45
  go_upto_region 5 with (at_builtin; (refine wpList_app rfl _ _ 26 rfl 0 23 i0 (.int .u64 0) 1 8 Try.underlying26 hi hz0 hz1 hz2 rfl (by decide) _ l.length _ rfl ho1 (w.heap.size + 1) (some ⟨w.heap.size, 0, none⟩) 1 1 (uc [q]) rfl hr1 (uc_one _) hm1 hm2 hbs ?_); intro v' w6 hown6 hst; obtain ⟨A6, cw6, rfl, _⟩ := own_form hown6; have hst2 := (Stp.alloc w (.cells #[.int .u64 (q.1 : Int)] 23) (.slice A l.length c)).trans hst; (have hown6' : w6.ownsRow 0 kU.E kU.size (.slice A6 (l.length + 1) cw6) (l.length + 1) (kU.cs (l ++ [q])) := by rw [show kU.cs (l ++ [q]) = uc l ++ uc [q] from uc_append _ _]; exact hown6); have PU := Lib_hid (HT.out.pushed hst2 hown6'); have hbx := PU.out.1; have c0' := cell_of_row w6 p 0 _ _ _ (hbx.trans HT.out.box); have z0' := frozen_of_row w6 p 0 _ _ (hbx.trans HT.out.box); have hp6 : p < w6.heap.size := (Array.getElem?_eq_some_iff.1 (hbx.trans HT.out.box)).1; clear hst hst2 hown6 hown6' hbx)
  clear c0 c1 ho1 hr1
  generalize w6.setCell ⟨p, 0, none⟩ (.slice A6 (l.length + 1) cw6) = W at *
  obtain ⟨-, P1, P2, P3, P4, P5, P6⟩ := PU.out
  have c2 := cell_of_row W p 1 _ _ _ P1
  have HE := Lib_hid (fun w' => HT.out.done (w' := w') HQ.out.1 HQ.out.2.1 P1 P2 P4 P5 P6 P3)
  have hq := HQ.out.1
  have hn := HQ.out.2.1
  clear c0' z0' P1 P2 P4 P5 P6 PU hp6
  go_wp2_with (at_mapUpdate; (refine wpList_put kU_ok _ rfl _ _ _ rfl b l q rfl rfl rfl P3 hq hn hl ?_); intro w7 hm7 hg7; have HE7 := Lib_hid (HE.out w7 hm7 hg7); clear hm7 hg7)
  go_ret
  exact ⟨rfl, HE7.out⟩

set_option maxRecDepth 100000 in
/-- The table has no map yet. -/
theorem uput_none {w0 : World} {p c : Nat} {A : Option Addr} {l : List PP} (h0 : Tab kU w0 p A c none l) {q : PP} (hq : NmU q) (hn : q ∉ l) (hl : l.length ≤ 1000000000) :
    Calls Try.prog 45 #[.pointer (some ⟨p, 0, none⟩), .int .u64 (q.1 : Int)] w0 (PutEnd kU l.length (l ++ [q]) (Own p A none) p w0) := by
  have hmm := @run_makeMap Try.prog
  have NM := nil_map none
  have c1 := h0.c1
  have z1 := h0.z 1
  have hpl := h0.lt p (.inl rfl)
  have hba := (below_new w0 (.map #[] 0)).block p hpl
  have c1a := cell_of_row (w0.alloc (.map #[] 0)) p 1 _ _ _ (hba.trans h0.box)
  have z1a := frozen_of_row (w0.alloc (.map #[] 0)) p 1 _ _ (hba.trans h0.box)
  clear hba
  obtain ⟨h, ht⟩ := h0.mapped
  have HT0 : Hid (Turns (Own p A none) w0 ((w0.alloc (.map #[] 0)).setCell ⟨p, 1, none⟩ (.map (some w0.heap.size))) ∧ ∀ k, Own p A (some w0.heap.size) k → Own p A none k ∨ w0.heap.size ≤ k) := ⟨ht, fun k hk => by
    rcases hk with hk | hk | hk
    · exact .inl (.inl hk)
    · exact .inl (.inr (.inl hk))
    · exact .inr (by injection hk with hk; omega)⟩
  rw [World.setCell_alloc_past (w := w0) (.map #[] 0) p 1 (.map (some w0.heap.size)) hpl] at h HT0
  have HTT := Lib_hid h
  have HQ0 := Lib_hid (And.intro hq hn)
  clear h0 h ht hq hn
  go_enter Try.func45, Try.ntmps45
  go_upto_region 3 with (fail)
  have h := HTT.out
  obtain ⟨hq, hn⟩ := HQ0.out
  clear NM c1 z1 hpl HTT HQ0 c1a z1a
  generalize hb : w0.heap.size = b at *
  generalize (w0.setCell ⟨p, 1, none⟩ (.map (some b))).alloc (.map #[] 0) = w at *
  have HB := Lib_hid hb
  clear hb
  obtain ⟨i0, hi, hz0, hz1, hz2⟩ := info_parts Try.infoU
  have NM := nil_map (some b)
  have c0 := h.c0
  have c1 := h.c1
  have hcap := h.cap
  have hpl : p < w.heap.size := h.lt p (.inl rfl)
  have hm1 : l.length + 1 ≤ maxLen := by unfold maxLen; omega
  have hm2 : (l.length + 1) * 8 ≤ 140737488355328 := by omega
  have ho1 := own_below h.row (below_new w (.cells #[.int .u64 (q.1 : Int)] 23)) (own_lt h.row)
  have hr1 := uc_new w q 23
  have hbs : 0 ≤ (w.alloc (.cells #[.int .u64 (q.1 : Int)] 23)).heap.size := Nat.zero_le _
  have HT := Lib_hid h
  have HQ := Lib_hid (And.intro hq (And.intro hn hl))
  clear h hq hn
  go_upto_region 5 with (at_builtin; (refine wpList_app rfl _ _ 26 rfl 0 23 i0 (.int .u64 0) 1 8 Try.underlying26 hi hz0 hz1 hz2 rfl (by decide) _ l.length _ rfl ho1 (w.heap.size + 1) (some ⟨w.heap.size, 0, none⟩) 1 1 (uc [q]) rfl hr1 (uc_one _) hm1 hm2 hbs ?_); intro v' w6 hown6 hst; obtain ⟨A6, cw6, rfl, _⟩ := own_form hown6; have hst2 := (Stp.alloc w (.cells #[.int .u64 (q.1 : Int)] 23) (.slice A l.length c)).trans hst; (have hown6' : w6.ownsRow 0 kU.E kU.size (.slice A6 (l.length + 1) cw6) (l.length + 1) (kU.cs (l ++ [q])) := by rw [show kU.cs (l ++ [q]) = uc l ++ uc [q] from uc_append _ _]; exact hown6); have PU := Lib_hid (HT.out.pushed hst2 hown6'); have hbx := PU.out.1; have c0' := cell_of_row w6 p 0 _ _ _ (hbx.trans HT.out.box); have z0' := frozen_of_row w6 p 0 _ _ (hbx.trans HT.out.box); have hp6 : p < w6.heap.size := (Array.getElem?_eq_some_iff.1 (hbx.trans HT.out.box)).1; clear hst hst2 hown6 hown6' hbx)
  clear c0 c1 ho1 hr1
  generalize w6.setCell ⟨p, 0, none⟩ (.slice A6 (l.length + 1) cw6) = W at *
  obtain ⟨-, P1, P2, P3, P4, P5, P6⟩ := PU.out
  have c2 := cell_of_row W p 1 _ _ _ P1
  have HE := Lib_hid (fun w' => HT.out.done (w' := w') HQ.out.1 HQ.out.2.1 P1 P2 P4 P5 P6 P3)
  have hq := HQ.out.1
  have hn := HQ.out.2.1
  clear c0' z0' P1 P2 P4 P5 P6 PU hp6
  go_wp2_with (at_mapUpdate; (refine wpList_put kU_ok _ rfl _ _ _ rfl b l q rfl rfl rfl P3 hq hn hl ?_); intro w7 hm7 hg7; have HE7 := Lib_hid (HE.out w7 hm7 hg7); clear hm7 hg7)
  go_ret
  exact ⟨rfl, HE7.out.later HT0.out.1 (by rw [HB.out]; exact HT0.out.2)⟩

set_option maxRecDepth 100000 in
theorem uput_any {w : World} {p c : Nat} {A : Option Addr} {m : Option Nat} {l : List PP} (h : Tab kU w p A c m l) {q : PP} (hq : NmU q) (hn : q ∉ l) (hl : l.length ≤ 1000000000) :
    Calls Try.prog 45 #[.pointer (some ⟨p, 0, none⟩), .int .u64 (q.1 : Int)] w (PutEnd kU l.length (l ++ [q]) (Own p A m) p w) := by
  rcases m with _ | b
  · exact uput_none h hq hn hl
  · exact uput_some h hq hn hl

end Go.Proofs.Ytidlpiamiglppaa
