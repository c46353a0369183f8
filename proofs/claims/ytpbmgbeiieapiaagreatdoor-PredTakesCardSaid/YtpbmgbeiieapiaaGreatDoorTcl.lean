/-
  Layer 4: slices.Clone of parts; copies.
-/
import Derived.Test.YtpbmgbeiieapiaaGreatDoorTse
import Derived.Test.YtpbmgbeiieapiaaGreatDoorTsh
namespace Go.Proofs.YtpbmgbeiieapiaaGreatDoor
open Go Go.RowKit
set_option linter.unusedVariables false

theorem Tryz.infoE : (Tryz.prog.info? 25).map (fun i => (i.zero, i.size, i.bytes)) = some (some (.agg #[.int .i64 0, .int .u64 0, .int .u64 0, .slice none 0 0]), 4, 48) := by kernel_rfl

/-- A row of parts of the call's own. -/
def ClEnd (E : TypeId) (n : Nat) (xs : List Value) (w : World) (e : Ending) (w' : World) : Prop :=
  ∃ A' c', e = .returned (.slice A' n c') ∧ w'.ownsRow w.heap.size E 4 (.slice A' n c') n xs ∧ Below w.heap.size w w'

set_option maxRecDepth 100000 in
theorem eclone_any (B : Nat) (A : Option Addr) (n c : Nat) (vs : List V) (w : World) (h : Rd w B 4 A n (vCells vs)) (hn : n ≤ 1000) :
    Calls Tryz.prog 57 #[.slice A n c] w (ClEnd 25 n (vCells vs) w) := by
  have hnil : ∀ wx, (binOp .eql 23 (.slice A n c) (.slice none 0 0)).run Tryz.prog wx = .ok (.bool A.isNone) wx := fun wx => Lib.run_eql_slice_nil wx 23 25 A n c 0 0 Tryz.underlying23
  cases A with
  | none =>
    have h0 : n = 0 := by
      rcases Nat.eq_zero_or_pos n with h0 | h0
      · exact h0
      · obtain ⟨ad, e, _⟩ := h.lies h0; cases e
    subst h0
    have hv : vCells vs = [] := List.eq_nil_of_length_eq_zero (by have := h.len; omega)
    have HV := Lib_hid hv
    clear h hv
    go_enter Tryz.func57, Tryz.ntmps57
    go_wp2
    go_ret
    exact ⟨none, 0, rfl, by rw [HV.out]; exact World.ownsRow_nil _ _ _ _, Below.refl _ _⟩
  | some ad =>
    obtain ⟨i0, hi, hz0, hz1, hz2⟩ := info_parts Tryz.infoE
    have hm1 : 0 + n ≤ maxLen := by unfold maxLen; omega
    have hm2 : (0 + n) * 48 ≤ 140737488355328 := by omega
    have hon : (w.alloc (.cells #[] 25)).ownsRow w.heap.size 25 4 (.slice (some ⟨w.heap.size, 0, none⟩) 0 0) 0 [] := World.ownsRow_lit w #[] 0 (Nat.le_refl _) (by decide) rfl
    have h2 : Rd (w.alloc (.cells #[] 25)) (w.heap.size + 1) 4 (some ad) n (vCells vs) := by
      refine ⟨h.len, fun hn => ?_⟩
      obtain ⟨ad', e, hb, hc⟩ := h.lies hn
      have hlt : ad'.block < w.heap.size := by
        have := World.block_lt_of_cell? w _ (hc 0 ((vCells vs)[0]'(by have := h.len; omega)) (List.getElem?_eq_getElem _))
        rwa [add_block] at this
      exact ⟨ad', e, by omega, fun j u hu => (World.cell?_alloc_lt w _ _ (by rw [add_block]; exact hlt)).trans (hc j u hu)⟩
    have hsz : w.heap.size ≤ (w.alloc (.cells #[] 25)).heap.size := by simp
    clear h
    go_enter Tryz.func57, Tryz.ntmps57
    go_wp2_with (at_builtin; (refine wpList_app rfl _ _ 23 rfl w.heap.size 25 i0 (.agg #[.int .i64 0, .int .u64 0, .int .u64 0, .slice none 0 0]) 4 48 Tryz.underlying23 hi hz0 hz1 hz2 rfl (by decide) _ 0 [] rfl hon (w.heap.size + 1) (some ad) n c (vCells vs) rfl h2 (v_one _) hm1 hm2 hsz ?_); intro v' w1 hown' hst; simp only [Nat.zero_add, List.nil_append] at hown'; obtain ⟨A2, c2, rfl, _⟩ := own_form hown')
    go_ret
    exact ⟨A2, c2, rfl, hown', ((Below.refl _ _).alloc (Nat.le_refl _) _).trans (hst.below hsz (fun k hk => by have : w.heap.size = k := (by injection hk); omega))⟩

theorem vCells_set (us ps : List V) (p : V) (r : List V) (A' : Option Addr) (c' : Nat) (qs : List V) (hp : ps = p :: r) :
    (vCells us ++ vCells ps).set (us.length * 4 + 3) (.slice A' qs.length c') = vCells (us ++ [.node p.kind p.a p.b A' c' qs]) ++ vCells r := by
  subst hp
  rw [List.set_append_right _ _ (by rw [vCells_length]; omega), vCells_length, show us.length * 4 + 3 - us.length * 4 = 3 by omega, vCells_append, List.append_assoc]
  congr 1
theorem Lies.stored {w : World} {lo hi g i : Nat} {v : V} (h : Lies w lo hi v) (hg : g < lo) (x : Value) : Lies (w.setCell ⟨g, i, none⟩ x) lo hi v :=
  h.keep fun p hlo _ => World.cell?_of_block (Below.heap_setCell w ⟨g, i, none⟩ x p.block (by show p.block ≠ g; omega))

/-- How copies ends. -/
def CopEnd (ps : List V) (w : World) (e : Ending) (w' : World) : Prop :=
  ∃ A' c' us, e = .returned (.slice A' us.length c') ∧ us.length = ps.length ∧ V.absL us = V.absL ps ∧ (∀ u ∈ us, Lies w' w.heap.size w'.heap.size u) ∧ w'.ownsRow w.heap.size 25 4 (.slice A' us.length c') us.length (vCells us) ∧ Below w.heap.size w w' ∧ ∀ u ∈ us, Shp 25 w' w.heap.size u

set_option maxRecDepth 100000 in
set_option maxHeartbeats 1600000 in
theorem copies_any : ∀ (v : V) (w : World) (lo hi : Nat), Lies w lo hi v → hi ≤ w.heap.size → v.abs.count ≤ 1000 → Calls Tryz.prog 42 #[v.sl] w (CopEnd v.parts w) := by
  refine V.ind fun k a b A c ps ih w lo hi hL hhi hct => ?_
  obtain ⟨hlen, hcap', -, -, -⟩ := hL.caps
  have hlc : ps.length ≤ 1000 := by
    rw [V.count_node] at hct
    have := length_le_countL (V.absL ps)
    rw [absL_length] at this
    omega
  have CL := eclone_any hi A ps.length c ps w hL.top.2.2.2.2.2 hlc
  have IH : Hid (∀ (i : Nat) (p : V), ps[i]? = some p → ∀ W, Below w.heap.size w W → Calls Tryz.prog 42 #[p.sl] W (CopEnd p.parts W)) := fun i p hp W hW => ih p (List.mem_of_getElem? hp) W lo hi ((hL.part (List.mem_of_getElem? hp)).under (hW.mono hhi)) (Nat.le_trans hhi hW.size) (hL.small hct hp).1
  have HB : Hid (∀ p ∈ ps, (-9223372036854775808 ≤ p.kind ∧ p.kind ≤ 9223372036854775807) ∧ p.a < 18446744073709551616 ∧ p.b < 18446744073709551616) := fun p hp => let ⟨h1, h2, h3, _⟩ := (hL.part hp).top; ⟨h1, h2, h3⟩
  clear ih hL hct
  show Calls Tryz.prog 42 #[.slice A ps.length c] w (CopEnd ps w)
  go_enter Tryz.func42, Tryz.ntmps42
  go_wp2_with fail
  refine CL.mono ?_
  rintro e w1 ⟨A1, c1, rfl, ho1, hb1⟩
  have hc1 := own_cap ho1
  have hsz1 := hb1.size
  have hlt1 := own_lt ho1
  have hge1 := own_ge ho1
  have HO1 : Hid (w1.ownsRow w.heap.size 25 4 (.slice A1 ps.length c1) ps.length (vCells [] ++ vCells (ps.drop 0))) := ho1
  clear CL ho1
  go_wp2
  go_loopw [9] (fun z W => ∃ (i : Nat) (us : List V), z = .int .i64 i ∧ i ≤ ps.length ∧ Hid (us.length = i ∧ V.absL us = V.absL (ps.take i) ∧ ∀ u ∈ us, Lies W w1.heap.size W.heap.size u ∧ Shp 25 W w1.heap.size u) ∧ W.ownsRow w.heap.size 25 4 (.slice A1 ps.length c1) ps.length (vCells us ++ vCells (ps.drop i)) ∧ w1.heap.size ≤ W.heap.size ∧ Below w.heap.size w W) (fun z _ => ps.length - (intOf z).toNat)
  case atStart => exact ⟨0, [], rfl, Nat.zero_le _, Lib_hid ⟨rfl, by simp [V.absL], by simp⟩, HO1.out, Nat.le_refl _, hb1⟩
  case round =>
    clear HO1
    obtain ⟨i, us, rfl, hi1, hus, ho, hwz, hbw⟩ := hrel
    rename World => W
    by_cases hlt : i < ps.length
    · obtain ⟨g, cap, hv, hgw, hgl⟩ := ho.form (by omega)
      have hA : A1 = some ⟨g, 0, none⟩ := by injection hv
      subst hA
      have hg1 : g < w1.heap.size := hlt1 g rfl
      obtain ⟨p, hp⟩ : ∃ p, ps[i]? = some p := ⟨_, List.getElem?_eq_getElem hlt⟩
      have hdr : ps.drop i = p :: ps.drop (i + 1) := by
        rw [List.drop_eq_getElem_cons hlt]
        congr 1
        exact (List.getElem?_eq_some_iff.1 hp).2
      have hcell : W.cell? ⟨g, i * 4 + 3, none⟩ = some p.sl := by
        rw [ho.cellAt (i * 4 + 3) (by omega), hdr, List.getElem?_append_right (by rw [vCells_length, hus.out.1]; omega), vCells_length, hus.out.1, show i * 4 + 3 - i * 4 = 3 by omega]
        rfl
      have CH := IH.out i p hp W hbw
      have HO := Lib_hid ho
      have HP := Lib_hid (And.intro hp hdr)
      obtain ⟨hbk, hba, hbb⟩ := HB.out p (List.mem_of_getElem? hp)
      have HBP := Lib_hid (And.intro hbk (And.intro hba hbb))
      have hps : p.sl = .slice p.addr p.parts.length p.cap := rfl
      rw [hps] at hcell CH
      have hszw := hbw.size
      clear hp hdr ho hv hps hbk hba hbb
      generalize p.addr = pA at *
      generalize p.cap = pc at *
      go_wp2_with fail
      refine CH.mono ?_
      rintro e w2 ⟨A2, c2, qs, rfl, hql, hqa, hqL, ho2, hb2, hqS⟩
      have ho2r := own_below HO.out hb2 (own_lt HO.out)
      have hf2 := ho2r.frozenAt (i * 4 + 3)
      have hc2 : w2.cell? ⟨g, i * 4 + 3, none⟩ = some (.slice pA p.parts.length pc) := (hb2.cell (p := ⟨g, i * 4 + 3, none⟩) hgl).trans hcell
      have ST := ho2r.stored (i * 4 + 3) (.slice A2 qs.length c2)
      have hcp2 := own_cap ho2
      have hsz2 := hb2.size
      have hge2 := own_ge ho2
      have hset : (vCells us ++ vCells (ps.drop i)).set (i * 4 + 3) (.slice A2 qs.length c2) = vCells (us ++ [.node p.kind p.a p.b A2 c2 qs]) ++ vCells (ps.drop (i + 1)) := by
        rw [← hus.out.1]
        rw [hus.out.1]
        have := vCells_set us (ps.drop i) p (ps.drop (i + 1)) A2 c2 qs HP.out.2
        rwa [hus.out.1] at this
      rw [hset] at ST
      have hnew : Lies w2 w1.heap.size w2.heap.size (.node p.kind p.a p.b A2 c2 qs) := .mk _ _ _ _ _ _ HBP.out.1 HBP.out.2.1 HBP.out.2.2 (Rd.own ho2) hcp2 (fun ad e hn => by
        subst e
        obtain ⟨g2, cap2, hv2, _, _⟩ := ho2.form hn
        injection hv2 with e2
        injection e2 with e2
        subst e2
        have := hge2 g2 rfl
        show w1.heap.size ≤ g2
        omega) (fun q hq => (hqL q hq).more (by omega) (Nat.le_refl _))
      have hnewS : Shp 25 w2 w1.heap.size (.node p.kind p.a p.b A2 c2 qs) := Shp.own (base := W.heap.size) _ _ _ ho2 hwz (fun q hq => (hqS q hq).more hwz)
      have hall : ∀ u ∈ us ++ [.node p.kind p.a p.b A2 c2 qs], Lies (w2.setCell ⟨g, i * 4 + 3, none⟩ (.slice A2 qs.length c2)) w1.heap.size (w2.setCell ⟨g, i * 4 + 3, none⟩ (.slice A2 qs.length c2)).heap.size u ∧ Shp 25 (w2.setCell ⟨g, i * 4 + 3, none⟩ (.slice A2 qs.length c2)) w1.heap.size u := by
        intro u hu
        have hs3 : (w2.setCell ⟨g, i * 4 + 3, none⟩ (.slice A2 qs.length c2)).heap.size = w2.heap.size := by simp [World.setCell]
        rw [hs3]
        rcases List.mem_append.1 hu with hu | hu
        · exact ⟨(((hus.out.2.2 u hu).1.under hb2).more (Nat.le_refl _) hsz2).stored hg1 _, ((hus.out.2.2 u hu).2.under hb2).aside hg1 _⟩
        · obtain rfl : u = .node p.kind p.a p.b A2 c2 qs := by simpa using hu
          exact ⟨hnew.stored hg1 _, hnewS.aside hg1 _⟩
      have habs : V.absL (us ++ [.node p.kind p.a p.b A2 c2 qs]) = V.absL (ps.take (i + 1)) := by
        rw [absL_take HP.out.1, absL_map, List.map_append, ← absL_map, hus.out.2.1]
        congr 1
        show [V.abs _] = _
        rw [V.abs, hqa]
        cases p with
        | node pk pa pb pA' pc' pps => rw [V.abs]; rfl
      have hlen' : (us ++ [V.node p.kind p.a p.b A2 c2 qs]).length = i + 1 := by rw [List.length_append, hus.out.1]; rfl
      have hbw3 := (hbw.trans (hb2.mono hszw)).grown ST.2 (by have := hb2.size; omega) (fun k hk => by have e2 : g = k := Option.some.inj hk; omega)
      have HU := Lib_hid (And.intro hlen' (And.intro habs hall))
      have HS := Lib_hid ST.1
      have hsz3 : w1.heap.size ≤ (w2.setCell ⟨g, i * 4 + 3, none⟩ (.slice A2 qs.length c2)).heap.size := by have := ST.2.size; omega
      clear CH hql hqa hqL hqS ho2 hb2 ho2r ST hset hnew hnewS hall habs hlen' hge2 hcell
      go_wp2
      go_roundw
      case rel => exact ⟨i + 1, us ++ [.node p.kind p.a p.b A2 c2 qs], by go_num, by omega, HU, HS.out, hsz3, hbw3⟩
      case measure => simp [intOf]; omega
    · obtain rfl : i = ps.length := by omega
      have PF : Hid (CopEnd ps w (.returned (.slice A1 ps.length c1)) W) := by
        obtain ⟨h1, h2, h3⟩ := hus.out
        rw [List.take_length] at h2
        refine ⟨A1, c1, us, by rw [h1], h1, h2, fun u hu => (h3 u hu).1.more hsz1 (Nat.le_refl _), ?_, hbw, fun u hu => (h3 u hu).2.more hsz1⟩
        have := ho
        rw [List.drop_length] at this
        rw [h1]
        simpa [vCells] using this
      clear hus ho
      go_wp2
      go_ret
      exact PF.out

end Go.Proofs.YtpbmgbeiieapiaaGreatDoor
