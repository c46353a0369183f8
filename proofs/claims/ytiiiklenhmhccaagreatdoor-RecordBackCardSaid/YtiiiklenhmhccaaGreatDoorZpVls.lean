/-
  Layer 5: the program's words: entries.
  Layer 5: the six functions that read a part of a text.
-/
import Derived.Test.YtiiiklenhmhccaaGreatDoorZpVlp
import Derived.Test.YtiiiklenhmhccaaGreatDoorZpVpm
import Derived.Test.YtiiiklenhmhccaaGreatDoorZpTrw

namespace Go.Proofs.YtiiiklenhmhccaaGreatDoor
open Go Go.RowKit
set_option linter.unusedVariables false
theorem Tryz.infoEn : (Tryz.prog.info? 84).map (fun i => (i.zero, i.size, i.bytes)) = some (some (.agg #[.int .u64 0, .int .u64 0, .int .u64 0, .bool false]), 4, 32) := by kernel_rfl
def EnsEnd5 (s : List UInt8) (bad : Bool) (g : Nat) (w : World) (e : Ending) (w' : World) : Prop :=
  w.grownBy w' (some g) ∧ ∃ (A : Option Addr) (c : Nat) (es : List En) (s' : List UInt8) (bad' : Bool), e = .returned (.slice A es.length c) ∧ (∀ x ∈ es, x.ok) ∧ w'.ownsRow w.heap.size 84 4 (.slice A es.length c) es.length (enCells es) ∧
    w'.heap[g]? = some (WdC s' bad') ∧ es.length + s'.length ≤ s.length ∧ (bad = true → bad' = true) ∧ (bad = false → (ensW s.length s = some es ∧ s' = [] ∧ bad' = false) ∨ (ensW s.length s = none ∧ bad' = true))
theorem leftW_lt {l : List UInt8} (h : l ≠ []) : (leftW l).length < l.length := by
  obtain ⟨_, h2⟩ := leftW_blank l
  have h3 := congrArg List.length h2
  rw [List.length_append] at h3
  cases l with
  | nil => exact absurd rfl h
  | cons b l =>
    by_cases e : b = 32
    · subst e
      rw [restW_eq] at h3
      simp only [List.length_cons]
      omega
    · have hr : restW (b :: l) = b :: l := by
        unfold restW Lib.trimPrefix
        rw [pre_one, if_neg]
        simp; exact fun h => e h.symm
      have hw : 0 < (wordW (b :: l)).length := by
        unfold wordW
        rw [hr, ahead_cons, if_neg e]
        simp
      rw [hr] at h3
      omega
structure EnsI (s : List UInt8) (bad : Bool) (es : List En) (s' : List UInt8) (bad' : Bool) : Prop where
  len : es.length + s'.length ≤ s.length
  ok : ∀ x ∈ es, x.ok
  bd : bad = true → bad' = true
  rd : bad = false → (bad' = false ∧ ∃ f, s'.length ≤ f ∧ ensW s.length s = (ensW f s').map (es ++ ·)) ∨ (bad' = true ∧ ensW s.length s = none)
section
variable {s s' : List UInt8} {bad bad' : Bool} {es : List En}
theorem EnsI.zero (s : List UInt8) (bad : Bool) : EnsI s bad [] s bad := ⟨by simp, by simp, fun h => h, fun h => .inl ⟨h, s.length, Nat.le_refl _, by simp⟩⟩
theorem EnsI.step (h : EnsI s bad es s' false) (hne : s' ≠ []) (e : En) (he : e.ok) (b2 : Bool) (hc : (enW (wordW s') = some e ∧ b2 = false) ∨ (enW (wordW s') = none ∧ b2 = true)) : EnsI s bad (es ++ [e]) (leftW s') b2 := by
  have hlt := leftW_lt hne
  refine ⟨by have := h.len; simp; omega, fun x hx => ?_, fun hb => (by have := h.bd hb; cases this), fun hb => ?_⟩
  · rcases List.mem_append.1 hx with hx | hx
    · exact h.ok x hx
    · obtain rfl : x = e := by simpa using hx
      exact he
  · rcases h.rd hb with ⟨_, f, hf, e1⟩ | ⟨h0, _⟩
    · obtain ⟨f', rfl⟩ : ∃ f', f = f' + 1 := ⟨f - 1, by omega⟩
      have hu : ensW (f' + 1) s' = match enW (wordW s') with | some e => (ensW f' (leftW s')).map (e :: ·) | none => none := by
        conv => lhs; unfold ensW
        rw [if_neg hne]
        cases enW (wordW s') <;> rfl
      rcases hc with ⟨h1, rfl⟩ | ⟨h1, rfl⟩
      · refine .inl ⟨rfl, f', by omega, ?_⟩
        rw [e1, hu, h1]
        simp only
        cases ensW f' (leftW s') with
        | none => rfl
        | some l => simp
      · refine .inr ⟨rfl, ?_⟩
        rw [e1, hu, h1]
        rfl
    · cases h0
theorem EnsI.fin (h : EnsI s bad es s' bad') (hs : s' = [] ∨ bad' = true) : (bad = true → bad' = true) ∧ (bad = false → (ensW s.length s = some es ∧ s' = [] ∧ bad' = false) ∨ (ensW s.length s = none ∧ bad' = true)) := by
  refine ⟨h.bd, fun hb => ?_⟩
  rcases h.rd hb with ⟨h0, f, hf, e1⟩ | ⟨h0, h1⟩
  · rcases hs with rfl | h2
    · refine .inl ⟨?_, rfl, h0⟩
      rw [e1]
      have : ensW f [] = some [] := by cases f <;> rfl
      rw [this]
      simp
    · rw [h0] at h2; cases h2
  · exact .inr ⟨h1, h0⟩
end
def lenAt (g : Nat) (W : World) : Nat := match W.heap[g]? with
  | some (.cells cs _ _) => match cs[0]? with
    | some (Value.string b) => b.size
    | _ => 0
  | _ => 0
theorem lenAt_eq {g : Nat} {W : World} {s : List UInt8} {bad : Bool} (h : W.heap[g]? = some (WdC s bad)) : lenAt g W = s.length := by
  unfold lenAt WdC at *
  rw [h]
  simp [ByteArray.size]
set_option maxRecDepth 100000 in
set_option maxHeartbeats 3200000 in
theorem entries5_any (B g : Nat) (s : List UInt8) (bad : Bool) (w : World) (hg : w.heap[g]? = some (WdC s bad)) (hE : EnvM B w) (hB : B ≤ g) (hl : s.length ≤ 1000000) :
    Calls Tryz.prog 152 #[.pointer (some ⟨g, 0, none⟩)] w (EnsEnd5 s bad g w) := by
  have hgl := (Array.getElem?_eq_some_iff.1 hg).1
  obtain ⟨i0, hi, hz0, hz1, hz2⟩ := info_parts Tryz.infoEn
  have NX : Hid (∀ (W : World) (l : List UInt8) (bad' : Bool), w.grownBy W (some g) → W.heap[g]? = some (WdC l bad') → l.length ≤ 1000000 → Calls Tryz.prog 111 #[.pointer (some ⟨g, 0, none⟩)] W fun e w' => e = .returned (.string ⟨(wordW l).toArray⟩) ∧ w'.heap[g]? = some (WdC (leftW l) bad') ∧ W.grownBy w' (some g)) := fun W l bad' h1 h2 h3 =>
    next_any B g l bad' W h2 (hE.under (B' := B) ((Below.refl B w).grown h1 (by omega) (fun k hk => by injection hk with hk; omega)) (Nat.le_refl _)) h3
  have EN : Hid (∀ (W : World) (x l : List UInt8) (bad' : Bool), w.grownBy W (some g) → W.heap[g]? = some (WdC l bad') → x.length ≤ 1000000 → Calls Tryz.prog 180 #[.pointer (some ⟨g, 0, none⟩), .string ⟨x.toArray⟩] W (EntEnd5 x l bad' g W)) := fun W x l bad' h1 h2 h3 =>
    entry5_any B g x l bad' W h2 (hE.under (B' := B) ((Below.refl B w).grown h1 (by omega) (fun k hk => by injection hk with hk; omega)) (Nat.le_refl _)) hB h3
  have FIN : Hid (∀ (W : World) (A : Option Addr) (n c : Nat) (es : List En) (s' : List UInt8) (bad' : Bool), n = es.length → EnsI s bad es s' bad' → (s' = [] ∨ bad' = true) → W.ownsRow w.heap.size 84 4 (.slice A n c) n (enCells es) → W.heap[g]? = some (WdC s' bad') → w.grownBy W (some g) → EnsEnd5 s bad g w (.returned (.slice A n c)) W) := fun W A n c es s' bad' h1 h2 h3 h4 h5 h6 => by
    subst h1
    obtain ⟨k1, k2⟩ := h2.fin h3
    exact ⟨h6, A, c, es, s', bad', rfl, h2.ok, h4, h5, h2.len, k1, k2⟩
  go_enter Tryz.func152, Tryz.ntmps152
  go_wp2
  go_loopw [3] (fun v wr => ∃ (n c : Nat) (A : Option Addr) (es : List En) (s' : List UInt8) (bad' : Bool), v = .slice A n c ∧ Hid (n = es.length) ∧ Hid (EnsI s bad es s' bad') ∧ wr.ownsRow w.heap.size 84 4 (.slice A n c) n (enCells es) ∧ wr.heap[g]? = some (WdC s' bad') ∧ w.grownBy wr (some g)) (fun _ wr => lenAt g wr)
  case atStart => exact ⟨0, 0, none, [], s, bad, rfl, rfl, EnsI.zero s bad, World.ownsRow_nil _ _ _ _, hg, grow_refl _ _⟩
  case round =>
    obtain ⟨n, c, A, es, s', bad', rfl, hn, hI, hown, hgr, hgw⟩ := hrel
    have c0 : wr.cell? ⟨g, 0, none⟩ = some (.string ⟨s'.toArray⟩) := cell_of_row wr g 0 _ _ _ hgr
    have c1 : wr.cell? ⟨g, 1, none⟩ = some (.bool bad') := cell_of_row wr g 1 _ _ _ hgr
    have HLEN := lenAt_eq hgr
    have hil := hI.out.len
    by_cases hs : s' = []
    · have hq : (s' == []) = true := by simp [hs]
      have HF := Lib_hid (FIN.out wr A n c es s' bad' hn.out hI.out (.inl hs) hown hgr hgw)
      clear NX EN FIN hown hgr hI hgw
      subst hs
      go_wp2
      go_ret
      exact HF.out
    · have hq : (s' == []) = false := by simp [hs]
      have hq2 : (s' != []) = true := by simp [hs]
      cases bad' with
      | true =>
        have HF := Lib_hid (FIN.out wr A n c es s' true hn.out hI.out (.inr rfl) hown hgr hgw)
        clear NX EN FIN hown hgr hI hgw
        go_wp2
        go_ret
        exact HF.out
      | false =>
        have hwl := Nat.le_trans (wordW_len s') (restW_len s')
        have hlt := leftW_lt hs
        have NX1 := NX.out wr s' false hgw hgr (by omega)
        have HST : Hid (∀ (e : En) (b2 : Bool), e.ok → ((enW (wordW s') = some e ∧ b2 = false) ∨ (enW (wordW s') = none ∧ b2 = true)) → EnsI s bad (es ++ [e]) (leftW s') b2) := fun e b2 he hc => hI.out.step hs e he b2 hc
        have hm1 : n + 1 ≤ maxLen := by have := hn.out; unfold maxLen; omega
        have hm2 : (n + 1) * 32 ≤ 140737488355328 := by have := hn.out; omega
        have HEN : Hid (∀ (W : World) , w.grownBy W (some g) → W.heap[g]? = some (WdC (leftW s') false) → Calls Tryz.prog 180 #[.pointer (some ⟨g, 0, none⟩), .string ⟨(wordW s').toArray⟩] W (EntEnd5 (wordW s') (leftW s') false g W)) := fun W h1 h2 => EN.out W (wordW s') (leftW s') false h1 h2 (by omega)
        clear NX EN FIN hI hwl hs hgr
        generalize wordW s' = wd at *
        generalize leftW s' = lf at *
        go_wp2_with fail
        refine NX1.mono ?_
        rintro e w1 ⟨rfl, hx1, hg1⟩
        have EN1 := HEN.out w1 (hgw.trans hg1) hx1
        clear HEN NX1 c0 c1
        go_wp2_with fail
        refine EN1.mono ?_
        rintro e w2 ⟨hg2, en, rfl, hok, hc⟩
        obtain ⟨b2, hx2, hcc⟩ : ∃ b2, w2.heap[g]? = some (WdC lf b2) ∧ ((enW wd = some en ∧ b2 = false) ∨ (enW wd = none ∧ b2 = true)) := by
          rcases hc with ⟨h1, h2⟩ | ⟨h1, h2⟩
          · exact ⟨false, h2, .inl ⟨h1, rfl⟩⟩
          · exact ⟨true, h2, .inr ⟨h1, rfl⟩⟩
        have HI2 := Lib_hid (HST.out en b2 hok hcc)
        have hgw2 := hgw.trans (hg1.trans hg2)
        have hs2 := hgw2.size
        have ho2 : w2.ownsRow w.heap.size 84 4 (.slice A n c) n (enCells es) := own_keep hown fun k hk => (hg1.trans hg2).block k (own_lt hown k hk) (fun e => by injection e with e; have := own_ge hown k hk; omega)
        have hec : enCells (es ++ [en]) = enCells es ++ en.cells := by rw [enCells_append]; simp [enCells]
        have HEC := Lib_hid hec
        clear hc hcc hok EN1 HST hg2 hg1 hx1 hown hec
        obtain ⟨ex, ea, eb, em⟩ := en
        simp only [En.val]
        have ho3 := own_below ho2 (below_new w2 (.cells #[.int .u64 (ex : Int), .int .u64 (ea : Int), .int .u64 (eb : Int), .bool em] 84)) (own_lt ho2)
        have hr3 := rd_row (size := 4) (n := 1) (l := [.int .u64 (ex : Int), .int .u64 (ea : Int), .int .u64 (eb : Int), .bool em]) (heap_alloc_new w2 (.cells #[.int .u64 (ex : Int), .int .u64 (ea : Int), .int .u64 (eb : Int), .bool em] 84)) rfl
        have hx3 := (heap_alloc_old w2 (.cells #[.int .u64 (ex : Int), .int .u64 (ea : Int), .int .u64 (eb : Int), .bool em] 84) (lt_of_block hx2)).trans hx2
        have hgw3 : w.grownBy (w2.alloc (.cells #[.int .u64 (ex : Int), .int .u64 (ea : Int), .int .u64 (eb : Int), .bool em] 84)) (some g) := hgw2.trans (grow_below (below_new w2 _) _)
        have hs3 := hgw3.size
        have h1c : ∀ u ∈ ([.int .u64 (ex : Int), .int .u64 (ea : Int), .int .u64 (eb : Int), .bool em] : List Value), u.oneCell' = true := by
          intro u hu
          simp only [List.mem_cons, List.not_mem_nil, or_false] at hu
          rcases hu with rfl | rfl | rfl | rfl <;> rfl
        clear hgw2 ho2 hx2
        go_wp2_with (at_builtin; (refine wpList_app rfl _ _ 28 rfl w.heap.size 84 i0 (.agg #[.int .u64 0, .int .u64 0, .int .u64 0, .bool false]) 4 32 Tryz.underlying28 hi hz0 hz1 hz2 rfl (by decide) (.slice A n c) n _ rfl ho3 _ _ 1 1 _ rfl hr3 h1c hm1 hm2 hs3 ?_); intro v' w5 hown' hst; obtain ⟨A', c', rfl, _⟩ := own_form hown')
        go_roundw
        case rel =>
          refine ⟨n + 1, c', A', es ++ [⟨ex, ea, eb, em⟩], lf, b2, rfl, Lib_hid (by rw [List.length_append, ← hn.out]; rfl), HI2, by rw [HEC.out]; exact hown', (hst.grow.block g (by omega) (fun e => by have := own_ge ho3 g e.symm; omega)).trans hx3, ?_⟩
          exact ⟨hst.grow.os.trans hgw3.os, hst.grow.tape.trans hgw3.tape, hst.grow.output.trans hgw3.output, Nat.le_trans hgw3.size hst.grow.size, fun k hk hne => (hst.grow.block k (by omega) (fun e => by have := own_ge ho3 k e.symm; omega)).trans (hgw3.block k hk hne)⟩
        case measure =>
          have h5 : w5.heap[g]? = some (WdC lf b2) := (hst.grow.block g (by omega) (fun e => by have := own_ge ho3 g e.symm; omega)).trans hx3
          rw [lenAt_eq h5, HLEN]
          exact hlt
end Go.Proofs.YtiiiklenhmhccaaGreatDoor

namespace Go.Proofs.YtiiiklenhmhccaaGreatDoor
open Go Go.RowKit
set_option linter.unusedVariables false
structure Grow2 (w w' : World) (a b : Nat) : Prop where
  os : w'.os = w.os
  tape : w'.tape = w.tape
  output : w'.output = w.output
  size : w.heap.size ≤ w'.heap.size
  block : ∀ k, k < w.heap.size → k ≠ a → k ≠ b → w'.heap[k]? = w.heap[k]?
theorem Grow2.refl (w : World) (a b : Nat) : Grow2 w w a b := ⟨rfl, rfl, rfl, Nat.le_refl _, fun _ _ _ _ => rfl⟩
theorem Grow2.trans {u v w : World} {a b : Nat} (h : Grow2 u v a b) (k : Grow2 v w a b) : Grow2 u w a b := ⟨k.os.trans h.os, k.tape.trans h.tape, k.output.trans h.output, Nat.le_trans h.size k.size, fun i hi h1 h2 => (k.block i (Nat.lt_of_lt_of_le hi h.size) h1 h2).trans (h.block i hi h1 h2)⟩
theorem Grow2.of {w w' : World} {a b : Nat} (h : w.grownBy w' (some b)) : Grow2 w w' a b := ⟨h.os, h.tape, h.output, h.size, fun k hk _ h2 => h.block k hk (fun e => h2 (by injection e))⟩
theorem Grow2.set (w : World) (a b i : Nat) (v : Value) : Grow2 w (w.setCell ⟨a, i, none⟩ v) a b := ⟨rfl, rfl, rfl, by simp, fun k _ h1 _ => heap_setCell_other w ⟨a, i, none⟩ k _ (fun e => h1 e)⟩
theorem Grow2.below {w w' : World} {a b B : Nat} (h : Grow2 w w' a b) (hB : B ≤ w.heap.size) (h1 : B ≤ a) (h2 : B ≤ b) : Below B w w' := ⟨h.os, h.tape, h.output, h.size, fun k hk => h.block k (Nat.lt_of_lt_of_le hk hB) (by omega) (by omega)⟩
theorem Grow2.ofB {w w' : World} {a b : Nat} (h : Below w.heap.size w w') : Grow2 w w' a b := ⟨h.os, h.tape, h.output, h.size, fun k hk _ _ => h.block k hk⟩
theorem RLies.grow2 {w w' : World} {lo hi a b : Nat} {r : Rv} (h : RLies w lo hi r) (hg : Grow2 w w' a b) (ha : a < lo) (hb : b < lo) (hhi : hi ≤ w.heap.size) : RLies w' lo w'.heap.size r :=
  (h.keep fun p h1 h2 => World.cell?_of_block (hg.block p.block (by omega) (by omega) (by omega))).more (Nat.le_refl _) (Nat.le_trans hhi hg.size)
structure RdS (lo a g : Nat) (r : Rv) (s : List UInt8) (bad : Bool) (w : World) : Prop where
  box : w.heap[a]? = some (.cells r.arr 30 (0, 0))
  wds : w.heap[g]? = some (WdC s bad)
  lies : RLies w lo w.heap.size r
  al : a < lo
  gl : g < lo
  ne : a ≠ g
  hi : lo ≤ w.heap.size
  shp : Shp 27 w lo r.p
  own : w.ownsRow lo 84 4 (.slice r.A r.es.length r.c) r.es.length (enCells r.es)
theorem RdS.rest {lo a g : Nat} {r : Rv} {s : List UInt8} {bad : Bool} {w W : World} (h : RdS lo a g r s bad w) (hG : Grow2 w W a g) : Shp 27 W lo r.p ∧ W.ownsRow lo 84 4 (.slice r.A r.es.length r.c) r.es.length (enCells r.es) := by
  have h1 := h.al
  have h2 := h.gl
  exact ⟨h.shp.keep fun k k1 k2 => hG.block k k2 (by omega) (by omega), own_keep h.own fun k hk => hG.block k (own_lt h.own k hk) (by have := own_ge h.own k hk; omega) (by have := own_ge h.own k hk; omega)⟩
def RdEnd (i lo a g : Nat) (r : Rv) (s : List UInt8) (bad : Bool) (w : World) (e : Ending) (w' : World) : Prop :=
  e = .returned (.tuple #[]) ∧ Grow2 w w' a g ∧ ∃ (r' : Rv) (s' : List UInt8) (bad' : Bool), RdS lo a g r' s' bad' w' ∧ r'.kind = r.kind ∧ s'.length ≤ s.length ∧ (bad = true → bad' = true) ∧
    (bad = false → (r.abs.setP i s = some (r'.abs, s') ∧ bad' = false) ∨ (r.abs.setP i s = none ∧ bad' = true))
theorem leftW_len (l : List UInt8) : (leftW l).length ≤ l.length := by
  have h1 := restW_len l
  unfold leftW
  rw [List.length_drop]
  omega
theorem EnvM.grown {B g : Nat} {w w' : World} (h : EnvM B w) (hg : w.grownBy w' (some g)) (hB : B ≤ g) (hs : B ≤ w.heap.size) : EnvM B w' :=
  h.under (B' := B) ((Below.refl B w).grown hg hs (fun k hk => by injection hk with hk; omega)) (Nat.le_refl _)
set_option maxRecDepth 100000 in
set_option maxHeartbeats 1600000 in
theorem readT_any (B lo a g : Nat) (r : Rv) (s : List UInt8) (bad : Bool) (w : World) (h : RdS lo a g r s bad w) (hE : EnvM B w) (hB : B ≤ g) (hBa : B ≤ a) (hl : s.length ≤ 1000000) :
    Calls Tryz.prog 109 #[.pointer (some ⟨a, 0, none⟩), .pointer (some ⟨g, 0, none⟩)] w (RdEnd 0 lo a g r s bad w) := by
  have hgs := (Array.getElem?_eq_some_iff.1 h.wds).1
  have hws := Nat.le_trans (wordW_len s) (restW_len s)
  have hls := leftW_len s
  have NX := next_any B g s bad w h.wds hE hl
  have NU : Hid (∀ W, w.grownBy W (some g) → W.heap[g]? = some (WdC (leftW s) bad) → Calls Tryz.prog 110 #[.pointer (some ⟨g, 0, none⟩), .string ⟨(wordW s).toArray⟩] W (NumEnd5 (wordW s) (leftW s) bad g W)) := fun W h1 h2 =>
    number5_any B g (wordW s) (leftW s) bad W h2 (hE.grown h1 hB (by omega)) hB (by omega)
  have FIN : Hid (∀ (W : World) (v : Nat) (bad' : Bool), v < 18446744073709551616 → w.grownBy W (some g) → W.heap[g]? = some (WdC (leftW s) bad') → ((numW (wordW s) = some v ∧ bad' = bad) ∨ (numW (wordW s) = none ∧ bad' = true)) →
      RdEnd 0 lo a g r s bad w (.returned (.tuple #[])) (W.setCell ⟨a, 1, none⟩ (.int .u64 (v : Int)))) := fun W v bad' hv h1 h2 h3 => by
    have hG : Grow2 w (W.setCell ⟨a, 1, none⟩ (.int .u64 (v : Int))) a g := (Grow2.of h1).trans (Grow2.set W a g 1 _)
    have hL := h.lies.grow2 hG h.al h.gl (Nat.le_refl _)
    obtain ⟨hSh, hOw⟩ := h.rest hG
    have hbx := (h1.block a (by have := h.al; have := h.hi; omega) (fun e => h.ne (by injection e))).trans h.box
    obtain ⟨k, t, x, wn, nn, vv, p, A, c, es⟩ := r
    refine ⟨rfl, hG, ⟨k, v, x, wn, nn, vv, p, A, c, es⟩, leftW s, bad', ⟨heap_setCell_same W a 1 _ _ _ hbx, (heap_setCell_other W ⟨a, 1, none⟩ g _ (fun e => h.ne e.symm)).trans h2, ⟨hL.kind, by show (v : Int) ≤ _; omega, hL.x, hL.wn, hL.n, hL.v, hL.p, hL.es, hL.cap, hL.ok, hL.lo⟩, h.al, h.gl, h.ne, Nat.le_trans h.hi hG.size, hSh, hOw⟩, rfl, hls, fun hb => ?_, fun hb => ?_⟩
    · rcases h3 with ⟨_, e⟩ | ⟨_, e⟩
      · rw [e]; exact hb
      · exact e
    · rcases h3 with ⟨e1, e⟩ | ⟨e1, e⟩
      · exact .inl ⟨by show (numW (wordW s)).map _ = _; rw [e1]; rfl, by rw [e, hb]⟩
      · exact .inr ⟨by show (numW (wordW s)).map _ = _; rw [e1]; rfl, e⟩
  have CC : Hid (∀ W, w.grownBy W (some g) → ∃ u, W.cell? ⟨a, 1, none⟩ = some u ∧ W.frozen? ⟨a, 1, none⟩ = false) := fun W h1 => by
    have hbx := (h1.block a (by have := h.al; have := h.hi; omega) (fun e => h.ne (by injection e))).trans h.box
    obtain ⟨k, t, x, wn, nn, vv, p, A, c, es⟩ := r
    exact ⟨_, cell_of_row W a 1 _ _ _ hbx, frozen_of_row W a 1 _ _ hbx⟩
  clear h hE
  generalize wordW s = wd at *
  generalize leftW s = lf at *
  go_enter Tryz.func109, Tryz.ntmps109
  go_wp2_with fail
  refine NX.mono ?_
  rintro e w1 ⟨rfl, hx1, hg1⟩
  have NU1 := NU.out w1 hg1 hx1
  clear NU NX
  go_wp2_with fail
  refine NU1.mono ?_
  intro e w2 h2
  obtain ⟨v, bad1, rfl, hv, hg2, hx2, hc2⟩ := h2.get
  have HF := Lib_hid (FIN.out w2 v bad1 hv (hg1.trans hg2) hx2 hc2)
  obtain ⟨u, cu, zu⟩ := CC.out w2 (hg1.trans hg2)
  clear FIN CC h2 hg2 hx2 hc2 NU1 hg1 hx1
  go_wp2
  go_end0
  exact HF.out
set_option maxRecDepth 100000 in
set_option maxHeartbeats 1600000 in
theorem readX_any (B lo a g : Nat) (r : Rv) (s : List UInt8) (bad : Bool) (w : World) (h : RdS lo a g r s bad w) (hE : EnvM B w) (hB : B ≤ g) (hBa : B ≤ a) (hl : s.length ≤ 1000000) :
    Calls Tryz.prog 117 #[.pointer (some ⟨a, 0, none⟩), .pointer (some ⟨g, 0, none⟩)] w (RdEnd 1 lo a g r s bad w) := by
  have hgs := (Array.getElem?_eq_some_iff.1 h.wds).1
  have hws := Nat.le_trans (wordW_len s) (restW_len s)
  have hls := leftW_len s
  have NX := next_any B g s bad w h.wds hE hl
  have NU : Hid (∀ W, w.grownBy W (some g) → W.heap[g]? = some (WdC (leftW s) bad) → Calls Tryz.prog 110 #[.pointer (some ⟨g, 0, none⟩), .string ⟨(wordW s).toArray⟩] W (NumEnd5 (wordW s) (leftW s) bad g W)) := fun W h1 h2 =>
    number5_any B g (wordW s) (leftW s) bad W h2 (hE.grown h1 hB (by omega)) hB (by omega)
  have FIN : Hid (∀ (W : World) (v : Nat) (bad' : Bool), v < 18446744073709551616 → w.grownBy W (some g) → W.heap[g]? = some (WdC (leftW s) bad') → ((numW (wordW s) = some v ∧ bad' = bad) ∨ (numW (wordW s) = none ∧ bad' = true)) →
      RdEnd 1 lo a g r s bad w (.returned (.tuple #[])) (W.setCell ⟨a, 2, none⟩ (.int .u64 (v : Int)))) := fun W v bad' hv h1 h2 h3 => by
    have hG : Grow2 w (W.setCell ⟨a, 2, none⟩ (.int .u64 (v : Int))) a g := (Grow2.of h1).trans (Grow2.set W a g 2 _)
    have hL := h.lies.grow2 hG h.al h.gl (Nat.le_refl _)
    obtain ⟨hSh, hOw⟩ := h.rest hG
    have hbx := (h1.block a (by have := h.al; have := h.hi; omega) (fun e => h.ne (by injection e))).trans h.box
    obtain ⟨k, t, x, wn, nn, vv, p, A, c, es⟩ := r
    refine ⟨rfl, hG, ⟨k, t, v, wn, nn, vv, p, A, c, es⟩, leftW s, bad', ⟨heap_setCell_same W a 2 _ _ _ hbx, (heap_setCell_other W ⟨a, 2, none⟩ g _ (fun e => h.ne e.symm)).trans h2, ⟨hL.kind, hL.t, by show (v : Int) ≤ _; omega, hL.wn, hL.n, hL.v, hL.p, hL.es, hL.cap, hL.ok, hL.lo⟩, h.al, h.gl, h.ne, Nat.le_trans h.hi hG.size, hSh, hOw⟩, rfl, hls, fun hb => ?_, fun hb => ?_⟩
    · rcases h3 with ⟨_, e⟩ | ⟨_, e⟩
      · rw [e]; exact hb
      · exact e
    · rcases h3 with ⟨e1, e⟩ | ⟨e1, e⟩
      · exact .inl ⟨by show (numW (wordW s)).map _ = _; rw [e1]; rfl, by rw [e, hb]⟩
      · exact .inr ⟨by show (numW (wordW s)).map _ = _; rw [e1]; rfl, e⟩
  have CC : Hid (∀ W, w.grownBy W (some g) → ∃ u, W.cell? ⟨a, 2, none⟩ = some u ∧ W.frozen? ⟨a, 2, none⟩ = false) := fun W h1 => by
    have hbx := (h1.block a (by have := h.al; have := h.hi; omega) (fun e => h.ne (by injection e))).trans h.box
    obtain ⟨k, t, x, wn, nn, vv, p, A, c, es⟩ := r
    exact ⟨_, cell_of_row W a 2 _ _ _ hbx, frozen_of_row W a 2 _ _ hbx⟩
  clear h hE
  generalize wordW s = wd at *
  generalize leftW s = lf at *
  go_enter Tryz.func117, Tryz.ntmps117
  go_wp2_with fail
  refine NX.mono ?_
  rintro e w1 ⟨rfl, hx1, hg1⟩
  have NU1 := NU.out w1 hg1 hx1
  clear NU NX
  go_wp2_with fail
  refine NU1.mono ?_
  intro e w2 h2
  obtain ⟨v, bad1, rfl, hv, hg2, hx2, hc2⟩ := h2.get
  have HF := Lib_hid (FIN.out w2 v bad1 hv (hg1.trans hg2) hx2 hc2)
  obtain ⟨u, cu, zu⟩ := CC.out w2 (hg1.trans hg2)
  clear FIN CC h2 hg2 hx2 hc2 NU1 hg1 hx1
  go_wp2
  go_end0
  exact HF.out
set_option maxRecDepth 100000 in
set_option maxHeartbeats 1600000 in
theorem readValue_any (B lo a g : Nat) (r : Rv) (s : List UInt8) (bad : Bool) (w : World) (h : RdS lo a g r s bad w) (hE : EnvM B w) (hB : B ≤ g) (hBa : B ≤ a) (hl : s.length ≤ 1000000) :
    Calls Tryz.prog 131 #[.pointer (some ⟨a, 0, none⟩), .pointer (some ⟨g, 0, none⟩)] w (RdEnd 3 lo a g r s bad w) := by
  have hgs := (Array.getElem?_eq_some_iff.1 h.wds).1
  have hws := Nat.le_trans (wordW_len s) (restW_len s)
  have hls := leftW_len s
  have NX := next_any B g s bad w h.wds hE hl
  have NU : Hid (∀ W, w.grownBy W (some g) → W.heap[g]? = some (WdC (leftW s) bad) → Calls Tryz.prog 110 #[.pointer (some ⟨g, 0, none⟩), .string ⟨(wordW s).toArray⟩] W (NumEnd5 (wordW s) (leftW s) bad g W)) := fun W h1 h2 =>
    number5_any B g (wordW s) (leftW s) bad W h2 (hE.grown h1 hB (by omega)) hB (by omega)
  have FIN : Hid (∀ (W : World) (v : Nat) (bad' : Bool), v < 18446744073709551616 → w.grownBy W (some g) → W.heap[g]? = some (WdC (leftW s) bad') → ((numW (wordW s) = some v ∧ bad' = bad) ∨ (numW (wordW s) = none ∧ bad' = true)) →
      RdEnd 3 lo a g r s bad w (.returned (.tuple #[])) (W.setCell ⟨a, 5, none⟩ (.int .u64 (v : Int)))) := fun W v bad' hv h1 h2 h3 => by
    have hG : Grow2 w (W.setCell ⟨a, 5, none⟩ (.int .u64 (v : Int))) a g := (Grow2.of h1).trans (Grow2.set W a g 5 _)
    have hL := h.lies.grow2 hG h.al h.gl (Nat.le_refl _)
    obtain ⟨hSh, hOw⟩ := h.rest hG
    have hbx := (h1.block a (by have := h.al; have := h.hi; omega) (fun e => h.ne (by injection e))).trans h.box
    obtain ⟨k, t, x, wn, nn, vv, p, A, c, es⟩ := r
    refine ⟨rfl, hG, ⟨k, t, x, wn, nn, v, p, A, c, es⟩, leftW s, bad', ⟨heap_setCell_same W a 5 _ _ _ hbx, (heap_setCell_other W ⟨a, 5, none⟩ g _ (fun e => h.ne e.symm)).trans h2, ⟨hL.kind, hL.t, hL.x, hL.wn, hL.n, by show (v : Int) ≤ _; omega, hL.p, hL.es, hL.cap, hL.ok, hL.lo⟩, h.al, h.gl, h.ne, Nat.le_trans h.hi hG.size, hSh, hOw⟩, rfl, hls, fun hb => ?_, fun hb => ?_⟩
    · rcases h3 with ⟨_, e⟩ | ⟨_, e⟩
      · rw [e]; exact hb
      · exact e
    · rcases h3 with ⟨e1, e⟩ | ⟨e1, e⟩
      · exact .inl ⟨by show (numW (wordW s)).map _ = _; rw [e1]; rfl, by rw [e, hb]⟩
      · exact .inr ⟨by show (numW (wordW s)).map _ = _; rw [e1]; rfl, e⟩
  have CC : Hid (∀ W, w.grownBy W (some g) → ∃ u, W.cell? ⟨a, 5, none⟩ = some u ∧ W.frozen? ⟨a, 5, none⟩ = false) := fun W h1 => by
    have hbx := (h1.block a (by have := h.al; have := h.hi; omega) (fun e => h.ne (by injection e))).trans h.box
    obtain ⟨k, t, x, wn, nn, vv, p, A, c, es⟩ := r
    exact ⟨_, cell_of_row W a 5 _ _ _ hbx, frozen_of_row W a 5 _ _ hbx⟩
  clear h hE
  generalize wordW s = wd at *
  generalize leftW s = lf at *
  go_enter Tryz.func131, Tryz.ntmps131
  go_wp2_with fail
  refine NX.mono ?_
  rintro e w1 ⟨rfl, hx1, hg1⟩
  have NU1 := NU.out w1 hg1 hx1
  clear NU NX
  go_wp2_with fail
  refine NU1.mono ?_
  intro e w2 h2
  obtain ⟨v, bad1, rfl, hv, hg2, hx2, hc2⟩ := h2.get
  have HF := Lib_hid (FIN.out w2 v bad1 hv (hg1.trans hg2) hx2 hc2)
  obtain ⟨u, cu, zu⟩ := CC.out w2 (hg1.trans hg2)
  clear FIN CC h2 hg2 hx2 hc2 NU1 hg1 hx1
  go_wp2
  go_end0
  exact HF.out
set_option maxRecDepth 100000 in
set_option maxHeartbeats 1600000 in
theorem readV_any (B lo a g : Nat) (r : Rv) (s : List UInt8) (bad : Bool) (w : World) (h : RdS lo a g r s bad w) (hE : EnvM B w) (hB : B ≤ g) (hBa : B ≤ a) (hl : s.length ≤ 1000000) :
    Calls Tryz.prog 124 #[.pointer (some ⟨a, 0, none⟩), .pointer (some ⟨g, 0, none⟩)] w (RdEnd 2 lo a g r s bad w) := by
  have hgs := (Array.getElem?_eq_some_iff.1 h.wds).1
  have hws := Nat.le_trans (wordW_len s) (restW_len s)
  have hls := leftW_len s
  have NX := next_any B g s bad w h.wds hE hl
  have NU : Hid (∀ W, w.grownBy W (some g) → W.heap[g]? = some (WdC (leftW s) bad) → Calls Tryz.prog 125 #[.pointer (some ⟨g, 0, none⟩), .string ⟨(wordW s).toArray⟩] W (VerEnd5 (wordW s) (leftW s) bad g W)) := fun W h1 h2 =>
    version5_any B g (wordW s) (leftW s) bad W h2 (hE.grown h1 hB (by omega)) hB (by omega)
  have FIN : Hid (∀ (W : World) (v v2 : Nat), v < 18446744073709551616 → v2 < 18446744073709551616 → w.grownBy W (some g) → ((verW (wordW s) = some (v, v2) ∧ W.heap[g]? = some (WdC (leftW s) bad)) ∨ (verW (wordW s) = none ∧ W.heap[g]? = some (WdC (leftW s) true))) →
      RdEnd 2 lo a g r s bad w (.returned (.tuple #[])) ((W.setCell ⟨a, 3, none⟩ (.int .u64 (v : Int))).setCell ⟨a, 4, none⟩ (.int .u64 (v2 : Int)))) := fun W v v2 hv hv2 h1 h3 => by
    have hG : Grow2 w ((W.setCell ⟨a, 3, none⟩ (.int .u64 (v : Int))).setCell ⟨a, 4, none⟩ (.int .u64 (v2 : Int))) a g := ((Grow2.of h1).trans (Grow2.set W a g 3 _)).trans (Grow2.set _ a g 4 _)
    have hL := h.lies.grow2 hG h.al h.gl (Nat.le_refl _)
    obtain ⟨hSh, hOw⟩ := h.rest hG
    have hbx := (h1.block a (by have := h.al; have := h.hi; omega) (fun e => h.ne (by injection e))).trans h.box
    obtain ⟨k, t, x, wn, nn, vv, p, A, c, es⟩ := r
    have hoth : ((W.setCell ⟨a, 3, none⟩ (.int .u64 (v : Int))).setCell ⟨a, 4, none⟩ (.int .u64 (v2 : Int))).heap[g]? = W.heap[g]? := (heap_setCell_other _ ⟨a, 4, none⟩ g _ (fun e => h.ne e.symm)).trans (heap_setCell_other W ⟨a, 3, none⟩ g _ (fun e => h.ne e.symm))
    have key : ∀ bad', W.heap[g]? = some (WdC (leftW s) bad') → (bad = true → bad' = true) → (bad = false → ((Rv.abs ⟨k, t, x, wn, nn, vv, p, A, c, es⟩).setP 2 s = some (Rv.abs ⟨k, t, x, v, v2, vv, p, A, c, es⟩, leftW s) ∧ bad' = false) ∨ ((Rv.abs ⟨k, t, x, wn, nn, vv, p, A, c, es⟩).setP 2 s = none ∧ bad' = true)) →
        RdEnd 2 lo a g ⟨k, t, x, wn, nn, vv, p, A, c, es⟩ s bad w (.returned (.tuple #[])) ((W.setCell ⟨a, 3, none⟩ (.int .u64 (v : Int))).setCell ⟨a, 4, none⟩ (.int .u64 (v2 : Int))) := fun bad' h2 h4 h5 =>
      ⟨rfl, hG, ⟨k, t, x, v, v2, vv, p, A, c, es⟩, leftW s, bad', ⟨heap_setCell_same _ a 4 _ _ _ (heap_setCell_same W a 3 _ _ _ hbx), hoth.trans h2, ⟨hL.kind, hL.t, hL.x, by show (v : Int) ≤ _; omega, by show (v2 : Int) ≤ _; omega, hL.v, hL.p, hL.es, hL.cap, hL.ok, hL.lo⟩, h.al, h.gl, h.ne, Nat.le_trans h.hi hG.size, hSh, hOw⟩, rfl, hls, h4, h5⟩
    rcases h3 with ⟨e1, e2⟩ | ⟨e1, e2⟩
    · exact key bad e2 (fun hb => hb) fun hb => .inl ⟨by show (verW (wordW s)).map _ = _; rw [e1]; rfl, hb⟩
    · exact key true e2 (fun hb => rfl) fun hb => .inr ⟨by show (verW (wordW s)).map _ = _; rw [e1]; rfl, rfl⟩
  have CC : Hid (∀ W, w.grownBy W (some g) → ∃ u u2, W.cell? ⟨a, 3, none⟩ = some u ∧ W.frozen? ⟨a, 3, none⟩ = false ∧ W.cell? ⟨a, 4, none⟩ = some u2 ∧ W.frozen? ⟨a, 4, none⟩ = false) := fun W h1 => by
    have hbx := (h1.block a (by have := h.al; have := h.hi; omega) (fun e => h.ne (by injection e))).trans h.box
    obtain ⟨k, t, x, wn, nn, vv, p, A, c, es⟩ := r
    exact ⟨_, _, cell_of_row W a 3 _ _ _ hbx, frozen_of_row W a 3 _ _ hbx, cell_of_row W a 4 _ _ _ hbx, frozen_of_row W a 4 _ _ hbx⟩
  clear h hE
  generalize wordW s = wd at *
  generalize leftW s = lf at *
  go_enter Tryz.func124, Tryz.ntmps124
  go_wp2_with fail
  refine NX.mono ?_
  rintro e w1 ⟨rfl, hx1, hg1⟩
  have NU1 := NU.out w1 hg1 hx1
  clear NU NX
  go_wp2_with fail
  refine NU1.mono ?_
  rintro e w2 ⟨hg2, v, v2, rfl, hv, hv2, hc2⟩
  have HF := Lib_hid (FIN.out w2 v v2 hv hv2 (hg1.trans hg2) hc2)
  obtain ⟨u, u2, cu, zu, cu2, zu2⟩ := CC.out w2 (hg1.trans hg2)
  clear FIN CC hg2 hc2 NU1 hg1 hx1
  go_wp2
  go_end0
  exact HF.out
set_option maxRecDepth 100000 in
set_option maxHeartbeats 1600000 in
theorem readP_any (B lo a g : Nat) (r : Rv) (s : List UInt8) (bad : Bool) (w : World) (h : RdS lo a g r s bad w) (hE : EnvM B w) (hB : B ≤ g) (hBa : B ≤ a) (hl : s.length ≤ 1000000) :
    Calls Tryz.prog 141 #[.pointer (some ⟨a, 0, none⟩), .pointer (some ⟨g, 0, none⟩)] w (RdEnd 4 lo a g r s bad w) := by
  have hgs := (Array.getElem?_eq_some_iff.1 h.wds).1
  have hws := Nat.le_trans (wordW_len s) (restW_len s)
  have hls := leftW_len s
  have NX := next_any B g s bad w h.wds hE hl
  have NU : Hid (∀ W, w.grownBy W (some g) → W.heap[g]? = some (WdC (leftW s) bad) → Calls Tryz.prog 142 #[.pointer (some ⟨g, 0, none⟩), .string ⟨(wordW s).toArray⟩] W (PrdEnd5 (wordW s) (leftW s) bad g W)) := fun W h1 h2 =>
    predicate5_any B g (wordW s) (leftW s) bad W h2 (hE.grown h1 hB (by omega)) hB (by omega)
  have FIN : Hid (∀ (W : World) (u : V), Lies W w.heap.size W.heap.size u → Shp 27 W w.heap.size u → w.grownBy W (some g) → ((readT (wordW s) = some u.abs ∧ W.heap[g]? = some (WdC (leftW s) bad)) ∨ (readT (wordW s) = none ∧ W.heap[g]? = some (WdC (leftW s) true))) →
      RdEnd 4 lo a g r s bad w (.returned (.tuple #[])) ((((W.setCell ⟨a, 6, none⟩ (.int .i64 u.kind)).setCell ⟨a, 7, none⟩ (.int .u64 (u.a : Int))).setCell ⟨a, 8, none⟩ (.int .u64 (u.b : Int))).setCell ⟨a, 9, none⟩ u.sl)) := fun W u hu hus h1 h3 => by
    have hG0 : Grow2 W ((((W.setCell ⟨a, 6, none⟩ (.int .i64 u.kind)).setCell ⟨a, 7, none⟩ (.int .u64 (u.a : Int))).setCell ⟨a, 8, none⟩ (.int .u64 (u.b : Int))).setCell ⟨a, 9, none⟩ u.sl) a g := (((Grow2.set W a g 6 _).trans (Grow2.set _ a g 7 _)).trans (Grow2.set _ a g 8 _)).trans (Grow2.set _ a g 9 _)
    have hG : Grow2 w ((((W.setCell ⟨a, 6, none⟩ (.int .i64 u.kind)).setCell ⟨a, 7, none⟩ (.int .u64 (u.a : Int))).setCell ⟨a, 8, none⟩ (.int .u64 (u.b : Int))).setCell ⟨a, 9, none⟩ u.sl) a g := (Grow2.of h1).trans hG0
    have hL := h.lies.grow2 hG h.al h.gl (Nat.le_refl _)
    obtain ⟨hSh, hOw⟩ := h.rest hG
    have hal := h.al
    have hgl := h.gl
    have hhi := h.hi
    have hLu : Lies ((((W.setCell ⟨a, 6, none⟩ (.int .i64 u.kind)).setCell ⟨a, 7, none⟩ (.int .u64 (u.a : Int))).setCell ⟨a, 8, none⟩ (.int .u64 (u.b : Int))).setCell ⟨a, 9, none⟩ u.sl) lo ((((W.setCell ⟨a, 6, none⟩ (.int .i64 u.kind)).setCell ⟨a, 7, none⟩ (.int .u64 (u.a : Int))).setCell ⟨a, 8, none⟩ (.int .u64 (u.b : Int))).setCell ⟨a, 9, none⟩ u.sl).heap.size u :=
      (hu.keep fun p h1 h2 => World.cell?_of_block (hG0.block p.block h2 (by omega) (by omega))).more hhi hG0.size
    have hSu := (hus.keep fun k k1 k2 => hG0.block k k2 (by omega) (by omega)).more hhi
    have hbx := (h1.block a (by have := h.al; have := h.hi; omega) (fun e => h.ne (by injection e))).trans h.box
    have hoth : ((((W.setCell ⟨a, 6, none⟩ (.int .i64 u.kind)).setCell ⟨a, 7, none⟩ (.int .u64 (u.a : Int))).setCell ⟨a, 8, none⟩ (.int .u64 (u.b : Int))).setCell ⟨a, 9, none⟩ u.sl).heap[g]? = W.heap[g]? := (heap_setCell_other _ ⟨a, 9, none⟩ g _ (fun e => h.ne e.symm)).trans ((heap_setCell_other _ ⟨a, 8, none⟩ g _ (fun e => h.ne e.symm)).trans ((heap_setCell_other _ ⟨a, 7, none⟩ g _ (fun e => h.ne e.symm)).trans (heap_setCell_other W ⟨a, 6, none⟩ g _ (fun e => h.ne e.symm))))
    obtain ⟨k, t, x, wn, nn, vv, p, A, c, es⟩ := r
    have key : ∀ bad', W.heap[g]? = some (WdC (leftW s) bad') → (bad = true → bad' = true) → (bad = false → ((Rv.abs ⟨k, t, x, wn, nn, vv, p, A, c, es⟩).setP 4 s = some (Rv.abs ⟨k, t, x, wn, nn, vv, u, A, c, es⟩, leftW s) ∧ bad' = false) ∨ ((Rv.abs ⟨k, t, x, wn, nn, vv, p, A, c, es⟩).setP 4 s = none ∧ bad' = true)) →
        RdEnd 4 lo a g ⟨k, t, x, wn, nn, vv, p, A, c, es⟩ s bad w (.returned (.tuple #[])) ((((W.setCell ⟨a, 6, none⟩ (.int .i64 u.kind)).setCell ⟨a, 7, none⟩ (.int .u64 (u.a : Int))).setCell ⟨a, 8, none⟩ (.int .u64 (u.b : Int))).setCell ⟨a, 9, none⟩ u.sl) := fun bad' h2 h4 h5 =>
      ⟨rfl, hG, ⟨k, t, x, wn, nn, vv, u, A, c, es⟩, leftW s, bad', ⟨heap_setCell_same _ a 9 _ _ _ (heap_setCell_same _ a 8 _ _ _ (heap_setCell_same _ a 7 _ _ _ (heap_setCell_same W a 6 _ _ _ hbx))), hoth.trans h2, ⟨hL.kind, hL.t, hL.x, hL.wn, hL.n, hL.v, hLu, hL.es, hL.cap, hL.ok, hL.lo⟩, h.al, h.gl, h.ne, Nat.le_trans h.hi hG.size, hSu, hOw⟩, rfl, hls, h4, h5⟩
    rcases h3 with ⟨e1, e2⟩ | ⟨e1, e2⟩
    · exact key bad e2 (fun hb => hb) fun hb => .inl ⟨by show (readT (wordW s)).map _ = _; rw [e1]; rfl, hb⟩
    · exact key true e2 (fun hb => rfl) fun hb => .inr ⟨by show (readT (wordW s)).map _ = _; rw [e1]; rfl, rfl⟩
  have CC : Hid (∀ W, w.grownBy W (some g) → ∃ u u2 u3 u4, (W.cell? ⟨a, 6, none⟩ = some u ∧ W.frozen? ⟨a, 6, none⟩ = false ∧ W.cell? ⟨a, 7, none⟩ = some u2 ∧ W.frozen? ⟨a, 7, none⟩ = false) ∧ (W.cell? ⟨a, 8, none⟩ = some u3 ∧ W.frozen? ⟨a, 8, none⟩ = false ∧ W.cell? ⟨a, 9, none⟩ = some u4 ∧ W.frozen? ⟨a, 9, none⟩ = false)) := fun W h1 => by
    have hbx := (h1.block a (by have := h.al; have := h.hi; omega) (fun e => h.ne (by injection e))).trans h.box
    obtain ⟨k, t, x, wn, nn, vv, p, A, c, es⟩ := r
    exact ⟨_, _, _, _, ⟨cell_of_row W a 6 _ _ _ hbx, frozen_of_row W a 6 _ _ hbx, cell_of_row W a 7 _ _ _ hbx, frozen_of_row W a 7 _ _ hbx⟩, ⟨cell_of_row W a 8 _ _ _ hbx, frozen_of_row W a 8 _ _ hbx, cell_of_row W a 9 _ _ _ hbx, frozen_of_row W a 9 _ _ hbx⟩⟩
  clear h hE
  generalize wordW s = wd at *
  generalize leftW s = lf at *
  go_enter Tryz.func141, Tryz.ntmps141
  go_wp2_with fail
  refine NX.mono ?_
  rintro e w1 ⟨rfl, hx1, hg1⟩
  have NU1 := NU.out w1 hg1 hx1
  clear NU NX
  go_wp2_with fail
  refine NU1.mono ?_
  rintro e w2 ⟨hg2, u, rfl, hu, hus, hc2⟩
  have hs1 := hg1.size
  have HF := Lib_hid (FIN.out w2 u (hu.more hs1 (Nat.le_refl _)) (hus.more hs1) (hg1.trans hg2) hc2)
  obtain ⟨u1, u2, u3, u4, ⟨cu, zu, cu2, zu2⟩, ⟨cu3, zu3, cu4, zu4⟩⟩ := CC.out w2 (hg1.trans hg2)
  clear FIN CC hg2 hc2 NU1 hg1 hx1 hu hus
  simp only [V.val, V.sl] at HF ⊢
  generalize u.addr = uA at *
  generalize u.parts.length = un at *
  generalize u.cap = uc at *
  generalize u.kind = uk at *
  generalize (u.a : Int) = ua at *
  generalize (u.b : Int) = ub at *
  go_wp2
  go_end0
  exact HF.out
set_option maxRecDepth 100000 in
set_option maxHeartbeats 1600000 in
theorem readEntries_any (B lo a g : Nat) (r : Rv) (s : List UInt8) (bad : Bool) (w : World) (h : RdS lo a g r s bad w) (hE : EnvM B w) (hB : B ≤ g) (hBa : B ≤ a) (hl : s.length ≤ 1000000) :
    Calls Tryz.prog 151 #[.pointer (some ⟨a, 0, none⟩), .pointer (some ⟨g, 0, none⟩)] w (RdEnd 5 lo a g r s bad w) := by
  have hgs := (Array.getElem?_eq_some_iff.1 h.wds).1
  have NU := entries5_any B g s bad w h.wds hE hB hl
  have FIN : Hid (∀ (W : World) (A' : Option Addr) (n' c' : Nat) (es' : List En) (s' : List UInt8) (bad' : Bool), n' = es'.length → w.grownBy W (some g) → (∀ x ∈ es', x.ok) → W.ownsRow w.heap.size 84 4 (.slice A' n' c') n' (enCells es') → W.heap[g]? = some (WdC s' bad') → n' + s'.length ≤ s.length → (bad = true → bad' = true) →
      (bad = false → (ensW s.length s = some es' ∧ s' = [] ∧ bad' = false) ∨ (ensW s.length s = none ∧ bad' = true)) → RdEnd 5 lo a g r s bad w (.returned (.tuple #[])) (W.setCell ⟨a, 10, none⟩ (.slice A' n' c'))) := fun W A' n' c' es' s' bad' hn h1 hok hown h2 hle hb1 hb2 => by
    subst hn
    have hG0 : Grow2 W (W.setCell ⟨a, 10, none⟩ (.slice A' es'.length c')) a g := Grow2.set W a g 10 _
    have hG : Grow2 w (W.setCell ⟨a, 10, none⟩ (.slice A' es'.length c')) a g := (Grow2.of h1).trans hG0
    have hL := h.lies.grow2 hG h.al h.gl (Nat.le_refl _)
    obtain ⟨hSh, hOw⟩ := h.rest hG
    have hal := h.al
    have hgl := h.gl
    have hhi := h.hi
    have hbx := (h1.block a (by have := h.al; have := h.hi; omega) (fun e => h.ne (by injection e))).trans h.box
    have hOn := own_base (b' := lo) (own_keep hown (w' := W.setCell ⟨a, 10, none⟩ (.slice A' es'.length c')) fun k hk => heap_setCell_other W ⟨a, 10, none⟩ k _ (fun e => by have := own_ge hown k hk; have e : k = a := e; omega)) (fun k hk => by have := own_ge hown k hk; omega)
    have hrd : Rd (W.setCell ⟨a, 10, none⟩ (.slice A' es'.length c')) (W.setCell ⟨a, 10, none⟩ (.slice A' es'.length c')).heap.size 4 A' es'.length (enCells es') := Rd.own (own_keep hown (w' := W.setCell ⟨a, 10, none⟩ (.slice A' es'.length c')) fun k hk => heap_setCell_other W ⟨a, 10, none⟩ k _ (fun e => by have := own_ge hown k hk; have e : k = a := e; omega))
    have hlo : ∀ ad, A' = some ad → 0 < es'.length → lo ≤ ad.block := fun ad e hn => by
      obtain ⟨gg, cap, hv, hgg, hlt⟩ := hown.form hn
      have hA : A' = some ⟨gg, 0, none⟩ := by injection hv
      rw [hA] at e
      injection e with e
      subst e
      have := own_ge hown gg (by rw [hA]; rfl)
      show lo ≤ gg
      omega
    obtain ⟨k, t, x, wn, nn, vv, p, A, c, es⟩ := r
    refine ⟨rfl, hG, ⟨k, t, x, wn, nn, vv, p, A', c', es'⟩, s', bad', ⟨heap_setCell_same W a 10 _ _ _ hbx, (heap_setCell_other W ⟨a, 10, none⟩ g _ (fun e => h.ne e.symm)).trans h2, ⟨hL.kind, hL.t, hL.x, hL.wn, hL.n, hL.v, hL.p, hrd, own_cap hown, hok, hlo⟩, h.al, h.gl, h.ne, Nat.le_trans h.hi hG.size, hSh, hOn⟩, rfl, by omega, hb1, fun hb => ?_⟩
    rcases hb2 hb with ⟨e1, e2, e3⟩ | ⟨e1, e2⟩
    · exact .inl ⟨by show (ensW s.length s).map _ = _; rw [e1, e2]; rfl, e3⟩
    · exact .inr ⟨by show (ensW s.length s).map _ = _; rw [e1]; rfl, e2⟩
  have CC : Hid (∀ W, w.grownBy W (some g) → ∃ u, W.cell? ⟨a, 10, none⟩ = some u ∧ W.frozen? ⟨a, 10, none⟩ = false) := fun W h1 => by
    have hbx := (h1.block a (by have := h.al; have := h.hi; omega) (fun e => h.ne (by injection e))).trans h.box
    obtain ⟨k, t, x, wn, nn, vv, p, A, c, es⟩ := r
    exact ⟨_, cell_of_row W a 10 _ _ _ hbx, frozen_of_row W a 10 _ _ hbx⟩
  clear h hE
  go_enter Tryz.func151, Tryz.ntmps151
  go_wp2_with fail
  refine NU.mono ?_
  rintro e w2 ⟨hg2, A', c', es', s', bad', rfl, hok, hown, hx2, hle, hb1, hb2⟩
  have HF := Lib_hid (FIN.out w2 A' _ c' es' s' bad' rfl hg2 hok hown hx2 hle hb1 hb2)
  obtain ⟨u, cu, zu⟩ := CC.out w2 hg2
  clear FIN CC hg2 hx2 hb2 NU hok hown
  generalize es'.length = n' at *
  go_wp2
  go_end0
  exact HF.out
theorem read6_any (i : Nat) (hi6 : i < 6) (B lo a g : Nat) (r : Rv) (s : List UInt8) (bad : Bool) (w : World) (h : RdS lo a g r s bad w) (hE : EnvM B w) (hB : B ≤ g) (hBa : B ≤ a) (hl : s.length ≤ 1000000) :
    Calls Tryz.prog (mreadF i) #[.pointer (some ⟨a, 0, none⟩), .pointer (some ⟨g, 0, none⟩)] w (RdEnd i lo a g r s bad w) := by
  have : i = 0 ∨ i = 1 ∨ i = 2 ∨ i = 3 ∨ i = 4 ∨ i = 5 := by omega
  rcases this with rfl | rfl | rfl | rfl | rfl | rfl
  · exact readT_any B lo a g r s bad w h hE hB hBa hl
  · exact readX_any B lo a g r s bad w h hE hB hBa hl
  · exact readV_any B lo a g r s bad w h hE hB hBa hl
  · exact readValue_any B lo a g r s bad w h hE hB hBa hl
  · exact readP_any B lo a g r s bad w h hE hB hBa hl
  · exact readEntries_any B lo a g r s bad w h hE hB hBa hl
set_option maxRecDepth 100000 in
theorem call_read {i : Nat} (hi6 : i < 6) : ∀ (args : Array Value) (wx : World), (callFunc (mreadF i) args).run Tryz.prog wx = .ok (.enter (mreadF i) args) wx := by
  have : i = 0 ∨ i = 1 ∨ i = 2 ∨ i = 3 ∨ i = 4 ∨ i = 5 := by omega
  rcases this with rfl | rfl | rfl | rfl | rfl | rfl <;> exact fun args wx => by kernel_rfl
end Go.Proofs.YtiiiklenhmhccaaGreatDoor
