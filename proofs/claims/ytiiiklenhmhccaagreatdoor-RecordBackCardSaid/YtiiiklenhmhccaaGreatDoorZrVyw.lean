/-
  Layer 5: the program's payload: entries.
  Layer 5: the six functions that take a part of a payload. (Out of gen_vyw.py.)
-/
import Derived.Test.YtiiiklenhmhccaaGreatDoorZrSup
import Derived.Test.YtiiiklenhmhccaaGreatDoorZrVyu
import Derived.Test.YtiiiklenhmhccaaGreatDoorZpVcm

namespace Go.Proofs.YtiiiklenhmhccaaGreatDoor
open Go Go.RowKit
set_option linter.unusedVariables false
theorem ent_took {l : List Nat} {a a1 a2 a3 e e1 e2 e3 : Nat} {bad bad3 : Bool} {x y z : Nat} {m : Bool} (h1 : Took (numT l a) e bad x a1 e1 bad) (h2 : Took (verT l a1) e1 bad (y, z) a2 e2 bad) (h3 : Took (matT l a2) e2 bad m a3 e3 bad3) :
    Took (entT l a) e bad ⟨x, y, z, m⟩ a3 e3 bad3 := by
  have he : entT l a = (numT l a).bind fun x => (verT l x.2).bind fun v => (matT l v.2).map fun m => (⟨x.1, v.1.1, v.1.2, m.1⟩, m.2) := by
    rw [entT_eq]
    congr 1; funext x
    unfold verT
    cases numT l x.2 with
    | none => rfl
    | some y =>
      simp only [Option.bind_some]
      cases numT l y.2 with
      | none => rfl
      | some z => rfl
  rw [he]
  exact h1.bind (h2.bind (f := fun v : (Nat × Nat) × Nat => (matT l v.2).map fun m => ((⟨x, v.1.1, v.1.2, m.1⟩ : En), m.2)) (Took.map (fun m => (⟨x, y, z, m⟩ : En)) (fun _ _ => rfl) h3))
structure EI (l : List Nat) (N a0 e0 : Nat) (bad0 : Bool) (es : List En) (m a e : Nat) (bad : Bool) : Prop where
  ok : ∀ x ∈ es, x.ok
  len : 4 * es.length ≤ l.length + 4
  le : a ≤ l.length
  bd : ¬ GoodB e0 bad0 → ¬ GoodB e bad
  rd : GoodB e0 bad0 → (GoodB e bad ∧ a0 + 4 * es.length ≤ a ∧ entsT l N a0 = (entsT l m a).map fun x => (es ++ x.1, x.2)) ∨ (¬ GoodB e bad ∧ entsT l N a0 = none)
section
variable {l : List Nat} {N a0 e0 m a e : Nat} {bad0 bad : Bool} {es : List En}
theorem EI.zero (ha : a0 ≤ l.length) : EI l N a0 e0 bad0 [] N a0 e0 bad0 := ⟨by simp, by simp, ha, fun h => h, fun h => .inl ⟨h, by simp, by simp⟩⟩
theorem EI.step (h : EI l N a0 e0 bad0 es (m + 1) a e bad) (hb : ∀ x ∈ l, x < 256) (hg : GoodB e bad) {x : En} {a' e' : Nat} {bad' : Bool} (hx : x.ok) (ha : a' ≤ l.length) (ht : Took (entT l a) e bad x a' e' bad') : EI l N a0 e0 bad0 (es ++ [x]) m a' e' bad' := by
  have hg0 : GoodB e0 bad0 := Classical.byContradiction fun hn => h.bd hn hg
  rcases h.rd hg0 with ⟨_, h2, h3⟩ | ⟨h2, _⟩
  · have hle := h.le
    refine ⟨fun y hy => ?_, by simp; omega, ha, fun hn => absurd hg0 hn, fun _ => ?_⟩
    · rcases List.mem_append.1 hy with hy | hy
      · exact h.ok y hy
      · obtain rfl : y = x := by simpa using hy
        exact hx
    · have hu : entsT l (m + 1) a = (entT l a).bind fun x => (entsT l m x.2).map fun y => (x.1 :: y.1, y.2) := rfl
      rcases ht.2 hg with ⟨k1, k2⟩ | ⟨k1, k2⟩
      · obtain ⟨-, -, -, k3⟩ := entT_some hb k1
        refine .inl ⟨k2, by simp; omega, ?_⟩
        rw [h3, hu, k1, Option.bind_some]
        cases entsT l m a' with
        | none => rfl
        | some y => simp
      · refine .inr ⟨k2, ?_⟩
        rw [h3, hu, k1]
        rfl
  · exact absurd hg h2
theorem EI.fin (h : EI l N a0 e0 bad0 es m a e bad) (hs : m = 0 ∨ ¬ GoodB e bad) : Took (entsT l N a0) e0 bad0 es a e bad := by
  refine ⟨h.bd, fun hg => ?_⟩
  rcases h.rd hg with ⟨h1, _, h3⟩ | ⟨h1, h2⟩
  · rcases hs with rfl | hs
    · refine .inl ⟨?_, h1⟩
      rw [h3]
      show some (es ++ [], a) = _
      simp
    · exact absurd h1 hs
  · exact .inr ⟨h2, h1⟩
end
section
variable {g h n c a e : Nat} {A : Option Addr} {l : List Nat} {bad : Bool} {w : World}
theorem PlS.kept' {w' : World} {B : Nat} {v v' : Value} (p : PlS g h A n c l a e bad w) (hst : Stp w w' v v') (hge : ∀ k, v.ownBlock = some k → B ≤ k) (hB : g < B) : PlS g h A n c l a e bad w' :=
  ⟨(hst.grow.block g p.gl (fun e => by have := hge g e.symm; omega)).trans p.box, p.rd.kept' hst (fun k hk => by have := hge k hk; have := p.lt; omega), p.lt⟩
set_option maxRecDepth 100000 in
set_option maxHeartbeats 3200000 in
theorem pents_any (p : PlS g h A n c l a e bad w) : Calls Tryz.prog 148 #[.pointer (some ⟨g, 0, none⟩)] w fun en w' =>
    ∃ (A' : Option Addr) (c' : Nat) (es : List En) (a' e' : Nat) (bad' : Bool), en = .returned (.slice A' es.length c') ∧ (∀ x ∈ es, x.ok) ∧ 4 * es.length ≤ l.length + 4 ∧ w'.ownsRow w.heap.size 84 4 (.slice A' es.length c') es.length (enCells es) ∧
      PlS g h A n c l a' e' bad' w' ∧ Grow2 w w' g h ∧ Took ((numT l a).bind fun x => entsT l x.1 x.2) e bad es a' e' bad' := by
  have hgl := p.gl
  have hhg := p.lt
  have hll := p.rd.len
  have HB8 := Lib_hid p.rd.b8
  obtain ⟨i0, hi, hz0, hz1, hz2⟩ := info_parts Tryz.infoEn
  have PN := pnum_any p
  obtain ⟨c0, -, -, -⟩ := p.cells
  go_enter Tryz.func148, Tryz.ntmps148
  go_wp2_with fail
  refine PN.mono ?_
  rintro en w1 ⟨N, a1, e1, rfl, hN, p1, hs1, ht1⟩
  have hG1 := hs1.grow2 g
  have hpl1 := p1.rd.place
  have FIN : Hid (∀ (W : World) (A' : Option Addr) (n' c' : Nat) (es : List En) (m a2 e2 : Nat) (bad2 : Bool), n' = es.length → EI l N a1 e1 bad es m a2 e2 bad2 → (m = 0 ∨ ¬ GoodB e2 bad2) → W.ownsRow w.heap.size 84 4 (.slice A' n' c') n' (enCells es) → PlS g h A n c l a2 e2 bad2 W → Grow2 w W g h →
      ∃ (A2 : Option Addr) (c2 : Nat) (es : List En) (a' e' : Nat) (bad' : Bool), Ending.returned (.slice A' n' c') = .returned (.slice A2 es.length c2) ∧ (∀ x ∈ es, x.ok) ∧ 4 * es.length ≤ l.length + 4 ∧ W.ownsRow w.heap.size 84 4 (.slice A2 es.length c2) es.length (enCells es) ∧
        PlS g h A n c l a' e' bad' W ∧ Grow2 w W g h ∧ Took ((numT l a).bind fun x => entsT l x.1 x.2) e bad es a' e' bad') := fun W A' n' c' es m a2 e2 bad2 h1 h2 h3 h4 h5 h6 => by
    subst h1
    exact ⟨A', c', es, a2, e2, bad2, rfl, h2.ok, h2.len, h4, h5, h6, Took.bind (f := fun x : Nat × Nat => entsT l x.1 x.2) ht1 (h2.fin h3)⟩
  clear ht1 PN hs1 c0 p
  go_wp2
  go_loopw [3, 4] (fun v y wr => ∃ (n' c' m a2 e2 : Nat) (A' : Option Addr) (es : List En) (bad2 : Bool), v = .slice A' n' c' ∧ y = .int .u64 (m : Int) ∧ m < 18446744073709551616 ∧ Hid (n' = es.length) ∧ Hid (EI l N a1 e1 bad es m a2 e2 bad2) ∧ wr.ownsRow w.heap.size 84 4 (.slice A' n' c') n' (enCells es) ∧ Hid (PlS g h A n c l a2 e2 bad2 wr) ∧ Hid (Grow2 w wr g h)) (fun _ y _ => (intOf y).toNat)
  case atStart => exact ⟨0, 0, N, a1, e1, none, [], bad, rfl, rfl, hN, rfl, EI.zero hpl1, World.ownsRow_nil _ _ _ _, p1, hG1⟩
  case round =>
    obtain ⟨n', c', m, a2, e2, A', es, bad2, rfl, rfl, hm, hn, hI, hown, hP, hG⟩ := hrel
    by_cases h0 : m = 0
    · have HF := Lib_hid (FIN.out wr A' n' c' es m a2 e2 bad2 hn.out hI.out (.inl h0) hown hP.out hG.out)
      clear FIN hown hI hP hG p1 hG1
      subst h0
      go_wp2
      go_ret
      exact HF.out
    · obtain ⟨m', rfl⟩ : ∃ m', m = m' + 1 := ⟨m - 1, by omega⟩
      have hmi : (0 : Int) < ((m' + 1 : Nat) : Int) := by omega
      have GD := pgood_any hP.out
      by_cases hg : GoodB e2 bad2
      · rw [show decide (GoodB e2 bad2) = true from decide_eq_true hg] at GD
        have hlen := hI.out.len
        have HST : Hid (∀ (x : En) (a' e' : Nat) (bad' : Bool), x.ok → a' ≤ l.length → Took (entT l a2) e2 bad2 x a' e' bad' → EI l N a1 e1 bad (es ++ [x]) m' a' e' bad') := fun x a' e' bad' k1 k2 k3 => hI.out.step HB8.out hg k1 k2 k3
        have hm1 : n' + 1 ≤ maxLen := by have := hn.out; unfold maxLen; omega
        have hm2 : (n' + 1) * 32 ≤ 140737488355328 := by have := hn.out; omega
        clear FIN hI p1 hG1
        go_upto_region 5 with (go_at_call 63; refine GD.mono ?_; rintro en wx ⟨rfl, rfl⟩)
        obtain ⟨c0, -, -, -⟩ := hP.out.cells
        have PN := pnum_any hP.out
        clear GD
        go_wp2_with fail
        refine PN.mono ?_
        rintro en w2 ⟨xa, a3, e3, rfl, hxa, p2, hs2, ht2⟩
        have PV := pver_any p2
        have hK2 : Grow2 wx w2 g h := hs2.grow2 g
        clear PN c0 hs2 hP
        go_wp2_with fail
        refine PV.mono ?_
        rintro en w3 ⟨xb, xc, a4, e4, rfl, ⟨hxb, hxc⟩, p3, hG3, ht3⟩
        have PM := pmatch_any p3
        have hK3 := hK2.trans hG3
        clear PV hK2 hG3 p2
        go_wp2_with fail
        refine PM.mono ?_
        rintro en w4 ⟨xm, a5, e5, bad5, rfl, p4, hG4, ht4⟩
        have hK4 := hK3.trans hG4
        have hEI := Lib_hid (HST.out ⟨xa, xb, xc, xm⟩ a5 e5 bad5 ⟨by show (xa : Int) ≤ _; omega, by show (xb : Int) ≤ _; omega, by show (xc : Int) ≤ _; omega⟩ p4.rd.place (ent_took ht2 ht3 ht4))
        have ho4 : w4.ownsRow w.heap.size 84 4 (.slice A' n' c') n' (enCells es) := own_keep hown fun k hk => hK4.block k (own_lt hown k hk) (fun e => by have := own_ge hown k hk; omega) (fun e => by have := own_ge hown k hk; omega)
        have hG5 := hG.out.trans hK4
        have hec : enCells (es ++ [⟨xa, xb, xc, xm⟩]) = enCells es ++ [.int .u64 (xa : Int), .int .u64 (xb : Int), .int .u64 (xc : Int), .bool xm] := by rw [enCells_append]; simp [enCells, En.cells]
        have HEC := Lib_hid hec
        clear PM hK3 hK4 hG4 p3 ht2 ht3 ht4 HST hown hG hec
        have hb5 := below_new w4 (.cells #[.int .u64 (xa : Int), .int .u64 (xb : Int), .int .u64 (xc : Int), .bool xm] 84)
        have ho5 := own_below ho4 hb5 (own_lt ho4)
        have hr5 := rd_row (size := 4) (n := 1) (l := [.int .u64 (xa : Int), .int .u64 (xb : Int), .int .u64 (xc : Int), .bool xm]) (heap_alloc_new w4 (.cells #[.int .u64 (xa : Int), .int .u64 (xb : Int), .int .u64 (xc : Int), .bool xm] 84)) rfl
        have p5 := Lib_hid (p4.kept hb5)
        have hG6 : Hid (Grow2 w (w4.alloc (.cells #[.int .u64 (xa : Int), .int .u64 (xb : Int), .int .u64 (xc : Int), .bool xm] 84)) g h) := hG5.trans (Grow2.ofB hb5)
        have hs5 := hG6.out.size
        have h1c : ∀ u ∈ ([.int .u64 (xa : Int), .int .u64 (xb : Int), .int .u64 (xc : Int), .bool xm] : List Value), u.oneCell' = true := by
          intro u hu
          simp only [List.mem_cons, List.not_mem_nil, or_false] at hu
          rcases hu with rfl | rfl | rfl | rfl <;> rfl
        clear p4 hG5 ho4 hb5
        go_wp2_with (at_builtin; (refine wpList_app rfl _ _ 28 rfl w.heap.size 84 i0 (.agg #[.int .u64 0, .int .u64 0, .int .u64 0, .bool false]) 4 32 Tryz.underlying28 hi hz0 hz1 hz2 rfl (by decide) (.slice A' n' c') n' _ rfl ho5 _ _ 1 1 _ rfl hr5 h1c hm1 hm2 hs5 ?_); intro v' w6 hown' hst; obtain ⟨A6, c6, rfl, _⟩ := own_form hown')
        go_roundw
        case rel =>
          have hge : ∀ k, (Value.slice A' n' c').ownBlock = some k → w.heap.size ≤ k := own_ge ho5
          refine ⟨n' + 1, c6, m', a5, e5, A6, es ++ [⟨xa, xb, xc, xm⟩], bad5, rfl, by go_num, by omega, Lib_hid (by rw [List.length_append, ← hn.out]; rfl), hEI, by rw [HEC.out]; exact hown', ?_, ?_⟩
          · exact p5.out.kept' hst hge hgl
          · have k := hG6.out
            exact ⟨hst.grow.os.trans k.os, hst.grow.tape.trans k.tape, hst.grow.output.trans k.output, Nat.le_trans k.size hst.grow.size, fun i h1 h2 h3 => (hst.grow.block i (by omega) (fun e => by have := hge i e.symm; omega)).trans (k.block i h1 h2 h3)⟩
        case measure =>
          simp [intOf]
      · rw [show decide (GoodB e2 bad2) = false from decide_eq_false hg] at GD
        have HF := Lib_hid (FIN.out wr A' n' c' es (m' + 1) a2 e2 bad2 hn.out hI.out (.inr hg) hown hP.out hG.out)
        clear FIN hown hI hP hG p1 hG1
        go_wp2_with (go_at_call 63; refine GD.mono ?_; rintro en wx ⟨rfl, rfl⟩)
        go_ret
        exact HF.out
end
end Go.Proofs.YtiiiklenhmhccaaGreatDoor

namespace Go.Proofs.YtiiiklenhmhccaaGreatDoor
open Go Go.RowKit
set_option linter.unusedVariables false
theorem SpR.stay {lo : Nat} {r : Rv} {w w' : World} (h : SpR lo r w) (hs : w.heap.size ≤ w'.heap.size) (hk : ∀ k, lo ≤ k → k < w.heap.size → w'.heap[k]? = w.heap[k]?) : SpR lo r w' := by
  obtain ⟨l1, w0, h1, h2, h3, h4, h5, h6, h7⟩ := h
  exact ⟨l1, w0, h1, Nat.le_trans h2 hs, Nat.le_trans h3 hs, h4, h5.keep fun k k1 k2 => hk k (by omega) k2, own_keep h6 fun k k1 => hk k (own_ge h6 k k1) (own_lt h6 k k1), h7⟩
theorem RLies.stay {w w' : World} {lo : Nat} {r : Rv} (h : RLies w lo w.heap.size r) (hs : w.heap.size ≤ w'.heap.size) (hk : ∀ k, lo ≤ k → k < w.heap.size → w'.heap[k]? = w.heap[k]?) : RLies w' lo w'.heap.size r :=
  (h.keep fun p h1 h2 => World.cell?_of_block (hk p.block h1 h2)).more (Nat.le_refl _) hs
structure Grow3 (w w' : World) (a g h : Nat) : Prop where
  os : w'.os = w.os
  tape : w'.tape = w.tape
  output : w'.output = w.output
  size : w.heap.size ≤ w'.heap.size
  block : ∀ k, k < w.heap.size → k ≠ a → k ≠ g → k ≠ h → w'.heap[k]? = w.heap[k]?
theorem Grow3.refl (w : World) (a g h : Nat) : Grow3 w w a g h := ⟨rfl, rfl, rfl, Nat.le_refl _, fun _ _ _ _ _ => rfl⟩
theorem Grow3.trans {u v w : World} {a g h : Nat} (x : Grow3 u v a g h) (k : Grow3 v w a g h) : Grow3 u w a g h := ⟨k.os.trans x.os, k.tape.trans x.tape, k.output.trans x.output, Nat.le_trans x.size k.size, fun i hi h1 h2 h3 => (k.block i (Nat.lt_of_lt_of_le hi x.size) h1 h2 h3).trans (x.block i hi h1 h2 h3)⟩
theorem Grow3.ofB {w w' : World} {a g h : Nat} (k : Below w.heap.size w w') : Grow3 w w' a g h := ⟨k.os, k.tape, k.output, k.size, fun i hi _ _ _ => k.block i hi⟩
theorem Grow3.of2 {w w' : World} {a g h : Nat} (k : Grow2 w w' g h) : Grow3 w w' a g h := ⟨k.os, k.tape, k.output, k.size, fun i hi _ h2 h3 => k.block i hi h2 h3⟩
theorem Grow3.ofR {w w' : World} {a g h : Nat} {arr : Array Value} {E : TypeId} (k : RowSet w w' a arr E) : Grow3 w w' a g h := ⟨k.os, k.tape, k.output, Nat.le_of_eq k.size.symm, fun i _ h1 _ _ => k.other i h1⟩
theorem Grow3.below {w w' : World} {a g h B : Nat} (k : Grow3 w w' a g h) (hB : B ≤ w.heap.size) (h1 : B ≤ a) (h2 : B ≤ g) (h3 : B ≤ h) : Below B w w' := ⟨k.os, k.tape, k.output, k.size, fun i hi => k.block i (by omega) (by omega) (by omega) (by omega)⟩
structure TkS (lo a g h : Nat) (A : Option Addr) (n c : Nat) (l : List Nat) (r : Rv) (ac e : Nat) (bad : Bool) (w : World) : Prop where
  box : w.heap[a]? = some (.cells r.arr 30 (0, 0))
  pl : PlS g h A n c l ac e bad w
  lies : RLies w lo w.heap.size r
  al : a < lo
  gl : g < lo
  ne : a ≠ g
  ne2 : a ≠ h
  sep : ∀ ad, A = some ad → 0 < n → ad.block ≠ a
  hi : lo ≤ w.heap.size
  sp : SpR lo r w
  few : 4 * r.es.length ≤ l.length + 4
def TakEnd (i lo a g h : Nat) (A : Option Addr) (n c : Nat) (l : List Nat) (r : Rv) (ac e : Nat) (bad : Bool) (w : World) (en : Ending) (w' : World) : Prop :=
  en = .returned (.tuple #[]) ∧ Grow3 w w' a g h ∧ ∃ (r' : Rv) (ac' e' : Nat) (bad' : Bool), TkS lo a g h A n c l r' ac' e' bad' w' ∧ r'.kind = r.kind ∧ Took (r.abs.takeP l ac i) e bad r'.abs ac' e' bad'
section
variable {lo a g h n c ac e ac' e' : Nat} {A : Option Addr} {l : List Nat} {bad bad' : Bool} {r r' : Rv} {w W W' : World}
theorem PlS.off {arr : Array Value} {E : TypeId} (p : PlS g h A n c l ac e bad W) (hr : RowSet W W' a arr E) (h1 : a ≠ g) (h2 : a ≠ h) (hs : ∀ ad, A = some ad → 0 < n → ad.block ≠ a) : PlS g h A n c l ac e bad W' :=
  ⟨(hr.other g (fun x => h1 x.symm)).trans p.box, ⟨(hr.other h (fun x => h2 x.symm)).trans p.rd.blk, (by
    rcases Nat.eq_zero_or_pos n with rfl | hn
    · have hl := p.rd.rd.count
      rw [List.eq_nil_of_length_eq_zero hl]
      exact Rd.zero
    · exact p.rd.rd.off (fun ad x _ => hr.other ad.block (hs ad x hn)) (Nat.le_refl _)), p.rd.nc, p.rd.b8, p.rd.len, p.rd.place, p.rd.err⟩, p.lt⟩
theorem TkS.kept (t : TkS lo a g h A n c l r ac e bad w) (hb : Below w.heap.size w W) : TkS lo a g h A n c l r ac e bad W :=
  ⟨(hb.block a (lt_of_block t.box)).trans t.box, t.pl.kept hb, t.lies.stay hb.size fun k _ k2 => hb.block k k2, t.al, t.gl, t.ne, t.ne2, t.sep, Nat.le_trans t.hi hb.size, t.sp.under hb, t.few⟩
theorem tk_fin {i : Nat} (t : TkS lo a g h A n c l r ac e bad w) (hp : PlS g h A n c l ac' e' bad' W) (hG : Grow2 w W g h) (hR : RowSet W W' a r'.arr 30) (hk : r'.kind = r.kind)
    (hl : (∀ k, lo ≤ k → k < w.heap.size → W'.heap[k]? = w.heap[k]?) → w.heap.size ≤ W'.heap.size → RLies W' lo W'.heap.size r' ∧ SpR lo r' W') (hf : 4 * r'.es.length ≤ l.length + 4) (ht : Took (r.abs.takeP l ac i) e bad r'.abs ac' e' bad') :
    TakEnd i lo a g h A n c l r ac e bad w (.returned (.tuple #[])) W' := by
  have h1 := t.al
  have h2 := t.gl
  have h3 := t.pl.lt
  have hs : w.heap.size ≤ W'.heap.size := by rw [hR.size]; exact hG.size
  obtain ⟨k1, k2⟩ := hl (fun k k1 k2 => (hR.other k (by omega)).trans (hG.block k k2 (by omega) (by omega))) hs
  exact ⟨rfl, (Grow3.of2 hG).trans (Grow3.ofR hR), r', ac', e', bad', ⟨hR.row, hp.off hR t.ne t.ne2 t.sep, k1, t.al, t.gl, t.ne, t.ne2, t.sep, Nat.le_trans t.hi hs, k2, hf⟩, hk, ht⟩
theorem TkS.bx (t : TkS lo a g h A n c l r ac e bad w) (hG : Grow2 w W g h) : W.heap[a]? = some (.cells r.arr 30 (0, 0)) := (hG.block a (lt_of_block t.box) t.ne t.ne2).trans t.box
theorem rowone {w : World} {g i : Nat} {arr : Array Value} {E : TypeId} (v : Value) (h : w.heap[g]? = some (.cells arr E (0, 0))) : RowSet w (w.setCell ⟨g, i, none⟩ v) g (arr.setIfInBounds i v) E :=
  ⟨rfl, rfl, rfl, by simp [World.setCell], heap_setCell_same w g i _ E v h, fun k hk => Below.heap_setCell _ ⟨g, i, none⟩ _ k hk⟩
theorem RowSet.trans {w w' w2 : World} {g : Nat} {arr brr : Array Value} {E F : TypeId} (h : RowSet w w' g arr E) (k : RowSet w' w2 g brr F) : RowSet w w2 g brr F :=
  ⟨k.os.trans h.os, k.tape.trans h.tape, k.output.trans h.output, k.size.trans h.size, k.row, fun i hi => (k.other i hi).trans (h.other i hi)⟩
set_option maxRecDepth 100000 in
set_option maxHeartbeats 1600000 in
theorem takeT_any (t : TkS lo a g h A n c l r ac e bad w) : Calls Tryz.prog 106 #[.pointer (some ⟨a, 0, none⟩), .pointer (some ⟨g, 0, none⟩)] w (TakEnd 0 lo a g h A n c l r ac e bad w) := by
  have PN := pnum_any t.pl
  have FIN : Hid (∀ (W : World) (v ac' e' : Nat), v < 18446744073709551616 → PlS g h A n c l ac' e' bad W → RStp w W h → Took (numT l ac) e bad v ac' e' bad → TakEnd 0 lo a g h A n c l r ac e bad w (.returned (.tuple #[])) (W.setCell ⟨a, 1, none⟩ (.int .u64 (v : Int)))) := fun W v ac' e' hv h1 h2 h3 => by
    have hG := h2.grow2 g
    have hbx := t.bx hG
    have hL := t.lies
    have hS := t.sp
    have hf := t.few
    refine tk_fin (r' := { r with t := v }) t h1 hG (rowone _ hbx) rfl (fun k1 k2 => ?_) hf (Took.map (fun v => ({ r with t := v } : Rv).abs) (g := fun x : Nat × Nat => (({ r with t := x.1 } : Rv).abs, x.2)) (fun _ _ => rfl) h3)
    have hL2 := hL.stay k2 k1
    exact ⟨⟨hL2.kind, (by show (v : Int) ≤ _; omega), hL2.x, hL2.wn, hL2.n, hL2.v, hL2.p, hL2.es, hL2.cap, hL2.ok, hL2.lo⟩, hS.stay k2 k1⟩
  have CC : Hid (∀ W, RStp w W h → ∃ u, W.cell? ⟨a, 1, none⟩ = some u ∧ W.frozen? ⟨a, 1, none⟩ = false) := fun W h1 => by
    have hbx := t.bx (h1.grow2 g)
    exact ⟨_, cell_of_row W a 1 _ _ _ hbx, frozen_of_row W a 1 _ _ hbx⟩
  obtain ⟨c0, -, -, -⟩ := t.pl.cells
  clear t
  go_enter Tryz.func106, Tryz.ntmps106
  go_wp2_with fail
  refine PN.mono ?_
  rintro en w2 ⟨v, ac', e', rfl, hv, h1, h2, h3⟩
  have HF := Lib_hid (FIN.out w2 v ac' e' hv h1 h2 h3)
  obtain ⟨u, cu, zu⟩ := CC.out w2 h2
  clear FIN CC h1 h2 h3 PN c0
  go_wp2
  go_end0
  exact HF.out
set_option maxRecDepth 100000 in
set_option maxHeartbeats 1600000 in
theorem takeX_any (t : TkS lo a g h A n c l r ac e bad w) : Calls Tryz.prog 115 #[.pointer (some ⟨a, 0, none⟩), .pointer (some ⟨g, 0, none⟩)] w (TakEnd 1 lo a g h A n c l r ac e bad w) := by
  have PN := pnum_any t.pl
  have FIN : Hid (∀ (W : World) (v ac' e' : Nat), v < 18446744073709551616 → PlS g h A n c l ac' e' bad W → RStp w W h → Took (numT l ac) e bad v ac' e' bad → TakEnd 1 lo a g h A n c l r ac e bad w (.returned (.tuple #[])) (W.setCell ⟨a, 2, none⟩ (.int .u64 (v : Int)))) := fun W v ac' e' hv h1 h2 h3 => by
    have hG := h2.grow2 g
    have hbx := t.bx hG
    have hL := t.lies
    have hS := t.sp
    have hf := t.few
    refine tk_fin (r' := { r with x := v }) t h1 hG (rowone _ hbx) rfl (fun k1 k2 => ?_) hf (Took.map (fun v => ({ r with x := v } : Rv).abs) (g := fun x : Nat × Nat => (({ r with x := x.1 } : Rv).abs, x.2)) (fun _ _ => rfl) h3)
    have hL2 := hL.stay k2 k1
    exact ⟨⟨hL2.kind, hL2.t, (by show (v : Int) ≤ _; omega), hL2.wn, hL2.n, hL2.v, hL2.p, hL2.es, hL2.cap, hL2.ok, hL2.lo⟩, hS.stay k2 k1⟩
  have CC : Hid (∀ W, RStp w W h → ∃ u, W.cell? ⟨a, 2, none⟩ = some u ∧ W.frozen? ⟨a, 2, none⟩ = false) := fun W h1 => by
    have hbx := t.bx (h1.grow2 g)
    exact ⟨_, cell_of_row W a 2 _ _ _ hbx, frozen_of_row W a 2 _ _ hbx⟩
  obtain ⟨c0, -, -, -⟩ := t.pl.cells
  clear t
  go_enter Tryz.func115, Tryz.ntmps115
  go_wp2_with fail
  refine PN.mono ?_
  rintro en w2 ⟨v, ac', e', rfl, hv, h1, h2, h3⟩
  have HF := Lib_hid (FIN.out w2 v ac' e' hv h1 h2 h3)
  obtain ⟨u, cu, zu⟩ := CC.out w2 h2
  clear FIN CC h1 h2 h3 PN c0
  go_wp2
  go_end0
  exact HF.out
set_option maxRecDepth 100000 in
set_option maxHeartbeats 1600000 in
theorem takeValue_any (t : TkS lo a g h A n c l r ac e bad w) : Calls Tryz.prog 129 #[.pointer (some ⟨a, 0, none⟩), .pointer (some ⟨g, 0, none⟩)] w (TakEnd 3 lo a g h A n c l r ac e bad w) := by
  have PN := pnum_any t.pl
  have FIN : Hid (∀ (W : World) (v ac' e' : Nat), v < 18446744073709551616 → PlS g h A n c l ac' e' bad W → RStp w W h → Took (numT l ac) e bad v ac' e' bad → TakEnd 3 lo a g h A n c l r ac e bad w (.returned (.tuple #[])) (W.setCell ⟨a, 5, none⟩ (.int .u64 (v : Int)))) := fun W v ac' e' hv h1 h2 h3 => by
    have hG := h2.grow2 g
    have hbx := t.bx hG
    have hL := t.lies
    have hS := t.sp
    have hf := t.few
    refine tk_fin (r' := { r with v := v }) t h1 hG (rowone _ hbx) rfl (fun k1 k2 => ?_) hf (Took.map (fun v => ({ r with v := v } : Rv).abs) (g := fun x : Nat × Nat => (({ r with v := x.1 } : Rv).abs, x.2)) (fun _ _ => rfl) h3)
    have hL2 := hL.stay k2 k1
    exact ⟨⟨hL2.kind, hL2.t, hL2.x, hL2.wn, hL2.n, (by show (v : Int) ≤ _; omega), hL2.p, hL2.es, hL2.cap, hL2.ok, hL2.lo⟩, hS.stay k2 k1⟩
  have CC : Hid (∀ W, RStp w W h → ∃ u, W.cell? ⟨a, 5, none⟩ = some u ∧ W.frozen? ⟨a, 5, none⟩ = false) := fun W h1 => by
    have hbx := t.bx (h1.grow2 g)
    exact ⟨_, cell_of_row W a 5 _ _ _ hbx, frozen_of_row W a 5 _ _ hbx⟩
  obtain ⟨c0, -, -, -⟩ := t.pl.cells
  clear t
  go_enter Tryz.func129, Tryz.ntmps129
  go_wp2_with fail
  refine PN.mono ?_
  rintro en w2 ⟨v, ac', e', rfl, hv, h1, h2, h3⟩
  have HF := Lib_hid (FIN.out w2 v ac' e' hv h1 h2 h3)
  obtain ⟨u, cu, zu⟩ := CC.out w2 h2
  clear FIN CC h1 h2 h3 PN c0
  go_wp2
  go_end0
  exact HF.out
set_option maxRecDepth 100000 in
set_option maxHeartbeats 1600000 in
theorem takeV_any (t : TkS lo a g h A n c l r ac e bad w) : Calls Tryz.prog 121 #[.pointer (some ⟨a, 0, none⟩), .pointer (some ⟨g, 0, none⟩)] w (TakEnd 2 lo a g h A n c l r ac e bad w) := by
  have PN := pver_any t.pl
  have FIN : Hid (∀ (W : World) (v1 v2 ac' e' : Nat), v1 < 18446744073709551616 ∧ v2 < 18446744073709551616 → PlS g h A n c l ac' e' bad W → Grow2 w W g h → Took (verT l ac) e bad (v1, v2) ac' e' bad → TakEnd 2 lo a g h A n c l r ac e bad w (.returned (.tuple #[])) ((W.setCell ⟨a, 3, none⟩ (.int .u64 (v1 : Int))).setCell ⟨a, 4, none⟩ (.int .u64 (v2 : Int)))) := fun W v1 v2 ac' e' hv h1 hG h3 => by
    have hbx := t.bx hG
    have hL := t.lies
    have hS := t.sp
    have hf := t.few
    have hr := rowone (i := 3) (.int .u64 (v1 : Int)) hbx
    have hT : r.abs.takeP l ac 2 = (verT l ac).map fun x => (({ r with w := x.1.1, n := x.1.2 } : Rv).abs, x.2) := by
      show ((numT l ac).bind fun x => (numT l x.2).map fun y => ({ r.abs with w := x.1, n := y.1 }, y.2)) = _
      unfold verT
      cases numT l ac with
      | none => rfl
      | some x =>
        simp only [Option.bind_some]
        cases numT l x.2 with
        | none => rfl
        | some y => rfl
    refine tk_fin (r' := { r with w := v1, n := v2 }) t h1 hG (hr.trans (rowone (i := 4) _ hr.row)) rfl (fun k1 k2 => ?_) hf ?_
    · have hL2 := hL.stay k2 k1
      exact ⟨⟨hL2.kind, hL2.t, hL2.x, (by show (v1 : Int) ≤ _; omega), (by show (v2 : Int) ≤ _; omega), hL2.v, hL2.p, hL2.es, hL2.cap, hL2.ok, hL2.lo⟩, hS.stay k2 k1⟩
    · rw [hT]
      exact Took.map (fun v : Nat × Nat => ({ r with w := v.1, n := v.2 } : Rv).abs) (fun _ _ => rfl) h3
  have CC : Hid (∀ W, Grow2 w W g h → ∃ u u2, W.cell? ⟨a, 3, none⟩ = some u ∧ W.frozen? ⟨a, 3, none⟩ = false ∧ W.cell? ⟨a, 4, none⟩ = some u2 ∧ W.frozen? ⟨a, 4, none⟩ = false) := fun W h1 => by
    have hbx := t.bx h1
    exact ⟨_, _, cell_of_row W a 3 _ _ _ hbx, frozen_of_row W a 3 _ _ hbx, cell_of_row W a 4 _ _ _ hbx, frozen_of_row W a 4 _ _ hbx⟩
  clear t
  go_enter Tryz.func121, Tryz.ntmps121
  go_wp2_with fail
  refine PN.mono ?_
  rintro en w2 ⟨v1, v2, ac', e', rfl, hv, h1, h2, h3⟩
  have HF := Lib_hid (FIN.out w2 v1 v2 ac' e' hv h1 h2 h3)
  obtain ⟨u, u2, cu, zu, cu2, zu2⟩ := CC.out w2 h2
  clear FIN CC h1 h2 h3 PN
  go_wp2
  go_end0
  exact HF.out
set_option maxRecDepth 100000 in
set_option maxHeartbeats 1600000 in
theorem takeP_any (t : TkS lo a g h A n c l r ac e bad w) : Calls Tryz.prog 137 #[.pointer (some ⟨a, 0, none⟩), .pointer (some ⟨g, 0, none⟩)] w (TakEnd 4 lo a g h A n c l r ac e bad w) := by
  have PN := ppred_any t.pl
  have FIN : Hid (∀ (W : World) (u : V) (ac' e' : Nat) (bad' : Bool), Lies W w.heap.size W.heap.size u → Shp 27 W w.heap.size u → PlS g h A n c l ac' e' bad' W → Grow2 w W g h → Took ((txtT l ac).bind fun x => (parseT x.1).map fun t => (t, x.2)) e bad u.abs ac' e' bad' →
      TakEnd 4 lo a g h A n c l r ac e bad w (.returned (.tuple #[])) ((((W.setCell ⟨a, 6, none⟩ (.int .i64 u.kind)).setCell ⟨a, 7, none⟩ (.int .u64 (u.a : Int))).setCell ⟨a, 8, none⟩ (.int .u64 (u.b : Int))).setCell ⟨a, 9, none⟩ u.sl)) := fun W u ac' e' bad' hu hus h1 hG h3 => by
    have hbx := t.bx hG
    have hL := t.lies
    have hS := t.sp
    have hf := t.few
    have hal := t.al
    have hhi := t.hi
    have hr6 := rowone (i := 6) (.int .i64 u.kind) hbx
    have hr7 := hr6.trans (rowone (i := 7) (.int .u64 (u.a : Int)) hr6.row)
    have hr8 := hr7.trans (rowone (i := 8) (.int .u64 (u.b : Int)) hr7.row)
    have hr9 := hr8.trans (rowone (i := 9) u.sl hr8.row)
    have hT : r.abs.takeP l ac 4 = ((txtT l ac).bind fun x => (parseT x.1).map fun t => (t, x.2)).map fun y => ({ r.abs with p := y.1 }, y.2) := by
      show ((txtT l ac).bind fun x => (parseT x.1).map fun t => ({ r.abs with p := t }, x.2)) = _
      cases txtT l ac with
      | none => rfl
      | some x =>
        simp only [Option.bind_some]
        cases parseT x.1 with
        | none => rfl
        | some y => rfl
    refine tk_fin (r' := { r with p := u }) t h1 hG hr9 rfl (fun k1 k2 => ?_) hf ?_
    · have hL2 := hL.stay k2 k1
      have hW : W.heap.size = ((((W.setCell ⟨a, 6, none⟩ (.int .i64 u.kind)).setCell ⟨a, 7, none⟩ (.int .u64 (u.a : Int))).setCell ⟨a, 8, none⟩ (.int .u64 (u.b : Int))).setCell ⟨a, 9, none⟩ u.sl).heap.size := hr9.size.symm
      refine ⟨⟨hL2.kind, hL2.t, hL2.x, hL2.wn, hL2.n, hL2.v, ((hu.keep fun p q1 q2 => World.cell?_of_block (hr9.other p.block (by omega))).more hhi (Nat.le_of_eq hW)), hL2.es, hL2.cap, hL2.ok, hL2.lo⟩, ?_⟩
      obtain ⟨l1, w0, s1, s2, s3, s4, s5, s6, s7⟩ := hS.stay k2 k1
      obtain ⟨-, -, -, -, -, -, -, y6, -⟩ := hS
      have hlt := own_lt y6
      exact ⟨w.heap.size, W, hhi, by rw [← hW]; exact hG.size, Nat.le_of_eq hW, hus, hus.keep fun k k1 k2 => hr9.other k (by omega), s6, fun k hk => .inl (hlt k hk)⟩
    · rw [hT]
      exact Took.map (fun u => ({ r.abs with p := u } : Rc)) (fun _ _ => rfl) h3
  have CC : Hid (∀ W, Grow2 w W g h → ∃ u u2 u3 u4, (W.cell? ⟨a, 6, none⟩ = some u ∧ W.frozen? ⟨a, 6, none⟩ = false ∧ W.cell? ⟨a, 7, none⟩ = some u2 ∧ W.frozen? ⟨a, 7, none⟩ = false) ∧ (W.cell? ⟨a, 8, none⟩ = some u3 ∧ W.frozen? ⟨a, 8, none⟩ = false ∧ W.cell? ⟨a, 9, none⟩ = some u4 ∧ W.frozen? ⟨a, 9, none⟩ = false)) := fun W h1 => by
    have hbx := t.bx h1
    exact ⟨_, _, _, _, ⟨cell_of_row W a 6 _ _ _ hbx, frozen_of_row W a 6 _ _ hbx, cell_of_row W a 7 _ _ _ hbx, frozen_of_row W a 7 _ _ hbx⟩, ⟨cell_of_row W a 8 _ _ _ hbx, frozen_of_row W a 8 _ _ hbx, cell_of_row W a 9 _ _ _ hbx, frozen_of_row W a 9 _ _ hbx⟩⟩
  clear t
  go_enter Tryz.func137, Tryz.ntmps137
  go_wp2_with fail
  refine PN.mono ?_
  rintro en w2 ⟨u, ac', e', bad', rfl, hu, hus, h1, h2, h3⟩
  have HF := Lib_hid (FIN.out w2 u ac' e' bad' hu hus h1 h2 h3)
  obtain ⟨u1, u2, u3, u4, ⟨cu, zu, cu2, zu2⟩, ⟨cu3, zu3, cu4, zu4⟩⟩ := CC.out w2 h2
  clear FIN CC h1 h2 h3 PN hu hus
  simp only [V.val, V.sl] at HF ⊢
  generalize u.addr = uA at *
  generalize u.parts.length = un at *
  generalize u.cap = uc at *
  generalize u.kind = uk at *
  generalize (u.a : Int) = ua at *
  generalize (u.b : Int) = ub at *
  go_wp2
  go_end0
  exact HF.out
set_option maxRecDepth 100000 in
set_option maxHeartbeats 1600000 in
theorem takeEntries_any (t : TkS lo a g h A n c l r ac e bad w) : Calls Tryz.prog 147 #[.pointer (some ⟨a, 0, none⟩), .pointer (some ⟨g, 0, none⟩)] w (TakEnd 5 lo a g h A n c l r ac e bad w) := by
  have PN := pents_any t.pl
  have FIN : Hid (∀ (W : World) (A' : Option Addr) (n' c' : Nat) (es' : List En) (ac' e' : Nat) (bad' : Bool), n' = es'.length → (∀ x ∈ es', x.ok) → 4 * es'.length ≤ l.length + 4 → W.ownsRow w.heap.size 84 4 (.slice A' n' c') n' (enCells es') → PlS g h A n c l ac' e' bad' W → Grow2 w W g h → Took ((numT l ac).bind fun x => entsT l x.1 x.2) e bad es' ac' e' bad' →
      TakEnd 5 lo a g h A n c l r ac e bad w (.returned (.tuple #[])) (W.setCell ⟨a, 10, none⟩ (.slice A' n' c'))) := fun W A' n' c' es' ac' e' bad' hn hok hfew hown h1 hG h3 => by
    subst hn
    have hbx := t.bx hG
    have hL := t.lies
    have hS := t.sp
    have hal := t.al
    have hhi := t.hi
    have hr := rowone (i := 10) (.slice A' es'.length c') hbx
    have hoW := own_keep hown (w' := W.setCell ⟨a, 10, none⟩ (.slice A' es'.length c')) fun k hk => hr.other k (by have := own_ge hown k hk; omega)
    have hOn := own_base (b' := lo) hoW (fun k hk => by have := own_ge hown k hk; omega)
    have hlo : ∀ ad, A' = some ad → 0 < es'.length → lo ≤ ad.block := fun ad e hn => by
      obtain ⟨gg, cap, hv, hgg, hlt⟩ := hown.form hn
      have hA : A' = some ⟨gg, 0, none⟩ := by injection hv
      rw [hA] at e
      injection e with e
      subst e
      have := own_ge hown gg (by rw [hA]; rfl)
      show lo ≤ gg
      omega
    have hT : r.abs.takeP l ac 5 = ((numT l ac).bind fun x => entsT l x.1 x.2).map fun y => ({ r.abs with es := y.1 }, y.2) := by
      show ((numT l ac).bind fun x => (entsT l x.1 x.2).map fun y => ({ r.abs with es := y.1 }, y.2)) = _
      cases numT l ac with
      | none => rfl
      | some x => rfl
    refine tk_fin (r' := { r with A := A', c := c', es := es' }) t h1 hG hr rfl (fun k1 k2 => ?_) hfew ?_
    · have hL2 := hL.stay k2 k1
      refine ⟨⟨hL2.kind, hL2.t, hL2.x, hL2.wn, hL2.n, hL2.v, hL2.p, Rd.own hoW, own_cap hown, hok, hlo⟩, ?_⟩
      have hge := own_ge hown
      obtain ⟨l1, w0, s1, s2, s3, s4, s5, s6, s7⟩ := hS
      refine ⟨l1, w0, s1, by rw [hr.size]; have := hG.size; omega, by rw [hr.size]; have := hG.size; omega, s4, s5.keep fun k j1 j2 => k1 k (by omega) j2, hOn, fun k hk => .inr (by have := hge k hk; omega)⟩
    · rw [hT]
      exact Took.map (fun u => ({ r.abs with es := u } : Rc)) (fun _ _ => rfl) h3
  have CC : Hid (∀ W, Grow2 w W g h → ∃ u, W.cell? ⟨a, 10, none⟩ = some u ∧ W.frozen? ⟨a, 10, none⟩ = false) := fun W h1 => by
    have hbx := t.bx h1
    exact ⟨_, cell_of_row W a 10 _ _ _ hbx, frozen_of_row W a 10 _ _ hbx⟩
  clear t
  go_enter Tryz.func147, Tryz.ntmps147
  go_wp2_with fail
  refine PN.mono ?_
  rintro en w2 ⟨A', c', es', ac', e', bad', rfl, hok, hfew, hown, h1, h2, h3⟩
  have HF := Lib_hid (FIN.out w2 A' _ c' es' ac' e' bad' rfl hok hfew hown h1 h2 h3)
  obtain ⟨u, cu, zu⟩ := CC.out w2 h2
  clear FIN CC h1 h2 h3 PN hok hown
  generalize es'.length = n' at *
  go_wp2
  go_end0
  exact HF.out
theorem take6_any (i : Nat) (hi6 : i < 6) (t : TkS lo a g h A n c l r ac e bad w) : Calls Tryz.prog (mtakeF i) #[.pointer (some ⟨a, 0, none⟩), .pointer (some ⟨g, 0, none⟩)] w (TakEnd i lo a g h A n c l r ac e bad w) := by
  have : i = 0 ∨ i = 1 ∨ i = 2 ∨ i = 3 ∨ i = 4 ∨ i = 5 := by omega
  rcases this with rfl | rfl | rfl | rfl | rfl | rfl
  · exact takeT_any t
  · exact takeX_any t
  · exact takeV_any t
  · exact takeValue_any t
  · exact takeP_any t
  · exact takeEntries_any t
set_option maxRecDepth 100000 in
theorem call_take {i : Nat} (hi6 : i < 6) : ∀ (args : Array Value) (wx : World), (callFunc (mtakeF i) args).run Tryz.prog wx = .ok (.enter (mtakeF i) args) wx := by
  have : i = 0 ∨ i = 1 ∨ i = 2 ∨ i = 3 ∨ i = 4 ∨ i = 5 := by omega
  rcases this with rfl | rfl | rfl | rfl | rfl | rfl <;> exact fun args wx => by kernel_rfl
end
end Go.Proofs.YtiiiklenhmhccaaGreatDoor
