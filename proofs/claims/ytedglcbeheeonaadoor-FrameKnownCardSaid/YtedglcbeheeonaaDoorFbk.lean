/-
  The statement's function FrameBack returns true, for every input.
-/
import Derived.Test.YtedglcbeheeonaaDoorFpu
import Derived.Test.YtedglcbeheeonaaDoorFbp
import Derived.Test.YtedglcbeheeonaaDoorPik
namespace Go.Proofs.YtedglcbeheeonaaDoor
open Go Go.RowKit
set_option linter.unusedVariables false

theorem Tryd.info25 : (Tryd.prog.info? 25).map (fun i => (i.zero, i.size, i.bytes)) = some (some (.agg #[.int .u8 0, .slice none 0 0]), 2, 32) := by kernel_rfl

theorem plCells_get : ∀ (l : List Ev) (i j : Nat) (a : Ev), l[i]? = some a → j < 4 → (plCells l)[i * 4 + j]? = a.cells[j]? := by
  intro l
  induction l with
  | nil => intro i j a h; simp at h
  | cons x l ih =>
    intro i j a h hj
    have e : plCells (x :: l) = x.cells ++ plCells l := rfl
    have hx : x.cells.length = 4 := rfl
    cases i with
    | zero =>
      simp at h
      subst h
      rw [e, Nat.zero_mul, Nat.zero_add, List.getElem?_append_left (by omega)]
    | succ i =>
      rw [e, List.getElem?_append_right (by omega), hx, show (i + 1) * 4 + j - 4 = i * 4 + j by omega]
      exact ih i j a (by simpa using h) hj

/-- The i-th placed frame of a row. -/
theorem pl_at {B m : Nat} {w : World} {v : Value} {xs : List Ev} (h : PlK B w v m xs) {i : Nat} (hi : i < m) : ∃ (g c : Nat) (x : Ev), v = .slice (some ⟨g, 0, none⟩) m c ∧ B ≤ g ∧ g < w.heap.size ∧ xs[i]? = some x ∧ PayOK w B x ∧
    w.cell? ⟨g, i * 4, none⟩ = some (.int .u8 (x.k : Int)) ∧ w.cell? ⟨g, i * 4 + 1, none⟩ = some (.slice x.A x.p.length x.c) ∧ w.cell? ⟨g, i * 4 + 2, none⟩ = some (.int .i64 (x.f : Int)) ∧ w.cell? ⟨g, i * 4 + 3, none⟩ = some (.int .i64 (x.t : Int)) := by
  obtain ⟨g, cap, rfl, _, _⟩ := h.row.form (by omega)
  have hl := h.len
  have hx : xs[i]? = some (xs[i]'(by omega)) := List.getElem?_eq_getElem (by omega)
  have hc : ∀ j, j < 4 → w.cell? ⟨g, i * 4 + j, none⟩ = (xs[i]'(by omega)).cells[j]? := fun j hj => by
    rw [h.row.cellAt _ (by omega), plCells_get xs i j _ hx hj]
  exact ⟨g, cap, _, rfl, own_ge h.row g rfl, own_lt h.row g rfl, hx, h.pay _ (List.mem_of_getElem? hx), hc 0 (by omega), hc 1 (by omega), hc 2 (by omega), hc 3 (by omega)⟩

def evF (x : Ev) : FrV := ⟨x.k, x.A, x.p.length, x.c⟩
def evD (x : Ev) : Nat × List Nat := (x.k, x.p)
theorem ev_row {B m : Nat} {w : World} {v : Value} {xs : List Ev} (h : PlK B w v m xs) : FrRow w w.heap.size (xs.map evF) (xs.map evD) := by
  refine ⟨by simp, fun i f d h1 h2 => ?_⟩
  rw [List.getElem?_map] at h1 h2
  cases hx : xs[i]? with
  | none => rw [hx] at h1; cases h1
  | some x =>
    rw [hx] at h1 h2
    simp at h1 h2
    subst h1 h2
    have hp := h.pay x (List.mem_of_getElem? hx)
    exact ⟨rfl, hp.2.1, Rd.own hp.1, hp.2.2, own_cap hp.1⟩
theorem evF_take {xs : List Ev} {i : Nat} {x : Ev} (h : xs[i]? = some x) : frCells ((xs.map evF).take (i + 1)) = frCells ((xs.map evF).take i) ++ frCells [evF x] := by
  have hi : i < (xs.map evF).length := by rw [List.length_map]; exact (List.getElem?_eq_some_iff.1 h).1
  rw [List.take_succ_eq_append_getElem hi, frCells_append]
  have e : (xs.map evF)[i] = evF x := by rw [List.getElem_map]; congr 1; exact (List.getElem?_eq_some_iff.1 h).2
  rw [e]

def byf (b0 b1 b2 b3 j : Nat) : Nat := [b0, b1, b2, b3].getD j 0
theorem bs_set (m : List Nat) (k x : Nat) : bs (m.set k x) = (bs m).set k (.int .u8 (x : Int)) := by simp [bs, List.map_set]
theorem xor_two {x y : Nat} (hx : x < 256) (hy : y < 256) : bits BinOp.xor IntKind.u8 (x : Int) (y : Int) = ((x ^^^ y : Nat) : Int) := u8_xor_nat x y hx hy
theorem xor_byte8 {x y : Nat} (hx : x < 256) (hy : y < 256) : x ^^^ y < 256 := Nat.xor_lt_two_pow (n := 8) hx hy

/-- The bytes that are turned, after j steps. -/
structure TurnS (w wc wr : World) (l : List Nat) (f : Nat → Nat) (pl q g : Nat) (Ap : Option Addr) (cp j : Nat) (m : List Nat) (ch : Bool) (box : Obj) : Prop where
  own : wr.ownsRow (w.heap.size + 1) 5 1 (.slice Ap q cp) q (bs m)
  len : m.length = q
  b8 : ∀ x ∈ m, x < 256
  get : ∀ z, z < q → m.getD z 0 = if pl ≤ z ∧ z < pl + j then l.getD z 0 ^^^ f (z - pl) else l.getD z 0
  chg : ch = true ↔ ∃ i, i < j ∧ f i ≠ 0
  gk : wr.heap[g]? = wc.heap[g]?
  bx : wr.heap[w.heap.size]? = some box
  below : Below w.heap.size w wr
theorem TurnS.like {w wc wr w' : World} {l : List Nat} {f : Nat → Nat} {pl q g cp j : Nat} {Ap : Option Addr} {m : List Nat} {ch : Bool} {box : Obj} (h : TurnS w wc wr l f pl q g Ap cp j m ch box) (e1 : w'.os = wr.os) (e2 : w'.tape = wr.tape) (e3 : w'.output = wr.output) (e4 : w'.heap = wr.heap) : TurnS w wc w' l f pl q g Ap cp j m ch box :=
  ⟨own_keep h.own fun _ _ => by rw [e4], h.len, h.b8, h.get, h.chg, by rw [e4]; exact h.gk, by rw [e4]; exact h.bx, below_like h.below e1 e2 e3 e4⟩
theorem by_cell (b0 b1 b2 b3 j : Nat) (hj : j < 4) : (#[.int .u8 (b0 : Int), .int .u8 (b1 : Int), .int .u8 (b2 : Int), .int .u8 (b3 : Int)] : Array Value)[j]? = some (.int .u8 ((byf b0 b1 b2 b3 j : Nat) : Int)) := by
  have : j = 0 ∨ j = 1 ∨ j = 2 ∨ j = 3 := by omega
  rcases this with rfl | rfl | rfl | rfl <;> rfl
theorem by_lt {b0 b1 b2 b3 : Nat} (h0 : b0 < 256) (h1 : b1 < 256) (h2 : b2 < 256) (h3 : b3 < 256) (j : Nat) (hj : j < 4) : byf b0 b1 b2 b3 j < 256 := by
  have : j = 0 ∨ j = 1 ∨ j = 2 ∨ j = 3 := by omega
  rcases this with rfl | rfl | rfl | rfl <;> assumption
theorem TurnS.step {w wc wr w' : World} {l : List Nat} {f : Nat → Nat} {pl q g cp j : Nat} {Ap : Option Addr} {m : List Nat} {ch : Bool} {box : Obj} (h : TurnS w wc wr l f pl q g Ap cp j m ch box) (hj : pl + j < q) (hf : f j < 256) (hl : ∀ z, z < q → l.getD z 0 < 256)
    (ho : w'.ownsRow (w.heap.size + 1) 5 1 (.slice Ap q cp) q (bs (m.set (pl + j) (m.getD (pl + j) 0 ^^^ f j)))) (hg : wr.grownBy w' (Value.slice Ap q cp).ownBlock) (hgl : g < wr.heap.size) (hgn : (Value.slice Ap q cp).ownBlock ≠ some g) :
    TurnS w wc w' l f pl q g Ap cp (j + 1) (m.set (pl + j) (m.getD (pl + j) 0 ^^^ f j)) (ch || f j != 0) box := by
  have hlen := h.len
  have hm : m.getD (pl + j) 0 < 256 := by
    rw [List.getD_eq_getElem?_getD, List.getElem?_eq_getElem (by omega)]
    exact h.b8 _ (List.getElem_mem _)
  refine ⟨ho, by rw [List.length_set]; exact h.len, fun x hx => ?_, fun z hz => ?_, ?_, (hg.block g hgl (fun e => hgn e.symm)).trans h.gk, (hg.block _ (Array.getElem?_eq_some_iff.1 h.bx).1 (fun e => by have := own_ge h.own _ e.symm; omega)).trans h.bx, h.below.grown hg h.below.size (fun k hk => by have := own_ge h.own k hk; omega)⟩
  · rcases List.mem_or_eq_of_mem_set hx with hx | rfl
    · exact h.b8 x hx
    · exact xor_byte8 hm hf
  · rw [getD_set _ _ _ _ (by omega), h.get z hz]
    by_cases hz1 : z = pl + j
    · subst hz1
      rw [if_pos rfl, if_pos (by omega), h.get _ hz, if_neg (by omega), show pl + j - pl = j by omega]
    · rw [if_neg hz1]
      by_cases hz2 : pl ≤ z ∧ z < pl + j
      · rw [if_pos hz2, if_pos (by omega)]
      · rw [if_neg hz2, if_neg (by omega)]
  · rw [Bool.or_eq_true, h.chg]
    constructor
    · rintro (⟨i, h1, h2⟩ | h1)
      · exact ⟨i, by omega, h2⟩
      · exact ⟨j, by omega, by simpa using h1⟩
    · rintro ⟨i, h1, h2⟩
      by_cases hij : i = j
      · subst hij; right; simpa using h2
      · left; exact ⟨i, by omega, h2⟩

set_option maxRecDepth 100000 in
set_option maxHeartbeats 12800000 in
theorem fback_any (B : Nat) (AL : Option Addr) (N C : Nat) (fs : List FrV) (ds : List (Nat × List Nat)) (Ab : Option Addr) (nb cb : Nat) (lb : List Nat) (which at_ : Int) (b0 b1 b2 b3 : Nat) (w : World) (hT : Tab w) (h : Rd w B 2 AL N (frCells fs)) (hF : FrRow w B fs ds) (hB : B = w.heap.size) (hN : N ≤ 9223372036854775807)
    (hb : Rd w B 1 Ab nb (bs lb)) (hb8 : ∀ x ∈ lb, x < 256) (hbc : nb ≤ cb ∧ cb ≤ 9223372036854775807) (h0 : b0 < 256) (h1 : b1 < 256) (h2 : b2 < 256) (h3 : b3 < 256) :
    Calls Tryd.prog 5 #[.slice AL N C, .slice Ab nb cb, .int .i64 which, .int .i64 at_, .agg #[.int .u8 (b0 : Int), .int .u8 (b1 : Int), .int .u8 (b2 : Int), .int .u8 (b3 : Int)]] w fun e w' => e = .returned (.bool true) ∧ Below w.heap.size w w' := by
  have hw0 := hT.1
  have hB0 := below_new w (.cells #[.int .u8 (b0 : Int), .int .u8 (b1 : Int), .int .u8 (b2 : Int), .int .u8 (b3 : Int)] 57)
  have hh0 := heap_alloc_new w (.cells #[.int .u8 (b0 : Int), .int .u8 (b1 : Int), .int .u8 (b2 : Int), .int .u8 (b3 : Int)] 57)
  have FW := ffew_any B N C AL fs _ (h.below (hB0.mono (by omega))) hN
  have HWK := Lib_hid fun W (hb : Below w.heap.size w W) => fworks_any W (hT.below hb hw0)
  go_enter Tryd.func5, Tryd.ntmps5
  go_wp2_with fail
  refine FW.mono ?_
  rintro e w1 ⟨b, rfl, rfl, hfew⟩
  clear FW
  cases b with
  | false =>
    clear hfew
    go_wp2_with fail
    refine (HWK.out _ hB0).mono ?_
    rintro e w1 ⟨rfl, hb1⟩
    have hbw := hB0.trans (hb1.mono hB0.size)
    go_wp2_with fail
    go_ret
    exact ⟨rfl, hbw⟩
  | true =>
    obtain ⟨hN12, hFe⟩ := hfew rfl
    clear hfew
    by_cases hn2 : nb ≤ 1500
    · have hfl : fs.length = N := by have := h.len; rw [frCells_length] at this; omega
      have HDN : Hid (ds.length = N) := by unfold Hid; rw [← hF.len]; exact hfl
      have HD : Hid (∀ (i : Nat) (d : Nat × List Nat), ds[i]? = some d → d.2.length ≤ 200) := by
        intro i d hd
        have hi := (List.getElem?_eq_some_iff.1 hd).1
        have hfi : i < fs.length := by rw [hF.len]; exact hi
        have ok := hF.ok i _ d (List.getElem?_eq_getElem hfi) hd
        rw [ok.p.count]
        exact hFe i _ (by omega) (List.getElem?_eq_getElem hfi)
      have HBD : Hid (BytesD ds) := by
        intro d hd
        obtain ⟨i, hi, rfl⟩ := List.mem_iff_getElem.1 hd
        have h1 := hF.bytes _ hd
        have h2 := HD.out i _ (List.getElem?_eq_getElem hi)
        exact ⟨h1.1, h1.2, by omega⟩
      have HAT := Lib_hid fun (W : World) (hW : Below w.heap.size w W) (i : Nat) (hi : i < N) => (hF.below (hW.mono (by omega))).at (h.below (hW.mono (by omega))) hi
      have hfb : (frAll ds).length ≤ 2600 := by
        have h1 := frAll_bound ds HD.out ds.length (Nat.le_refl _)
        rw [List.take_length, HDN.out] at h1
        omega
      have PUT := fput_any B AL N C fs ds _ (hT.below hB0 hw0) (h.below (hB0.mono (by omega))) (hF.below (hB0.mono (by omega))) (by have := hB0.size; omega) (by omega) (by omega)
      have HPB : Hid (∀ x ∈ frAll ds, x < 256) := frAll_byte hF.bytes
      have HSP := Lib_hid (split_all ds HBD.out)
      have HRB : Hid (∀ W : World, Below w.heap.size w W → Rd W B 1 Ab nb (bs lb)) := fun W hW => hb.below (hW.mono (by omega))
      have HB8 := Lib_hid hb8
      clear hFe hfl h hF hb hb8
      obtain ⟨q, hq⟩ : ∃ q, q = (frAll ds).length := ⟨_, rfl⟩
      rw [← hq] at hfb
      have HQ := Lib_hid hq
      clear hq
      go_wp2_with fail
      refine PUT.mono ?_
      rintro e w2 ⟨Ap, cp, rfl, hop, hb2⟩
      rw [← HQ.out] at hop ⊢
      have hbw2 := hB0.trans (hb2.mono hB0.size)
      have hh2 := (hb2.block w.heap.size (by simp)).trans hh0
      have hcap := own_cap hop
      have SP := split_any w2.heap.size Ap q cp _ w2 (hT.below hbw2 hw0) (Rd.own hop) HPB.out (Nat.le_refl _) (by omega)
      have hop2 : w2.ownsRow (w.heap.size + 1) 5 1 (.slice Ap q cp) q (bs (frAll ds)) := own_base hop fun k hk => by have := own_ge hop k hk; simp at this; omega
      clear PUT hb2 hh0 hop
      go_wp2_with fail
      refine SP.mono ?_
      rintro e w3 ⟨vx, xs, ax, rx, rfl, hPx, hsx, hb3⟩
      rw [HSP.out, ← HQ.out] at hsx
      simp only [Prod.mk.injEq] at hsx
      obtain ⟨hxs, rfl, rfl⟩ := hsx
      have hxl : xs.length = N := by have := congrArg List.length hxs; rw [plOf_length, HDN.out, List.length_map] at this; exact this.symm
      rw [hxl] at hPx
      have hz2 := hbw2.size
      have hz3 := hb3.size
      have hbw3 := hbw2.trans (hb3.mono hbw2.size)
      have hop3 := own_below hop2 hb3 (own_lt hop2)
      have hh3 := (hb3.block w.heap.size (Array.getElem?_eq_some_iff.1 hh2).1).trans hh2
      obtain ⟨Ax, cx, rfl, _⟩ := own_form hPx.row
      have HXS : Hid (∀ i x d, xs[i]? = some x → ds[i]? = some d → x.abs = (d.1, d.2, (frAll (ds.take i)).length, (frAll (ds.take i)).length + (frS d.1 d.2).length)) := by
        intro i x d hx hd
        have := plOf_get hd
        rw [hxs, List.getElem?_map, hx] at this
        simpa using this
      have HPX := Lib_hid hPx
      clear SP hop2 hh2 hxs hb3 hxl hPx HSP
      go_wp2
      go_loopw [15] (fun x wr => ∃ i : Nat, x = .int .i64 i ∧ i ≤ N ∧ Below w3.heap.size w3 wr) (fun x _ => N - (intOf x).toNat)
      case atStart => exact ⟨0, rfl, Nat.zero_le _, Below.refl _ _⟩
      case round =>
        obtain ⟨i, rfl, hi, hbr⟩ := hrel
        rename World => wr
        by_cases hlt : i < N
        · have hbw := hbw3.trans (hbr.mono hbw3.size)
          have hzr := hbr.size
          obtain ⟨b, off, k, A2, m, c2, p, rfl, hbB, hd, c0, c1, hk, hp, hp8, hmc, hc2⟩ := HAT.out wr hbw i hlt
          obtain ⟨g, cap, x, hv, hg1, hg2, hx, hpay, d0, d1, d2, d3⟩ := pl_at (HPX.out.below hbr) hlt
          injection hv with hA1 _ hA3
          subst hA1 hA3
          have hxa := HXS.out i x _ hx hd
          obtain ⟨hxk, hxp, hxf, hxt⟩ : x.k = k ∧ x.p = p ∧ x.f = (frAll (ds.take i)).length ∧ x.t = (frAll (ds.take i)).length + (frS k p).length := by
            simp only [Ev.abs, Prod.mk.injEq] at hxa
            exact hxa
          have hpl := HD.out i _ hd
          simp only at hpl
          have hpm : p.length = m := hp.count
          have hm200 : m ≤ 200 := by omega
          have hbnd := frAll_bound ds HD.out i (by rw [HDN.out]; omega)
          have hfl2 := frS_length k p
          have hten := enc_ten (v := p.length) (by omega)
          obtain ⟨kx, px, Axx, cxx, fx, tx, rx'⟩ := x
          simp only at hxk hxp hxf hxt d0 d1 d2 d3
          subst hxk hxp
          obtain ⟨q2, hq2⟩ : ∃ q2, q2 = (frS kx px).length := ⟨_, rfl⟩
          have hsub : IntKind.i64.wrap ((tx : Int) - (fx : Int)) = (q2 : Int) := by rw [hxt, hxf, hq2]; rw [IntWalk.i64_in _ (by omega)]; omega
          have SM : Hid (∀ W : World, Below wr.heap.size wr W → Calls Tryd.prog 12 #[.agg #[.int .u8 (kx : Int), .slice Axx px.length cxx], .agg #[.int .u8 (kx : Int), .slice A2 m c2]] W fun e w' => e = .returned (.bool true) ∧ Below W.heap.size W w') := fun W hW => by
            have G := fsame_any wr.heap.size B kx kx Axx A2 px.length m cxx c2 px px W ((Rd.own hpay.1).below hW) (hp.below (hW.mono (by omega))) hpay.2.2 hp8 hW.size (by have := hW.size; omega)
            rw [show sameF (kx, px) (kx, px) = true from sameF_eq.2 rfl] at G
            exact G
          have SZ : Hid (∀ W : World, Calls Tryd.prog 11 #[.agg #[.int .u8 (kx : Int), .slice A2 m c2]] W fun e w' => e = .returned (.int .i64 (q2 : Int)) ∧ Below W.heap.size W w') := fun W => by
            have := fsize_any kx A2 m c2 W (by omega)
            rw [show 1 + (enc m).length + m + 4 = q2 by rw [hq2, hfl2, hpm]] at this
            exact this
          have S0 : Hid (∀ W : World, Below wr.heap.size wr W → W.cell? ⟨b, off + i * 2, none⟩ = some (.int .u8 (kx : Int)) ∧ W.cell? ⟨b, off + i * 2 + 1, none⟩ = some (.slice A2 m c2) ∧ W.cell? ⟨g, i * 4, none⟩ = some (.int .u8 (kx : Int)) ∧ W.cell? ⟨g, i * 4 + 1, none⟩ = some (.slice Axx px.length cxx) ∧
              W.cell? ⟨g, i * 4 + 2, none⟩ = some (.int .i64 (fx : Int)) ∧ W.cell? ⟨g, i * 4 + 3, none⟩ = some (.int .i64 (tx : Int))) := fun W hW =>
            ⟨(hW.cell (p := ⟨b, off + i * 2, none⟩) (by show b < _; omega)).trans c0, (hW.cell (p := ⟨b, off + i * 2 + 1, none⟩) (by show b < _; omega)).trans c1, (hW.cell (p := ⟨g, i * 4, none⟩) hg2).trans d0, (hW.cell (p := ⟨g, i * 4 + 1, none⟩) hg2).trans d1,
              (hW.cell (p := ⟨g, i * 4 + 2, none⟩) hg2).trans d2, (hW.cell (p := ⟨g, i * 4 + 3, none⟩) hg2).trans d3⟩
          have HBR := Lib_hid hbr
          clear hbr hbw hd c0 c1 hp hp8 hx hpay d0 d1 d2 d3 hxa hxf hxt hpm hfl2 hq2
          go_wp2
          go_region_held3 (fun W => W.cell? ⟨b, off + i * 2, none⟩ = some (.int .u8 (kx : Int)) ∧ W.cell? ⟨b, off + i * 2 + 1, none⟩ = some (.slice A2 m c2) ∧ W.cell? ⟨g, i * 4, none⟩ = some (.int .u8 (kx : Int)) ∧ W.cell? ⟨g, i * 4 + 1, none⟩ = some (.slice Axx px.length cxx) ∧ W.cell? ⟨g, i * 4 + 2, none⟩ = some (.int .i64 (fx : Int)) ∧ W.cell? ⟨g, i * 4 + 3, none⟩ = some (.int .i64 (tx : Int)))
            (first | exact S0.out _ (below_like (Below.refl _ _) rfl rfl rfl rfl) | exact S0.out _ hbs | exact S0.out _ hbt)
            ((first | (go_at_call 12; ((with_reducible refine (SM.out wr.drew (below_like (Below.refl _ _) rfl rfl rfl rfl)).mono ?_); rintro e ws ⟨rfl, hs'⟩; have hbs : Below wr.heap.size wr ws := ⟨hs'.os, hs'.tape, hs'.output, hs'.size, hs'.block⟩)) | (go_at_call 11; ((with_reducible refine (SZ.out ws).mono ?_); rintro e wt ⟨rfl, ht'⟩; have hbt := hbs.trans (ht'.mono hbs.size)))))
          all_goals
            have hb7 := HBR.out.trans (hbt.mono HBR.out.size)
            go_wp2
            first | exact ⟨⟨i + 1, by go_num, by omega, hb7⟩, by simp [intOf]; omega⟩ | (go_roundw; (case rel => exact ⟨i + 1, by go_num, by omega, hb7⟩); (case measure => simp [intOf]; omega))
        · obtain rfl : i = N := by omega
          clear hlt hi
          have hbw := hbw3.trans (hbr.mono hbw3.size)
          have hzr := hbr.size
          have SB := split_any B Ab nb cb lb wr (hT.below hbw hw0) (HRB.out wr hbw) HB8.out (by have := hbw.size; omega) (by omega)
          have hlb : lb.length = nb := (HRB.out wr hbw).count
          have HLB := Lib_hid hlb
          have HBR := Lib_hid hbr
          clear hbr hbw hlb
          go_wp2_with fail
          refine SB.mono ?_
          rintro e w4 ⟨vy, ys, ay, ry, rfl, hPy, hsy, hb4⟩
          have hbr4 := HBR.out.trans (hb4.mono HBR.out.size)
          have hz4 := hb4.size
          have hM : ys.length ≤ nb + 1 := by
            have h1 := evs_len lb (lb.length + 1) 0
            rw [show evs lb (lb.length + 1) 0 = splitS lb from rfl, hsy, HLB.out] at h1
            simpa using h1
          obtain ⟨Ay, cy, rfl, _⟩ := own_form hPy.row
          clear SB hb4
          go_upto_if 104 with (fail)
          go_cut [19] (fun _ wx => Below w3.heap.size w3 wx)
          case first =>
            by_cases hry : ry = 0
            · rw [hry] at hsy
              have hryb : ((ry : Int) == 0) = true := by rw [hry]; rfl
              obtain ⟨hback, hay⟩ := split_back HB8.out hsy
              have hnn : ((ay : Int) != (nb : Int)) = false := by rw [hay, HLB.out]; simp
              have hdd : (ys.map Ev.abs).map two = ys.map evD := by rw [List.map_map]; rfl
              rw [hdd] at hback
              obtain ⟨i25, hi2, hy0, hy1, hy2⟩ := info_parts Tryd.info25
              have HPY := Lib_hid hPy
              have HBK := Lib_hid hback
              clear hsy hdd hPy hback hay hry
              go_wp2
              go_loopw [19, 20] (fun a x wz => ∃ (i : Nat) (A : Option Addr) (c : Nat), a = .slice A i c ∧ x = .int .i64 i ∧ i ≤ ys.length ∧ wz.ownsRow w4.heap.size 25 2 (.slice A i c) i (frCells ((ys.map evF).take i)) ∧ Below w4.heap.size w4 wz) (fun _ x _ => ys.length - (intOf x).toNat)
              case atStart => exact ⟨0, none, 0, rfl, rfl, Nat.zero_le _, World.ownsRow_nil _ _ _ 2, Below.refl _ _⟩
              case round =>
                obtain ⟨i, A, c, rfl, rfl, hi, ho, hbz⟩ := hrel
                rename World => wz
                by_cases hlt : i < ys.length
                · obtain ⟨g, cap, x, hv, hg1, hg2, hx, hpay, d0, d1, d2, d3⟩ := pl_at (HPY.out.below hbz) hlt
                  injection hv with hA1 _ hA3
                  subst hA1 hA3
                  have htk := evF_take hx
                  have hnw : Rd (wz.alloc (.cells #[.int .u8 (x.k : Int), .slice x.A x.p.length x.c] 25)) (wz.heap.size + 1) 2 (some ⟨wz.heap.size, 0, none⟩) 1 (frCells [evF x]) := fr_in_row (cs := frCells [evF x]) (heap_alloc_new wz _) (by omega) rfl
                  have hm1 : i + 1 ≤ maxLen := by unfold maxLen; omega
                  have hm2 : (i + 1) * 32 ≤ 140737488355328 := by omega
                  have hsB : ∀ o, w4.heap.size ≤ (wz.alloc o).heap.size := by intro o; have := hbz.size; simp; omega
                  have HTK := Lib_hid htk
                  clear htk hx hpay d2 d3
                  go_wp2_with (at_builtin; (refine wpList_app rfl _ _ 22 rfl w4.heap.size 25 i25 (.agg #[.int .u8 0, .slice none 0 0]) 2 32 Tryd.underlying22 hi2 hy0 hy1 hy2 rfl (by decide) _ i _ rfl (ho.alloc _) (wz.heap.size + 1) (some ⟨wz.heap.size, 0, none⟩) 1 1 (frCells [evF x]) rfl hnw (fr_one _) hm1 hm2 (hsB _) ?_); intro v' wy hown' hst; obtain ⟨A5, c5, rfl, _⟩ := own_form hown')
                  rw [← HTK.out] at hown'
                  have hb5 := (hbz.alloc hbz.size (.cells #[.int .u8 (x.k : Int), .slice x.A x.p.length x.c] 25)).trans (hst.below (hsB _) (own_ge ho))
                  clear hst ho hbz hnw hsB d0 d1
                  go_wp2
                  go_roundw
                  case rel => exact ⟨i + 1, A5, c5, by simp, by go_num, by omega, hown', hb5⟩
                  case measure => simp [intOf]; omega
                · obtain rfl : i = ys.length := by omega
                  clear hlt hi
                  have hfv : (ys.map evF).take ys.length = ys.map evF := List.take_of_length_le (by rw [List.length_map]; exact Nat.le_refl _)
                  rw [hfv] at ho
                  have hbz3 := hbr4.trans (hbz.mono hbr4.size)
                  have hbzw := hbw3.trans (hbz3.mono hbw3.size)
                  have PB := fput_any wz.heap.size A ys.length c _ _ wz (hT.below hbzw hw0) (Rd.own ho) (ev_row (HPY.out.below hbz)) (Nat.le_refl _) (by omega) (by rw [HBK.out, HLB.out]; omega)
                  rw [HBK.out] at PB
                  have HPB2 := Lib_hid PB
                  clear PB ho hfv hbz
                  go_wp2_with fail
                  refine HPB2.out.mono ?_
                  rintro e w6 ⟨A6, c6, rfl, ho6, hb6⟩
                  have hbw6 := hbzw.trans (hb6.mono hbzw.size)
                  have hb36 := hbz3.trans (hb6.mono hbz3.size)
                  have SB2 := same_yes (c := c6) (c' := cb) lb w6 (Rd.own ho6) (HRB.out w6 hbw6) (by rw [HLB.out]; omega)
                  clear HPB2 ho6 hb6 hbw6
                  go_wp2_with fail
                  refine SB2.mono ?_
                  rintro e w7 ⟨rfl, qq, rfl⟩
                  clear SB2
                  go_wp2
                  go_meet
                  exact below_drew_ hb36
            · have hry2 : ((ry : Int) == 0) = false := by simp; omega
              go_wp2
              go_meet
              exact hbr4
          case rest =>
            rename World => wc
            have hbwc := hbw3.trans (hcut.mono hbw3.size)
            have hzc := hcut.size
            clear hbr4 hPy hsy hM
            by_cases hN0 : i = 0
            · subst hN0
              go_wp2_with fail
              refine (HWK.out _ hbwc).mono ?_
              rintro e w9 ⟨rfl, hb9⟩
              have hbw9 := hbwc.trans (hb9.mono hbwc.size)
              go_wp2_with fail
              go_ret
              exact ⟨rfl, hbw9⟩
            · have hN0' : ¬ ((i : Int) = 0) := by omega
              have hN0b : ((i : Int) == 0) = false := by simpa using hN0'
              have PK := pickm_any which i wc (by omega) (by omega)
              go_wp2_with fail
              refine PK.mono ?_
              rintro e w9 ⟨k, rfl, hk, rfl⟩
              clear PK
              obtain ⟨b, off, kk, A2, m, c2, p, rfl, hbB, hd, c0, c1, hkk, hp, hp8, hmc, hc2⟩ := HAT.out wc hbwc k hk
              obtain ⟨g, cap, x, hv, hg1, hg2, hx, hpay, d0, d1, d2, d3⟩ := pl_at (HPX.out.below hcut) hk
              injection hv with hA1 _ hA3
              subst hA1 hA3
              have hxa := HXS.out k x _ hx hd
              obtain ⟨kx, px, Axx, cxx, fx, tx, rx'⟩ := x
              simp only [Ev.abs, Prod.mk.injEq] at hxa
              obtain ⟨rfl, rfl, hxf, hxt⟩ := hxa
              simp only at d0 d1 d2 d3
              have hpl := HD.out k _ hd
              simp only at hpl
              have hpm : px.length = m := hp.count
              have hbnd := frAll_bound ds HD.out k (by rw [HDN.out]; omega)
              have hfl2 := frS_length kx px
              have hten := enc_ten (v := px.length) (by omega)
              have hpos := enc_pos px.length
              have htq : tx ≤ q := by
                rw [HQ.out, hxt]
                have h1 := frAll_take hd
                have h2 := frAll_le ds (k + 1)
                rw [h1, List.length_append] at h2
                exact h2
              obtain ⟨t4, ht4⟩ : ∃ t4, t4 = tx - 4 := ⟨_, rfl⟩
              obtain ⟨fst, hfst⟩ : ∃ fst, fst = t4 - m := ⟨_, rfl⟩
              obtain ⟨D, hD⟩ : ∃ D, D = tx - fst := ⟨_, rfl⟩
              have hf1 : fst = fx + 1 + (enc px.length).length := by omega
              have E4 : ((tx : Int) - 4) = (t4 : Int) := by omega
              have EF : ((t4 : Int) - (m : Int)) = (fst : Int) := by omega
              have ED : ((tx : Int) - (fst : Int)) = (D : Int) := by omega
              have hw1 : IntKind.i64.wrap (t4 : Int) = (t4 : Int) := IntWalk.i64_in _ (by omega)
              have hw1' : IntKind.i64.wrap ((tx : Int) - 4) = (t4 : Int) := by rw [E4]; exact hw1
              have hw2 : IntKind.i64.wrap ((t4 : Int) - (m : Int)) = (fst : Int) := by rw [EF]; exact IntWalk.i64_in _ (by omega)
              have hD0 : 0 < D := by omega
              have hD1 : D ≤ 1000 := by omega
              have hlt1 : fx ≤ fst := by omega
              have hfx : fx ≤ 2600 := by omega
              have htx : tx ≤ 2600 := by omega
              have hft : fst ≤ tx := by omega
              have hx25 : decide ((fst : Int) < (fx : Int)) = false := by simp; omega
              have hx26 : decide ((q : Int) < (tx : Int)) = false := by simp; omega
              have HE4 := Lib_hid E4
              have HEF := Lib_hid EF
              have HED := Lib_hid ED
              have HF1 := Lib_hid hf1
              have HT4 := Lib_hid ht4
              have HXF := Lib_hid hxf
              have HXT := Lib_hid hxt
              have HD1 := Lib_hid hd
              have HDD := Lib_hid hD
              have hbL : fst + D = tx := by omega
              have HBL := Lib_hid hbL
              have HFS := Lib_hid hfst
              have HPM := Lib_hid hpm
              have hopc := own_below hop3 hcut (own_lt hop3)
              have hhc := (hcut.block w.heap.size (Array.getElem?_eq_some_iff.1 hh3).1).trans hh3
              have HOPC := Lib_hid hopc
              have HHC := Lib_hid hhc
              have HC := Lib_hid hcut
              clear E4 EF ED hf1 ht4 hxf hxt hd hD hbL hfst hpm hfl2 hp hp8 hpay hx hopc hhc hcut hop3 hh3
              go_wp2
              go_quiet (fail)
              go_upto_region 27 with (fail)
              have ED := HED.out
              have PK2 := fun W => pickm_any at_ D W hD0 (by omega)
              have HPK2 := Lib_hid PK2
              clear PK2
              go_wp2_with fail
              refine (HPK2.out _).mono ?_
              rintro e w10 ⟨kp, rfl, hkp, rfl⟩
              clear ED HPK2
              obtain ⟨pl, hpl2⟩ : ∃ pl, pl = fst + kp := ⟨_, rfl⟩
              have EP : ((fst : Int) + (kp : Int)) = (pl : Int) := by omega
              have hplt : pl < tx := by have := HBL.out; omega
              have hpl3 : fst ≤ pl := by omega
              have HPL := Lib_hid hpl2
              clear hpl2
              go_upto_region 28 with (fail)
              clear EP
              have hgn : (Value.slice Ap q cp).ownBlock ≠ some g := fun e => ne_block HOPC.out (HPX.out.below HC.out).row (by decide) g e rfl
              have hT0 : TurnS w wc (wc.drewN nq) (frAll ds) (byf b0 b1 b2 b3) pl q g Ap cp 0 (frAll ds) false (.cells #[.int .u8 (b0 : Int), .int .u8 (b1 : Int), .int .u8 (b2 : Int), .int .u8 (b3 : Int)] 57 (0, 0)) :=
                ⟨own_keep HOPC.out fun _ _ => rfl, HQ.out.symm, HPB.out, fun z hz => by rw [if_neg (by omega)], by simp, rfl, HHC.out, below_drew_ hbwc⟩
              have HLB8 : Hid (∀ z, z < q → (frAll ds).getD z 0 < 256) := fun z hz => by
                rw [List.getD_eq_getElem?_getD, List.getElem?_eq_getElem (by rw [← HQ.out]; exact hz)]
                exact HPB.out _ (List.getElem_mem _)
              have HX2 : Hid (∀ W : World, W.heap[g]? = wc.heap[g]? → W.cell? ⟨g, k * 4 + 2, none⟩ = some (.int .i64 (fx : Int)) ∧ W.cell? ⟨g, k * 4 + 3, none⟩ = some (.int .i64 (tx : Int))) := fun W hW =>
                ⟨(World.cell?_of_block hW).trans d2, (World.cell?_of_block hW).trans d3⟩
              clear d0 d1 d2 d3 c0 c1
              go_wp2
              go_loopw [24, 25] (fun a x wz => ∃ (j : Nat) (m' : List Nat) (ch : Bool), a = .bool ch ∧ x = .int .i64 j ∧ j ≤ 4 ∧ pl + j ≤ tx ∧ TurnS w wc wz (frAll ds) (byf b0 b1 b2 b3) pl q g Ap cp j m' ch (.cells #[.int .u8 (b0 : Int), .int .u8 (b1 : Int), .int .u8 (b2 : Int), .int .u8 (b3 : Int)] 57 (0, 0))) (fun _ x _ => 4 - (intOf x).toNat)
              case atStart => exact ⟨0, frAll ds, false, rfl, rfl, by omega, by omega, hT0⟩
              case round =>
                obtain ⟨j, m', ch, rfl, rfl, hj4, hjt, hS⟩ := hrel
                rename World => wz
                have hx2 := HX2.out wz hS.gk
                have x2 := hx2.1
                have x3 := hx2.2
                clear hx2 hT0
                by_cases hgo : j < 4 ∧ pl + j < tx
                · obtain ⟨hj, hin⟩ := hgo
                  have hin' : (pl : Int) + (j : Int) < (tx : Int) := by omega
                  obtain ⟨gp, capp, hvp, hgp1, hgp2⟩ := hS.own.form (by omega)
                  injection hvp with hvp1 _ hvp3
                  subst hvp1
                  have hml := hS.len
                  have hyl := by_lt h0 h1 h2 h3 j hj
                  have hxl : m'.getD (pl + j) 0 < 256 := by
                    rw [List.getD_eq_getElem?_getD, List.getElem?_eq_getElem (by omega)]
                    exact hS.b8 _ (List.getElem_mem _)
                  have hcell : wz.cell? ⟨gp, pl + j, none⟩ = some (.int .u8 ((m'.getD (pl + j) 0 : Nat) : Int)) := by
                    rw [hS.own.cellAt _ (by omega), bs_get (by omega), List.getD_eq_getElem?_getD, List.getElem?_eq_getElem (by omega)]; rfl
                  have hfr := hS.own.frozenAt (pl + j)
                  have hby : wz.cell? ⟨w.heap.size, j, none⟩ = some (.int .u8 ((byf b0 b1 b2 b3 j : Nat) : Int)) := (cell_of_row wz _ j _ _ _ hS.bx).trans (by_cell b0 b1 b2 b3 j hj)
                  have ⟨hs1, hs2⟩ := hS.own.stored (pl + j) (.int .u8 ((m'.getD (pl + j) 0 ^^^ byf b0 b1 b2 b3 j : Nat) : Int))
                  rw [← bs_set] at hs1
                  have hgwz : g < wz.heap.size := by
                    have h1 := hS.gk
                    have h2 := (Array.getElem?_eq_some_iff.1 (h1.trans (Array.getElem?_eq_getElem hg2))).1
                    exact h2
                  have hS2 := hS.step (by omega) hyl HLB8.out hs1 hs2 hgwz hgn
                  have HV := Lib_hid (xor_two hxl hyl)
                  have HS2 := Lib_hid hS2
                  have hyc : byf b0 b1 b2 b3 j = 0 ∨ byf b0 b1 b2 b3 j ≠ 0 := by omega
                  have HX2' := HX2
                  clear hS hS2 hs1 hs2 hvp3 hml
                  generalize m'.getD (pl + j) 0 = x at *
                  generalize hye : byf b0 b1 b2 b3 j = y at *
                  have HYE := Lib_hid hye
                  clear hye
                  go_wp2
                  go_region
                  rw [HV.out]
                  have hS3 := HS2.out.like (w' := (wz.setCell ⟨gp, pl + j, none⟩ (.int .u8 ((x ^^^ y : Nat) : Int))).drew) rfl rfl rfl rfl
                  generalize (wz.setCell ⟨gp, pl + j, none⟩ (.int .u8 ((x ^^^ y : Nat) : Int))).drew = w9 at *
                  have hby9 : w9.cell? ⟨w.heap.size, j, none⟩ = some (.int .u8 (y : Int)) := by rw [← HYE.out]; exact (cell_of_row w9 _ j _ _ _ hS3.bx).trans (by_cell b0 b1 b2 b3 j hj)
                  clear hcell hfr hby x2 x3 HS2 HV
                  cases ch with
                  | true =>
                    rw [show (true || (y != 0)) = true from rfl] at hS3
                    go_wp2
                    first | exact ⟨⟨j + 1, _, true, by simp, by go_num, by omega, by omega, hS3⟩, by simp [intOf]; omega⟩ | (go_roundw; (case rel => exact ⟨j + 1, _, true, by simp, by go_num, by omega, by omega, hS3⟩); (case measure => simp [intOf]; omega))
                  | false =>
                    rcases hyc with hy | hy
                    · rw [show (false || (y != 0)) = false by simp [hy]] at hS3
                      have hyb : ((y : Int) != 0) = false := by simp; omega
                      go_wp2
                      first | exact ⟨⟨j + 1, _, false, by simp, by go_num, by omega, by omega, hS3⟩, by simp [intOf]; omega⟩ | (go_roundw; (case rel => exact ⟨j + 1, _, false, by simp, by go_num, by omega, by omega, hS3⟩); (case measure => simp [intOf]; omega))
                    · rw [show (false || (y != 0)) = true by simp [hy]] at hS3
                      have hyb : ((y : Int) != 0) = true := by simp; omega
                      go_wp2
                      first | exact ⟨⟨j + 1, _, true, by simp, by go_num, by omega, by omega, hS3⟩, by simp [intOf]; omega⟩ | (go_roundw; (case rel => exact ⟨j + 1, _, true, by simp, by go_num, by omega, by omega, hS3⟩); (case measure => simp [intOf]; omega))
                · have hend : ∀ z, pl ≤ z ∧ z < pl + j ↔ pl ≤ z ∧ z < pl + 4 ∧ z < tx := fun z => by omega
                  have hmg : ∀ z, z < m'.length → m'.getD z 0 = if pl ≤ z ∧ z < pl + 4 ∧ z < tx then (frAll ds).getD z 0 ^^^ byf b0 b1 b2 b3 (z - pl) else (frAll ds).getD z 0 := fun z hz => by
                    rw [hS.get z (by have := hS.len; omega)]
                    by_cases hz2 : pl ≤ z ∧ z < pl + j
                    · rw [if_pos hz2, if_pos ((hend z).1 hz2)]
                    · rw [if_neg hz2, if_neg (fun e => hz2 ((hend z).2 e))]
                  have TB : ∀ (hch : ch = true) (hns : pl + 3 < tx - 4 ∨ tx - 4 ≤ pl), splitS m' = (plOf 0 (ds.take k), fx, 3) := fun hch hns => by
                    obtain ⟨i0, hi1, hi2⟩ := hS.chg.1 hch
                    rw [HXF.out]
                    rw [HXT.out] at hmg hns hplt hjt
                    refine turned_bad HBD.out HD1.out pl (byf b0 b1 b2 b3) (by rw [hS.len]; exact HQ.out) hS.b8 ?_ (by omega) hmg ⟨i0, by omega, by omega, hi2⟩ hns
                    rw [← HXF.out, ← HF1.out]; exact hpl3
                  have HTB := Lib_hid TB
                  have hbwz := hS.below
                  have WK := HWK.out wz hbwz
                  have HS := Lib_hid hS
                  have hgo' : (j : Int) < 4 → ¬ ((pl : Int) + (j : Int) < (tx : Int)) := fun h1 h2 => hgo ⟨by omega, by omega⟩
                  have hgwz : g < wz.heap.size := (Array.getElem?_eq_some_iff.1 (hS.gk.trans (Array.getElem?_eq_getElem hg2))).1
                  clear hend hmg TB hS
                  by_cases hj5 : (j : Int) < 4
                  · have hj6 := hgo' hj5
                    have hj7 : (tx : Int) ≤ (pl : Int) + (j : Int) := by omega
                    clear hgo hgo'
                    cases ch with
                    | false =>
                      go_wp2_with fail
                      refine WK.mono ?_
                      rintro e w11 ⟨rfl, hb11⟩
                      have hbw11 := hbwz.trans (hb11.mono hbwz.size)
                      go_wp2_with fail
                      go_ret
                      exact ⟨rfl, hbw11⟩
                    | true =>
                      have hA' : decide (pl < t4) = false := by have := HT4.out; simp; omega
                      have NS : pl + 3 < tx - 4 ∨ tx - 4 ≤ pl := by omega
                      have HNS := HTB.out rfl NS
                      have SPL := split_any wz.heap.size Ap q cp m' wz (hT.below hbwz hw0) (Rd.own HS.out.own) HS.out.b8 (Nat.le_refl _) (by omega)
                      have HSPL := Lib_hid SPL
                      have HHNS := Lib_hid HNS
                      clear SPL HNS WK NS
                      go_wp2_with fail
                      refine HSPL.out.mono ?_
                      rintro e w11 ⟨vz, zs, az, rz, rfl, hPz, hsz, hb11⟩
                      rw [HHNS.out] at hsz
                      simp only [Prod.mk.injEq] at hsz
                      obtain ⟨_, hz1, hz2⟩ := hsz
                      subst hz1 hz2
                      obtain ⟨Az, cz, rfl, _⟩ := own_form hPz.row
                      have x2' := (hb11.cell (p := ⟨g, k * 4 + 2, none⟩) hgwz).trans x2
                      have hbw11 := hbwz.trans (hb11.mono hbwz.size)
                      have WK2 := HWK.out w11 hbw11
                      clear hPz hb11 HSPL HHNS x2 x3
                      go_wp2_with fail
                      refine WK2.mono ?_
                      rintro e w12 ⟨rfl, hb12⟩
                      have hbw12 := hbw11.trans (hb12.mono hbw11.size)
                      go_wp2_with fail
                      go_ret
                      exact ⟨rfl, hbw12⟩
                  · have hj7 : (4 : Int) ≤ (j : Int) := by omega
                    clear hgo hgo'
                    cases ch with
                    | false =>
                      go_wp2_with fail
                      refine WK.mono ?_
                      rintro e w11 ⟨rfl, hb11⟩
                      have hbw11 := hbwz.trans (hb11.mono hbwz.size)
                      go_wp2_with fail
                      go_ret
                      exact ⟨rfl, hbw11⟩
                    | true =>
                      by_cases hA : pl < tx - 4
                      · have hA' : decide (pl < t4) = true := by have := HT4.out; simp; omega
                        by_cases hB2 : tx - 4 ≤ pl + 3
                        · have hB' : decide ((t4 : Int) ≤ (pl : Int) + 3) = true := by have := HT4.out; simp; omega
                          clear hA hB2
                          go_wp2_with fail
                          refine WK.mono ?_
                          rintro e w11 ⟨rfl, hb11⟩
                          have hbw11 := hbwz.trans (hb11.mono hbwz.size)
                          go_wp2_with fail
                          go_ret
                          exact ⟨rfl, hbw11⟩
                        · have hB' : decide ((t4 : Int) ≤ (pl : Int) + 3) = false := by have := HT4.out; simp; omega
                          have NS : pl + 3 < tx - 4 ∨ tx - 4 ≤ pl := by omega
                          clear hA hB2
                          have HNS := HTB.out rfl NS
                          have SPL := split_any wz.heap.size Ap q cp m' wz (hT.below hbwz hw0) (Rd.own HS.out.own) HS.out.b8 (Nat.le_refl _) (by omega)
                          have HSPL := Lib_hid SPL
                          have HHNS := Lib_hid HNS
                          clear SPL HNS WK NS
                          go_wp2_with fail
                          refine HSPL.out.mono ?_
                          rintro e w11 ⟨vz, zs, az, rz, rfl, hPz, hsz, hb11⟩
                          rw [HHNS.out] at hsz
                          simp only [Prod.mk.injEq] at hsz
                          obtain ⟨_, hz1, hz2⟩ := hsz
                          subst hz1 hz2
                          obtain ⟨Az, cz, rfl, _⟩ := own_form hPz.row
                          have x2' := (hb11.cell (p := ⟨g, k * 4 + 2, none⟩) hgwz).trans x2
                          have hbw11 := hbwz.trans (hb11.mono hbwz.size)
                          have WK2 := HWK.out w11 hbw11
                          clear hPz hb11 HSPL HHNS x2 x3
                          go_wp2_with fail
                          refine WK2.mono ?_
                          rintro e w12 ⟨rfl, hb12⟩
                          have hbw12 := hbw11.trans (hb12.mono hbw11.size)
                          go_wp2_with fail
                          go_ret
                          exact ⟨rfl, hbw12⟩
                      · have NS : pl + 3 < tx - 4 ∨ tx - 4 ≤ pl := by omega
                        have hA' : decide (pl < t4) = false := by have := HT4.out; simp; omega
                        clear hA
                        have HNS := HTB.out rfl NS
                        have SPL := split_any wz.heap.size Ap q cp m' wz (hT.below hbwz hw0) (Rd.own HS.out.own) HS.out.b8 (Nat.le_refl _) (by omega)
                        have HSPL := Lib_hid SPL
                        have HHNS := Lib_hid HNS
                        clear SPL HNS WK NS
                        go_wp2_with fail
                        refine HSPL.out.mono ?_
                        rintro e w11 ⟨vz, zs, az, rz, rfl, hPz, hsz, hb11⟩
                        rw [HHNS.out] at hsz
                        simp only [Prod.mk.injEq] at hsz
                        obtain ⟨_, hz1, hz2⟩ := hsz
                        subst hz1 hz2
                        obtain ⟨Az, cz, rfl, _⟩ := own_form hPz.row
                        have x2' := (hb11.cell (p := ⟨g, k * 4 + 2, none⟩) hgwz).trans x2
                        have hbw11 := hbwz.trans (hb11.mono hbwz.size)
                        have WK2 := HWK.out w11 hbw11
                        clear hPz hb11 HSPL HHNS x2 x3
                        go_wp2_with fail
                        refine WK2.mono ?_
                        rintro e w12 ⟨rfl, hb12⟩
                        have hbw12 := hbw11.trans (hb12.mono hbw11.size)
                        go_wp2_with fail
                        go_ret
                        exact ⟨rfl, hbw12⟩
    · have hn3 : (1500 : Int) < (nb : Int) := by omega
      go_wp2_with fail
      refine (HWK.out _ hB0).mono ?_
      rintro e w1 ⟨rfl, hb1⟩
      have hbw := hB0.trans (hb1.mono hB0.size)
      go_wp2_with fail
      go_ret
      exact ⟨rfl, hbw⟩

end Go.Proofs.YtedglcbeheeonaaDoor
