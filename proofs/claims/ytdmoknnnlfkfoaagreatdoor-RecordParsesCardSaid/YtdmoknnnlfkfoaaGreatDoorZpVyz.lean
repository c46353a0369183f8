/-
  Layer 5: SpoilRecord, over a record in memory of its own.
  Layer 5: numbers, the document's.
  Layer 5: a frame as the document has it, and whether two such are the same (what stage 3's Eqb and Fdo say, for a program without their functions).
  Layer 5: Put, the document's.
  Layer 5: a version's text, whether it is unborn, versions' order: the program's.
  Layer 5: a part's words: the program's.
  Layer 5: the entries' words: the program's.
  Layer 5: Text, the program's.
  Layer 5: whether two records are the same: the program's.
  Layer 5: the statements' FewRecord.
  Layer 5: works: the chapter's examples.
  A region that draws its order, with guards, by what holds of each operation's value (an operation that isn't wanted gives undef). No program is named here.
  Layer 5: RecordPuts: what its walk needs.
  Layer 5: what was put and parsed, told and read, plainly.
-/
import Derived.Test.YtdmoknnnlfkfoaaGreatDoorZpVyw
import Derived.StillTailTactics
import Derived.Test.YtdmoknnnlfkfoaaGreatDoorZpVsb
import Derived.Test.YtdmoknnnlfkfoaaGreatDoorZpTko
import Derived.Test.YtdmoknnnlfkfoaaGreatDoorZpRead
import Derived.Laws.BytesString
import Derived.Lib.Strings
import Derived.Lib.SliceRun
import Derived.Lib.Walk
import Derived.WalkSpells
import Derived.Laws.StructEq
import Derived.Test.YtdmoknnnlfkfoaaGreatDoorZpInz
import Derived.Test.YtdmoknnnlfkfoaaGreatDoorZpVpw
import Derived.Test.YtdmoknnnlfkfoaaGreatDoorZpTdq
import Derived.Test.YtdmoknnnlfkfoaaGreatDoorZpVpm
import Derived.Test.YtdmoknnnlfkfoaaGreatDoorZpVlo
import Derived.Test.YtdmoknnnlfkfoaaGreatDoorZpVcm
import Derived.Test.YtdmoknnnlfkfoaaGreatDoorZpIny
import Derived.Test.YtdmoknnnlfkfoaaGreatDoorZpUsl
import Derived.Test.YtdmoknnnlfkfoaaGreatDoorZpInq
import Derived.Test.YtdmoknnnlfkfoaaGreatDoorZpInr
import Derived.Test.YtdmoknnnlfkfoaaGreatDoorZpTse
import Derived.Deep.RegionHeld3
import Derived.Test.YtdmoknnnlfkfoaaGreatDoorZpTcf
import Derived.Test.YtdmoknnnlfkfoaaGreatDoorZpVdc
import Derived.Test.YtdmoknnnlfkfoaaGreatDoorZpVcv
import Derived.Test.YtdmoknnnlfkfoaaGreatDoorZpVzj

namespace Go.Proofs.YtdmoknnnlfkfoaaGreatDoor
open Go Go.RowKit
set_option linter.unusedVariables false
theorem enCells_set0 : ∀ (es : List En) (i : Nat) (e : En) (x : Nat), es[i]? = some e → (enCells es).set (i * 4) (.int .u64 (x : Int)) = enCells (es.set i ⟨x, e.w, e.n, e.m⟩)
  | [], i, e, x, h => by simp at h
  | y :: es, 0, e, x, h => by
    obtain rfl : y = e := by simpa using h
    simp [enCells, En.cells]
  | y :: es, i + 1, e, x, h => by
    have ih := enCells_set0 es i e x (by simpa using h)
    show (y.cells ++ enCells es).set ((i + 1) * 4) _ = y.cells ++ enCells (es.set i _)
    have hy : y.cells.length = 4 := rfl
    rw [List.set_append_right _ _ (by omega), hy, show (i + 1) * 4 - 4 = i * 4 by omega, ih]
theorem enCells_set3 : ∀ (es : List En) (i : Nat) (e : En) (m : Bool), es[i]? = some e → (enCells es).set (i * 4 + 3) (.bool m) = enCells (es.set i ⟨e.x, e.w, e.n, m⟩)
  | [], i, e, m, h => by simp at h
  | y :: es, 0, e, m, h => by
    obtain rfl : y = e := by simpa using h
    simp [enCells, En.cells]
  | y :: es, i + 1, e, m, h => by
    have ih := enCells_set3 es i e m (by simpa using h)
    show (y.cells ++ enCells es).set ((i + 1) * 4 + 3) _ = y.cells ++ enCells (es.set i _)
    have hy : y.cells.length = 4 := rfl
    rw [List.set_append_right _ _ (by omega), hy, show (i + 1) * 4 + 3 - 4 = i * 4 + 3 by omega, ih]
set_option maxRecDepth 100000 in
set_option maxHeartbeats 3200000 in
theorem spoilrec_any (r : Rv) (w : World) (lo : Nat) (h : SpR lo r w) (hct : r.p.abs.count ≤ 1000) (hes : r.es.length ≤ 1000000) (hlo : lo ≤ w.heap.size) :
    Calls Tryz.prog 11 #[r.val] w fun e w' => e = .returned (.tuple #[]) ∧ Below lo w w' := by
  obtain ⟨l1, w0, h1, h2, h3, h4, h5, h6, h7⟩ := h
  obtain ⟨k, t, x, wn, nn, v, p, Ae, ce, es⟩ := r
  have hx1 := heap_alloc_new w (.cells (Rv.mk k t x wn nn v p Ae ce es).arr 47)
  have hb1 := below_new w (.cells (Rv.mk k t x wn nn v p Ae ce es).arr 47)
  obtain ⟨w1, hw1⟩ : ∃ w1, w1 = w.alloc (.cells (Rv.mk k t x wn nn v p Ae ce es).arr 47) := ⟨_, rfl⟩
  rw [← hw1] at hx1 hb1
  have hl1 : l1 ≤ w1.heap.size := Nat.le_trans h2 hb1.size
  have SP := spoil_expr p w0 w1 l1 p.kind p.a p.b h4 (h5.under hb1) (Nat.le_trans h3 hb1.size) hl1 hct
  have hown1 := own_below h6 hb1 (own_lt h6)
  have HLT : Hid (∀ j, (Value.slice Ae es.length ce).ownBlock = some j → j < w.heap.size ∧ lo ≤ j ∧ (j < l1 ∨ w0.heap.size ≤ j)) := fun j hj => ⟨own_lt h6 j hj, own_ge h6 j hj, h7 j hj⟩
  have hcap := own_cap h6
  have HW0 : Hid (w0.heap.size ≤ w.heap.size ∧ lo ≤ l1 ∧ lo ≤ w.heap.size) := ⟨h3, h1, hlo⟩
  simp only [Rv.val, Rv.arr, Rv.sl, V.sl] at hx1 SP hw1 ⊢
  clear h4 h5 h6 h7 hct h3 h1
  generalize p.addr = pA at *
  generalize p.parts.length = pn at *
  generalize p.cap = pc at *
  generalize p.kind = pk at *
  generalize (p.a : Int) = pa at *
  generalize (p.b : Int) = pb at *
  go_enter Tryz.func11, Tryz.ntmps11
  go_upto_region 1 with (fail)
  rw [← hw1]
  clear hw1
  obtain ⟨c0, c1, c2, c3, c4, c5, c6, c7, c8, c9, c10⟩ := rec_cells hx1
  go_wp2_with fail
  refine SP.mono ?_
  rintro e w2 ⟨rfl, hs⟩
  have hsz1 : w.heap.size < w1.heap.size := lt_of_block hx1
  have hx2 := (hs.keep w.heap.size hsz1 (by have := HW0.out; omega)).trans hx1
  have hown2 := own_keep hown1 (w' := w2) fun j hj => hs.keep j (by have := (HLT.out j hj).1; omega) (HLT.out j hj).2.2
  have hb2 : Below lo w w2 := (hb1.mono hlo).trans (hs.below.mono HW0.out.2.1)
  clear SP c0 c1 c2 c3 c4 c5 c6 c7 c8 c9 c10 hs hown1 hx1 hb1
  obtain ⟨en, hen⟩ : ∃ en, en = es.length := ⟨_, rfl⟩
  rw [← hen] at hx2 hown2 HLT hes hcap
  have HEN := Lib_hid hen
  clear hen
  go_wp2
  go_loopw [2] (fun z wr => ∃ (i : Nat) (fs : List En), z = .int .i64 i ∧ i ≤ en ∧ Hid (fs.length = en) ∧ wr.heap[w.heap.size]? = some (.cells #[.int .i64 k, .int .u64 (t : Int), .int .u64 (x : Int), .int .u64 (wn : Int), .int .u64 (nn : Int), .int .u64 (v : Int), .int .i64 pk, .int .u64 pa, .int .u64 pb, .slice pA pn pc, .slice Ae en ce] 47 (0, 0)) ∧
    wr.ownsRow lo 67 4 (.slice Ae en ce) en (enCells fs) ∧ Below lo w wr) (fun z _ => en - (intOf z).toNat)
  case atStart => exact ⟨0, es, rfl, Nat.zero_le _, HEN.out.symm, hx2, hown2, hb2⟩
  case round =>
    clear hx2 hown2 hb2
    obtain ⟨i, fs, rfl, hi1, hfl, hxr, hown, hbr⟩ := hrel
    have c10 : wr.cell? ⟨w.heap.size, 10, none⟩ = some (.slice Ae en ce) := cell_of_row wr _ 10 _ _ _ hxr
    by_cases hlt : i < en
    · obtain ⟨g, cap, hv, hgw, hgl⟩ := hown.form (by omega)
      have hA : Ae = some ⟨g, 0, none⟩ := by injection hv
      subst hA
      obtain ⟨e, he⟩ : ∃ e, fs[i]? = some e := ⟨_, List.getElem?_eq_getElem (by rw [hfl.out]; exact hlt)⟩
      have hgx : g < w.heap.size := (HLT.out g rfl).1
      have hc : ∀ j u, j < 4 → e.cells[j]? = some u → wr.cell? ⟨g, i * 4 + j, none⟩ = some u := fun j u hj hu => by
        rw [hown.cellAt (i * 4 + j) (by omega), enCells_get fs i j e he hj]; exact hu
      have d0 : wr.cell? ⟨g, i * 4, none⟩ = some (.int .u64 (e.x : Int)) := hc 0 _ (by omega) rfl
      have z0 := hown.frozenAt (i * 4)
      obtain ⟨nx, hnx⟩ : ∃ nx : Nat, IntKind.u64.wrap ((e.x : Int) + 1) = (nx : Int) := ⟨(IntKind.u64.wrap ((e.x : Int) + 1)).toNat, by
        have h : 0 ≤ IntKind.u64.wrap ((e.x : Int) + 1) := by
          have e1 : IntKind.u64.wrap ((e.x : Int) + 1) = ((e.x : Int) + 1) % 18446744073709551616 := rfl
          rw [e1]
          omega
        omega⟩
      have ST := hown.stored (i * 4) (.int .u64 (nx : Int))
      rw [enCells_set0 fs i e nx he] at ST
      have he2 : (fs.set i ⟨nx, e.w, e.n, e.m⟩)[i]? = some ⟨nx, e.w, e.n, e.m⟩ := by rw [List.getElem?_set_self (by rw [hfl.out]; exact hlt)]
      have d3 : (wr.setCell ⟨g, i * 4, none⟩ (.int .u64 (nx : Int))).cell? ⟨g, i * 4 + 3, none⟩ = some (.bool e.m) := by
        rw [ST.1.cellAt (i * 4 + 3) (by omega), enCells_get _ i 3 _ he2 (by omega)]; rfl
      have z3 := ST.1.frozenAt (i * 4 + 3)
      have hx3 := (Below.heap_setCell wr ⟨g, i * 4, none⟩ (.int .u64 (nx : Int)) w.heap.size (by show w.heap.size ≠ g; omega)).trans hxr
      have ST2 := ST.1.stored (i * 4 + 3) (.bool (!e.m))
      rw [enCells_set3 _ i _ (!e.m) he2] at ST2
      have HST := Lib_hid (And.intro ST ST2)
      have hb3 := hbr.setCell (p := ⟨g, i * 4, none⟩) hgw (.int .u64 (nx : Int))
      have hgl2 : g < (wr.setCell ⟨g, i * 4, none⟩ (.int .u64 (nx : Int))).heap.size := by simpa [World.setCell] using hgl
      have hx4 := (Below.heap_setCell (wr.setCell ⟨g, i * 4, none⟩ (.int .u64 (nx : Int))) ⟨g, i * 4 + 3, none⟩ (.bool (!e.m)) w.heap.size (by show w.heap.size ≠ g; omega)).trans hx3
      have hb4 := hb3.setCell (p := ⟨g, i * 4 + 3, none⟩) hgw (.bool (!e.m))
      have HX4 := Lib_hid (And.intro hx4 (And.intro hb4 ST2.1))
      have HFL : Hid (((fs.set i ⟨nx, e.w, e.n, e.m⟩).set i ⟨nx, e.w, e.n, !e.m⟩).length = en) := Lib_hid (by rw [List.length_set, List.length_set]; exact hfl.out)
      have hlen4 : i * 4 + 3 < 9223372036854775807 := by have := hcap; omega
      clear ST ST2 hc he he2 hown hb3 hb4 hx4 hbr HST hv
      go_upto_region 6 with (fail)
      have c10' : (wr.setCell ⟨g, i * 4, none⟩ (.int .u64 (nx : Int))).cell? ⟨w.heap.size, 10, none⟩ = some (.slice (some ⟨g, 0, none⟩) en ce) := cell_of_row _ _ 10 _ _ _ hx3
      generalize hW3 : wr.setCell ⟨g, i * 4, none⟩ (.int .u64 (nx : Int)) = w3 at *
      have hii : (i : Int) < (en : Int) := by omega
      have hi0 : (0 : Int) ≤ (i : Int) := by omega
      clear c10 d0 z0 hxr hx3 hW3
      go_wp2
      go_still_tail 12, (by kernel_rfl)
      go_wp2
      go_roundw
      case rel => exact ⟨i + 1, _, by go_num, by omega, HFL, HX4.out.1, own_keep HX4.out.2.2 fun _ _ => rfl, below_drew_ HX4.out.2.1 (n := 1)⟩
      case measure => simp [intOf]; omega
    · obtain rfl : i = en := by omega
      go_wp2
      go_end0
      exact ⟨rfl, hbr⟩
end Go.Proofs.YtdmoknnnlfkfoaaGreatDoor

namespace Go.Proofs.YtdmoknnnlfkfoaaGreatDoor
open Go Go.RowKit
set_option linter.unusedVariables false
end Go.Proofs.YtdmoknnnlfkfoaaGreatDoor

namespace Go.Proofs.YtdmoknnnlfkfoaaGreatDoor
open Go Go.RowKit
set_option linter.unusedVariables false
def strb (l : List Nat) : ByteArray := ⟨(l.map fun (n : Nat) => UInt8.ofNat n).toArray⟩
theorem strb_inj {l m : List Nat} (hl : ∀ x ∈ l, x < 256) (hm : ∀ x ∈ m, x < 256) (h : (strb l).data.toList = (strb m).data.toList) : l = m := by
  simp only [strb] at h
  induction l generalizing m with
  | nil => cases m <;> simp_all
  | cons a l ih =>
    cases m with
    | nil => simp at h
    | cons b m =>
      simp only [List.map_cons, List.cons.injEq] at h
      have hab : a = b := by
        have := congrArg UInt8.toNat h.1
        simp only [UInt8.toNat_ofNat'] at this
        have h1 := hl a (by simp)
        have h2 := hm b (by simp)
        omega
      rw [hab, ih (m := m) (fun x hx => hl x (by simp [hx])) (fun x hx => hm x (by simp [hx])) h.2]
theorem push_bytes : ∀ (l : List Nat) (s : ByteArray), (l.map fun (n : Nat) => (n : Int)).foldl (fun r n => r.push (UInt8.ofNat n.toNat)) s = ⟨s.data ++ (l.map fun (n : Nat) => UInt8.ofNat n).toArray⟩
  | [], s => by simp
  | n :: ns, s => by
    rw [List.map_cons, List.foldl_cons, push_bytes ns]
    simp [ByteArray.push]
theorem run_loadCells_rd {P : Program} {w : World} {B n : Nat} {ad : Addr} {l : List Nat} (h : Rd w B 1 (some ad) n (bs l)) : (loadCells ad n).run P w = .ok ((l.map fun (n : Nat) => (n : Int)).map (Value.int .u8)).toArray w := by
  have hc := h.count
  have := run_loadCells_list (P := P) w ad (bs l) (fun j v hj => by
    have hjl : j < l.length := by
      rcases Nat.lt_or_ge j l.length with h | h
      · exact h
      · rw [List.getElem?_eq_none (by rw [bs_length]; exact h)] at hj; cases hj
    obtain ⟨ad', e, _, hc'⟩ := h.lies (by omega)
    injection e with e
    subst e
    exact hc' j v hj)
  rw [bs_length, hc] at this
  rw [this]
  simp [bs]
theorem run_str {w : World} {B n c : Nat} {A : Option Addr} {l : List Nat} (h : Rd w B 1 A n (bs l)) (hc : A = none → n = 0) :
    (convert 22 9 (.slice A n c)).run Tryz.prog w = .ok (.string (strb l)) w := by
  rw [run_convert_bytes_string w 22 9 5 A n c Tryz.underlying22 Tryz.underlying5 Tryz.underlying9]
  cases A with
  | none =>
    have : l = [] := List.eq_nil_of_length_eq_zero (by rw [h.count]; exact hc rfl)
    subst this
    simp [Conv.bytesToString, strb, ByteArray.empty, ByteArray.emptyWithCapacity]
    rfl
  | some ad =>
    rw [run_bytesToString w ad n c _ (run_loadCells_rd h), push_bytes]
    simp [strb, ByteArray.empty, ByteArray.emptyWithCapacity]
    rfl
theorem rd_none {w : World} {B n size : Nat} {A : Option Addr} {xs : List Value} (h : Rd w B size A n xs) : A = none → n = 0 := by
  intro e
  rcases Nat.eq_zero_or_pos n with h0 | h0
  · exact h0
  · obtain ⟨ad, e2, _⟩ := h.lies h0
    rw [e] at e2; cases e2
def dfv (k : Nat) (p : List Nat) : Value := .agg #[.int .u8 (k : Int), .string (str p)]
set_option maxRecDepth 100000 in
theorem dframe_any (B k : Nat) (A : Option Addr) (n c : Nat) (p : List Nat) (w : World) (h : Rd w B 1 A n (bs p)) (hB : B ≤ w.heap.size) :
    Calls Tryz.prog 6 #[.agg #[.int .u8 (k : Int), .slice A n c]] w fun e w' => e = .returned (dfv k p) ∧ Below w.heap.size w w' := by
  have hs := fun (W : World) (hW : Below w.heap.size w W) => run_str (c := c) (h.below (hW.mono hB)) (rd_none h)
  have h1 := below_new w (.cells #[.int .u8 (k : Int), .slice A n c] 24)
  have h2 := h1.alloc h1.size (.cells #[.int .u8 0, .string ⟨#[]⟩] 27)
  have hs2 := hs _ h2
  have HS := Lib_hid hs
  clear hs h
  unfold dfv
  rw [show str p = strb p from rfl]
  generalize strb p = s at *
  go_enter Tryz.func6, Tryz.ntmps6
  go_wp2
  exact bodyPost_ret (v := .agg #[.int .u8 (k : Int), .string s]) (by simp [results, Tryz.results6, go_sem]) rfl ⟨rfl, (below_new w _).alloc (by simp) _⟩
theorem str_beq {l m : List Nat} (hl : ∀ x ∈ l, x < 256) (hm : ∀ x ∈ m, x < 256) : ((str l).toList == (str m).toList) = eqB l m := by
  rw [Bool.eq_iff_iff]
  unfold eqB
  rw [beq_iff_eq, decide_eq_true_iff]
  exact ⟨fun e => strb_inj hl hm (by rw [← Lib.toList_data, ← Lib.toList_data]; exact e), fun e => by rw [e]⟩
end Go.Proofs.YtdmoknnnlfkfoaaGreatDoor

namespace Go.Proofs.YtdmoknnnlfkfoaaGreatDoor
open Go Go.RowKit
set_option linter.unusedVariables false
def frD (r : Rc) : Nat × List Nat := if r.rightB then (r.kind.toNat, r.stand) else (0, [])
def erD (r : Rc) : Nat := if r.rightB then 0 else 50
end Go.Proofs.YtdmoknnnlfkfoaaGreatDoor

namespace Go.Proofs.YtdmoknnnlfkfoaaGreatDoor
open Go Go.RowKit
set_option linter.unusedVariables false
end Go.Proofs.YtdmoknnnlfkfoaaGreatDoor

namespace Go.Proofs.YtdmoknnnlfkfoaaGreatDoor
open Go Go.RowKit
set_option linter.unusedVariables false
end Go.Proofs.YtdmoknnnlfkfoaaGreatDoor

namespace Go.Proofs.YtdmoknnnlfkfoaaGreatDoor
open Go Go.RowKit
set_option linter.unusedVariables false
end Go.Proofs.YtdmoknnnlfkfoaaGreatDoor

namespace Go.Proofs.YtdmoknnnlfkfoaaGreatDoor
open Go Go.RowKit
set_option linter.unusedVariables false
end Go.Proofs.YtdmoknnnlfkfoaaGreatDoor

namespace Go.Proofs.YtdmoknnnlfkfoaaGreatDoor
open Go Go.RowKit
set_option linter.unusedVariables false
end Go.Proofs.YtdmoknnnlfkfoaaGreatDoor

namespace Go.Proofs.YtdmoknnnlfkfoaaGreatDoor
open Go Go.RowKit
set_option linter.unusedVariables false
end Go.Proofs.YtdmoknnnlfkfoaaGreatDoor

namespace Go.Proofs.YtdmoknnnlfkfoaaGreatDoor
open Go Go.RowKit
set_option linter.unusedVariables false
def r1X : Rc := ⟨2, 7, 300, 2, 1, 0, .node 0 0 0 [], []⟩
def r2X : Rc := ⟨5, 1, 0, 0, 0, 0, .node 1 0 0 [], [⟨5, 0, 0, false⟩]⟩
theorem r1X_right : r1X.rightB = true := by rfl
theorem r2X_right : r2X.rightB = true := by rfl
theorem enc_one {n : Nat} (h : n < 128) : enc n = [n] := by rw [enc, if_pos h]
theorem enc300 : enc 300 = [172, 2] := by rw [enc, if_neg (by decide), enc_one (by decide)]
theorem r1X_stand : r1X.stand = [7, 172, 2, 2, 1] := by
  unfold Rc.stand Rc.standN
  rw [show r1X.kind = 2 from rfl, partsN_of]
  show enc 7 ++ (enc 300 ++ ((enc 2 ++ (enc 1 ++ [])) ++ [])) = _
  rw [enc300, enc_one (n := 7) (by decide), enc_one (n := 2) (by decide), enc_one (n := 1) (by decide)]
  rfl
theorem r2X_stand : r2X.stand = [1, 1, 1, 1, 5, 0, 0, 0] := by
  unfold Rc.stand Rc.standN
  rw [show r2X.kind = 5 from rfl, partsN_of]
  show enc 1 ++ ((enc 1 ++ [1]) ++ ((enc 1 ++ (((enc 5 ++ (enc 0 ++ (enc 0 ++ []))) ++ [0]) ++ [])) ++ [])) = _
  rw [enc_one (n := 1) (by decide), enc_one (n := 5) (by decide), enc_one (n := 0) (by decide)]
  rfl
theorem dec2 {n : Nat} (h : ¬ n < 10) : Lib.decDigits n = Lib.decDigits (n / 10) ++ [UInt8.ofNat (48 + n % 10)] := by
  conv => lhs; rw [Lib.decDigits, dif_neg h]
theorem dec300 : Lib.decDigits 300 = [51, 48, 48] := by
  rw [dec2 (by decide), dec2 (n := 300 / 10) (by decide), dec1 (n := 300 / 10 / 10) (by decide)]; decide
theorem r1X_tell : r1X.tell = [114, 101, 97, 100, 32, 55, 32, 51, 48, 48, 32, 50, 46, 49] := by
  rw [tell_ws, show r1X.kind = 2 from rfl, partsN_of]
  show nameL 2 ++ wsL r1X [0, 1, 2] = _
  rw [wsL_cons, wsL_cons, wsL_cons]
  show nameL 2 ++ (([32] ++ Lib.decDigits 7 ++ []) ++ (([32] ++ Lib.decDigits 300 ++ []) ++ (([32] ++ (Lib.decDigits 2 ++ [46] ++ Lib.decDigits 1) ++ []) ++ []))) = _
  rw [dec300, dec1 (n := 7) (by decide), dec1 (n := 2) (by decide), dec1 (n := 1) (by decide)]
  rfl
theorem lineX1 : lineB [114, 101, 97, 100, 32, 55, 32, 51, 48, 48, 32, 50, 46, 49] = some r1X := by
  rw [← r1X_tell]
  exact line_tell r1X_right ⟨by decide, by decide, by decide, by decide, by decide, okN_zero, by intro e he; cases he⟩
theorem goP_bad {r : Rc} {l : List UInt8} {i : Nat} {is : List Nat} (h : r.setP i l = none) : goP r l (i :: is) = none := by
  show (r.setP i l).bind _ = none
  rw [h]; rfl
theorem goP_go {r r' : Rc} {l l' : List UInt8} {i : Nat} {is : List Nat} (h : r.setP i l = some (r', l')) : goP r l (i :: is) = goP r' l' is := by
  show (r.setP i l).bind _ = _
  rw [h]; rfl
theorem numW_one {n : Nat} (h : n < 10) : numW [UInt8.ofNat (48 + n)] = some n := by
  rw [← dec1 h]; exact numW_dec (by omega)
theorem setP_none0 {r : Rc} {l : List UInt8} (h : numW (wordW l) = none) : r.setP 0 l = none := by
  show (numW (wordW l)).map _ = _
  rw [h]; rfl
theorem setP_none2 {r : Rc} {l : List UInt8} (h : verW (wordW l) = none) : r.setP 2 l = none := by
  show (verW (wordW l)).map _ = _
  rw [h]; rfl
theorem setP_num0 {r : Rc} {l : List UInt8} {n : Nat} (h : wordW l = [UInt8.ofNat (48 + n)]) (hn : n < 10) : r.setP 0 l = some ({ r with t := n }, leftW l) := by
  show (numW (wordW l)).map _ = _
  rw [h, numW_one hn]; rfl
theorem setP_num1 {r : Rc} {l : List UInt8} {n : Nat} (h : wordW l = [UInt8.ofNat (48 + n)]) (hn : n < 10) : r.setP 1 l = some ({ r with x := n }, leftW l) := by
  show (numW (wordW l)).map _ = _
  rw [h, numW_one hn]; rfl
theorem lineX2 : lineB [98, 101, 103, 105, 110, 32, 32, 49] = none := by
  show endP (goP (Rc.zero 1) [32, 32, 49] (partsN 1 6)) = none
  rw [partsN_of]
  show endP (goP (Rc.zero 1) [32, 32, 49] [0]) = none
  rw [goP_bad (setP_none0 (by show numW [] = none; exact numW_nil))]
  rfl
theorem lineX3 : lineB [114, 101, 97, 100, 32, 49, 32, 50, 32, 51] = none := by
  show endP (goP (Rc.zero 2) [32, 49, 32, 50, 32, 51] (partsN 2 6)) = none
  rw [partsN_of]
  show endP (goP (Rc.zero 2) [32, 49, 32, 50, 32, 51] [0, 1, 2]) = none
  rw [goP_go (setP_num0 (n := 1) rfl (by decide)), goP_go (setP_num1 (n := 2) rfl (by decide)), goP_bad (setP_none2 (by
    show verW [UInt8.ofNat (48 + 3)] = none
    unfold verW
    rw [show behind 46 [UInt8.ofNat (48 + 3)] = [] from rfl, numW_nil, show ahead 46 [UInt8.ofNat (48 + 3)] = [UInt8.ofNat (48 + 3)] from rfl, numW_one (by decide)]))]
  rfl
theorem numW_01 : numW [48, 49] = none := by
  cases h : numW [48, 49] with
  | none => rfl
  | some u =>
    have hp : Lib.parseUintB 64 [48, 49] = .ok 1 := by rfl
    unfold numW at h
    rw [hp] at h
    simp only at h
    rw [dec1 (n := 1) (by decide)] at h
    cases h
theorem lineX4 : lineB [119, 114, 105, 116, 101, 32, 48, 49, 32, 50, 32, 51] = none := by
  show endP (goP (Rc.zero 3) [32, 48, 49, 32, 50, 32, 51] (partsN 3 6)) = none
  rw [partsN_of]
  show endP (goP (Rc.zero 3) [32, 48, 49, 32, 50, 32, 51] [0, 1, 3]) = none
  rw [goP_bad (setP_none0 (by show numW [48, 49] = none; exact numW_01))]
  rfl
set_option maxRecDepth 100000 in
set_option maxHeartbeats 6400000 in
theorem works5_any (B : Nat) (w : World) (hE : EnvM B w) (hB : B ≤ w.heap.size) : Calls Tryz.prog 5 #[] w fun e w' => e = .returned (.bool true) ∧ Below w.heap.size w w' := by
  have P1 : Hid (∀ W, Calls Tryz.prog 19 #[.agg #[.int .i64 2, .int .u64 7, .int .u64 300, .int .u64 2, .int .u64 1, .int .u64 0, .int .i64 0, .int .u64 0, .int .u64 0, .slice none 0 0, .slice none 0 0]] W fun e w' => ∃ A c, e = .returned (.tuple #[.agg #[.int .u8 2, .slice A 5 c], .int .i64 0]) ∧ w'.ownsRow W.heap.size 5 1 (.slice A 5 c) 5 (bs [7, 172, 2, 2, 1]) ∧ Below W.heap.size W w') := fun W => by
    have hL : RLies W 0 W.heap.size ⟨2, 7, 300, 2, 1, 0, .node 0 0 0 none 0 [], none, 0, []⟩ := ⟨by decide, by decide, by decide, by decide, by decide, by decide, lies_zero _ _ _, Rd.zero, by decide, (by intro e he; cases he), (by intro ad e; cases e)⟩
    have h := rput5_any ⟨2, 7, 300, 2, 1, 0, .node 0 0 0 none 0 [], none, 0, []⟩ W 0 W.heap.size hL (Nat.le_refl _) (by decide)
    have ha : Rv.abs ⟨2, 7, 300, 2, 1, 0, .node 0 0 0 none 0 [], none, 0, []⟩ = r1X := by simp [Rv.abs, V.abs, V.absL, r1X]
    rw [ha] at h
    refine (show Calls Tryz.prog 19 #[.agg #[.int .i64 2, .int .u64 7, .int .u64 300, .int .u64 2, .int .u64 1, .int .u64 0, .int .i64 0, .int .u64 0, .int .u64 0, .slice none 0 0, .slice none 0 0]] W (PutEnd r1X W) from h).mono ?_
    rintro e w' ⟨hb, -, h2⟩
    obtain ⟨A, c, e1, e2⟩ := h2 r1X_right
    rw [r1X_stand] at e1 e2
    exact ⟨A, c, e1, e2, hb⟩
  have P2 : Hid (∀ W g, W.heap[g]? = some (.cells #[.int .u64 5, .int .u64 0, .int .u64 0, .bool false] 67 (0, 0)) → Calls Tryz.prog 19 #[.agg #[.int .i64 5, .int .u64 1, .int .u64 0, .int .u64 0, .int .u64 0, .int .u64 0, .int .i64 1, .int .u64 0, .int .u64 0, .slice none 0 0, .slice (some ⟨g, 0, none⟩) 1 1]] W fun e w' => ∃ A c, e = .returned (.tuple #[.agg #[.int .u8 5, .slice A 8 c], .int .i64 0]) ∧ w'.ownsRow W.heap.size 5 1 (.slice A 8 c) 8 (bs [1, 1, 1, 1, 5, 0, 0, 0]) ∧ Below W.heap.size W w') := fun W g hg => by
    have hgl := lt_of_block hg
    have hL : RLies W 0 W.heap.size ⟨5, 1, 0, 0, 0, 0, .node 1 0 0 none 0 [], some ⟨g, 0, none⟩, 1, [⟨5, 0, 0, false⟩]⟩ := ⟨⟨by show (-9223372036854775808 : Int) ≤ 5; omega, by show (5 : Int) ≤ _; omega⟩, by show ((1 : Nat) : Int) ≤ _; omega, by show ((0 : Nat) : Int) ≤ _; omega, by show ((0 : Nat) : Int) ≤ _; omega, by show ((0 : Nat) : Int) ≤ _; omega, by show ((0 : Nat) : Int) ≤ _; omega, .mk _ _ _ _ _ _ (by omega) (by omega) (by omega) Rd.zero (by simp) (fun ad e => by cases e) (by simp), (rd_row (size := 4) (n := 1) (l := enCells [⟨5, 0, 0, false⟩]) hg rfl).more (by omega), ⟨by show (1 : Nat) ≤ 1; omega, by show (1 : Nat) ≤ 9223372036854775807; omega⟩, (by intro e he; obtain rfl : e = ⟨5, 0, 0, false⟩ := (by simpa using he); exact ⟨by decide, by decide, by decide⟩), fun ad e hn => Nat.zero_le _⟩
    have h := rput5_any ⟨5, 1, 0, 0, 0, 0, .node 1 0 0 none 0 [], some ⟨g, 0, none⟩, 1, [⟨5, 0, 0, false⟩]⟩ W 0 W.heap.size hL (Nat.le_refl _) (by simp)
    have ha : Rv.abs ⟨5, 1, 0, 0, 0, 0, .node 1 0 0 none 0 [], some ⟨g, 0, none⟩, 1, [⟨5, 0, 0, false⟩]⟩ = r2X := by simp [Rv.abs, V.abs, V.absL, r2X]
    rw [ha] at h
    refine (show Calls Tryz.prog 19 #[.agg #[.int .i64 5, .int .u64 1, .int .u64 0, .int .u64 0, .int .u64 0, .int .u64 0, .int .i64 1, .int .u64 0, .int .u64 0, .slice none 0 0, .slice (some ⟨g, 0, none⟩) 1 1]] W (PutEnd r2X W) from h).mono ?_
    rintro e w' ⟨hb, -, h2⟩
    obtain ⟨A, c, e1, e2⟩ := h2 r2X_right
    rw [r2X_stand] at e1 e2
    exact ⟨A, c, e1, e2, hb⟩
  have L1 : Hid (∀ W, Below w.heap.size w W → Calls Tryz.prog 20 #[.string ⟨#[114, 101, 97, 100, 32, 55, 32, 51, 48, 48, 32, 50, 46, 49]⟩] W fun e w' => ∃ x2 x5 x6 x7 x8 x9 x10 y9 y10 z9 z10, e = .returned (.tuple #[.agg #[.int .i64 x2, .int .u64 7, .int .u64 300, .int .u64 2, .int .u64 1, .int .u64 x5, .int .i64 x6, .int .u64 x7, .int .u64 x8, .slice x9 y9 z9, .slice x10 y10 z10], .int .i64 0]) ∧ Below W.heap.size W w') := fun W hW => by
    have h := pline_any B [114, 101, 97, 100, 32, 55, 32, 51, 48, 48, 32, 50, 46, 49] W (hE.under hW hB) (by have := hW.size; omega) (by decide)
    rw [lineX1] at h
    refine h.mono ?_
    rintro e w' ⟨r, e1, e2, -, -, -, hb⟩
    obtain ⟨k, t, x, wn, nn, v, p, A, c, es⟩ := r
    have e3 : t = 7 := congrArg Rc.t e2
    have e4 : x = 300 := congrArg Rc.x e2
    have e5 : wn = 2 := congrArg Rc.w e2
    have e6 : nn = 1 := congrArg Rc.n e2
    subst e3 e4 e5 e6
    exact ⟨_, _, _, _, _, _, _, _, _, _, _, e1, hb⟩
  have L2 : Hid (∀ (s : List UInt8) W, lineB s = none → s.length ≤ 100 → Below w.heap.size w W → Calls Tryz.prog 20 #[.string ⟨s.toArray⟩] W fun e w' => ∃ x0 x1 x2 x3 x4 x5 x6 x7 x8 x9 x10 y9 y10 z9 z10, e = .returned (.tuple #[.agg #[.int .i64 x0, .int .u64 x1, .int .u64 x2, .int .u64 x3, .int .u64 x4, .int .u64 x5, .int .i64 x6, .int .u64 x7, .int .u64 x8, .slice x9 y9 z9, .slice x10 y10 z10], .int .i64 50]) ∧ Below W.heap.size W w') := fun s W hs hl hW => by
    have h := pline_any B s W (hE.under hW hB) (by have := hW.size; omega) (by omega)
    rw [hs] at h
    refine h.mono ?_
    rintro e w' ⟨r, e1, e2, -, -, -, hb⟩
    exact ⟨_, _, _, _, _, _, _, _, _, _, _, _, _, _, _, e1, hb⟩
  clear hE
  go_enter Tryz.func5, Tryz.ntmps5
  go_wp2_with fail
  refine (P1.out _).mono ?_
  rintro e w1 ⟨A1, c1, rfl, ho1, hb1⟩
  have hs1 := hb1.size
  have hf1 := heap_alloc_new w1 (.cells #[.int .u8 2, .slice A1 5 c1] 24)
  have hn1 := below_new w1 (.cells #[.int .u8 2, .slice A1 5 c1] 24)
  have ho2 := own_below ho1 hn1 (own_lt ho1)
  have hb2 := hb1.trans (hn1.mono hs1)
  clear ho1 hb1 hn1 P1
  go_upto_region 2 with (fail)
  generalize w1.alloc (.cells #[.int .u8 2, .slice A1 5 c1] 24) = w2 at *
  have hs2 := hb2.size
  have hg3 := heap_alloc_new w2 (.cells #[.int .u64 5, .int .u64 0, .int .u64 0, .bool false] 67)
  have hn3 := below_new w2 (.cells #[.int .u64 5, .int .u64 0, .int .u64 0, .bool false] 67)
  have Q2 := P2.out _ _ hg3
  go_wp2_with fail
  refine Q2.mono ?_
  rintro e w3 ⟨A3, c3, rfl, ho3, hb3⟩
  have hs3 := hb3.size
  have hf3 := (hb3.block _ (Nat.lt_of_lt_of_le (lt_of_block hf1) hn3.size)).trans ((hn3.block _ (lt_of_block hf1)).trans hf1)
  have ho2b := own_below (own_below ho2 hn3 (own_lt ho2)) hb3 (own_lt (own_below ho2 hn3 (own_lt ho2)))
  have hf4 := heap_alloc_new w3 (.cells #[.int .u8 5, .slice A3 8 c3] 24)
  have hn4 := below_new w3 (.cells #[.int .u8 5, .slice A3 8 c3] 24)
  have ho4 := own_below ho3 hn4 (own_lt ho3)
  have ho2c := own_below ho2b hn4 (own_lt ho2b)
  have hf3b := (hn4.block _ (lt_of_block hf3)).trans hf3
  have hb4 := (hb2.trans ((hn3.mono hs2).trans (hb3.mono (by have := hn3.size; omega)))).trans (hn4.mono (by have := hn3.size; omega))
  clear ho2 ho2b hf1 hf3 hn3 hb3 hg3 Q2 P2 hs3 hn4 ho3
  go_upto_region 3 with (fail)
  generalize w3.alloc (.cells #[.int .u8 5, .slice A3 8 c3] 24) = w4 at *
  have Q3 := L1.out w4 hb4
  go_wp2_with fail
  refine Q3.mono ?_
  rintro e w5 ⟨x2, x5, x6, x7, x8, x9, x10, y9, y10, z9, z10, rfl, hb5⟩
  have ho5a := own_below ho2c hb5 (own_lt ho2c)
  have ho5b := own_below ho4 hb5 (own_lt ho4)
  have hf5a := (hb5.block _ (lt_of_block hf3b)).trans hf3b
  have hf5b := (hb5.block _ (lt_of_block hf4)).trans hf4
  have hb5' := hb4.trans (hb5.mono hb4.size)
  have hf6 := heap_alloc_new w5 (.cells #[.int .i64 x2, .int .u64 7, .int .u64 300, .int .u64 2, .int .u64 1, .int .u64 x5, .int .i64 x6, .int .u64 x7, .int .u64 x8, .slice x9 y9 z9, .slice x10 y10 z10] 47)
  have hn6 := below_new w5 (.cells #[.int .i64 x2, .int .u64 7, .int .u64 300, .int .u64 2, .int .u64 1, .int .u64 x5, .int .i64 x6, .int .u64 x7, .int .u64 x8, .slice x9 y9 z9, .slice x10 y10 z10] 47)
  have ho6a := own_below ho5a hn6 (own_lt ho5a)
  have ho6b := own_below ho5b hn6 (own_lt ho5b)
  have hf6a := (hn6.block _ (lt_of_block hf5a)).trans hf5a
  have hf6b := (hn6.block _ (lt_of_block hf5b)).trans hf5b
  have hb6 := hb5'.trans (hn6.mono hb5'.size)
  clear ho5a ho5b hf5a hf5b hb5' hb5 hn6 hf3b hf4 ho2c ho4 hb4 Q3 L1
  go_upto_region 4 with (fail)
  generalize w5.alloc (.cells #[.int .i64 x2, .int .u64 7, .int .u64 300, .int .u64 2, .int .u64 1, .int .u64 x5, .int .i64 x6, .int .u64 x7, .int .u64 x8, .slice x9 y9 z9, .slice x10 y10 z10] 47) = w6 at *
  have hf7 := heap_alloc_new w6 (.cells #[.string ⟨#[98, 101, 103, 105, 110, 32, 32, 49]⟩, .string ⟨#[114, 101, 97, 100, 32, 49, 32, 50, 32, 51]⟩, .string ⟨#[119, 114, 105, 116, 101, 32, 48, 49, 32, 50, 32, 51]⟩] 9)
  have hn7 := below_new w6 (.cells #[.string ⟨#[98, 101, 103, 105, 110, 32, 32, 49]⟩, .string ⟨#[114, 101, 97, 100, 32, 49, 32, 50, 32, 51]⟩, .string ⟨#[119, 114, 105, 116, 101, 32, 48, 49, 32, 50, 32, 51]⟩] 9)
  have HW : Hid (∀ W, Below (w6.alloc (.cells #[.string ⟨#[98, 101, 103, 105, 110, 32, 32, 49]⟩, .string ⟨#[114, 101, 97, 100, 32, 49, 32, 50, 32, 51]⟩, .string ⟨#[119, 114, 105, 116, 101, 32, 48, 49, 32, 50, 32, 51]⟩] 9)).heap.size (w6.alloc (.cells #[.string ⟨#[98, 101, 103, 105, 110, 32, 32, 49]⟩, .string ⟨#[114, 101, 97, 100, 32, 49, 32, 50, 32, 51]⟩, .string ⟨#[119, 114, 105, 116, 101, 32, 48, 49, 32, 50, 32, 51]⟩] 9)) W → (W.heap[w1.heap.size]? = some (.cells #[.int .u8 2, .slice A1 5 c1] 24 (0, 0)) ∧ W.heap[w3.heap.size]? = some (.cells #[.int .u8 5, .slice A3 8 c3] 24 (0, 0)) ∧
      W.heap[w5.heap.size]? = some (.cells #[.int .i64 x2, .int .u64 7, .int .u64 300, .int .u64 2, .int .u64 1, .int .u64 x5, .int .i64 x6, .int .u64 x7, .int .u64 x8, .slice x9 y9 z9, .slice x10 y10 z10] 47 (0, 0)) ∧ W.heap[w6.heap.size]? = some (.cells #[.string ⟨#[98, 101, 103, 105, 110, 32, 32, 49]⟩, .string ⟨#[114, 101, 97, 100, 32, 49, 32, 50, 32, 51]⟩, .string ⟨#[119, 114, 105, 116, 101, 32, 48, 49, 32, 50, 32, 51]⟩] 9 (0, 0))) ∧
      Rd W W.heap.size 1 A1 5 (bs [7, 172, 2, 2, 1]) ∧ Rd W W.heap.size 1 A3 8 (bs [1, 1, 1, 1, 5, 0, 0, 0]) ∧ Below w.heap.size w W) := fun W hW => by
    have ho7a := own_below ho6a hn7 (own_lt ho6a)
    have ho7b := own_below ho6b hn7 (own_lt ho6b)
    have K : ∀ {k : Nat} {o : Obj}, w6.heap[k]? = some o → W.heap[k]? = some o := fun {k o} h => (hW.block k (Nat.lt_of_lt_of_le (lt_of_block h) hn7.size)).trans ((hn7.block k (lt_of_block h)).trans h)
    exact ⟨⟨K hf6a, K hf6b, K hf6, (hW.block _ (lt_of_block hf7)).trans hf7⟩, Rd.own (own_below ho7a hW (own_lt ho7a)), Rd.own (own_below ho7b hW (own_lt ho7b)), hb6.trans ((hn7.mono hb6.size).trans (hW.mono (by have := hn7.size; have := hb6.size; omega)))⟩
  clear ho6a ho6b hf6a hf6b hb6 hn7 hf6 hf7 hs1 hb2 hs2
  go_upto_region 5 with (fail)
  generalize w6.alloc (.cells #[.string ⟨#[98, 101, 103, 105, 110, 32, 32, 49]⟩, .string ⟨#[114, 101, 97, 100, 32, 49, 32, 50, 32, 51]⟩, .string ⟨#[119, 114, 105, 116, 101, 32, 48, 49, 32, 50, 32, 51]⟩] 9) = w7 at *
  go_wp2
  go_loopw [8] (fun z wr => ∃ i : Nat, z = .int .i64 i ∧ i ≤ 3 ∧ Hid (Below w7.heap.size w7 wr)) (fun z _ => 3 - (intOf z).toNat)
  case atStart => exact ⟨0, rfl, by omega, Below.refl _ _⟩
  case round =>
    obtain ⟨i, rfl, hi3, hbw⟩ := hrel
    obtain ⟨⟨hx1, hx2, hx3, hx4⟩, hr1, hr2, hbb⟩ := HW.out wr hbw.out
    have K0 : ∀ (s : List UInt8) (i : Nat) (W : World), Hid (wr.cell? ⟨w6.heap.size, i, none⟩ = some (.string ⟨s.toArray⟩)) → lineB s = none → s.length ≤ 100 → True := fun _ _ _ _ _ _ => trivial
    clear K0
    have hi4 : i = 0 ∨ i = 1 ∨ i = 2 ∨ i = 3 := by omega
    rcases hi4 with rfl | rfl | rfl | rfl
    · have d0 : wr.cell? ⟨w6.heap.size, 0, none⟩ = some (.string ⟨#[98, 101, 103, 105, 110, 32, 32, 49]⟩) := cell_of_row wr _ 0 _ _ _ hx4
      have Q := L2.out [98, 101, 103, 105, 110, 32, 32, 49] wr lineX2 (by decide) hbb
      clear hx1 hx2 hx3 hx4 hr1 hr2 hbb
      go_wp2_with fail
      refine Q.mono ?_
      rintro e w8 ⟨t0, t1, t2, t3, t4, t5, t6, t7, t8, t9, t10, s9, s10, r9, r10, rfl, hb8⟩
      have hb9 := Lib_hid (hbw.out.trans ((hb8.trans ((below_new w8 (.cells #[.int .i64 t0, .int .u64 t1, .int .u64 t2, .int .u64 t3, .int .u64 t4, .int .u64 t5, .int .i64 t6, .int .u64 t7, .int .u64 t8, .slice t9 s9 r9, .slice t10 s10 r10] 47)).mono hb8.size)).mono hbw.out.size))
      clear hb8 Q d0
      go_wp2
      go_roundw
      case rel => exact ⟨1, by go_num, by omega, hb9⟩
      case measure => simp [intOf]
    · have d0 : wr.cell? ⟨w6.heap.size, 1, none⟩ = some (.string ⟨#[114, 101, 97, 100, 32, 49, 32, 50, 32, 51]⟩) := cell_of_row wr _ 1 _ _ _ hx4
      have Q := L2.out [114, 101, 97, 100, 32, 49, 32, 50, 32, 51] wr lineX3 (by decide) hbb
      clear hx1 hx2 hx3 hx4 hr1 hr2 hbb
      go_wp2_with fail
      refine Q.mono ?_
      rintro e w8 ⟨t0, t1, t2, t3, t4, t5, t6, t7, t8, t9, t10, s9, s10, r9, r10, rfl, hb8⟩
      have hb9 := Lib_hid (hbw.out.trans ((hb8.trans ((below_new w8 (.cells #[.int .i64 t0, .int .u64 t1, .int .u64 t2, .int .u64 t3, .int .u64 t4, .int .u64 t5, .int .i64 t6, .int .u64 t7, .int .u64 t8, .slice t9 s9 r9, .slice t10 s10 r10] 47)).mono hb8.size)).mono hbw.out.size))
      clear hb8 Q d0
      go_wp2
      go_roundw
      case rel => exact ⟨2, by go_num, by omega, hb9⟩
      case measure => simp [intOf]
    · have d0 : wr.cell? ⟨w6.heap.size, 2, none⟩ = some (.string ⟨#[119, 114, 105, 116, 101, 32, 48, 49, 32, 50, 32, 51]⟩) := cell_of_row wr _ 2 _ _ _ hx4
      have Q := L2.out [119, 114, 105, 116, 101, 32, 48, 49, 32, 50, 32, 51] wr lineX4 (by decide) hbb
      clear hx1 hx2 hx3 hx4 hr1 hr2 hbb
      go_wp2_with fail
      refine Q.mono ?_
      rintro e w8 ⟨t0, t1, t2, t3, t4, t5, t6, t7, t8, t9, t10, s9, s10, r9, r10, rfl, hb8⟩
      have hb9 := Lib_hid (hbw.out.trans ((hb8.trans ((below_new w8 (.cells #[.int .i64 t0, .int .u64 t1, .int .u64 t2, .int .u64 t3, .int .u64 t4, .int .u64 t5, .int .i64 t6, .int .u64 t7, .int .u64 t8, .slice t9 s9 r9, .slice t10 s10 r10] 47)).mono hb8.size)).mono hbw.out.size))
      clear hb8 Q d0
      go_wp2
      go_roundw
      case rel => exact ⟨3, by go_num, by omega, hb9⟩
      case measure => simp [intOf]
    · clear hx4 hr1 hr2 hbb L2
      have d0 : wr.cell? ⟨w1.heap.size, 0, none⟩ = some (.int .u8 2) := cell_of_row wr _ 0 _ _ _ hx1
      have d1 : wr.cell? ⟨w1.heap.size, 1, none⟩ = some (.slice A1 5 c1) := cell_of_row wr _ 1 _ _ _ hx1
      have hn8 := below_new wr (.cells #[.int .u8 7, .int .u8 172, .int .u8 2, .int .u8 2, .int .u8 1] 5)
      have hl8 := World.ownsRow_lit (base := wr.heap.size) (e := 5) (size := 1) wr #[.int .u8 7, .int .u8 172, .int .u8 2, .int .u8 2, .int .u8 1] 5 (Nat.le_refl _) (by decide) rfl
      have hb8 := hbw.out.trans (hn8.mono hbw.out.size)
      obtain ⟨_, hr1, hr2, hbb⟩ := HW.out _ hb8
      have SB := same_yes (c := c1) (c' := 5) [7, 172, 2, 2, 1] _ hr1 (Rd.own hl8) (by omega)
      clear hx1 hx2 hx3 hn8 hl8 hr1 hr2 hbb
      go_wp2_with fail
      refine SB.mono ?_
      rintro e w8 ⟨rfl, q, rfl⟩
      have hb9 : Below w7.heap.size w7 ((wr.alloc (.cells #[.int .u8 7, .int .u8 172, .int .u8 2, .int .u8 2, .int .u8 1] 5)).drewN q) := below_drew_ hb8
      generalize (wr.alloc (.cells #[.int .u8 7, .int .u8 172, .int .u8 2, .int .u8 2, .int .u8 1] 5)).drewN q = w9 at *
      obtain ⟨⟨-, hx2, hx3, -⟩, -, -, -⟩ := HW.out _ hb9
      clear SB hb8 d0 d1
      have d1 : w9.cell? ⟨w3.heap.size, 1, none⟩ = some (.slice A3 8 c3) := cell_of_row w9 _ 1 _ _ _ hx2
      have hn8 := below_new w9 (.cells #[.int .u8 1, .int .u8 1, .int .u8 1, .int .u8 1, .int .u8 5, .int .u8 0, .int .u8 0, .int .u8 0] 5)
      have hl8 := World.ownsRow_lit (base := w9.heap.size) (e := 5) (size := 1) w9 #[.int .u8 1, .int .u8 1, .int .u8 1, .int .u8 1, .int .u8 5, .int .u8 0, .int .u8 0, .int .u8 0] 8 (Nat.le_refl _) (by decide) rfl
      have hb8 := hb9.trans (hn8.mono hb9.size)
      obtain ⟨_, -, hr2, -⟩ := HW.out _ hb8
      have SB := same_yes (c := c3) (c' := 8) [1, 1, 1, 1, 5, 0, 0, 0] _ hr2 (Rd.own hl8) (by omega)
      clear hx2 hx3 hn8 hl8 hr2
      go_wp2_with fail
      refine SB.mono ?_
      rintro e w8 ⟨rfl, q, rfl⟩
      have hb10 : Below w7.heap.size w7 ((w9.alloc (.cells #[.int .u8 1, .int .u8 1, .int .u8 1, .int .u8 1, .int .u8 5, .int .u8 0, .int .u8 0, .int .u8 0] 5)).drewN q) := below_drew_ hb8
      generalize (w9.alloc (.cells #[.int .u8 1, .int .u8 1, .int .u8 1, .int .u8 1, .int .u8 5, .int .u8 0, .int .u8 0, .int .u8 0] 5)).drewN q = w10 at *
      obtain ⟨⟨-, -, hx3, -⟩, -, -, hbz⟩ := HW.out _ hb10
      obtain ⟨-, -, g2, g3, g4, -, -, -, -, -, -⟩ := rec_cells hx3
      clear SB hb8 d1 hb9 hb10 HW hx3 hbw
      go_wp2
      go_ret
      exact ⟨rfl, hbz⟩
end Go.Proofs.YtdmoknnnlfkfoaaGreatDoor

namespace Go.Proofs.YtdmoknnnlfkfoaaGreatDoor
open Go Go.RowKit
set_option linter.unusedVariables false
section
variable {P : Program} {ops : Array Oper} {Q : Exit → Act → World → Prop} {a0 : Act} {w0 : World}
theorem wp_region_midG {id N : Nat} (Pr : Nat → Value → World → Prop) (hm : P.follows .mixedOrders = true) (hok : regionOk ops N = true) (hN : a0.tmps.size = N)
    (hst : ∀ i v w w', Below w0.heap.size w0 w → Below w.heap.size w w' → Pr i v w → Pr i v w')
    (hop : ∀ i o a w, ops[i]? = some o → Mid ops Pr a0 w0 a w → (∀ j, (o.after.any fun e => e.on == j && Region.binds .any e) = true → Done ops Pr j a w) →
      (Region.wanted o (yielded ops a.tmps) = true ∧ o.wp P a w (fun a' w' => ∃ v, a' = a.put o.dst v ∧ Pr i v w' ∧ Below w.heap.size w w') Q) ∨ (Region.wanted o (yielded ops a.tmps) = false ∧ Pr i undef w))
    (hend : ∀ a w, Mid ops Pr a0 w0 a w → (∀ i, i < ops.size → Done ops Pr i a w) → Q .normal a w) :
    (Code.region id ops true).wp P Q a0 w0 := by
  have hok' := hok
  simp only [regionOk, Bool.and_eq_true, decide_eq_true_eq] at hok'
  have hput : ∀ (i : Nat) (o : Oper) (L : Nat → Bool) (a : Act) (w w' : World) (v : Value), ops[i]? = some o → (Mid ops Pr a0 w0 a w ∧ ∀ k, L k = true → Done ops Pr k a w) → Below w.heap.size w w' → Pr i v w' →
      (Mid ops Pr a0 w0 (a.put o.dst v) w' ∧ ∀ k, more L i k = true → Done ops Pr k (a.put o.dst v) w') := by
    intro i o L a w w' v ho ⟨hM, h5⟩ hb hv
    refine ⟨⟨put_size.trans hM.tmps, put_defers'.trans hM.defers, hM.below.trans (hb.mono hM.below.size), fun s hs => (put_getD_ne (fun e => hs (mem_dsts ho e))).trans (hM.other s hs)⟩, fun k hk o' d ho' hd => ?_⟩
    by_cases hki : k = i
    · subst hki
      obtain rfl : o' = o := Option.some.inj (ho'.symm.trans ho)
      rw [hd, put_getD_eq (by rw [hM.tmps, hN]; simpa using (List.all_eq_true.1 hok'.1.2) d (mem_dsts ho hd))]
      exact hv
    · have hk' : L k = true := by unfold more at hk; rwa [if_neg hki] at hk
      rw [put_getD_ne (fun e => hki (dst_inj hok'.1.1 ho' ho hd e))]
      exact hst k _ w w' hM.below hb (h5 k hk' o' d ho' hd)
  refine wp_region_any hm (wpAny_gen3 (fun L a w => Mid ops Pr a0 w0 a w ∧ ∀ k, L k = true → Done ops Pr k a w) (regionOk_back hok) (fun i o L a w ho h1 hI hD => ?_) (fun L a w hI hall => hend a w hI.1 fun k hk => hI.2 k (hall k hk)) _ _ _ _ (by simp) ?_ ?_)
  · have hD' : ∀ k, (o.after.any fun e => e.on == k && Region.binds .any e) = true → Done ops Pr k a w := fun k hj => by
      rw [← Array.any_toList, List.any_eq_true] at hj
      obtain ⟨e, he, hj⟩ := hj
      have he := Array.mem_toList_iff.1 he
      simp only [Bool.and_eq_true, beq_iff_eq] at hj
      rw [← hj.1]
      exact hI.2 _ (hD e he hj.2)
    rcases hop i o a w ho hI.1 hD' with ⟨hw, hwp⟩ | ⟨hw, hv⟩
    · refine .inl ⟨hw, Oper.wp_mono ?_ hwp⟩
      rintro a' w' ⟨v, rfl, hv, hb⟩
      exact hput i o L a w w' v ho hI hb hv
    · exact .inr ⟨hw, hput i o L a w w undef ho hI (Below.refl _ _) hv⟩
  · simp
  · have e : (fun k => (Array.replicate ops.size false).getD k false) = fun _ => false := by
      funext k
      rw [Array.getD_eq_getD_getElem?, Array.getElem?_replicate]
      split <;> rfl
    rw [e]
    exact ⟨⟨rfl, rfl, below_drew1 w0, fun _ _ => rfl⟩, fun k hk => by cases hk⟩
end
end Go.Proofs.YtdmoknnnlfkfoaaGreatDoor

namespace Go.Proofs.YtdmoknnnlfkfoaaGreatDoor
open Go Go.RowKit
set_option linter.unusedVariables false
theorem sameR_self (r : Rc) : r.sameB r = true := by unfold Rc.sameB; simp [(sameB_iff r.p r.p).2 rfl]
theorem docsame_any (r u : Rv) (W : World) (lo hi lo2 hi2 : Nat) (hr : RLies W lo hi r) (h1 : hi ≤ W.heap.size) (hu : RLies W lo2 hi2 u) (h2 : hi2 ≤ W.heap.size) (he : r.abs = u.abs) (hct : r.p.abs.count ≤ 1000) (hes : r.es.length ≤ 100000) :
    Calls Tryz.prog 10 #[r.val] W fun e w' => ∃ uv, e = .returned uv ∧ Hid (∀ W', Below w'.heap.size w' W' → Calls Tryz.prog 9 #[uv, u.val] W' fun e w'' => e = .returned (.bool true) ∧ Below W'.heap.size W' w'') ∧ Below W.heap.size W w' := by
  refine (drec5_any r W lo hi hr h1 hct hes).mono ?_
  rintro e w' ⟨z, rfl, hza, hzL, hb⟩
  refine ⟨_, rfl, fun W' hW' => ?_, hb⟩
  have hs := hb.size
  have hs' := hW'.size
  refine (rsame5_any z u W' _ w'.heap.size lo2 hi2 (hzL.under hW') hs' (hu.under ((hb.mono h2).trans (hW'.mono (by omega)))) (by omega)).mono ?_
  rintro e w'' ⟨rfl, hb''⟩
  refine ⟨?_, hb''⟩
  rw [hza, he, sameR_self]
end Go.Proofs.YtdmoknnnlfkfoaaGreatDoor

namespace Go.Proofs.YtdmoknnnlfkfoaaGreatDoor
open Go Go.RowKit
set_option linter.unusedVariables false
theorem RLies.okR {w : World} {lo hi : Nat} {r : Rv} (h : RLies w lo hi r) : r.abs.okR :=
  ⟨by have := h.t; show r.t < _; omega, by have := h.x; show r.x < _; omega, by have := h.wn; show r.w < _; omega, by have := h.n; show r.n < _; omega, by have := h.v; show r.v < _; omega, lies_ok r.p h.p, h.ok⟩
theorem ents_stand_len : ∀ es : List En, 4 * es.length ≤ (es.flatMap En.stand).length
  | [] => by simp
  | e :: es => by
    have h := ents_stand_len es
    have h1 := enc_pos e.x
    have h2 := enc_pos e.w
    have h3 := enc_pos e.n
    have h4 : e.stand.length = (enc e.x).length + (enc e.w).length + (enc e.n).length + 1 := by simp [En.stand, encs]; omega
    simp only [List.length_cons, List.flatMap_cons, List.length_append]
    omega
theorem stand_few {r : Rc} (h : r.rightB = true) : 4 * r.es.length ≤ r.stand.length := by
  by_cases h5 : r.kind = 5
  · have hp : partsN r.kind 6 = [0, 4, 5] := by rw [h5]; decide
    unfold Rc.stand Rc.standN
    rw [hp]
    have := ents_stand_len r.es
    have e5 : r.standP 5 = enc r.es.length ++ r.es.flatMap En.stand := rfl
    simp only [List.flatMap_cons, List.flatMap_nil, List.length_append, e5]
    omega
  · have he := (right_shape h).2.1 5 (by omega) (by unfold ofB; simp [h5])
    have he2 : r.es = [] := by unfold Rc.emptyB at he; simpa using he
    rw [he2]
    simp
theorem right_count {r : Rc} (h : r.rightB = true) : r.p.count ≤ 32 := by
  by_cases h5 : r.kind = 5
  · exact (right_all ((right_shape h).2.2 h5)).2
  · have he := (right_shape h).2.1 4 (by omega) (by unfold ofB; simp [h5])
    have he2 : r.p.sameB (.node 0 0 0 []) = true := by unfold Rc.emptyB at he; simpa using he
    rw [(sameB_iff _ _).1 he2]
    decide
theorem parse_back {k : Nat} {l : List Nat} (hb : ∀ x ∈ l, x < 256) {x : Rc} {z : Nat} (h : ansP k l = (x, z)) (hz : z = 0) : x.rightB = true ∧ frD x = (k, l) ∧ erD x = 0 ∧ 4 * x.es.length ≤ l.length := by
  subst hz
  unfold ansP at h
  split at h
  · rename_i hk
    cases hp : payB k l with
    | none => rw [hp] at h; injection h with _ h; cases h
    | some r =>
      rw [hp] at h
      injection h with h _
      subst h
      obtain ⟨h1, h2, h3, h4⟩ := pay_some hb hk hp
      have hf := stand_few h1
      rw [h4] at hf
      refine ⟨h1, ?_, ?_, hf⟩
      · unfold frD
        rw [if_pos h1, h3, h4]
        simp
      · unfold erD
        rw [if_pos h1]
  · injection h with _ h; cases h
end Go.Proofs.YtdmoknnnlfkfoaaGreatDoor
