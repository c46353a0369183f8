/-
  The contract of the program's frame.Put, for every slice of frames; the contracts of Size and Same.
-/
import Derived.Test.YtedglcbeheeonaaDoorFst
import Derived.Test.YtedglcbeheeonaaDoorEqb
namespace Go.Proofs.YtedglcbeheeonaaDoor
open Go Go.RowKit
set_option linter.unusedVariables false

/-- A frame's two cells. -/
structure FrV where
  k : Nat
  A : Option Addr
  n : Nat
  c : Nat
def FrV.cells (f : FrV) : List Value := [.int .u8 (f.k : Int), .slice f.A f.n f.c]
def frCells (l : List FrV) : List Value := l.flatMap FrV.cells

theorem frCells_get : ∀ (l : List FrV) (i j : Nat) (a : FrV), l[i]? = some a → j < 2 → (frCells l)[i * 2 + j]? = a.cells[j]? := by
  intro l
  induction l with
  | nil => intro i j a h; simp at h
  | cons x l ih =>
    intro i j a h hj
    have e : frCells (x :: l) = x.cells ++ frCells l := rfl
    have hx : x.cells.length = 2 := rfl
    cases i with
    | zero =>
      simp at h
      subst h
      rw [e, Nat.zero_mul, Nat.zero_add, List.getElem?_append_left (by omega)]
    | succ i =>
      rw [e, List.getElem?_append_right (by omega), hx, show (i + 1) * 2 + j - 2 = i * 2 + j by omega]
      exact ih i j a (by simpa using h) hj
theorem frCells_length (l : List FrV) : (frCells l).length = l.length * 2 := by
  induction l with
  | nil => rfl
  | cons x l ih => show (x.cells ++ frCells l).length = _; rw [List.length_append, ih]; simp [FrV.cells]; omega
theorem frCells_append (l m : List FrV) : frCells (l ++ m) = frCells l ++ frCells m := by simp [frCells]
theorem fr_one (l : List FrV) : ∀ u ∈ frCells l, u.oneCell' = true := by
  intro u hu
  obtain ⟨f, _, hu⟩ := List.mem_flatMap.1 hu
  simp only [FrV.cells, List.mem_cons, List.not_mem_nil, or_false] at hu
  rcases hu with rfl | rfl <;> rfl

theorem add_plain (b off k : Nat) : (⟨b, off, none⟩ : Addr).add k = ⟨b, off + k, none⟩ := by
  unfold Addr.add
  by_cases h : k = 0 <;> simp [h]

/-- The i-th frame of a slice lies there. -/
theorem fr_at {w : World} {B n : Nat} {A : Option Addr} {l : List FrV} (h : Rd w B 2 A n (frCells l)) (hl : l.length = n) {i : Nat} (hi : i < n) :
    ∃ (b off : Nat) (a : FrV), A = some ⟨b, off, none⟩ ∧ b < B ∧ l[i]? = some a ∧ w.cell? ⟨b, off + i * 2, none⟩ = some (.int .u8 (a.k : Int)) ∧ w.cell? ⟨b, off + i * 2 + 1, none⟩ = some (.slice a.A a.n a.c) := by
  obtain ⟨ad, e, hb, hc⟩ := h.lies (by omega)
  have ha : l[i]? = some l[i] := List.getElem?_eq_getElem (by omega)
  have g := frCells_get l i
  obtain ⟨b, off, spot⟩ := ad
  have ha0 : l[0]? = some (l[0]'(by omega)) := List.getElem?_eq_getElem (by omega)
  have hspot : spot = none := World.cell?_spot (a := ⟨b, off, spot⟩) (hc 0 _ (frCells_get l 0 0 _ ha0 (by omega)))
  subst hspot
  have k : ∀ j, j < 2 → w.cell? ⟨b, off + i * 2 + j, none⟩ = l[i].cells[j]? := by
    intro j hj
    have h5 : l[i].cells[j]? = some (l[i].cells[j]'(by show j < 2; omega)) := List.getElem?_eq_getElem _
    have := hc _ _ ((g j _ ha hj).trans h5)
    rw [add_plain] at this
    rw [h5, ← this, Nat.add_assoc]
  exact ⟨b, off, l[i], e, hb, ha, k 0 (by omega), k 1 (by omega)⟩

/-- A frame whose payload lies below B is the document's frame d. -/
structure FrOK (w : World) (B : Nat) (f : FrV) (d : Nat × List Nat) : Prop where
  k : f.k = d.1
  k8 : d.1 < 256
  p : Rd w B 1 f.A f.n (bs d.2)
  p8 : ∀ x ∈ d.2, x < 256
  cap : f.n ≤ f.c ∧ f.c ≤ 9223372036854775807
theorem FrOK.below {w w' : World} {B : Nat} {f : FrV} {d : Nat × List Nat} (h : FrOK w B f d) (hb : Below B w w') : FrOK w' B f d := ⟨h.k, h.k8, h.p.below hb, h.p8, h.cap⟩
theorem FrOK.more {w : World} {B B' : Nat} {f : FrV} {d : Nat × List Nat} (h : FrOK w B f d) (hB : B ≤ B') : FrOK w B' f d := ⟨h.k, h.k8, h.p.more hB, h.p8, h.cap⟩
theorem FrOK.keep {w w' : World} {B : Nat} {f : FrV} {d : Nat × List Nat} (h : FrOK w B f d) (hk : ∀ p : Addr, p.block < B → w'.cell? p = w.cell? p) : FrOK w' B f d := ⟨h.k, h.k8, h.p.keep hk, h.p8, h.cap⟩

/-- Frames that are the document's frames ds. -/
structure FrRow (w : World) (B : Nat) (fs : List FrV) (ds : List (Nat × List Nat)) : Prop where
  len : fs.length = ds.length
  ok : ∀ (i : Nat) (f : FrV) (d : Nat × List Nat), fs[i]? = some f → ds[i]? = some d → FrOK w B f d
theorem FrRow.below {w w' : World} {B : Nat} {fs : List FrV} {ds : List (Nat × List Nat)} (h : FrRow w B fs ds) (hb : Below B w w') : FrRow w' B fs ds := ⟨h.len, fun i f d h1 h2 => (h.ok i f d h1 h2).below hb⟩
theorem FrRow.more {w : World} {B B' : Nat} {fs : List FrV} {ds : List (Nat × List Nat)} (h : FrRow w B fs ds) (hB : B ≤ B') : FrRow w B' fs ds := ⟨h.len, fun i f d h1 h2 => (h.ok i f d h1 h2).more hB⟩
theorem FrRow.keep {w w' : World} {B : Nat} {fs : List FrV} {ds : List (Nat × List Nat)} (h : FrRow w B fs ds) (hk : ∀ p : Addr, p.block < B → w'.cell? p = w.cell? p) : FrRow w' B fs ds := ⟨h.len, fun i f d h1 h2 => (h.ok i f d h1 h2).keep hk⟩
theorem FrRow.bytes {w : World} {B : Nat} {fs : List FrV} {ds : List (Nat × List Nat)} (h : FrRow w B fs ds) : ∀ d ∈ ds, d.1 < 256 ∧ ∀ x ∈ d.2, x < 256 := by
  intro d hd
  obtain ⟨i, hi, rfl⟩ := List.mem_iff_getElem.1 hd
  have hl := h.len
  have := h.ok i _ _ (List.getElem?_eq_getElem (by omega)) (List.getElem?_eq_getElem hi)
  exact ⟨this.k8, this.p8⟩
/-- The frame at i. -/
theorem FrRow.at {w : World} {B n : Nat} {A : Option Addr} {fs : List FrV} {ds : List (Nat × List Nat)} (h : FrRow w B fs ds) (hr : Rd w B 2 A n (frCells fs)) {i : Nat} (hi : i < n) :
    ∃ (b off k : Nat) (A2 : Option Addr) (m c2 : Nat) (p : List Nat), A = some ⟨b, off, none⟩ ∧ b < B ∧ ds[i]? = some (k, p) ∧ w.cell? ⟨b, off + i * 2, none⟩ = some (.int .u8 (k : Int)) ∧ w.cell? ⟨b, off + i * 2 + 1, none⟩ = some (.slice A2 m c2) ∧
      k < 256 ∧ Rd w B 1 A2 m (bs p) ∧ (∀ x ∈ p, x < 256) ∧ m ≤ c2 ∧ c2 ≤ 9223372036854775807 := by
  have hl : fs.length = n := by have := hr.len; rw [frCells_length] at this; omega
  obtain ⟨b, off, f, hA, hb, hf, c0, c1⟩ := fr_at hr hl hi
  have hil : i < ds.length := by have := h.len; omega
  have hd : ds[i]? = some ds[i] := List.getElem?_eq_getElem hil
  have ok := h.ok i f _ hf hd
  obtain ⟨k, A2, m, c2⟩ := f
  generalize ds[i] = d at *
  obtain ⟨k', p⟩ := d
  obtain ⟨h1, h2, h3, h4, h5⟩ := ok
  simp only at h1 h2 h3 h4 h5 c0 c1
  subst h1
  exact ⟨b, off, k, A2, m, c2, p, hA, hb, hd, c0, c1, h2, h3, h4, h5.1, h5.2⟩

set_option maxRecDepth 100000 in
set_option maxHeartbeats 800000 in
theorem fput_any (B : Nat) (A : Option Addr) (n c : Nat) (fs : List FrV) (ds : List (Nat × List Nat)) (w : World) (hT : Tab w) (h : Rd w B 2 A n (frCells fs)) (hF : FrRow w B fs ds) (hB : B ≤ w.heap.size) (hn : n ≤ 1000000000) (hl : (frAll ds).length ≤ 1000000000) :
    Calls Tryd.prog 13 #[.slice A n c] w (Made 5 (frAll ds) w) := by
  have h0 := hT.1
  have hFB := hF.bytes
  have HL : Hid (∀ i, (frAll (ds.take i)).length ≤ 1000000000) := fun i => Nat.le_trans (frAll_le ds i) hl
  have HFB := Lib_hid hFB
  have HN : Hid (ds.length = n) := by have := h.len; rw [frCells_length] at this; have := hF.len; unfold Hid; omega
  have HR := fun (W : World) (hW : Below w.heap.size w W) (i : Nat) (hi : i < n) => (hF.below (hW.mono hB)).at (h.below (hW.mono hB)) hi
  have HH := Lib_hid HR
  clear HR hFB hl h hF
  go_enter Tryd.func13, Tryd.ntmps13
  go_wp2
  go_loopw [3, 8] (fun b x wr => ∃ (i n' c' : Nat) (A' : Option Addr), b = .slice A' n' c' ∧ x = .int .i64 i ∧ i ≤ n ∧ wr.ownsRow w.heap.size 5 1 (.slice A' n' c') n' (bs (frAll (ds.take i))) ∧ Below w.heap.size w wr) (fun _ x _ => n - (intOf x).toNat)
  case atStart => exact ⟨0, 0, 0, none, rfl, rfl, Nat.zero_le _, own_none _ _ _, Below.refl _ _⟩
  case round =>
    obtain ⟨i, n', c', A', rfl, rfl, hi, ho, hbw⟩ := hrel
    by_cases hlt : i < n
    · obtain ⟨b, off, k, A2, m, c2, p, rfl, hb, hd, c0, c1, hk, hp, hp8, hm1, hm2⟩ := HH.out wr hbw i hlt
      have hln : (frAll (ds.take i)).length = n' := by have := ho.1; rw [bs_length] at this; omega
      have ht := frAll_take hd
      have hle := HL.out (i + 1)
      rw [ht, List.length_append, frS_length] at hle
      have hle0 := HL.out i
      have hpm : p.length = m := hp.count
      have hlb : ∀ x ∈ frAll (ds.take i), x < 256 := frAll_byte fun d hd => HFB.out d (List.mem_of_mem_take hd)
      simp only at hle ht
      have hsz := hbw.size
      have hb1 := below_new wr (.cells #[.int .u8 (k : Int), .slice A2 m c2] 25)
      have G := fstand_any w.heap.size A' n' c' _ k A2 m c2 p _ (hT.below (hbw.trans (hb1.mono hsz)) h0) (by omega) (by simp; omega) (own_below ho hb1 (own_lt ho)) hlb ((hp.below (hb1.mono (by omega))).more hB) hp8 hk (by omega) (by omega)
      rw [← ht] at G
      have HG := Lib_hid G
      have hbw1 := hbw.trans (hb1.mono hsz)
      have hge := own_ge ho
      clear G ht hd hlb hpm hp hln hle hle0 ho hbw hb1
      go_wp2_with fail
      refine HG.out.mono ?_
      rintro e w2 ⟨A3, n3, c3, rfl, ho3, hst⟩
      have hbw2 := hbw1.trans (hst.below (by simp; omega) hge)
      clear HG hst hbw1 c0 c1
      go_wp2_with fail
      go_roundw
      case rel => exact ⟨i + 1, n3, c3, A3, rfl, by go_num, by omega, ho3, hbw2⟩
      case measure => simp [intOf]; omega
    · obtain rfl : i = n := by omega
      rw [List.take_of_length_le (by rw [HN.out]; exact Nat.le_refl _)] at ho
      clear hlt hi
      go_wp2
      go_ret
      rw [made_iff]
      exact ⟨A', n', c', rfl, ho, hbw⟩

set_option maxRecDepth 100000 in
theorem fsize_any (k : Nat) (A : Option Addr) (m c : Nat) (w : World) (hm : m ≤ 1000000000) :
    Calls Tryd.prog 11 #[.agg #[.int .u8 (k : Int), .slice A m c]] w fun e w' => e = .returned (.int .i64 ((1 + (enc m).length + m + 4 : Nat) : Int)) ∧ Below w.heap.size w w' := by
  have hten := enc_ten (v := m) (by omega)
  go_enter Tryd.func11, Tryd.ntmps11
  go_wp2_with fail
  refine (size_any m _ (by omega)).mono ?_
  rintro e w1 ⟨rfl, rfl⟩
  go_wp2_with fail
  go_ret
  exact ⟨ret_int (by omega), below_new _ _⟩

/-- Are two frames the same? -/
def sameF (d d' : Nat × List Nat) : Bool := decide (d.1 = d'.1) && eqB d.2 d'.2
theorem sameF_eq {d d' : Nat × List Nat} : sameF d d' = true ↔ d = d' := by
  unfold sameF eqB
  rw [Bool.and_eq_true, decide_eq_true_iff, decide_eq_true_iff]
  exact ⟨fun h => Prod.ext h.1 h.2, fun h => by rw [h]; exact ⟨rfl, rfl⟩⟩

set_option maxRecDepth 100000 in
theorem fsame_any (B B' k k' : Nat) (A A' : Option Addr) (m m' c c' : Nat) (p p' : List Nat) (w : World) (h : Rd w B 1 A m (bs p)) (h' : Rd w B' 1 A' m' (bs p')) (hp : ∀ x ∈ p, x < 256) (hp' : ∀ x ∈ p', x < 256) (hB : B ≤ w.heap.size) (hB' : B' ≤ w.heap.size) :
    Calls Tryd.prog 12 #[.agg #[.int .u8 (k : Int), .slice A m c], .agg #[.int .u8 (k' : Int), .slice A' m' c']] w fun e w' => e = .returned (.bool (sameF (k, p) (k', p'))) ∧ Below w.heap.size w w' := by
  have hb1 := below_new w (.cells #[.int .u8 (k : Int), .slice A m c] 25)
  have hb2 := hb1.trans ((below_new _ (.cells #[.int .u8 (k' : Int), .slice A' m' c'] 25)).mono hb1.size)
  have E := equal_any B B' A A' m m' c c' p p' _ (h.below (hb2.mono hB)) (h'.below (hb2.mono hB')) hp hp'
  have HE := Lib_hid E
  clear E h h' hp hp' hb1
  by_cases hk : k = k'
  · subst hk
    have e : sameF (k, p) (k, p') = eqB p p' := by unfold sameF; simp
    rw [e]
    clear e
    generalize eqB p p' = r at *
    go_enter Tryd.func12, Tryd.ntmps12
    go_wp2_with fail
    refine HE.out.mono ?_
    rintro e w1 ⟨rfl, rfl⟩
    go_wp2_with fail
    go_ret
    exact ⟨rfl, hb2⟩
  · have e : sameF (k, p) (k', p') = false := by unfold sameF; simp [hk]
    rw [e]
    clear e HE
    have hk2 : ((k : Int) == (k' : Int)) = false := by simp; omega
    have hk3 : decide ((k : Int) = (k' : Int)) = false := by simp; omega
    go_enter Tryd.func12, Tryd.ntmps12
    go_wp2_with fail
    go_ret
    exact ⟨rfl, hb2⟩

end Go.Proofs.YtedglcbeheeonaaDoor
