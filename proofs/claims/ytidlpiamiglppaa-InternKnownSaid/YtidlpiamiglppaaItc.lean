/-
  Layer 7: tables of names: copies; the calls that ask whether the table is there first.
-/
import Derived.Test.YtidlpiamiglppaaItr
import Derived.Test.YtidlpiamiglppaaItw
import Derived.Shelf.SlMaps.Clone
import Derived.Deep.RegionHeld3
namespace Go.Proofs.Ytidlpiamiglppaa
open Go Go.RowKit Go.Maps
set_option linter.unusedVariables false

set_option maxRecDepth 100000 in
theorem uclone_any (B n c : Nat) (A : Option Addr) (l : List PP) (w : World) (h : Rd w B 1 A n (uc l)) (hn : n ≤ 1000000000) :
    Calls Try.prog 33 #[.slice A n c] w (MadeC 23 1 n (uc l) w) := by
  have hnil : ∀ wx, (binOp .eql 26 (.slice A n c) (.slice none 0 0)).run Try.prog wx = .ok (.bool A.isNone) wx := fun wx => Lib.run_eql_slice_nil wx 26 23 A n c 0 0 Try.underlying26
  cases A with
  | none =>
    have h0 : n = 0 := by
      rcases Nat.eq_zero_or_pos n with h0 | h0
      · exact h0
      · obtain ⟨ad, e, _⟩ := h.lies h0; cases e
    subst h0
    have hv : uc l = [] := List.eq_nil_of_length_eq_zero (by have := h.len; omega)
    have HV := Lib_hid hv
    clear h hv
    go_enter Try.func33, Try.ntmps33
    go_wp2
    go_ret
    exact ⟨none, 0, rfl, by rw [HV.out]; exact World.ownsRow_nil _ _ _ _, Below.refl _ _⟩
  | some ad =>
    obtain ⟨i0, hi, hz0, hz1, hz2⟩ := info_parts Try.infoU
    have hm1 : 0 + n ≤ maxLen := by unfold maxLen; omega
    have hm2 : (0 + n) * 8 ≤ 140737488355328 := by omega
    have hon : (w.alloc (.cells #[] 23)).ownsRow w.heap.size 23 1 (.slice (some ⟨w.heap.size, 0, none⟩) 0 0) 0 [] := World.ownsRow_lit w #[] 0 (Nat.le_refl _) (by decide) rfl
    have h2 : Rd (w.alloc (.cells #[] 23)) (w.heap.size + 1) 1 (some ad) n (uc l) := by
      refine ⟨h.len, fun hn => ?_⟩
      obtain ⟨ad', e, hb, hc⟩ := h.lies hn
      have hlt : ad'.block < w.heap.size := by
        have := World.block_lt_of_cell? w _ (hc 0 ((uc l)[0]'(by have := h.len; omega)) (List.getElem?_eq_getElem _))
        rwa [add_block] at this
      exact ⟨ad', e, by omega, fun j u hu => (World.cell?_alloc_lt w _ _ (by rw [add_block]; exact hlt)).trans (hc j u hu)⟩
    have hsz : w.heap.size ≤ (w.alloc (.cells #[] 23)).heap.size := by simp
    clear h
    go_enter Try.func33, Try.ntmps33
    go_wp2_with (at_builtin; (refine wpList_app rfl _ _ 26 rfl w.heap.size 23 i0 (.int .u64 0) 1 8 Try.underlying26 hi hz0 hz1 hz2 rfl (by decide) _ 0 [] rfl hon (w.heap.size + 1) (some ad) n c (uc l) rfl h2 (uc_one _) hm1 hm2 hsz ?_); intro v' w1 hown' hst; simp only [Nat.zero_add, List.nil_append] at hown'; obtain ⟨A2, c2, rfl, _⟩ := own_form hown')
    go_ret
    exact ⟨A2, c2, rfl, hown', ((Below.refl _ _).alloc (Nat.le_refl _) _).trans (hst.below hsz (fun k hk => by have : w.heap.size = k := (by injection hk); omega))⟩

/-- A new map, with the numbers of l. -/
def MapEnd (s : Sk) (l : List PP) (w : World) (e : Ending) (w' : World) : Prop :=
  ∃ m, e = .returned (.map m) ∧ MapHas s.toKd w' m l ∧ (∀ b, m = some b → w.heap.size ≤ b) ∧ Below w.heap.size w w'

theorem umclone_any {w : World} {m : Option Nat} {l : List PP} (h : MapHas kU.toKd w m l) : Calls Try.prog 44 #[.map m] w (MapEnd kU l w) := by
  rcases m with _ | b
  · have C := AnyW.maps_Clone_nil Try.cloneL w
    change Calls Try.prog 44 _ _ _ at C
    refine C.mono ?_
    rintro e w' ⟨rfl, rfl⟩
    refine ⟨none, rfl, ?_, fun b hb => (by cases hb), Below.refl _ _⟩
    rcases h with h | ⟨b, D, e, _⟩
    · exact .inl h
    · cases e
  · rcases h with ⟨e, _⟩ | ⟨b', D, e, ⟨es, clock, hb, F, hs, hD⟩, h2⟩
    · cases e
    · cases e
      have C := AnyW.maps_Clone Try.cloneL b es clock w hb
      change Calls Try.prog 44 _ _ _ at C
      refine C.mono ?_
      rintro e w' ⟨rfl, rfl⟩
      exact ⟨some w.heap.size, rfl, .inr ⟨_, D, rfl, ⟨es, clock, heap_alloc_new w _, F, hs, hD⟩, h2⟩, fun b hb => by injection hb with hb; omega, below_new w _⟩

theorem below_d1 (w : World) : Below w.heap.size w w.drew := ⟨rfl, rfl, rfl, Nat.le_refl _, fun _ _ => rfl⟩

/-- Two cells stored at a block's head. -/
def put2 (w : World) (g : Nat) (x y : Value) : World := (w.setCell ⟨g, 0, none⟩ x).setCell ⟨g, 1, none⟩ y
theorem put2_block (w : World) (g : Nat) (x y : Value) {k : Nat} (h : k ≠ g) : (put2 w g x y).heap[k]? = w.heap[k]? :=
  (heap_setCell_other _ ⟨g, 1, none⟩ k y h).trans (heap_setCell_other w ⟨g, 0, none⟩ k x h)
theorem put2_size (w : World) (g : Nat) (x y : Value) : (put2 w g x y).heap.size = w.heap.size := by simp [put2]
theorem put2_below {B : Nat} {a w : World} (h : Below B a w) (g : Nat) (hg : B ≤ g) (hB : B ≤ w.heap.size) (x y : Value) : Below B a (put2 w g x y) :=
  h.trans ⟨rfl, rfl, rfl, by rw [put2_size]; exact Nat.le_refl _, fun k hk => put2_block w g x y (by omega)⟩

/-- How apart ends. -/
def ApartEnd (s : Sk) (l : List PP) (w : World) (e : Ending) (w' : World) : Prop :=
  ∃ A c m, e = .returned (.agg #[.slice A l.length c, .map m]) ∧ w'.ownsRow w.heap.size s.E s.size (.slice A l.length c) l.length (s.cs l) ∧ MapHas s.toKd w' m l ∧ (∀ b, m = some b → w.heap.size ≤ b) ∧ Below w.heap.size w w'

set_option maxRecDepth 100000 in
set_option maxHeartbeats 800000 in
theorem uapart_any {w : World} {p c : Nat} {A : Option Addr} {mb : Option Nat} {l : List PP} (h : Tab kU w p A c mb l) (hl : l.length ≤ 1000000000) :
    Calls Try.prog 31 #[.pointer (some ⟨p, 0, none⟩)] w (ApartEnd kU l w) := by
  have hb0 := below_new w (.cells #[.slice none 0 0, .map none] 29)
  have hbx := heap_alloc_new w (.cells #[.slice none 0 0, .map none] 29)
  have hs0 : (w.alloc (.cells #[.slice none 0 0, .map none] 29)).heap.size = w.heap.size + 1 := by simp
  have HT : Hid (∀ W, Below w.heap.size w W → Tab kU W p A c mb l) := fun W hW => h.below hW h.lt
  have hpl := h.lt p (.inl rfl)
  generalize hW0 : w.alloc (.cells #[.slice none 0 0, .map none] 29) = W0 at *
  have KC : Hid (∀ W, Below W0.heap.size W0 W → W.cell? ⟨p, 0, none⟩ = some (.slice A l.length c) ∧ W.cell? ⟨p, 1, none⟩ = some (.map mb)) := fun W hW =>
    have := HT.out W (hb0.trans (hW.mono (by omega)))
    ⟨this.c0, this.c1⟩
  have CL : Hid (∀ W, Below W0.heap.size W0 W → Calls Try.prog 33 #[.slice A l.length c] W (MadeC 23 1 l.length (uc l) W)) := fun W hW =>
    uclone_any _ _ _ _ _ _ (HT.out W (hb0.trans (hW.mono (by omega)))).rd hl
  have CM : Hid (∀ W, Below W0.heap.size W0 W → Calls Try.prog 44 #[.map mb] W (MapEnd kU l W)) := fun W hW =>
    umclone_any (HT.out W (hb0.trans (hW.mono (by omega)))).map
  have HX : Hid (∀ W, Below W0.heap.size W0 W → W.cell? ⟨w.heap.size, 0, none⟩ = some (.slice none 0 0) ∧ W.cell? ⟨w.heap.size, 1, none⟩ = some (.map none) ∧ W.frozen? ⟨w.heap.size, 0, none⟩ = false ∧ W.frozen? ⟨w.heap.size, 1, none⟩ = false ∧ w.heap.size < W.heap.size) := fun W hW =>
    have h := (hW.block w.heap.size (by omega)).trans hbx
    ⟨cell_of_row _ _ 0 _ _ _ h, cell_of_row _ _ 1 _ _ _ h, frozen_of_row _ _ 0 _ _ h, frozen_of_row _ _ 1 _ _ h, by have := hW.size; omega⟩
  have KS : Hid (∀ W x y, Below W0.heap.size W0 W → ((W.setCell ⟨w.heap.size, 0, none⟩ x).setCell ⟨w.heap.size, 1, none⟩ y).cell? ⟨p, 0, none⟩ = some (.slice A l.length c) ∧ ((W.setCell ⟨w.heap.size, 0, none⟩ x).setCell ⟨w.heap.size, 1, none⟩ y).cell? ⟨p, 1, none⟩ = some (.map mb)) := fun W x y hW =>
    have h := put2_block W w.heap.size x y (k := p) (by omega)
    ⟨(World.cell?_of_block h).trans (KC.out W hW).1, (World.cell?_of_block h).trans (KC.out W hW).2⟩
  have HE : Hid (∀ W A2 c2 m2 b, Below W0.heap.size W0 W → W.ownsRow b 23 1 (.slice A2 l.length c2) l.length (uc l) → W0.heap.size ≤ b → MapHas kU.toKd W m2 l → (∀ b, m2 = some b → W0.heap.size ≤ b) →
      ApartEnd kU l w (.returned (.agg #[.slice A2 l.length c2, .map m2])) ((W.setCell ⟨w.heap.size, 0, none⟩ (.slice A2 l.length c2)).setCell ⟨w.heap.size, 1, none⟩ (.map m2))) := fun W A2 c2 m2 b hW ho hb hm hmb =>
    ⟨A2, c2, m2, rfl, own_base (own_keep ho fun k hk => put2_block W w.heap.size _ _ (by have := own_ge ho k hk; omega)) (fun k hk => by have := own_ge ho k hk; omega), hm.keep fun k hk => put2_block W w.heap.size _ _ (by have := hmb k hk; omega), fun k hk => by have := hmb k hk; omega,
      put2_below (hb0.trans (hW.mono (by omega))) w.heap.size (Nat.le_refl _) (by have := hW.size; omega) _ _⟩
  have HH := Lib_hid (And.intro hW0 (And.intro hb0 (And.intro hbx hs0)))
  clear h hW0 hb0 hbx hs0 HT
  go_enter Try.func31, Try.ntmps31
  go_upto_region 1 with (fail)
  rw [HH.out.1]
  have hw1 := HH.out.2.2.2
  go_region_held3 (fun W => W.cell? ⟨p, 0, none⟩ = some (.slice A l.length c) ∧ W.cell? ⟨p, 1, none⟩ = some (.map mb))
    (first | exact KS.out _ _ _ (by exact hbm) | exact KS.out _ _ _ (by exact hbs) | exact KC.out _ (below_d1 _) | exact KC.out _ (Below.refl _ _) | exact KC.out _ hbm | exact KC.out _ hbs)
    ((first | (go_at_call 33; first | ((with_reducible refine (CL.out _ (by exact hbm)).mono ?_); rintro e ws ⟨A2, c2, rfl, ho, hbs'⟩; have hbs := hbm.trans (hbs'.mono hbm.size); obtain ⟨y0, y1, z0, z1, zs⟩ := HX.out _ hbs) | ((with_reducible refine (CL.out _ (by exact below_d1 _)).mono ?_); rintro e ws ⟨A2, c2, rfl, ho, hbs'⟩; have hbs : Below W0.heap.size W0 ws := ⟨hbs'.os, hbs'.tape, hbs'.output, hbs'.size, hbs'.block⟩)) | (go_at_call 44; first | ((with_reducible refine (CM.out _ (by exact hbs)).mono ?_); rintro e wm ⟨m2, rfl, hm, hmb, hbm'⟩; have hbm := hbs.trans (hbm'.mono hbs.size); obtain ⟨y0, y1, z0, z1, zs⟩ := HX.out _ hbm) | ((with_reducible refine (CM.out _ (by exact below_d1 _)).mono ?_); rintro e wm ⟨m2, rfl, hm, hmb, hbm'⟩; have hbm : Below W0.heap.size W0 wm := ⟨hbm'.os, hbm'.tape, hbm'.output, hbm'.size, hbm'.block⟩))))
  all_goals go_wp2
  · have HF := Lib_hid (HE.out wm A2 c2 m2 _ hbm (own_below ho hbm' (own_lt ho)) (Nat.le_refl _) hm (fun b hb => Nat.le_trans hbs.size (hmb b hb)))
    have f0 : ((wm.setCell ⟨w.heap.size, 0, none⟩ (.slice A2 l.length c2)).setCell ⟨w.heap.size, 1, none⟩ (.map m2)).cell? ⟨w.heap.size, 0, none⟩ = some (.slice A2 l.length c2) := (World.cell?_setCell_other _ _ _ _ (by simp)).trans (World.cell?_setCell_same _ _ _ y0)
    have f1 : ((wm.setCell ⟨w.heap.size, 0, none⟩ (.slice A2 l.length c2)).setCell ⟨w.heap.size, 1, none⟩ (.map m2)).cell? ⟨w.heap.size, 1, none⟩ = some (.map m2) := World.cell?_setCell_same _ _ _ ((World.cell?_setCell_other _ _ _ _ (by simp)).trans y1)
    clear HE KC KS CL CM HX HH ho hm hmb
    generalize (wm.setCell ⟨w.heap.size, 0, none⟩ (.slice A2 l.length c2)).setCell ⟨w.heap.size, 1, none⟩ (.map m2) = WF at *
    exact bodyPost_ret (v := .agg #[.slice A2 l.length c2, .map m2]) (by simp [results, Try.results31, go_sem, f0, f1]) rfl HF.out

end Go.Proofs.Ytidlpiamiglppaa
