/-
  The contract of the document's SamePlaced, where the frames are the document's.
-/
import Derived.Test.YtedglcbeheeonaaDoorFsl
import Derived.Test.YtedglcbeheeonaaDoorFrt
import Derived.Test.YtedglcbeheeonaaDoorFdo
namespace Go.Proofs.YtedglcbeheeonaaDoor
open Go Go.RowKit
set_option linter.unusedVariables false

theorem plCells_at : ∀ (l : List Ev) (i j : Nat) (a : Ev), l[i]? = some a → j < 4 → (plCells l)[i * 4 + j]? = a.cells[j]? := by
  intro l
  induction l with
  | nil => intro i j a h; simp at h
  | cons x l ih =>
    intro i j a h hj
    have e : plCells (x :: l) = x.cells ++ plCells l := rfl
    have hx : x.cells.length = 4 := rfl
    cases i with
    | zero =>
      simp at h
      subst h
      rw [e, Nat.zero_mul, Nat.zero_add, List.getElem?_append_left (by omega)]
    | succ i =>
      rw [e, List.getElem?_append_right (by omega), hx, show (i + 1) * 4 + j - 4 = i * 4 + j by omega]
      exact ih i j a (by simpa using h) hj
theorem pdCells_at : ∀ (l : List Dv) (i j : Nat) (a : Dv), l[i]? = some a → j < 4 → (pdCells l)[i * 4 + j]? = (pdRow a)[j]? := by
  intro l
  induction l with
  | nil => intro i j a h; simp at h
  | cons x l ih =>
    intro i j a h hj
    have e : pdCells (x :: l) = pdRow x ++ pdCells l := rfl
    have hx : (pdRow x).length = 4 := rfl
    cases i with
    | zero =>
      simp at h
      subst h
      rw [e, Nat.zero_mul, Nat.zero_add, List.getElem?_append_left (by omega)]
    | succ i =>
      rw [e, List.getElem?_append_right (by omega), hx, show (i + 1) * 4 + j - 4 = i * 4 + j by omega]
      exact ih i j a (by simpa using h) hj
theorem pdCells_length (ds : List Dv) : (pdCells ds).length = ds.length * 4 := by
  induction ds with
  | nil => rfl
  | cons x l ih => show (pdRow x ++ pdCells l).length = _; rw [List.length_append, ih]; simp [pdRow]; omega

theorem four_at {w : World} {B n i : Nat} {A : Option Addr} {xs : List Value} (h : Rd w B 4 A n xs) (hi : i < n) :
    ∃ b off, A = some ⟨b, off, none⟩ ∧ b < B ∧ ∀ j u, xs[i * 4 + j]? = some u → w.cell? ⟨b, off + i * 4 + j, none⟩ = some u := by
  obtain ⟨ad, e, hb, hc⟩ := h.lies (by omega)
  have hl := h.len
  obtain ⟨u, hu⟩ : ∃ u, xs[0]? = some u := ⟨_, List.getElem?_eq_getElem (by omega)⟩
  obtain ⟨b, off, spot⟩ := ad
  have hspot : spot = none := World.cell?_spot (a := ⟨b, off, spot⟩) (hc 0 u hu)
  subst hspot
  refine ⟨b, off, e, hb, fun j u hu => ?_⟩
  have := hc _ u hu
  rwa [add_plain, ← Nat.add_assoc] at this

/-- All but the payloads' own blocks is as it was. -/
structure PB (xs : List Ev) (w w' : World) : Prop where
  os : w'.os = w.os
  tape : w'.tape = w.tape
  output : w'.output = w.output
  size : w.heap.size ≤ w'.heap.size
  blk : ∀ k, k < w.heap.size → (∀ x ∈ xs, x.sl.ownBlock ≠ some k) → w'.heap[k]? = w.heap[k]?
section
variable {xs : List Ev} {w w' w'' : World}
theorem PB.refl (xs : List Ev) (w : World) : PB xs w w := ⟨rfl, rfl, rfl, Nat.le_refl _, fun _ _ _ => rfl⟩
theorem PB.trans (h : PB xs w w') (k : PB xs w' w'') : PB xs w w'' :=
  ⟨k.os.trans h.os, k.tape.trans h.tape, k.output.trans h.output, Nat.le_trans h.size k.size, fun i hi hx => (k.blk i (Nat.lt_of_lt_of_le hi h.size) hx).trans (h.blk i hi hx)⟩
theorem PB.under (hb : Below w.heap.size w w') : PB xs w w' := ⟨hb.os, hb.tape, hb.output, hb.size, fun k hk _ => hb.block k hk⟩
theorem PB.grown {x : Ev} (hx : x ∈ xs) (hg : w.grownBy w' x.sl.ownBlock) : PB xs w w' :=
  ⟨hg.os, hg.tape, hg.output, hg.size, fun k hk h => hg.block k hk fun e => h x hx e.symm⟩
theorem PB.below {B : Nat} (h : PB xs w w') (hB : B ≤ w.heap.size) (hx : ∀ x ∈ xs, ∀ k, x.sl.ownBlock = some k → B ≤ k) : Below B w w' :=
  ⟨h.os, h.tape, h.output, h.size, fun k hk => h.blk k (by omega) fun x hm e => by have := hx x hm k e; omega⟩
end

/-- Between two rounds: the payloads from the i-th one on are as they were. -/
structure SmI (lo : Nat) (xs : List Ev) (w wr : World) (i : Nat) : Prop where
  pb : PB xs w wr
  pay : ∀ j x, i ≤ j → xs[j]? = some x → PayOK wr lo x

theorem pay_keep {lo : Nat} {x : Ev} {w w' : World} (h : PayOK w lo x) (hk : ∀ k, x.sl.ownBlock = some k → w'.heap[k]? = w.heap[k]?) : PayOK w' lo x := ⟨own_keep h.1 hk, h.2⟩

set_option maxRecDepth 100000 in
set_option maxHeartbeats 1600000 in
theorem splaced_any (lo hi : Nat) (A : Option Addr) (n c : Nat) (A' : Option Addr) (n' c' : Nat) (xs : List Ev) (ds : List Dv) (w : World) (hr : Rd w hi 4 A n (plCells xs)) (hhi : hi ≤ w.heap.size) (hr' : Rd w lo 4 A' n' (pdCells ds)) (hlo : lo ≤ w.heap.size)
    (hp : ∀ x ∈ xs, PayOK w lo x) (hA : ∀ x ∈ xs, ∀ g, x.sl.ownBlock = some g → ∀ ad, A = some ad → 0 < n → ad.block ≠ g) (hpw : xs.Pairwise fun x y => ∀ k, x.sl.ownBlock = some k → y.sl.ownBlock ≠ some k) (hds : ds = xs.map Ev.abs) (hn : n ≤ 1000000) :
    Calls Tryd.prog 22 #[.slice A n c, .slice A' n' c'] w fun e w' => e = .returned (.bool true) ∧ PB xs w w' := by
  have hxl : xs.length = n := by have := hr.len; rw [plCells_length] at this; omega
  obtain rfl : n' = n := by have := hr'.len; rw [pdCells_length, hds, List.length_map] at this; omega
  have hne : (((n' : Nat) : Int) != (n' : Int)) = false := by simp
  have HXL := Lib_hid hxl
  have HDS := Lib_hid hds
  have HRR := Lib_hid (And.intro hr hr')
  have HPB := Lib_hid (fun (W : World) (h : PB xs w W) => (show (∀ p : Addr, (0 < n' → ∀ ad, A = some ad → p.block = ad.block) → 0 < n' → p.block < hi → W.cell? p = w.cell? p) from fun p h1 h2 h3 => by
    obtain ⟨ad, e, _⟩ := hr.lies h2
    exact World.cell?_of_block (h.blk p.block (by omega) fun x hx e2 => hA x hx _ e2 ad e h2 (h1 h2 ad e).symm)))
  have HPD := Lib_hid (fun (W : World) (h : PB xs w W) => h.below hlo fun x hx k hk => own_ge (hp x hx).1 k hk)
  have HPW := Lib_hid hpw
  have H0 := Lib_hid (show SmI lo xs w w 0 from ⟨PB.refl _ _, fun j x _ hx => hp x (List.mem_of_getElem? hx)⟩)
  clear hxl hds hr hr' hA hpw hp
  go_enter Tryd.func22, Tryd.ntmps22
  go_wp2
  go_loopw [5] (fun v wr => ∃ i : Nat, v = .int .i64 i ∧ i ≤ n' ∧ SmI lo xs w wr i) (fun v _ => n' - (intOf v).toNat)
  case atStart => exact ⟨0, rfl, Nat.zero_le _, H0.out⟩
  case round =>
    clear H0
    obtain ⟨i, rfl, hi1, hS⟩ := hrel
    by_cases hlt : i < n'
    · obtain ⟨wo, rfl⟩ : ∃ wo : World, wo = wr := ⟨_, rfl⟩
      obtain ⟨b, off, rfl, hbB, hc⟩ := four_at HRR.out.1 hlt
      obtain ⟨b', off', rfl, hbB', hc'⟩ := four_at HRR.out.2 hlt
      have hx : xs[i]? = some (xs[i]'(by have := HXL.out; omega)) := List.getElem?_eq_getElem (by have := HXL.out; omega)
      generalize xs[i]'(by have := HXL.out; omega) = x at hx
      have hd : ds[i]? = some x.abs := by rw [HDS.out, List.getElem?_map, hx]; rfl
      have hpx := hS.pay i x (Nat.le_refl _) hx
      have hmx := List.mem_of_getElem? hx
      have kc : ∀ j u, j < 4 → x.cells[j]? = some u → w.cell? ⟨b, off + i * 4 + j, none⟩ = some u := fun j u hj hu => hc j u ((plCells_at xs i j x hx hj).trans hu)
      have kd : ∀ j u, j < 4 → (pdRow x.abs)[j]? = some u → w.cell? ⟨b', off' + i * 4 + j, none⟩ = some u := fun j u hj hu => hc' j u ((pdCells_at ds i j _ hd hj).trans hu)
      obtain ⟨k, p, PA, pc, f, t, r⟩ := x
      have a0 := kc 0 _ (by omega) rfl
      have a1 := kc 1 _ (by omega) rfl
      have a2 := kc 2 _ (by omega) rfl
      have a3 := kc 3 _ (by omega) rfl
      have b0 := kd 0 _ (by omega) rfl
      have b1 := kd 1 _ (by omega) rfl
      have b2 := kd 2 _ (by omega) rfl
      have b3 := kd 3 _ (by omega) rfl
      simp only [Ev.abs] at b0 b1 b2 b3 a0 a1 a2 a3
      have KC : ∀ W, PB xs w W → ∀ j u, w.cell? ⟨b, off + i * 4 + j, none⟩ = some u → W.cell? ⟨b, off + i * 4 + j, none⟩ = some u := fun W hW j u hu => (HPB.out W hW ⟨b, off + i * 4 + j, none⟩ (fun _ ad e => by injection e with e; subst e; rfl) (by omega) hbB).trans hu
      have KD : ∀ W, PB xs w W → ∀ j u, w.cell? ⟨b', off' + i * 4 + j, none⟩ = some u → W.cell? ⟨b', off' + i * 4 + j, none⟩ = some u := fun W hW j u hu => ((HPD.out W hW).cell (p := ⟨b', off' + i * 4 + j, none⟩) hbB').trans hu
      have S0 : Hid (∀ W : World, PB xs w W → W.cell? ⟨b, off + i * 4, none⟩ = some (.int .u8 (k : Int)) ∧ W.cell? ⟨b, off + i * 4 + 1, none⟩ = some (.slice PA p.length pc) ∧ W.cell? ⟨b, off + i * 4 + 2, none⟩ = some (.int .i64 (f : Int)) ∧ W.cell? ⟨b, off + i * 4 + 3, none⟩ = some (.int .i64 (t : Int)) ∧
          W.cell? ⟨b', off' + i * 4, none⟩ = some (.int .u8 (k : Int)) ∧ W.cell? ⟨b', off' + i * 4 + 1, none⟩ = some (.string (str p)) ∧ W.cell? ⟨b', off' + i * 4 + 2, none⟩ = some (.int .i64 (f : Int)) ∧ W.cell? ⟨b', off' + i * 4 + 3, none⟩ = some (.int .i64 (t : Int))) := fun W hW =>
        ⟨KC W hW 0 _ a0, KC W hW 1 _ a1, KC W hW 2 _ a2, KC W hW 3 _ a3, KD W hW 0 _ b0, KD W hW 1 _ b1, KD W hW 2 _ b2, KD W hW 3 _ b3⟩
      have hp8 := hpx.2.2
      have DF : Hid (∀ W : World, Below wo.heap.size wo W → Calls Tryd.prog 9 #[.agg #[.int .u8 (k : Int), .slice PA p.length pc]] W fun e w' => e = .returned (.agg #[.int .u8 (k : Int), .string (str p)]) ∧ Below W.heap.size W w') := fun W hW =>
        dframe_any wo.heap.size k PA p.length pc p W ((Rd.own hpx.1).below hW) hW.size
      have EQN := fun wx => neq_fr k k p p wx hp8 hp8
      rw [show sameF (k, p) (k, p) = true from sameF_eq.2 rfl] at EQN
      unfold dfv at EQN
      have SW : Hid (∀ W : World, Below wo.heap.size wo W → PB xs w W) := fun W hW => hS.pb.trans (PB.under hW)
      have HS := Lib_hid hS
      have HX := Lib_hid hx
      have HPX := Lib_hid hpx
      have HM := Lib_hid hmx
      have hpl : p.length ≤ 9223372036854775807 := by have := own_cap hpx.1; simp only at this; omega
      obtain ⟨d0, d1, d2, d3, d4, d5, d6, d7⟩ := S0.out wo hS.pb
      clear a0 a1 a2 a3 b0 b1 b2 b3 KC KD kc kd hc hc' hd hp8 hS hx hpx hmx
      have ne2 : (((f : Nat) : Int) != (f : Int)) = false := by simp
      have ne3 : (((t : Nat) : Int) != (t : Int)) = false := by simp
      go_wp2_with fail
      go_region_held3 (fun W => W.cell? ⟨b, off + i * 4, none⟩ = some (.int .u8 (k : Int)) ∧ W.cell? ⟨b, off + i * 4 + 1, none⟩ = some (.slice PA p.length pc) ∧ W.cell? ⟨b, off + i * 4 + 2, none⟩ = some (.int .i64 (f : Int)) ∧ W.cell? ⟨b, off + i * 4 + 3, none⟩ = some (.int .i64 (t : Int)) ∧
          W.cell? ⟨b', off' + i * 4, none⟩ = some (.int .u8 (k : Int)) ∧ W.cell? ⟨b', off' + i * 4 + 1, none⟩ = some (.string (str p)) ∧ W.cell? ⟨b', off' + i * 4 + 2, none⟩ = some (.int .i64 (f : Int)) ∧ W.cell? ⟨b', off' + i * 4 + 3, none⟩ = some (.int .i64 (t : Int)))
        (first | exact S0.out _ (SW.out _ (below_like (Below.refl _ _) rfl rfl rfl rfl)) | exact S0.out _ (SW.out _ hbs))
        ((go_at_call 9; ((with_reducible refine (DF.out wo.drew (below_like (Below.refl _ _) rfl rfl rfl rfl)).mono ?_); rintro e ws ⟨rfl, hs'⟩; have hbs : Below wo.heap.size wo ws := ⟨hs'.os, hs'.tape, hs'.output, hs'.size, hs'.block⟩)))
      all_goals
        have SW2 : Hid (∀ W : World, ws.grownBy W (Value.slice PA p.length pc).ownBlock → PB xs w W) := fun W hW => (SW.out _ hbs).trans (PB.grown HM.out hW)
        have hpy := own_below HPX.out.1 hbs (own_lt HPX.out.1)
        have hps : ∀ z, z < p.length → ∃ u, (bs p)[z]? = some (.int .u8 u) := fun z hz => ⟨_, bs_get hz⟩
        clear d0 d1 d2 d3 d4 d5 d6 d7 EQN DF
        go_wp2
        go_loopw [6] (fun v W => ∃ (z : Nat) (ys : List Value), v = .int .i64 z ∧ z ≤ p.length ∧ W.ownsRow lo 5 1 (.slice PA p.length pc) p.length ys ∧ (∀ z, z < p.length → ∃ u, ys[z]? = some (.int .u8 u)) ∧ ws.grownBy W (Value.slice PA p.length pc).ownBlock) (fun v _ => p.length - (intOf v).toNat)
        case atStart => exact ⟨0, bs p, rfl, Nat.zero_le _, hpy, hps, ⟨rfl, rfl, rfl, Nat.le_refl _, fun _ _ _ => rfl⟩⟩
        case round =>
          clear hpy hps
          obtain ⟨z, ys, rfl, hz, ho, hys, hg⟩ := hrel
          obtain ⟨d0, d1, -, -, -, -, -, -⟩ := S0.out _ (SW2.out _ hg)
          by_cases hzl : z < p.length
          · obtain ⟨g, cap, hv, _, _⟩ := ho.form (by omega)
            have hA : PA = some ⟨g, 0, none⟩ := by injection hv
            subst hA
            obtain ⟨u, hu⟩ := hys z hzl
            have hc := (ho.cellAt z (by omega)).trans hu
            have hf := ho.frozenAt z
            have ST := fun v => ho.stored z v
            have hys' : ∀ v : Int, ∀ y, y < p.length → ∃ u, (ys.set z (.int .u8 v))[y]? = some (.int .u8 u) := by
              intro v y hy
              by_cases hyz : z = y
              · subst hyz
                have hl := ho.1
                exact ⟨v, by rw [List.getElem?_set_self (by omega)]⟩
              · obtain ⟨u', hu'⟩ := hys y hy
                exact ⟨u', by rw [List.getElem?_set_ne hyz]; exact hu'⟩
            have HST := Lib_hid ST
            have HYS := Lib_hid hys'
            have HG := Lib_hid hg
            clear ST hys' hys hu ho hg hv
            go_wp2
            go_roundw
            case rel => exact ⟨z + 1, _, by go_num, by omega, (HST.out _).1, HYS.out _, HG.out.trans (HST.out _).2⟩
            case measure => simp [intOf]; omega
          · obtain rfl : z = p.length := by omega
            have hS' : SmI lo xs w wr (i + 1) := ⟨SW2.out _ hg, fun j y hj hy => by
              have h1 := HS.out.pay j y (by omega) hy
              refine pay_keep h1 fun k hk => (hg.block k ?_ ?_).trans (hbs.block k (own_lt h1.1 k hk))
              · have := own_lt h1.1 k hk; have := hbs.size; omega
              · intro e
                have hjl := (List.getElem?_eq_some_iff.1 hy)
                have hil := (List.getElem?_eq_some_iff.1 HX.out)
                have := (List.pairwise_iff_getElem.1 HPW.out) i j hil.1 hjl.1 (by omega) k (by rw [hil.2]; exact e.symm)
                rw [hjl.2] at this
                exact this hk⟩
            clear hg ho hys
            go_wp2
            go_roundw
            case rel => exact ⟨i + 1, by go_num, by omega, hS'⟩
            case measure => simp [intOf]; omega
    · obtain rfl : i = n' := by omega
      have hP := hS.pb
      clear hS
      go_wp2
      go_ret
      exact ⟨rfl, hP⟩

end Go.Proofs.YtedglcbeheeonaaDoor
