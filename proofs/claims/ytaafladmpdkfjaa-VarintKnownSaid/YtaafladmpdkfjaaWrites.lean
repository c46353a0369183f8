/-
  The statement's function VarintWrites returns true, for every input.
-/
import Derived.Test.YtaafladmpdkfjaaWrite
import Derived.Deep.DeepCutAuto
import Derived.Deep.CutBlock
import Derived.Deep.RegionHeld3
import Derived.Deep.LoopGhost
import Derived.Handy
namespace Go.Proofs.Ytaafladmpdkfjaa
open Go Go.RowKit
set_option linter.unusedVariables false

/-- Two slices that do not lie in one row. -/
def Dis (u v : Value) : Prop := ∀ k, u.ownBlock = some k → v.ownBlock ≠ some k
theorem Dis.new {u v v' : Value} {N : Nat} (h : Dis u v) (hu : ∀ k, u.ownBlock = some k → k < N) (hr : v'.ownBlock = v.ownBlock ∨ ∃ k, v'.ownBlock = some k ∧ N ≤ k) : Dis u v' := fun k hk e => by
  rcases hr with hr | ⟨j, hr, hj⟩
  · rw [hr] at e; exact h k hk e
  · rw [hr] at e; have : j = k := by injection e
    have := hu k hk; omega
theorem Dis.symm {u v : Value} (h : Dis u v) : Dis v u := fun k hk e => h k e hk

theorem own_ne_block {w : World} {b size n g : Nat} {e t : TypeId} {v : Value} {xs : List Value} {cs : Array Value} (h : w.ownsRow b e size v n xs) (hg : w.heap[g]? = some (.cells cs t (0, 0))) (hne : e ≠ t) : v.ownBlock ≠ some g := by
  intro hv
  rcases h.2 with ⟨rfl, _⟩ | ⟨k, cap, cur, rfl, _, hh, _⟩
  · simp [Value.ownBlock] at hv
  · have : k = g := by simpa [Value.ownBlock] using hv
    subst this
    rw [hh] at hg
    injection hg with hg
    injection hg with _ h2
    exact hne h2

/-- The writer at block g, the bytes that are wanted, an own copy, an Act in block b: each in memory of its own. -/
structure St (T E T6 : TypeId) (w0 w : World) (g b : Nat) (cs : Array Value) (A : Option Addr) (n c : Nat) (Au : Option Addr) (nu cu : Nat) (Ao : Option Addr) (no co : Nat) (ys us : List Nat) (zs : List Value) : Prop where
  wr : Wr T E w g A n c ys
  want : w.ownsRow (g + 1) E 1 (.slice Au nu cu) nu (bs us)
  own : w.ownsRow (g + 1) E 1 (.slice Ao no co) no zs
  act : w.heap[b]? = some (.cells cs T6 (0, 0))
  d1 : Dis (.slice Au nu cu) (.slice A n c)
  d2 : Dis (.slice Ao no co) (.slice A n c)
  d3 : Dis (.slice Ao no co) (.slice Au nu cu)
  below : Below w0.heap.size w0 w
  g0 : w0.heap.size ≤ g
  ng : b ≠ g
  hT : E ≠ T6

section
variable {T E T6 : TypeId} {w0 w w' : World} {g b : Nat} {cs : Array Value} {A Au Ao : Option Addr} {n c nu cu no co : Nat} {ys us : List Nat} {zs : List Value}
theorem St.keep (h : St T E T6 w0 w g b cs A n c Au nu cu Ao no co ys us zs) (hb : Below w.heap.size w w') : St T E T6 w0 w' g b cs A n c Au nu cu Ao no co ys us zs :=
  ⟨h.wr.kept hb, own_below h.want hb (own_lt h.want), own_below h.own hb (own_lt h.own), (hb.block b (lt_of_block h.act)).trans h.act, h.d1, h.d2, h.d3, h.below.trans (hb.mono h.below.size), h.g0, h.ng, h.hT⟩
theorem St.wstep (h : St T E T6 w0 w g b cs A n c Au nu cu Ao no co ys us zs) {A' : Option Addr} {n' c' : Nat} {ys' : List Nat} (hw : Wr T E w' g A' n' c' ys') (hs : WStp w w' g (.slice A n c) (.slice A' n' c')) :
    St T E T6 w0 w' g b cs A' n' c' Au nu cu Ao no co ys' us zs := by
  refine ⟨hw, own_keep h.want fun k hk => hs.block k (own_lt h.want k hk) (by have := own_ge h.want k hk; omega) (fun e => h.d1 k hk e.symm),
    own_keep h.own fun k hk => hs.block k (own_lt h.own k hk) (by have := own_ge h.own k hk; omega) (fun e => h.d2 k hk e.symm),
    (hs.block b (lt_of_block h.act) h.ng (fun e => own_ne_block h.wr.own h.act h.hT e.symm)).trans h.act,
    h.d1.new (own_lt h.want) hs.row, h.d2.new (own_lt h.own) hs.row, h.d3, h.below.trans (hs.below h.below.size h.g0 fun k hk => by have := own_ge h.wr.own k hk; have := h.g0; omega), h.g0, h.ng, h.hT⟩
theorem St.ustep (h : St T E T6 w0 w g b cs A n c Au nu cu Ao no co ys us zs) {A' : Option Addr} {n' c' : Nat} {us' : List Nat} (hw : w'.ownsRow (g + 1) E 1 (.slice A' n' c') n' (bs us')) (hs : Stp w w' (.slice Au nu cu) (.slice A' n' c')) :
    St T E T6 w0 w' g b cs A n c A' n' c' Ao no co ys us' zs := by
  refine ⟨⟨(hs.grow.block g h.wr.lt (fun e => by have := own_ge h.want g e.symm; omega)).trans h.wr.blk, own_keep h.wr.own fun k hk => hs.grow.block k (own_lt h.wr.own k hk) (fun e => h.d1 k e.symm hk)⟩, hw,
    own_keep h.own fun k hk => hs.grow.block k (own_lt h.own k hk) (fun e => h.d3 k hk e.symm),
    (hs.grow.block b (lt_of_block h.act) (fun e => own_ne_block h.want h.act h.hT e.symm)).trans h.act,
    (h.d1.symm.new (own_lt h.wr.own) hs.row).symm, h.d2, h.d3.new (own_lt h.own) hs.row, h.below.trans (hs.below h.below.size fun k hk => by have := own_ge h.want k hk; have := h.g0; omega), h.g0, h.ng, h.hT⟩
/-- Behind the own copy's being written over. -/
theorem St.spoilt (h : St T E T6 w0 w g b cs A n c Au nu cu Ao no co ys us zs) (hs : w.grownBy w' (Value.slice Ao no co).ownBlock) :
    Wr T E w' g A n c ys ∧ w'.ownsRow (g + 1) E 1 (.slice Au nu cu) nu (bs us) ∧ Below w0.heap.size w0 w' :=
  ⟨⟨(hs.block g h.wr.lt (fun e => by have := own_ge h.own g e.symm; omega)).trans h.wr.blk, own_keep h.wr.own fun k hk => hs.block k (own_lt h.wr.own k hk) (fun e => h.d2 k e.symm hk)⟩,
    own_keep h.want fun k hk => hs.block k (own_lt h.want k hk) (fun e => h.d3 k e.symm hk), h.below.grown hs h.below.size fun k hk => by have := own_ge h.own k hk; have := h.g0; omega⟩
theorem St.cells (h : St T E T6 w0 w g b cs A n c Au nu cu Ao no co ys us zs) (i : Nat) : w.cell? ⟨b, i, none⟩ = cs[i]? := cell_of_row w b i cs T6 (0, 0) h.act
end

theorem pick_num (d : Int) : ∃ k : Nat, k < 4 ∧ (wrap64 (d.tmod 4 + 4)).tmod 4 = (k : Int) := by
  have h1 : d.tmod 4 < 4 := Int.tmod_lt_of_pos d (by decide)
  have h2 : -4 < d.tmod 4 := Int.lt_tmod_of_pos d (by decide)
  generalize d.tmod 4 = x at *
  rw [IntWalk.wrap64_in _ (by omega), Int.tmod_eq_emod_of_nonneg (by omega)]
  exact ⟨((x + 4) % 4).toNat, by omega, by omega⟩

theorem pick_any (d : Int) (w : World) :
    Calls Try.prog 19 #[.int .i64 d, .int .i64 4] w fun e w' => ∃ k : Nat, e = .returned (.int .i64 k) ∧ k < 4 ∧ w = w' := by
  obtain ⟨k, hk, he⟩ := pick_num d
  have HE := Lib_hid he
  clear he
  go_enter Try.func19, Try.ntmps19
  go_wp2
  go_ret
  exact ⟨k, ret_int HE.out, hk, rfl⟩

set_option maxRecDepth 100000 in
set_option maxHeartbeats 3200000 in
theorem writes_any (B : Nat) (AL : Option Addr) (N C : Nat) (l : List ActV) (w : World) (h : Rd w B 5 AL N (actCells l)) (hl : l.length = N) (hB : B = w.heap.size) (hN : N ≤ 9223372036854775807) (hok : ∀ a ∈ l, ∃ bl ll, ActOK w a bl ll) :
    Calls Try.prog 4 #[.slice AL N C] w fun e w' => e = .returned (.bool true) ∧ Below w.heap.size w w' := by
  have HL := Lib_hid hl
  have HOK := Lib_hid hok
  have F := few_any B N C AL l w h hl hN
  clear hl hok
  go_enter Try.func4, Try.ntmps4
  go_wp2_with fail
  refine F.mono ?_
  rintro e w1 ⟨b, rfl, rfl, hfew⟩
  clear F
  cases b with
  | false =>
    clear hfew
    go_wp2_with (go_at_call 9; refine (works_any w).mono ?_; rintro e w1 ⟨rfl, hb1⟩)
    go_ret
    exact ⟨rfl, hb1⟩
  | true =>
    obtain ⟨hN30, hF⟩ := hfew rfl
    clear hfew
    have hFew := Lib_hid hF
    clear hF
    go_wp2_with fail
    go_loopw [4, 5] (fun u x wr => ∃ (i : Nat) (ys : List Nat) (A : Option Addr) (n c : Nat) (Au : Option Addr) (nu cu : Nat), x = .int .i64 i ∧ u = .slice Au nu cu ∧ i ≤ N ∧ Wr 37 5 wr w.heap.size A n c ys ∧
        wr.ownsRow (w.heap.size + 1) 5 1 (.slice Au nu cu) nu (bs ys) ∧ Dis (.slice Au nu cu) (.slice A n c) ∧ Below w.heap.size w wr ∧ ys.length ≤ i * 700) (fun _ x _ => N - (intOf x).toNat)
    case atStart =>
      refine ⟨0, [], none, 0, 0, none, 0, 0, rfl, rfl, Nat.zero_le _, ⟨heap_alloc_new w _, own_none _ _ _⟩, own_none _ _ _, fun k hk => by simp [Value.ownBlock] at hk, (Below.refl _ _).alloc (Nat.le_refl _) _, Nat.le_refl _⟩
    case round =>
      obtain ⟨i, ys, A, n, c, Au, nu, cu, rfl, rfl, hi, hw, hu, hd, hb, hys⟩ := hrel
      by_cases hlt : i < N
      · obtain ⟨bb, off, a, rfl, hbb, ha, c0, c1, c2, c3, c4⟩ := acts_at (h.below (hb.mono (by omega))) HL.out hlt
        obtain ⟨bl, ll, ok⟩ := HOK.out a (List.mem_of_getElem? ha)
        have hf := hFew.out i a hlt ha
        obtain ⟨d, v, k, bA, bn, bc, lA, ln, lc⟩ := a
        simp only at c0 c1 c2 c3 c4 hf
        have hA := Lib_hid ha
        clear ha
        have hsz := hb.size
        have okb := ok.b
        have okl := ok.l
        simp only at okb okl
        have hbl := ok.b8
        have hll := ok.l64
        have hv64 := ok.v
        simp only at hv64
        clear ok
        have O := own_any w.heap.size bA bn bc bl (wr.alloc (.cells #[.int .i64 d, .int .u64 v, .int .i64 k, .slice bA bn bc, .slice lA ln lc] 40)) ((okb.below hb).alloc hsz _) (by omega)
        have hblen : bl.length = bn := okb.count
        have hllen : ll.length = ln := by have := okl.len; rw [us_length] at this; omega
        have HB8 := Lib_hid hbl
        have H64 := Lib_hid hll
        subst hblen hllen
        clear hbl hll
        go_wp2_with fail
        refine O.mono ?_
        rintro e w1 ⟨Ao, co, rfl, ho1, hb1⟩
        clear O
        have hlt1 := alloc_le hb1
        have hgw := hw.lt
        have hw1 : Below wr.heap.size wr w1 := ((Below.refl _ _).alloc (Nat.le_refl _) _).trans (hb1.mono (by simp))
        have hSt : St 37 5 40 w w1 w.heap.size wr.heap.size #[.int .i64 d, .int .u64 v, .int .i64 k, .slice bA bl.length bc, .slice lA ll.length lc] A n c Au nu cu Ao bl.length co ys ys (bs bl) := by
          have hge := own_ge ho1
          refine ⟨hw.kept hw1, own_below hu hw1 (own_lt hu), own_base ho1 fun k hk => ?_, (hb1.block _ (by simp)).trans (heap_alloc_new wr _), hd, fun k hk e => ?_, fun k hk e => ?_, hb.trans (hw1.mono hsz), Nat.le_refl _, ?_, by decide⟩
          · have := hge k hk; simp at this; omega
          · have h1 := hge k hk; have h2 := own_lt hw.own k e; simp at h1; omega
          · have h1 := hge k hk; have h2 := own_lt hu k e; simp at h1; omega
          · omega
        clear hw hu hd hb hb1 ho1 hw1
        have q0 : w1.cell? ⟨wr.heap.size, 0, none⟩ = some (.int .i64 d) := hSt.cells 0
        go_wp2_with fail
        refine (pick_any d w1).mono ?_
        rintro e w2 ⟨kk, rfl, hkk, rfl⟩
        go_upto_block 2 with (fail)
        go_cut [4, 8, 9] (fun u e9 x9 wx => ∃ (A' : Option Addr) (n' c' : Nat) (Au' : Option Addr) (nu' cu' : Nat) (ys' : List Nat), u = .slice Au' nu' cu' ∧ e9 = .int .i64 0 ∧ ys'.length ≤ i * 700 + 700 ∧
            St 37 5 40 w wx w.heap.size wr.heap.size #[.int .i64 d, .int .u64 v, .int .i64 k, .slice bA bl.length bc, .slice lA ll.length lc] A' n' c' Au' nu' cu' Ao bl.length co ys' ys' (bs bl))
        case first =>
          have hng : n = ys.length := by have := hSt.wr.own.1; rw [bs_length] at this; omega
          have hnug : nu = ys.length := by have := hSt.want.1; rw [bs_length] at this; omega
          subst hng hnug
          have hyb : ys.length ≤ 21000 := by omega
          have hgs := hSt.wr.lt
          obtain ⟨i0, hi0, hz0, hz1, hz2⟩ := info_parts Try.info5
          have hk4 : kk = 0 ∨ kk = 1 ∨ kk = 2 ∨ kk = 3 := by omega
          clear q0 hFew HOK HL h hA c0 c1 c2 c3 c4
          rcases hk4 with rfl | rfl | rfl | rfl
          · have q1 : w1.cell? ⟨wr.heap.size, 1, none⟩ = some (.int .u64 (v : Int)) := hSt.cells 1
            have hW := hSt.keep ((Below.refl _ w1).alloc (Nat.le_refl _) (.cells #[.int .u64 (v : Int)] 22))
            have hr : Rd (w1.alloc (.cells #[.int .u64 (v : Int)] 22)) (w1.heap.size + 1) 1 (some ⟨w1.heap.size, 0, none⟩) 1 (us [v]) :=
              ⟨rfl, fun _ => ⟨_, rfl, by simp, fun j u hu => by
                match j, hu with
                | 0, hu => simp [us] at hu; subst hu; simp [Addr.add]⟩⟩
            have hten := enc_ten (v := v) (by omega)
            go_wp2_with fail
            refine (wnumber_any w.heap.size A _ c ys _ hW.wr (by omega) _ _ 1 1 [v] hr (by simpa using hv64) (by omega) (by simp) (fun _ ad e => ?_)).mono ?_
            · obtain rfl : (⟨w1.heap.size, 0, none⟩ : Addr) = ad := by injection e
              refine ⟨by simp; omega, fun e2 => ?_⟩
              have := own_lt hSt.wr.own _ e2.symm
              simp at this
            rintro e w3 ⟨A3, n3, c3, rfl, hw3, hs3⟩
            have hS3 := hW.wstep hw3 hs3
            have q3 : w3.cell? ⟨wr.heap.size, 1, none⟩ = some (.int .u64 (v : Int)) := hS3.cells 1
            rw [show encs [v] = enc v by simp [encs]] at hS3
            clear hW hr hw3 hs3 q1 hSt
            go_wp2_with fail
            refine (rput_any 10 v w3 hten (by omega) hv64).mono ?_
            rintro e w4 ⟨A4, c4, rfl, ho4, hb4⟩
            have hS4 := hS3.keep hb4
            clear hS3 hb4
            have hm1 : ys.length + (enc v).length ≤ maxLen := by unfold maxLen; omega
            have hm2 : (ys.length + (enc v).length) * 1 ≤ 140737488355328 := by omega
            have hg4 := hS4.wr.lt
            go_wp2_with (at_builtin; (refine wpList_app rfl (.tmp 55) (.tmp 58) 23 rfl (w.heap.size + 1) 5 i0 (.int .u8 0) 1 1 Try.underlying23 hi0 hz0 hz1 hz2 rfl (by decide) (.slice Au ys.length cu) ys.length (bs ys) rfl hS4.want w4.heap.size A4 (enc v).length c4 (bs (enc v)) rfl (Rd.own ho4) (bs_one _) hm1 hm2 hg4 ?_); intro v5 w5 ho5 hs5; rw [← bs_append] at ho5; obtain ⟨A5, c5, rfl, _⟩ := own_form ho5)
            go_meet
            exact ⟨A3, n3, c3, A5, _, c5, ys ++ enc v, rfl, rfl, by simp; omega, hS4.ustep ho5 hs5⟩
          · go_wp2_with fail
            refine (wraw_any w.heap.size A _ c ys _ hSt.wr (by omega) w1.heap.size Ao bl.length co bl (Rd.own hSt.own) (by omega)).mono ?_
            rintro e w3 ⟨A3, n3, c3, rfl, hw3, hs3⟩
            have hS3 := hSt.wstep hw3 hs3
            have q3 : w3.cell? ⟨wr.heap.size, 3, none⟩ = some (.slice bA bl.length bc) := hS3.cells 3
            have okb3 := okb.below hS3.below
            have hm1 : ys.length + bl.length ≤ maxLen := by unfold maxLen; omega
            have hm2 : (ys.length + bl.length) * 1 ≤ 140737488355328 := by omega
            have hg3 := hS3.wr.lt
            clear hw3 hs3 hSt
            go_wp2_with (at_builtin; (refine wpList_app rfl (.tmp 64) (.tmp 66) 23 rfl (w.heap.size + 1) 5 i0 (.int .u8 0) 1 1 Try.underlying23 hi0 hz0 hz1 hz2 rfl (by decide) (.slice Au ys.length cu) ys.length (bs ys) rfl hS3.want w.heap.size bA bl.length bc (bs bl) rfl okb3 (bs_one _) hm1 hm2 hg3 ?_); intro v5 w5 ho5 hs5; rw [← bs_append] at ho5; obtain ⟨A5, c5, rfl, _⟩ := own_form ho5)
            go_meet
            exact ⟨A3, n3, c3, A5, _, c5, ys ++ bl, rfl, rfl, by simp; omega, hS3.ustep ho5 hs5⟩
          · have haway : Away w.heap.size (.slice A ys.length c) Ao bl.length := by
              intro _ ad e
              subst e
              exact ⟨by have := own_ge hSt.own ad.block rfl; omega, fun e2 => hSt.d2 ad.block rfl e2.symm⟩
            go_wp2_with fail
            refine (wtext_any w.heap.size A _ c ys _ hSt.wr (by omega) w1.heap.size Ao bl.length co bl (Rd.own hSt.own) (by omega) (Nat.le_refl _) haway).mono ?_
            rintro e w3 ⟨A3, n3, c3, rfl, hw3, hs3⟩
            have hS3 := (hSt.wstep hw3 hs3).keep (w' := w3.drew) ((Below.refl _ _).drew)
            have q3 : w3.drew.cell? ⟨wr.heap.size, 3, none⟩ = some (.slice bA bl.length bc) := hS3.cells 3
            have hten := enc_ten (v := bl.length) (by omega)
            have hm1 : ys.length + (enc bl.length).length ≤ maxLen := by unfold maxLen; omega
            have hm2 : (ys.length + (enc bl.length).length) * 1 ≤ 140737488355328 := by omega
            have hm3 : ys.length + (enc bl.length).length + bl.length ≤ maxLen := by unfold maxLen; omega
            have hm4 : (ys.length + (enc bl.length).length + bl.length) * 1 ≤ 140737488355328 := by omega
            have okb3 := okb.below hS3.below
            have hwrap : IntKind.u64.wrap ((bl.length : Nat) : Int) = ((bl.length : Nat) : Int) := IntWalk.u64_in _ (by omega)
            clear hw3 hs3 hSt haway
            go_wp2_with fail
            go_region_held3 (fun W => W.cell? ⟨wr.heap.size, 3, none⟩ = some (.slice bA bl.length bc)) (first | exact q3 | exact hS4.cells 3 | exact hS5.cells 3 | exact hS6.cells 3)
              ((first
                | (go_at_call 11; refine (rput_any 10 bl.length _ hten (by omega) (by omega)).mono ?_; rintro e w4 ⟨A4, c4, rfl, ho4, hb4⟩; have hS4 := hS3.keep hb4)
                | (refine step_app rfl (.tmp 72) (.tmp 77) 23 rfl (w.heap.size + 1) 5 i0 (.int .u8 0) 1 1 Try.underlying23 hi0 hz0 hz1 hz2 rfl (by decide) (.slice Au ys.length cu) ys.length (bs ys) rfl hS4.want w4.heap.size A4 (enc bl.length).length c4 (bs (enc bl.length)) rfl (Rd.own ho4) (bs_one _) hm1 hm2 hS4.wr.lt ?_; intro v5 w5 ho5 hs5; rw [← bs_append] at ho5; obtain ⟨A5, c5, rfl, _⟩ := own_form ho5; have hS5 := hS4.ustep ho5 hs5)
                | (refine step_app rfl (.tmp 78) (.tmp 80) 23 rfl (w.heap.size + 1) 5 i0 (.int .u8 0) 1 1 Try.underlying23 hi0 hz0 hz1 hz2 rfl (by decide) (.slice A5 (ys.length + (enc bl.length).length) c5) (ys.length + (enc bl.length).length) _ rfl hS5.want w.heap.size bA bl.length bc (bs bl) rfl (okb.below hS5.below) (bs_one _) hm3 hm4 hS5.wr.lt ?_; intro v6 w6 ho6 hs6; rw [← bs_append] at ho6; obtain ⟨A6, c6, rfl, _⟩ := own_form ho6; have hS6 := hS5.ustep ho6 hs6)))
            all_goals
              go_wp2_with fail
              go_meet
              exact ⟨A3, n3, c3, A6, _, c6, ys ++ enc bl.length ++ bl, rfl, rfl, by simp; omega, hS6⟩
          · have haway : Away w.heap.size (.slice A ys.length c) lA ll.length := by
              intro h0 ad e
              obtain ⟨ad', e', hb', _⟩ := okl.lies h0
              obtain rfl : ad = ad' := by rw [e] at e'; injection e'
              exact ⟨by omega, fun e2 => by have := own_ge hSt.wr.own ad.block e2.symm; omega⟩
            have q4 : w1.cell? ⟨wr.heap.size, 4, none⟩ = some (.slice lA ll.length lc) := hSt.cells 4
            go_wp2_with fail
            refine (wnumber_any w.heap.size A _ c ys _ hSt.wr (by omega) w.heap.size lA ll.length lc ll (okl.below hSt.below) H64.out (by omega) hSt.below.size haway).mono ?_
            rintro e w3 ⟨A3, n3, c3, rfl, hw3, hs3⟩
            have hS3 := hSt.wstep hw3 hs3
            have q3 : w3.cell? ⟨wr.heap.size, 4, none⟩ = some (.slice lA ll.length lc) := hS3.cells 4
            have hel := encs_le ll H64.out
            clear hw3 hs3 hSt haway q4 okb
            obtain ⟨wo, rfl⟩ : ∃ wo : World, wo = wr := ⟨_, rfl⟩
            go_wp2_with fail
            go_loopw [4, 9] (fun u x wx => ∃ (j : Nat) (A' : Option Addr) (n' c' : Nat), x = .int .i64 j ∧ u = .slice A' n' c' ∧ j ≤ ll.length ∧
                St 37 5 40 w wx w.heap.size wo.heap.size #[.int .i64 d, .int .u64 v, .int .i64 k, .slice bA bl.length bc, .slice lA ll.length lc] A3 n3 c3 A' n' c' Ao bl.length co (ys ++ encs ll) (ys ++ encs (ll.take j)) (bs bl)) (fun _ x _ => ll.length - (intOf x).toNat)
            case atStart => exact ⟨0, Au, _, cu, rfl, rfl, Nat.zero_le _, by simpa [encs] using hS3⟩
            case round =>
              obtain ⟨j, A', n', c', rfl, rfl, hj, hS⟩ := hrel
              have q5 : wr.cell? ⟨wo.heap.size, 4, none⟩ = some (.slice lA ll.length lc) := hS.cells 4
              by_cases hjl : j < ll.length
              · obtain ⟨ad, x, rfl, hx, hcx⟩ := (okl.below hS.below).num hjl
                have hx64 := H64.out x (List.mem_of_getElem? hx)
                have hten := enc_ten (v := x) (by omega)
                have htk : Hid (ll.take (j + 1) = ll.take j ++ [x]) := by unfold Hid; rw [List.take_add_one, hx]; rfl
                have hn' : n' ≤ 40000 := by
                  have h1 := hS.want.1
                  rw [bs_length, List.length_append] at h1
                  have h2 := encs_le (ll.take j) (fun y hy => H64.out y (List.mem_of_mem_take hy))
                  rw [List.length_take] at h2
                  omega
                have hm1 : n' + (enc x).length ≤ maxLen := by unfold maxLen; omega
                have hm2 : (n' + (enc x).length) * 1 ≤ 140737488355328 := by omega
                clear hx
                go_wp2_with (first
                  | (go_at_call 11; refine (rput_any 10 x _ hten (by omega) hx64).mono ?_; rintro e w4 ⟨A4, c4, rfl, ho4, hb4⟩; have hS4 := hS.keep hb4)
                  | (at_builtin; (refine wpList_app rfl (.tmp 41) (.tmp 47) 23 rfl (w.heap.size + 1) 5 i0 (.int .u8 0) 1 1 Try.underlying23 hi0 hz0 hz1 hz2 rfl (by decide) (.slice A' n' c') n' (bs (ys ++ encs (ll.take j))) rfl hS4.want w4.heap.size A4 (enc x).length c4 (bs (enc x)) rfl (Rd.own ho4) (bs_one _) hm1 hm2 hS4.wr.lt ?_); intro v5 w5 ho5 hs5; rw [← bs_append] at ho5; obtain ⟨A5, c5, rfl, _⟩ := own_form ho5; have hS5 := hS4.ustep ho5 hs5; clear hs5 ho5))
                go_roundw
                case rel => exact ⟨j + 1, A5, _, c5, by go_num, rfl, by omega, by rw [htk.out, encs_snoc, ← List.append_assoc]; exact hS5⟩
                case measure => simp [intOf]; omega
              · obtain rfl : j = ll.length := by omega
                rw [List.take_length] at hS
                go_wp2_with fail
                go_meet
                exact ⟨A3, n3, c3, A', n', c', ys ++ encs ll, rfl, rfl, by simp; omega, hS⟩
        case rest =>
          obtain ⟨A', n', c', Au', nu', cu', ys', rfl, rfl, hys', hS⟩ := hcut
          have hn' : n' = ys'.length := by have := hS.wr.own.1; rw [bs_length] at this; omega
          have hnu' : nu' = ys'.length := by have := hS.want.1; rw [bs_length] at this; omega
          subst hn' hnu'
          have hble : bl.length ≤ 60 := by omega
          go_wp2_with fail
          refine (spoil_any (w.heap.size + 1) bl.length co Ao _ wc hS.own (by omega)).mono ?_
          rintro e w3 ⟨rfl, hg3⟩
          obtain ⟨hw3, hu3, hb3⟩ := hS.spoilt hg3
          have hd3 := hS.d1
          clear hS hg3
          go_wp2_with fail
          refine (wbytes_any w.heap.size A' _ c' ys' w3 hw3 (by omega)).mono ?_
          rintro e w4 ⟨A4, c4, rfl, ho4, hb4⟩
          have hw4 := hw3.kept hb4
          have hu4 := own_below hu3 hb4 (own_lt hu3)
          go_wp2_with fail
          refine (same_yes ys' w4 (Rd.own ho4) (Rd.own hu4) (by omega)).mono ?_
          rintro e w5 ⟨rfl, q5, rfl⟩
          have hw5 := hw4.kept (below_drew_ (n := q5) (Below.refl _ w4))
          go_wp2_with fail
          refine (wlen_any w.heap.size A' _ c' ys' _ hw5).mono ?_
          rintro e w6 ⟨rfl, rfl⟩
          go_wp2_with fail
          refine (spoil_any w3.heap.size ys'.length c4 A4 _ (w4.drewN q5) (own_keep (w' := w4.drewN q5) ho4 (fun _ _ => rfl)) (by omega)).mono ?_
          rintro e w7 ⟨rfl, hg7⟩
          have hb7 : Below w3.heap.size w4 w7 := (below_drew_ (Below.refl _ w4)).trans ((Below.refl _ _).grown hg7 (by have := hb4.size; simp; omega) (own_ge ho4))
          have hb37 : Below w3.heap.size w3 w7 := hb4.trans hb7
          have hw7 := hw3.kept hb37
          have hu7 := own_below hu3 hb37 (own_lt hu3)
          have hbw7 := hb3.trans (hb37.mono hb3.size)
          clear hg7 hb7 ho4 hb4 hw5 hw4 hu4 hw3 hu3 hb37
          go_wp2_with fail
          go_roundw
          case rel => exact ⟨i + 1, ys', A', _, c', Au', _, cu', by go_num, rfl, by omega, hw7, hu7, hd3, hbw7, by omega⟩
          case measure => simp [intOf]; omega
      · have hn' : n = ys.length := by have := hw.own.1; rw [bs_length] at this; omega
        have hnu' : nu = ys.length := by have := hu.1; rw [bs_length] at this; omega
        subst hn' hnu'
        obtain rfl : i = N := by omega
        go_wp2_with fail
        refine (wbytes_any w.heap.size A _ c ys wr hw (by omega)).mono ?_
        rintro e w4 ⟨A4, c4, rfl, ho4, hb4⟩
        have hu4 := own_below hu hb4 (own_lt hu)
        have hbw4 := hb.trans (hb4.mono hb.size)
        go_wp2_with fail
        refine (same_yes ys w4 (Rd.own ho4) (Rd.own hu4) (by omega)).mono ?_
        rintro e w5 ⟨rfl, q5, rfl⟩
        go_wp2_with fail
        refine (works_any _).mono ?_
        rintro e w6 ⟨rfl, hb6⟩
        go_wp2_with fail
        go_ret
        exact ⟨rfl, hbw4.trans ((below_drew_ (Below.refl _ w4)).trans (hb6.mono (by have := hbw4.size; simp; omega)))⟩

end Go.Proofs.Ytaafladmpdkfjaa
