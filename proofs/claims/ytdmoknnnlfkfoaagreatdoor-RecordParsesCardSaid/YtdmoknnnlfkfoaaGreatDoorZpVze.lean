/-
  Contract of the document's Numbers (alibiref01.Numbers), for every input.
  Layer 5: the document's reading of a payload, plainly.
-/
import Derived.Test.YtdmoknnnlfkfoaaGreatDoorZpNums
import Derived.Deep.DeepCutAuto
import Derived.Deep.CutBlock
import Derived.Deep.RegionHeld3
import Derived.Deep.LoopGhost
import Derived.Handy
import Derived.Test.YtdmoknnnlfkfoaaGreatDoorZpRead

namespace Go.Proofs.YtdmoknnnlfkfoaaGreatDoor
open Go Go.RowKit
set_option linter.unusedVariables false
theorem own_ne_blk {w : World} {b size n g : Nat} {e t : TypeId} {v : Value} {xs : List Value} {cs : Array Value} (h : w.ownsRow b e size v n xs) (hg : w.heap[g]? = some (.cells cs t (0, 0))) (hne : e ≠ t) : v.ownBlock ≠ some g := by
  intro hv
  rcases h.2 with ⟨rfl, _⟩ | ⟨k, cap, cur, rfl, _, hh, _⟩
  · simp [Value.ownBlock] at hv
  · have : k = g := by simpa [Value.ownBlock] using hv
    subst this
    rw [hh] at hg
    injection hg with hg
    injection hg with _ h2
    exact hne h2
def RUPost (l : List Nat) (r : Nat × Nat × List Nat) (w : World) (en : Ending) (w' : World) : Prop :=
  ∃ A c, en = .returned (.tuple #[.agg #[.string (str l), .int .i64 (r.1 : Int), .int .i64 (r.2.1 : Int)], .slice A r.2.2.length c]) ∧ Rd w' w'.heap.size 1 A r.2.2.length (us r.2.2) ∧ Below w.heap.size w w' ∧ ∀ ad, A = some ad → w.heap.size ≤ ad.block
theorem three_new (w : World) (o1 o2 o3 : Obj) :
    (((w.alloc o1).alloc o2).alloc o3).heap[w.heap.size]? = some o1 ∧ (((w.alloc o1).alloc o2).alloc o3).heap[w.heap.size + 1]? = some o2 ∧ (((w.alloc o1).alloc o2).alloc o3).heap[w.heap.size + 1 + 1]? = some o3 := by
  have h1 := heap_alloc_new w o1
  have h2 := heap_alloc_new (w.alloc o1) o2
  have h3 := heap_alloc_new ((w.alloc o1).alloc o2) o3
  rw [World.size_alloc] at h2
  rw [World.size_alloc, World.size_alloc] at h3
  exact ⟨(Below.heap_alloc _ _ _ (by simp; omega)).trans ((Below.heap_alloc _ _ _ (by simp)).trans h1), (Below.heap_alloc _ _ _ (by simp)).trans h2, h3⟩
def set3 (w : World) (b : Nat) (x y z : Value) : World := ((w.setCell ⟨b, 0, none⟩ x).setCell ⟨b, 1, none⟩ y).setCell ⟨b, 2, none⟩ z
theorem set3_block {w : World} {b : Nat} {x y z x' y' z' : Value} {T : TypeId} (h : w.heap[b]? = some (.cells #[x', y', z'] T (0, 0))) : (set3 w b x y z).heap[b]? = some (.cells #[x, y, z] T (0, 0)) :=
  heap_setCell_same _ b 2 _ T z (heap_setCell_same _ b 1 _ T y (heap_setCell_same w b 0 _ T x h))
theorem set3_other (w : World) (b : Nat) (x y z : Value) (k : Nat) (hk : k ≠ b) : (set3 w b x y z).heap[k]? = w.heap[k]? := by
  unfold set3
  rw [Below.heap_setCell _ _ _ _ hk, Below.heap_setCell _ _ _ _ hk, Below.heap_setCell _ _ _ _ hk]
theorem set3_size (w : World) (b : Nat) (x y z : Value) : (set3 w b x y z).heap.size = w.heap.size := by simp [set3]
theorem set3_below {w0 w : World} {B b : Nat} (h : Below B w0 w) (hb : B ≤ b) (x y z : Value) : Below B w0 (set3 w b x y z) := ((h.setCell (p := ⟨b, 0, none⟩) hb x).setCell (p := ⟨b, 1, none⟩) hb y).setCell (p := ⟨b, 2, none⟩) hb z
theorem set3_own {w : World} {B b size n : Nat} {E : TypeId} {v : Value} {xs : List Value} (h : w.ownsRow B E size v n xs) (hb : v.ownBlock ≠ some b) (x y z : Value) : (set3 w b x y z).ownsRow B E size v n xs :=
  own_keep h fun k hk => set3_other w b x y z k (fun e => hb (by rw [hk, e]))
set_option maxRecDepth 100000 in
set_option maxHeartbeats 3200000 in
theorem rnums_any (l : List Nat) (a e : Nat) (n : Int) (w : World) (hb : ∀ x ∈ l, x < 256) (hl : l.length ≤ 1000) (ha : a ≤ l.length) (he : e < 1000) (hn64 : n ≤ 9223372036854775807) :
    Calls Tryz.prog 54 #[.agg #[.string (str l), .int .i64 a, .int .i64 e], .int .i64 n] w (RUPost l (numsR l a e n) w) := by
  by_cases h0 : e = 0
  · subst h0
    by_cases hn : n < 0
    · have hs : numsR l a 0 n = (a, 2, []) := by unfold numsR; rw [if_neg (by omega), if_pos hn]
      rw [hs]
      go_enter Tryz.func54, Tryz.ntmps54
      go_wp2
      refine bodyPost_ret (v := .tuple #[.agg #[.string (str l), .int .i64 a, .int .i64 2], .slice none 0 0]) (by simp [results, Tryz.results54, go_sem]) rfl ⟨none, 0, rfl, Rd.zero, ?_, by simp⟩
      go_grown
    · obtain ⟨m, rfl⟩ : ∃ m : Nat, n = m := ⟨n.toNat, by omega⟩
      obtain ⟨i0, hi, hz0, hz1, hz2⟩ := info_parts Tryz.info22
      obtain ⟨R, hR⟩ : ∃ R, R = numsR l a 0 m := ⟨_, rfl⟩
      rw [← hR]
      have HR : Hid (R = if (numsUp l a m).2.1 ≠ 0 then (a, (numsUp l a m).2.1, []) else numsUp l a m) := by
        unfold Hid; rw [hR]; unfold numsR; rw [if_neg (by omega), if_neg (by omega), Int.toNat_natCast]
      have HB := Lib_hid hb
      clear hR hb
      go_enter Tryz.func54, Tryz.ntmps54
      go_wp2_with fail
      go_loopw [6, 8] (fun s i wr => ∃ (j p : Nat) (xs : List Nat) (A' : Option Addr) (n' c' : Nat), i = .int .i64 j ∧ s = .slice A' n' c' ∧ j ≤ m ∧ Hid (numsUp l a j = (p, 0, xs)) ∧ p ≤ l.length ∧
          Hid (wr.heap[w.heap.size]? = some (.cells #[.string (str l), .int .i64 a, .int .i64 0] 125 (0, 0))) ∧
          Hid (wr.heap[w.heap.size + 1]? = some (.cells #[.string { data := #[] }, .int .i64 0, .int .i64 0] 125 (0, 0))) ∧
          Hid (wr.heap[w.heap.size + 1 + 1]? = some (.cells #[.string (str l), .int .i64 p, .int .i64 0] 125 (0, 0))) ∧
          wr.ownsRow w.heap.size 29 1 (.slice A' n' c') n' (us xs) ∧ Below w.heap.size w wr ∧ n' ≤ p) (fun _ i _ => m - (intOf i).toNat)
      case atStart =>
        have g := three_new w (.cells #[.string (str l), .int .i64 a, .int .i64 0] 125) (.cells #[.string { data := #[] }, .int .i64 0, .int .i64 0] 125) (.cells #[.string (str l), .int .i64 a, .int .i64 0] 125)
        refine ⟨0, a, [], none, 0, 0, rfl, rfl, Nat.zero_le _, rfl, ha, g.1, g.2.1, g.2.2, World.ownsRow_nil _ _ _ _, ?_, Nat.zero_le _⟩
        go_grown
      case round =>
        obtain ⟨j, p, xs, A', n', c', rfl, rfl, hj, hup, hp, H1, H2, H3, ho, hbw, hnp⟩ := hrel
        have hs3 : w.heap.size + 1 + 1 < wr.heap.size := lt_of_block H3.out
        obtain ⟨p1, p2, p3, f1, f2, f3⟩ := blk3 H3.out
        by_cases hlt : j < m
        · obtain ⟨⟨p', e', v⟩, hS⟩ : ∃ x, numR l p 0 = x := ⟨_, rfl⟩
          obtain ⟨hle, hee, hv⟩ := numR_le HB.out hp (by omega) hS
          have N := rnum_any l p 0 wr HB.out hl (by omega) (by omega) p' e' v hS
          go_wp2_with fail
          refine N.mono ?_
          rintro en w1 ⟨rfl, hb1⟩
          have J1 := Lib_hid ((hb1.block _ (by omega)).trans H1.out)
          have J2 := Lib_hid ((hb1.block _ (by omega)).trans H2.out)
          have J3 := Lib_hid ((hb1.block _ (by omega)).trans H3.out)
          have ho1 := own_below ho hb1 (own_lt ho)
          have hbw1 := hbw.trans (hb1.mono hbw.size)
          have hs4 : w.heap.size + 1 + 1 < w1.heap.size := lt_of_block J3.out
          have hs5 : w.heap.size + 1 < w1.heap.size := by omega
          have hs6 : w.heap.size < w1.heap.size := by omega
          have hs7 : w.heap.size + 1 + 1 ≠ w1.heap.size := by omega
          have hs8 : w.heap.size + 1 ≠ w1.heap.size := by omega
          have hs9 : w.heap.size ≠ w1.heap.size := by omega
          clear p1 p2 p3 f1 f2 f3 N hb1 H1 H2 H3 ho hbw
          obtain ⟨p1, p2, p3, f1, f2, f3⟩ := blk3 J3.out
          by_cases he : e' = 0
          · subst he
            have hadv := numR_adv HB.out hp hS
            have hup' := Lib_hid (numsUp_more hup.out hS)
            have hm1 : n' + 1 ≤ maxLen := by unfold maxLen; omega
            have hm2 : (n' + 1) * 8 ≤ 140737488355328 := by omega
            clear hS hup
            have hne := own_ne_blk ho1 J3.out (by decide)
            have hoX := set3_own ho1 hne (.string (str l)) (.int .i64 (p' : Int)) (.int .i64 ((0 : Nat) : Int))
            have hoY := (hoX.alloc (.cells #[.string (str l), .int .i64 (p' : Int), .int .i64 ((0 : Nat) : Int)] 125)).alloc (.cells #[.int .u64 (v : Int)] 29)
            have hRd := Rd.newu ((set3 w1 (w.heap.size + 1 + 1) (.string (str l)) (.int .i64 (p' : Int)) (.int .i64 ((0 : Nat) : Int))).alloc (.cells #[.string (str l), .int .i64 (p' : Int), .int .i64 ((0 : Nat) : Int)] 125)) v 29
            rw [World.size_alloc, set3_size] at hRd
            have hszY : w.heap.size ≤ (((set3 w1 (w.heap.size + 1 + 1) (.string (str l)) (.int .i64 (p' : Int)) (.int .i64 ((0 : Nat) : Int))).alloc (.cells #[.string (str l), .int .i64 (p' : Int), .int .i64 ((0 : Nat) : Int)] 125)).alloc (.cells #[.int .u64 (v : Int)] 29)).heap.size := by rw [World.size_alloc, World.size_alloc, set3_size]; omega
            have hbY := ((set3_below hbw1 (show w.heap.size ≤ w.heap.size + 1 + 1 by omega) (.string (str l)) (.int .i64 (p' : Int)) (.int .i64 ((0 : Nat) : Int))).alloc (by rw [set3_size]; omega) (.cells #[.string (str l), .int .i64 (p' : Int), .int .i64 ((0 : Nat) : Int)] 125)).alloc (by rw [World.size_alloc, set3_size]; omega) (.cells #[.int .u64 (v : Int)] 29)
            have hkY : ∀ k, k < w1.heap.size → (((set3 w1 (w.heap.size + 1 + 1) (.string (str l)) (.int .i64 (p' : Int)) (.int .i64 ((0 : Nat) : Int))).alloc (.cells #[.string (str l), .int .i64 (p' : Int), .int .i64 ((0 : Nat) : Int)] 125)).alloc (.cells #[.int .u64 (v : Int)] 29)).heap[k]? = (set3 w1 (w.heap.size + 1 + 1) (.string (str l)) (.int .i64 (p' : Int)) (.int .i64 ((0 : Nat) : Int))).heap[k]? := fun k hk => by
              rw [Below.heap_alloc _ _ _ (by rw [World.size_alloc, set3_size]; omega), Below.heap_alloc _ _ _ (by rw [set3_size]; exact hk)]
            have hkY2 := Lib_hid hkY
            have hbY2 := Lib_hid hbY
            have hn1 := own_ne_blk ho1 J1.out (by decide)
            have hn2 := own_ne_blk ho1 J2.out (by decide)
            have HN := Lib_hid hne
            have HN1 := Lib_hid hn1
            have HN2 := Lib_hid hn2
            have HSZ := Lib_hid hszY
            have HOY := Lib_hid hoY
            have HRDY := Lib_hid hRd
            clear hkY hbY hne hn1 hn2 hszY hoY hoX hRd
            go_wp2_with (at_builtin; (refine wpList_app rfl (.tmp 38) (.tmp 40) 98 rfl w.heap.size 29 i0 (.int .u64 0) 1 8 Tryz.underlying98 hi hz0 hz1 hz2 rfl (by decide) (.slice A' n' c') n' (us xs) rfl HOY.out (w1.heap.size + 1 + 1) (some ⟨w1.heap.size + 1, 0, none⟩) 1 1 (us [v]) rfl HRDY.out (us_one _) hm1 hm2 HSZ.out ?_); intro v2 w2 ho2 hs2; rw [← us_append] at ho2; obtain ⟨A2, c2', rfl, _⟩ := own_form ho2)
            go_roundw
            case rel =>
              have hgr : ∀ k, k < w1.heap.size → some k ≠ (Value.slice A' n' c').ownBlock → w2.heap[k]? = (set3 w1 (w.heap.size + 1 + 1) (.string (str l)) (.int .i64 (p' : Int)) (.int .i64 ((0 : Nat) : Int))).heap[k]? := fun k hk hv =>
                (hs2.grow.block k (by have : w1.heap.size ≤ (((set3 w1 (w.heap.size + 1 + 1) (.string (str l)) (.int .i64 (p' : Int)) (.int .i64 ((0 : Nat) : Int))).alloc (.cells #[.string (str l), .int .i64 (p' : Int), .int .i64 ((0 : Nat) : Int)] 125)).alloc (.cells #[.int .u64 (v : Int)] 29)).heap.size := by rw [World.size_alloc, World.size_alloc, set3_size]; omega
                                      exact Nat.lt_of_lt_of_le hk this) hv).trans (hkY2.out k hk)
              refine ⟨j + 1, p', xs ++ [v], A2, n' + 1, c2', by go_num, rfl, by omega, hup', hle, ?_, ?_, ?_, ho2, ?_, by omega⟩
              · exact ((hgr _ hs6 (fun e => HN1.out e.symm)).trans (set3_other _ _ _ _ _ _ (by omega))).trans J1.out
              · exact ((hgr _ hs5 (fun e => HN2.out e.symm)).trans (set3_other _ _ _ _ _ _ (by omega))).trans J2.out
              · exact (hgr _ hs4 (fun e => HN.out e.symm)).trans (set3_block J3.out)
              · exact hbY2.out.trans (hs2.below HSZ.out (own_ge HOY.out))
            case measure => simp [intOf]; omega
          · obtain rfl := numR_err hS he
            have hstop := numsUp_stop hup.out hS he (m - (j + 1))
            rw [show j + 1 + (m - (j + 1)) = m by omega] at hstop
            have HR2 : Hid (R = (a, e', [])) := by unfold Hid; rw [HR.out, if_pos (by rw [hstop]; exact he), hstop]
            have hz0 : ((e' : Int) != 0) = true := by simpa using he
            clear hS hup hstop he ho1
            go_upto_region 13 with (fail)
            generalize hX : ((((w1.setCell ⟨w.heap.size + 1 + 1, 0, none⟩ (.string (str l))).setCell ⟨w.heap.size + 1 + 1, 1, none⟩ (.int .i64 (p' : Int))).setCell ⟨w.heap.size + 1 + 1, 2, none⟩ (.int .i64 (e' : Int))).alloc (.cells #[.string (str l), .int .i64 (p' : Int), .int .i64 (e' : Int)] 125)) = X
            have hX2 : X = (set3 w1 (w.heap.size + 1 + 1) (.string (str l)) (.int .i64 (p' : Int)) (.int .i64 (e' : Int))).alloc (.cells #[.string (str l), .int .i64 (p' : Int), .int .i64 (e' : Int)] 125) := hX.symm
            have x1 := blk3 (show X.heap[w.heap.size]? = _ from by rw [hX2, Below.heap_alloc _ _ _ (by rw [set3_size]; exact hs6), set3_other _ _ _ _ _ _ (by omega)]; exact J1.out)
            have x2 := blk3 (show X.heap[w.heap.size + 1]? = _ from by rw [hX2, Below.heap_alloc _ _ _ (by rw [set3_size]; exact hs5), set3_other _ _ _ _ _ _ (by omega)]; exact J2.out)
            have x3 := blk3 (show X.heap[w.heap.size + 1 + 1]? = _ from by rw [hX2, Below.heap_alloc _ _ _ (by rw [set3_size]; exact hs4)]; exact set3_block J3.out)
            have hbX : Below w.heap.size w X := by rw [hX2]; exact (set3_below hbw1 (by omega) _ _ _).alloc (by rw [set3_size]; omega) _
            clear hX hX2 p1 p2 p3 f1 f2 f3 J1 J2 J3 hbw1 hs4 hs5 hs6 hs7 hs8 hs9
            obtain ⟨q1, q2, q3, k1, k2, k3⟩ := x1
            obtain ⟨r1, r2, r3, m1, m2, m3⟩ := x2
            obtain ⟨_, _, p3, _, _, _⟩ := x3
            go_wp2
            exact bodyPost_ret (v := .tuple #[.agg #[.string (str l), .int .i64 a, .int .i64 e'], .slice none 0 0]) (by simp [results, Tryz.results54, go_sem, *]) rfl (by rw [HR2.out]; exact ⟨none, 0, rfl, Rd.zero, by go_grown, by simp⟩)
        · obtain rfl : j = m := by omega
          have HR2 : Hid (R = (p, 0, xs)) := by unfold Hid; rw [HR.out, hup.out, if_neg (by simp)]
          have hn' : n' = xs.length := by have := ho.1; rw [us_length] at this; omega
          subst hn'
          have hne := own_ne_blk ho H2.out (by decide)
          obtain ⟨q1, q2, q3, k1, k2, k3⟩ := blk3 H2.out
          have hrd : Rd (set3 wr (w.heap.size + 1) (.string (str l)) (.int .i64 (p : Int)) (.int .i64 0)) wr.heap.size 1 A' xs.length (us xs) :=
            (Rd.own ho).off (fun ad had hlt => set3_other _ _ _ _ _ _ (fun e => hne (by rw [had, ← e]; rfl))) (Nat.le_refl _)
          have hbs := set3_below hbw (show w.heap.size ≤ w.heap.size + 1 by omega) (.string (str l)) (.int .i64 (p : Int)) (.int .i64 0)
          have hge : ∀ ad, A' = some ad → w.heap.size ≤ ad.block := fun ad had => own_ge ho ad.block (by rw [had]; rfl)
          have HGE := Lib_hid hge
          have HRD := Lib_hid hrd
          have HBS := Lib_hid hbs
          clear hrd hbs ho hup hge
          go_wp2
          exact bodyPost_ret (v := .tuple #[.agg #[.string (str l), .int .i64 p, .int .i64 0], .slice A' xs.length c']) (by simp [results, Tryz.results54, go_sem, *]) rfl (by rw [HR2.out]; exact ⟨A', c', rfl, HRD.out.more (by simp), HBS.out, HGE.out⟩)
  · have h0' : ((e : Int) != 0) = true := by simpa using h0
    have hs : numsR l a e n = (a, e, []) := by unfold numsR; rw [if_pos h0]
    rw [hs]
    clear hs h0
    go_enter Tryz.func54, Tryz.ntmps54
    go_wp2
    refine bodyPost_ret (v := .tuple #[.agg #[.string (str l), .int .i64 a, .int .i64 e], .slice none 0 0]) (by simp [results, Tryz.results54, go_sem]) rfl ⟨none, 0, rfl, Rd.zero, ?_, by simp⟩
    go_grown
end Go.Proofs.YtdmoknnnlfkfoaaGreatDoor

namespace Go.Proofs.YtdmoknnnlfkfoaaGreatDoor
open Go Go.RowKit
set_option linter.unusedVariables false
def nusT (l : List Nat) (a : Nat) : Nat → Option (List Nat × Nat)
  | 0 => some ([], a)
  | j + 1 => (nusT l a j).bind fun x => (numT l x.2).map fun y => (x.1 ++ [y.1], y.2)
theorem numsUp_T (l : List Nat) (a : Nat) : ∀ j, ((numsUp l a j).2.1 = 0 ∧ nusT l a j = some ((numsUp l a j).2.2, (numsUp l a j).1)) ∨ ((numsUp l a j).2.1 ≠ 0 ∧ nusT l a j = none)
  | 0 => .inl ⟨rfl, rfl⟩
  | j + 1 => by
    rcases numsUp_T l a j with ⟨h1, h2⟩ | ⟨h1, h2⟩
    · obtain ⟨⟨p, e, v⟩, hS⟩ : ∃ x, numR l (numsUp l a j).1 0 = x := ⟨_, rfl⟩
      have hT := (num_took hS false).2 ⟨rfl, rfl⟩
      have hu : numsUp l a (j + 1) = if e ≠ 0 then ((numsUp l a j).1, e, (numsUp l a j).2.2) else (p, 0, (numsUp l a j).2.2 ++ [v]) := by
        rw [numsUp, if_neg (by omega), hS]
      have ht : nusT l a (j + 1) = (numT l (numsUp l a j).1).map fun y => ((numsUp l a j).2.2 ++ [y.1], y.2) := by
        rw [nusT, h2, Option.bind_some]
      rw [hu, ht]
      rcases hT with ⟨k1, k2⟩ | ⟨k1, k2⟩
      · rw [if_neg (by have := k2.1; omega), k1]
        exact .inl ⟨rfl, rfl⟩
      · have he : e ≠ 0 := fun he => k2 ⟨he, rfl⟩
        rw [if_pos he, k1]
        exact .inr ⟨he, rfl⟩
    · have hu : numsUp l a (j + 1) = numsUp l a j := by rw [numsUp, if_pos h1]
      rw [hu]
      refine .inr ⟨h1, ?_⟩
      rw [nusT, h2]
      rfl
theorem numsR_T {l xs : List Nat} {a a' e' n : Nat} (h : numsR l a 0 (n : Int) = (a', e', xs)) : (e' = 0 ∧ nusT l a n = some (xs, a')) ∨ (e' ≠ 0 ∧ xs = [] ∧ nusT l a n = none) := by
  unfold numsR at h
  rw [if_neg (by omega), if_neg (by omega), Int.toNat_natCast] at h
  rcases numsUp_T l a n with ⟨h1, h2⟩ | ⟨h1, h2⟩
  · rw [if_neg (by omega)] at h
    rw [h] at h1 h2
    exact .inl ⟨h1, h2⟩
  · rw [if_pos h1] at h
    injection h with _ h
    injection h with h3 h4
    exact .inr ⟨by rw [← h3]; exact h1, h4.symm, h2⟩
theorem nusT_len {l : List Nat} {a : Nat} : ∀ {n : Nat} {xs : List Nat} {r : Nat}, nusT l a n = some (xs, r) → xs.length = n
  | 0, xs, r, h => by injection h with h; injection h with h; rw [← h]; rfl
  | n + 1, xs, r, h => by
    rw [nusT] at h
    obtain ⟨⟨ys, p⟩, h1, h2⟩ := Option.bind_eq_some_iff.1 h
    obtain ⟨⟨v, q⟩, h3, h4⟩ := Option.map_eq_some_iff.1 h2
    injection h4 with h4 _
    rw [← h4, List.length_append, nusT_len h1]
    rfl
theorem nusT_one (l : List Nat) (a : Nat) : nusT l a 1 = (numT l a).map fun x => ([x.1], x.2) := by
  rw [nusT, nusT, Option.bind_some]
  rfl
theorem nusT_more (l : List Nat) (a n : Nat) : nusT l a (n + 1) = (numT l a).bind fun x => (nusT l x.2 n).map fun y => (x.1 :: y.1, y.2) := by
  induction n with
  | zero =>
    rw [nusT_one]
    cases numT l a with
    | none => rfl
    | some x => simp [nusT]
  | succ n ih =>
    rw [nusT, ih]
    cases numT l a with
    | none => rfl
    | some x =>
      simp only [Option.bind_some]
      rw [nusT]
      cases nusT l x.2 n with
      | none => rfl
      | some y =>
        simp only [Option.map_some, Option.bind_some]
        cases numT l y.2 with
        | none => rfl
        | some z => simp
theorem entT_nums (l : List Nat) (a : Nat) : entT l a = (nusT l a 3).bind fun x => (matT l x.2).map fun m => (⟨x.1.getD 0 0, x.1.getD 1 0, x.1.getD 2 0, m.1⟩, m.2) := by
  rw [entT_eq, nusT_more]
  cases numT l a with
  | none => rfl
  | some x =>
    simp only [Option.bind_some]
    rw [nusT_more]
    cases numT l x.2 with
    | none => rfl
    | some y =>
      simp only [Option.bind_some]
      rw [nusT_one]
      cases numT l y.2 with
      | none => rfl
      | some z => simp
theorem goT_2 (l : List Nat) : goT l (Rc.zero 2) 0 [0, 1, 2] = (nusT l 0 4).map fun x => ({ Rc.zero 2 with t := x.1.getD 0 0, x := x.1.getD 1 0, w := x.1.getD 2 0, n := x.1.getD 3 0 }, x.2) := by
  unfold goT
  rw [nusT_more]
  show ((numT l 0).map _).bind _ = _
  cases numT l 0 with
  | none => rfl
  | some a =>
    simp only [Option.map_some, Option.bind_some]
    rw [nusT_more]
    unfold goT
    show ((numT l a.2).map _).bind _ = _
    cases numT l a.2 with
    | none => rfl
    | some b =>
      simp only [Option.map_some, Option.bind_some]
      rw [nusT_more]
      unfold goT
      show ((numT l b.2).bind _).bind _ = _
      cases numT l b.2 with
      | none => rfl
      | some c =>
        simp only [Option.bind_some]
        rw [nusT_one]
        cases numT l c.2 with
        | none => rfl
        | some d => simp [goT]
theorem goT_1 (l : List Nat) (k : Int) : goT l (Rc.zero k) 0 [0] = (nusT l 0 1).map fun x => ({ Rc.zero k with t := x.1.getD 0 0 }, x.2) := by
  unfold goT
  rw [nusT_one]
  show ((numT l 0).map _).bind _ = _
  cases numT l 0 with
  | none => rfl
  | some a => simp [goT]
theorem goT_4 (l : List Nat) : goT l (Rc.zero 4) 0 [0, 1] = (nusT l 0 2).map fun x => ({ Rc.zero 4 with t := x.1.getD 0 0, x := x.1.getD 1 0 }, x.2) := by
  unfold goT
  rw [nusT_more]
  show ((numT l 0).map _).bind _ = _
  cases numT l 0 with
  | none => rfl
  | some a =>
    simp only [Option.map_some, Option.bind_some]
    rw [nusT_one]
    unfold goT
    show ((numT l a.2).map _).bind _ = _
    cases numT l a.2 with
    | none => rfl
    | some b => simp [goT]
theorem goT_3 (l : List Nat) : goT l (Rc.zero 3) 0 [0, 1, 3] = (nusT l 0 3).map fun x => ({ Rc.zero 3 with t := x.1.getD 0 0, x := x.1.getD 1 0, v := x.1.getD 2 0 }, x.2) := by
  unfold goT
  rw [nusT_more]
  show ((numT l 0).map _).bind _ = _
  cases numT l 0 with
  | none => rfl
  | some a =>
    simp only [Option.map_some, Option.bind_some]
    rw [nusT_more]
    unfold goT
    show ((numT l a.2).map _).bind _ = _
    cases numT l a.2 with
    | none => rfl
    | some b =>
      simp only [Option.map_some, Option.bind_some]
      rw [nusT_one]
      unfold goT
      show ((numT l b.2).map _).bind _ = _
      cases numT l b.2 with
      | none => rfl
      | some c => simp [goT]
def ensT (l : List Nat) (a : Nat) : Option (List En × Nat) := (numT l a).bind fun x => entsT l x.1 x.2
theorem goT_5 (l : List Nat) : goT l (Rc.zero 5) 0 [0, 4, 5] = (nusT l 0 1).bind fun x => (txtT l x.2).bind fun y => (parseT y.1).bind fun p => (ensT l y.2).map fun z => ({ Rc.zero 5 with t := x.1.getD 0 0, p := p, es := z.1 }, z.2) := by
  unfold goT
  rw [nusT_one]
  show ((numT l 0).map _).bind _ = _
  cases numT l 0 with
  | none => rfl
  | some a =>
    simp only [Option.map_some, Option.bind_some]
    unfold goT
    show ((txtT l a.2).bind _).bind _ = _
    cases txtT l a.2 with
    | none => rfl
    | some b =>
      simp only [Option.bind_some]
      cases parseT b.1 with
      | none => rfl
      | some p =>
        simp only [Option.map_some, Option.bind_some]
        unfold goT
        show ((numT l b.2).bind _).bind _ = _
        unfold ensT
        cases numT l b.2 with
        | none => rfl
        | some c =>
          simp only [Option.bind_some]
          cases entsT l c.1 c.2 with
          | none => rfl
          | some d => rfl
end Go.Proofs.YtdmoknnnlfkfoaaGreatDoor
