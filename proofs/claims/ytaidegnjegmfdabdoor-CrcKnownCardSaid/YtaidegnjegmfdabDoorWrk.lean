/-
  The statements' 'works' of layer 2 (the chapter's examples) returns true.
-/
import Derived.Test.YtaidegnjegmfdabDoorOpn
namespace Go.Proofs.YtaidegnjegmfdabDoor
open Go Go.RowKit
set_option linter.unusedVariables false

theorem rd_lit (w : World) (fr : Nat × Nat) {C : Array Value} {l : List Nat} (hC : C.toList = bs l) : Rd (w.alloc (.cells C 5 fr)) (w.heap.size + 1) 1 (some ⟨w.heap.size, 0, none⟩) l.length (bs l) := by
  refine ⟨by rw [bs_length]; omega, fun h0 => ⟨_, rfl, by show w.heap.size < _; omega, fun j u hu => ?_⟩⟩
  have hb : (w.alloc (.cells C 5 fr)).heap[w.heap.size]? = some (.cells C 5 fr) := heap_alloc_new w _
  have := Joins.cell_of_block hb j
  have e : (⟨w.heap.size, 0, none⟩ : Addr).add j = ⟨w.heap.size, j, none⟩ := by unfold Addr.add; split <;> simp_all
  rw [e, this, ← hu, ← hC]
  simp


/-- Open of a literal. -/
theorem open_lit {w : World} {fr : Nat × Nat} {C : Array Value} {n : Nat} (l ys : List Nat) (z : Nat) (zi : Int) (hT : Tab w) (hC : C.toList = bs l) (hn : l.length = n) (hl : l.all (fun x => decide (x < 256)) = true) (h1 : opened l = (ys, z)) (hz : (z : Int) = zi) (h100 : n ≤ 100) :
    Calls Tryd.prog 21 #[.slice (some ⟨w.heap.size, 0, none⟩) n n] (w.alloc (.cells C 5 fr)) fun e w' =>
      ∃ A c, e = .returned (.tuple #[.slice A ys.length c, .int .i64 zi]) ∧ Rd w' w'.heap.size 1 A ys.length (bs ys) ∧ Below w.heap.size w w' ∧ Tab w' := by
  subst hn hz
  have hb := below_new w (.cells C 5 fr)
  have G := open_any (w.heap.size + 1) _ l.length l.length l (w.alloc (.cells C 5 fr)) (hT.below hb hT.1) (rd_lit w fr hC) (fun x hx => by simpa using List.all_eq_true.1 hl x hx) (Nat.le_refl _) (by omega) (by simp) (by omega)
  refine G.mono ?_
  rw [h1]
  rintro e w' ⟨A, c, rfl, ho, hb2⟩
  have hb3 := hb.trans (hb2.mono hb.size)
  exact ⟨A, c, rfl, Rd.own ho, hb3, hT.below hb3 hT.1⟩

/-- Sum of nothing. -/
theorem sum_none {w : World} (hT : Tab w) : Calls Tryd.prog 19 #[.slice none 0 0] w fun e w' => e = .returned (.int .u32 0) ∧ Below w.heap.size w w' ∧ Tab w' := by
  refine (sum_any w.heap.size none 0 0 [] [] w hT Rd.zero (Rws.nil _ _) (Nat.le_refl _) (by omega)).mono ?_
  rintro e w' ⟨rfl, hb⟩
  exact ⟨by rw [List.flatten_nil, crcN_nil]; rfl, hb, hT.below hb hT.1⟩

/-- Sum of one row. -/
theorem sum_row {w : World} {B : Nat} {A : Option Addr} {n c g : Nat} {l : List Nat} (z : Int) (hT : Tab w) (hr : Rd w B 1 A n (bs l)) (hb : ∀ x ∈ l, x < 256) (hnc : n ≤ c) (hc : c ≤ 9223372036854775807) (hB : B ≤ w.heap.size) (hg : g = w.heap.size) (h1 : ((crcN l : Nat) : Int) = z) :
    Calls Tryd.prog 19 #[.slice (some ⟨g, 0, none⟩) 1 1] (w.alloc (.cells #[.slice A n c] 23)) fun e w' => e = .returned (.int .u32 z) ∧ Below w.heap.size w w' ∧ Tab w' := by
  subst hg
  have hb1 := below_new w (.cells #[.slice A n c] 23)
  have G := sum_lit (W := w.alloc (.cells #[.slice A n c] 23)) #[.slice A n c] rfl rfl hT (Rws.one hr hb hnc hc) hB (by simp)
  simp only [List.flatten_cons, List.flatten_nil, List.append_nil, List.length_cons, List.length_nil, Nat.zero_add] at G
  refine G.mono ?_
  rintro e w' ⟨rfl, hb2⟩
  have hb3 := hb1.trans (hb2.mono hb1.size)
  exact ⟨by rw [h1], hb3, hT.below hb3 hT.1⟩

/-- Sum of two rows. -/
theorem sum_two {w : World} {B : Nat} {A A' : Option Addr} {n c n' c' g : Nat} {l l' : List Nat} (z : Int) (hT : Tab w) (hr : Rd w B 1 A n (bs l)) (hb : ∀ x ∈ l, x < 256) (hnc : n ≤ c) (hc : c ≤ 9223372036854775807)
    (hr' : Rd w B 1 A' n' (bs l')) (hb' : ∀ x ∈ l', x < 256) (hnc' : n' ≤ c') (hc' : c' ≤ 9223372036854775807) (hB : B ≤ w.heap.size) (hg : g = w.heap.size) (h1 : ((crcN (l ++ l') : Nat) : Int) = z) :
    Calls Tryd.prog 19 #[.slice (some ⟨g, 0, none⟩) 2 2] (w.alloc (.cells #[.slice A n c, .slice A' n' c'] 23)) fun e w' => e = .returned (.int .u32 z) ∧ Below w.heap.size w w' ∧ Tab w' := by
  subst hg
  have hb1 := below_new w (.cells #[.slice A n c, .slice A' n' c'] 23)
  have G := sum_lit (W := w.alloc (.cells #[.slice A n c, .slice A' n' c'] 23)) #[.slice A n c, .slice A' n' c'] rfl rfl hT (Rws.cons hr hb hnc hc (Rws.one hr' hb' hnc' hc')) hB (by simp)
  simp only [List.flatten_cons, List.flatten_nil, List.append_nil, List.length_cons, List.length_nil, Nat.zero_add] at G
  refine G.mono ?_
  rintro e w' ⟨rfl, hb2⟩
  have hb3 := hb1.trans (hb2.mono hb1.size)
  exact ⟨by rw [h1], hb3, hT.below hb3 hT.1⟩

/-- Put of one row. -/
theorem put_row {w : World} {B : Nat} {A : Option Addr} {n c g : Nat} {l : List Nat} (hT : Tab w) (hr : Rd w B 1 A n (bs l)) (hb : ∀ x ∈ l, x < 256) (hnc : n ≤ c) (hc : c ≤ 9223372036854775807) (hB : B ≤ w.heap.size) (hg : g = w.heap.size) (hn : n ≤ 140737488355320) :
    Calls Tryd.prog 15 #[.slice (some ⟨g, 0, none⟩) 1 1] (w.alloc (.cells #[.slice A n c] 23)) fun e w' => Made 5 (crcPut l) w e w' ∧ Tab w' := by
  subst hg
  have hb1 := below_new w (.cells #[.slice A n c] 23)
  have hR : Rws (w.alloc (.cells #[.slice A n c] 23)) (w.heap.size + 1) [.slice A n c] [l] := (Rws.one (hr.alloc hB _) hb hnc hc).more (by omega)
  have hrd : Rd (w.alloc (.cells #[.slice A n c] 23)) (w.heap.size + 1) 1 (some ⟨w.heap.size, 0, none⟩) 1 [.slice A n c] := by
    refine ⟨rfl, fun _ => ⟨_, rfl, by show w.heap.size < _; omega, fun j u hu => ?_⟩⟩
    obtain rfl : j = 0 := by
      cases j with
      | zero => rfl
      | succ j => simp at hu
    simp at hu
    subst hu
    simp [Addr.add]
  have hcnt := hr.count
  have G := cput_any (w.heap.size + 1) _ 1 1 [.slice A n c] [l] _ (hT.below hb1 hT.1) hrd hR (by simp) (by omega) (by simp; omega)
  simp only [List.flatten_cons, List.flatten_nil, List.append_nil] at G
  refine G.mono ?_
  rintro e w' ⟨A2, c2, rfl, ho, hb2⟩
  have hb3 := hb1.trans (hb2.mono hb1.size)
  exact ⟨⟨A2, c2, rfl, own_base ho (fun k hk => Nat.le_trans hb1.size (own_ge ho k hk)), hb3⟩, hT.below hb3 hT.1⟩

theorem known_9 : ((crcN [49, 50, 51, 52, 53, 54, 55, 56, 57] : Nat) : Int) = 3421780262 := by decide +kernel
theorem known_a : ((crcN [97] : Nat) : Int) = 3904355907 := by decide +kernel
theorem known_abc : ((crcN ([97] ++ [98, 99]) : Nat) : Int) = 891568578 := by decide +kernel
theorem known_put : crcPut [97] = [97, 232, 183, 190, 67] := by decide +kernel
theorem known_open : opened [97, 232, 183, 190, 67] = ([97], 0) := by decide +kernel
theorem known_bad : opened [97, 232, 183, 190, 68] = ([], 20) := by decide +kernel

theorem all_lt {l : List Nat} (h : l.all (fun x => decide (x < 256)) = true) : ∀ x ∈ l, x < 256 := fun x hx => by simpa using List.all_eq_true.1 h x hx

/-- Sum of one text. -/
theorem sum_txt {w : World} {fr : Nat × Nat} {C : Array Value} {n g : Nat} (l : List Nat) (z : Int) (hT : Tab w) (hg : g = w.heap.size + 1) (hC : C.toList = bs l) (hn : l.length = n) (hl : l.all (fun x => decide (x < 256)) = true) (h1 : ((crcN l : Nat) : Int) = z) (h100 : n ≤ 100) :
    Calls Tryd.prog 19 #[.slice (some ⟨g, 0, none⟩) 1 1] ((w.alloc (.cells C 5 fr)).alloc (.cells #[.slice (some ⟨w.heap.size, 0, none⟩) n n] 23)) fun e w' => e = .returned (.int .u32 z) ∧ Below w.heap.size w w' ∧ Tab w' := by
  subst hn hg
  have hb := below_new w (.cells C 5 fr)
  refine (sum_row z (hT.below hb hT.1) (rd_lit w fr hC) (all_lt hl) (Nat.le_refl _) (by omega) (by simp) (by simp) h1).mono ?_
  rintro e w' ⟨rfl, hb2, hT2⟩
  exact ⟨rfl, hb.trans (hb2.mono hb.size), hT2⟩
/-- Sum of two texts. -/
theorem sum_txt2 {w : World} {fr fr' : Nat × Nat} {C C' : Array Value} {n n' g g' : Nat} (l l' : List Nat) (z : Int) (hT : Tab w) (hg' : g' = w.heap.size + 1) (hg : g = w.heap.size + 1 + 1) (hC : C.toList = bs l) (hn : l.length = n) (hl : l.all (fun x => decide (x < 256)) = true)
    (hC' : C'.toList = bs l') (hn' : l'.length = n') (hl' : l'.all (fun x => decide (x < 256)) = true) (h1 : ((crcN (l ++ l') : Nat) : Int) = z) (h100 : n ≤ 100) (h100' : n' ≤ 100) :
    Calls Tryd.prog 19 #[.slice (some ⟨g, 0, none⟩) 2 2] (((w.alloc (.cells C 5 fr)).alloc (.cells C' 5 fr')).alloc (.cells #[.slice (some ⟨w.heap.size, 0, none⟩) n n, .slice (some ⟨g', 0, none⟩) n' n'] 23)) fun e w' => e = .returned (.int .u32 z) ∧ Below w.heap.size w w' ∧ Tab w' := by
  subst hn hn' hg hg'
  have hb := (below_new w (.cells C 5 fr)).alloc (by simp) (.cells C' 5 fr')
  have r1 : Rd ((w.alloc (.cells C 5 fr)).alloc (.cells C' 5 fr')) (w.heap.size + 1 + 1) 1 (some ⟨w.heap.size, 0, none⟩) l.length (bs l) := ((rd_lit w fr hC).alloc (by simp) _).more (by omega)
  have r2 : Rd ((w.alloc (.cells C 5 fr)).alloc (.cells C' 5 fr')) (w.heap.size + 1 + 1) 1 (some ⟨w.heap.size + 1, 0, none⟩) l'.length (bs l') := by
    have := rd_lit (w.alloc (.cells C 5 fr)) fr' hC'
    simpa using this
  refine (sum_two z (hT.below hb hT.1) r1 (all_lt hl) (Nat.le_refl _) (by omega) r2 (all_lt hl') (Nat.le_refl _) (by omega) (by simp) (by simp) h1).mono ?_
  rintro e w' ⟨rfl, hb2, hT2⟩
  exact ⟨rfl, hb.trans (hb2.mono hb.size), hT2⟩
/-- Put of one text. -/
theorem put_txt {w : World} {fr : Nat × Nat} {C : Array Value} {n g : Nat} (l ys : List Nat) (hT : Tab w) (hg : g = w.heap.size + 1) (hC : C.toList = bs l) (hn : l.length = n) (hl : l.all (fun x => decide (x < 256)) = true) (h1 : crcPut l = ys) (h100 : n ≤ 100) :
    Calls Tryd.prog 15 #[.slice (some ⟨g, 0, none⟩) 1 1] ((w.alloc (.cells C 5 fr)).alloc (.cells #[.slice (some ⟨w.heap.size, 0, none⟩) n n] 23)) fun e w' =>
      ∃ A c, e = .returned (.slice A ys.length c) ∧ Rd w' w'.heap.size 1 A ys.length (bs ys) ∧ Below w.heap.size w w' ∧ Tab w' := by
  subst hn hg
  have hb := below_new w (.cells C 5 fr)
  refine (put_row (hT.below hb hT.1) (rd_lit w fr hC) (all_lt hl) (Nat.le_refl _) (by omega) (by simp) (by simp) (by omega)).mono ?_
  rw [h1]
  rintro e w' ⟨⟨A, c, rfl, ho, hb2⟩, hT2⟩
  exact ⟨A, c, rfl, Rd.own ho, hb.trans (hb2.mono hb.size), hT2⟩

set_option maxRecDepth 100000 in
theorem works_any (w : World) (hT : Tab w) :
    Calls Tryd.prog 9 #[] w fun e w' => e = .returned (.bool true) ∧ Below w.heap.size w w' := by
  have kc := fun (w : World) (C : Array Value) (n c : Nat) => Lib.run_convert_bytes_const (P := Tryd.prog) w 23 5 C n c Tryd.underlying23 Tryd.underlying5
  have kc2 := fun (w w0 : World) (C : Array Value) (n c : Nat) (h : w.heap.size = w0.heap.size + 1) => Joins.run_convert_bytes_const_at (P := Tryd.prog) w 23 5 C n c (w0.heap.size + 1) h.symm Tryd.underlying23 Tryd.underlying5
  have KC2 := Lib_hid kc2
  clear kc2
  go_enter Tryd.func9, Tryd.ntmps9
  go_wp2_with fail
  refine (open_lit [97, 232, 183, 190, 67] [97] 0 0 hT rfl rfl (by decide) known_open rfl (by decide)).mono ?_
  rintro e w1 ⟨A1, c1, rfl, r1, hb1, hT1⟩
  go_wp2_with fail
  refine (open_lit [97, 232, 183, 190, 68] [] 20 20 hT1 rfl rfl (by decide) known_bad rfl (by decide)).mono ?_
  rintro e w2 ⟨A2, c2, rfl, r2, hb2, hT2⟩
  have hbw2 := hb1.trans (hb2.mono hb1.size)
  have q1 := (r1.below hb2).more hb2.size
  clear r1 r2 hb1 hb2
  go_wp2_with fail
  refine (sum_txt [49, 50, 51, 52, 53, 54, 55, 56, 57] 3421780262 hT2 rfl rfl rfl (by decide) known_9 (by decide)).mono ?_
  rintro e w3 ⟨rfl, hb3, hT3⟩
  have hbw3 := hbw2.trans (hb3.mono hbw2.size)
  have q3 := (q1.below hb3).more hb3.size
  clear q1 hb3 hbw2
  go_wp2_with fail
  refine (sum_none hT3).mono ?_
  rintro e w4 ⟨rfl, hb4, hT4⟩
  have hbw4 := hbw3.trans (hb4.mono hbw3.size)
  have q4 := (q3.below hb4).more hb4.size
  clear q3 hb4 hbw3
  go_wp2_with fail
  refine (sum_txt [97] 3904355907 hT4 rfl rfl rfl (by decide) known_a (by decide)).mono ?_
  rintro e w5 ⟨rfl, hb5, hT5⟩
  have hbw5 := hbw4.trans (hb5.mono hbw4.size)
  have q5 := (q4.below hb5).more hb5.size
  have kc3 := fun (fr : Nat × Nat) (C C' : Array Value) (n c : Nat) => KC2.out (w5.alloc (.cells C 5 fr)) w5 C' n c (by simp)
  clear q4 hb5 hbw4
  go_wp2_with fail
  refine (sum_txt2 [97] [98, 99] 891568578 hT5 rfl rfl rfl rfl (by decide) rfl rfl (by decide) known_abc (by decide) (by decide)).mono ?_
  rintro e w6 ⟨rfl, hb6, hT6⟩
  have hbw6 := hbw5.trans (hb6.mono hbw5.size)
  have q6 := (q5.below hb6).more hb6.size
  clear q5 hb6 hbw5 kc3
  go_wp2_with fail
  refine (put_txt [97] [97, 232, 183, 190, 67] hT6 rfl rfl rfl (by decide) known_put (by decide)).mono ?_
  rintro e w7 ⟨A7, c7, rfl, r7, hb7, hT7⟩
  have hbw7 := hbw6.trans (hb7.mono hbw6.size)
  have q7 := (q6.below hb7).more hb7.size
  clear q6 hb7 hbw6
  go_wp2_with fail
  refine (same_yes [97, 232, 183, 190, 67] _ (r7.alloc (Nat.le_refl _) _) (rd_lit w7 (0, 0) (C := #[.int .u8 97, .int .u8 232, .int .u8 183, .int .u8 190, .int .u8 67]) rfl) (by decide)).mono ?_
  rintro e w8 ⟨rfl, q, rfl⟩
  have hcv : (convert 23 9 (.slice A1 1 c1)).run Tryd.prog ((w7.alloc (.cells #[.int .u8 97, .int .u8 232, .int .u8 183, .int .u8 190, .int .u8 67] 5)).drewN q) = .ok (.string (strb [97])) ((w7.alloc (.cells #[.int .u8 97, .int .u8 232, .int .u8 183, .int .u8 190, .int .u8 67] 5)).drewN q) :=
    run_str ((q7.alloc (Nat.le_refl _) _).keep (w' := (w7.alloc (.cells #[.int .u8 97, .int .u8 232, .int .u8 183, .int .u8 190, .int .u8 67] 5)).drewN q) (fun p _ => World.cell?_of_block rfl)) (fun e => absurd (rd_none q7 e) (by decide))
  rw [show strb [97] = ⟨#[97]⟩ from rfl] at hcv
  go_wp2
  go_ret
  exact ⟨rfl, below_drew_ (hbw7.alloc hbw7.size _)⟩

end Go.Proofs.YtaidegnjegmfdabDoor
