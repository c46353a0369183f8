/-
  The statement's function VarintReads returns true, for every input.
-/
import Derived.Test.YtaafladmpdkfjaaRnums
import Derived.Deep.DeepCutAuto
import Derived.Deep.CutBlock
import Derived.Deep.RegionHeld3
namespace Go.Proofs.Ytaafladmpdkfjaa
open Go Go.RowKit
set_option linter.unusedVariables false

theorem read_any (B : Nat) (A : Option Addr) (n c : Nat) (l : List Nat) (w : World) (h : Rd w B 1 A n (bs l)) (hb : ∀ x ∈ l, x < 256) (hn : n ≤ 1000) (hB : B ≤ w.heap.size) :
    Calls Try.prog 25 #[.slice A n c] w fun en w' => ∃ g A' c', en = .returned (.pointer (some ⟨g, 0, none⟩)) ∧ w.heap.size ≤ g ∧ Rr 72 w' g A' l.length c' l 0 0 ∧ Below w.heap.size w w' ∧ ∀ ad, A' = some ad → w.heap.size ≤ ad.block := by
  have C := clone_any B A n c l w h (by omega) hB
  have hl := h.count
  subst hl
  go_enter Try.func25, Try.ntmps25
  go_wp2_with (go_at_call 39; refine C.mono ?_; rintro e w1 ⟨A1, c1, rfl, ho1, hb1⟩)
  go_ret
  have hc := own_cap ho1
  exact ⟨w1.heap.size, A1, c1, rfl, hb1.size, ⟨heap_alloc_new w1 _, (Rd.own ho1).alloc (Nat.le_refl _) _, hc, hb, by omega, Nat.zero_le _, by omega⟩, hb1.alloc hb1.size _, fun ad e => own_ge ho1 ad.block (by rw [e]; rfl)⟩

theorem str_rule {B : Nat} {A : Option Addr} {n c : Nat} {l : List Nat} {w : World} (h : Rd w B 1 A n (bs l)) :
    (convert 23 9 (.slice A n c)).run Try.prog w = .ok (.string (str l)) w := by
  rw [run_convert_bytes_string w 23 9 5 A n c Try.underlying23 Try.underlying5 Try.underlying9]
  have hl := h.count
  have hmap : bs l = (l.map fun (x : Nat) => (x : Int)).map (Value.int .u8) := by simp [bs]
  have hstr : (l.map fun (n : Nat) => (n : Int)).foldl (fun r n => r.push (UInt8.ofNat n.toNat)) ByteArray.empty = str l := by
    rw [str_of]; unfold str; congr 1; simp
  rcases A with _ | ad
  · have : l = [] := by
      rcases Nat.eq_zero_or_pos n with h0 | h0
      · exact List.eq_nil_of_length_eq_zero (by omega)
      · obtain ⟨ad, hA, _⟩ := h.lies h0; cases hA
    subst this
    rfl
  · have hload : (loadCells ad n).run Try.prog w = .ok ((l.map fun (x : Nat) => (x : Int)).map (Value.int .u8)).toArray w := by
      have hcells : ∀ j u, (bs l)[j]? = some u → w.cell? (ad.add j) = some u := by
        intro j u hu
        rcases Nat.eq_zero_or_pos n with h0 | h0
        · have : l = [] := List.eq_nil_of_length_eq_zero (by omega)
          subst this; simp [bs] at hu
        · obtain ⟨ad', hA, _, hc⟩ := h.lies h0
          injection hA with hA; subst hA
          exact hc j u hu
      have := run_loadCells_list (P := Try.prog) w ad (bs l) hcells
      rw [bs_length, hl] at this
      rw [← hmap]
      exact this
    rw [run_bytesToString w ad n c _ hload, hstr]

theorem at_quiet {g : Nat} {A : Option Addr} {n c a e : Nat} {l : List Nat} {w : World} {k : Nat} (h : Rr 72 w g A n c l a e) :
    Calls Try.prog 34 #[.pointer (some ⟨g, 0, none⟩)] (w.drewN k) fun en w'' => en = .returned (.int .i64 (a : Int)) ∧ ∃ q, w'' = w.drewN q := by
  refine (at_any g A n c a e l _ (h.drewN k)).mono ?_
  rintro en w' ⟨h1, rfl⟩
  exact ⟨h1, k, rfl⟩
theorem err_quiet {g : Nat} {A : Option Addr} {n c a e : Nat} {l : List Nat} {w : World} {k : Nat} (h : Rr 72 w g A n c l a e) :
    Calls Try.prog 36 #[.pointer (some ⟨g, 0, none⟩)] (w.drewN k) fun en w'' => en = .returned (.int .i64 (e : Int)) ∧ ∃ q, w'' = w.drewN q := by
  refine (err_any g A n c a e l _ (h.drewN k)).mono ?_
  rintro en w' ⟨h1, rfl⟩
  exact ⟨h1, k, rfl⟩
theorem left_quiet {g : Nat} {A : Option Addr} {n c a e : Nat} {l : List Nat} {w : World} {k : Nat} (h : Rr 72 w g A n c l a e) :
    Calls Try.prog 35 #[.pointer (some ⟨g, 0, none⟩)] (w.drewN k) fun en w'' => en = .returned (.int .i64 ((n : Int) - a)) ∧ ∃ q, w'' = w.drewN q :=
  Calls.quiet_of (left_any g A n c a e l _ (h.drewN k))

theorem Rr.off {T : TypeId} {w w' : World} {g n c a e : Nat} {A : Option Addr} {l : List Nat} (h : Rr T w g A n c l a e) (hg : w'.heap[g]? = w.heap[g]?) (hk : ∀ ad, A = some ad → ad.block < g → w'.heap[ad.block]? = w.heap[ad.block]?) : Rr T w' g A n c l a e :=
  ⟨hg.trans h.blk, h.rd.off hk (Nat.le_refl _), h.nc, h.b8, h.len, h.place, h.err⟩

/-- The two readers' state: the program's at block g, the document's in block b, an Act's cells in block q. -/
structure Two (w0 w : World) (g b : Nat) (A : Option Addr) (n c : Nat) (l : List Nat) (a e : Nat) : Prop where
  rr : Rr 72 w g A n c l a e
  ref : w.heap[b]? = some (.cells #[.string (str l), .int .i64 (a : Int), .int .i64 (e : Int)] 50 (0, 0))
  below : Below w0.heap.size w0 w
  g0 : w0.heap.size ≤ g
  gb : g < b

theorem Two.kept {w0 w w' : World} {g b n c a e : Nat} {A : Option Addr} {l : List Nat} (h : Two w0 w g b A n c l a e) (hb : Below w.heap.size w w') : Two w0 w' g b A n c l a e :=
  ⟨h.rr.kept hb, (hb.block b (lt_of_block h.ref)).trans h.ref, h.below.trans (hb.mono h.below.size), h.g0, h.gb⟩

theorem blk5 {w : World} {b : Nat} {x y z u v : Value} {T : TypeId} (h : w.heap[b]? = some (.cells #[x, y, z, u, v] T (0, 0))) :
    w.cell? ⟨b, 0, none⟩ = some x ∧ w.cell? ⟨b, 1, none⟩ = some y ∧ w.cell? ⟨b, 2, none⟩ = some z ∧ w.cell? ⟨b, 3, none⟩ = some u ∧ w.cell? ⟨b, 4, none⟩ = some v :=
  ⟨cell_of_row w b 0 _ T (0, 0) h, cell_of_row w b 1 _ T (0, 0) h, cell_of_row w b 2 _ T (0, 0) h, cell_of_row w b 3 _ T (0, 0) h, cell_of_row w b 4 _ T (0, 0) h⟩
theorem rawS_len {l : List Nat} {a e : Nat} {n : Int} {p' e' : Nat} {m : List Nat} (hl : l.length ≤ 1000) (h : rawS l a e n = (p', e', m)) : m.length ≤ 1000 := by
  unfold rawS at h
  split at h
  · simp only [Prod.mk.injEq] at h; rw [← h.2.2]; simp
  · split at h
    · simp only [Prod.mk.injEq] at h; rw [← h.2.2]; simp
    · split at h
      · simp only [Prod.mk.injEq] at h; rw [← h.2.2]; simp
      · simp only [Prod.mk.injEq] at h; rw [← h.2.2, List.length_take, List.length_drop]; omega
theorem textS_len {l : List Nat} {a e : Nat} {p' e' : Nat} {m : List Nat} (hl : l.length ≤ 1000) (h : textS l a e = (p', e', m)) : m.length ≤ 1000 := by
  unfold textS at h
  split at h
  · simp only [Prod.mk.injEq] at h; rw [← h.2.2]; simp
  · split at h
    · simp only [Prod.mk.injEq] at h; rw [← h.2.2]; simp
    · simp only [Prod.mk.injEq] at h; rw [← h.2.2, List.length_take, List.length_drop]; omega

/-- The document's reader set anew, and a block more. -/
theorem Two.set {w0 w : World} {g b n c a e : Nat} {A : Option Addr} {l : List Nat} (h : Two w0 w g b A n c l a e) (a' e' : Nat) (o : Obj) :
    Rr 72 ((set3 w b (.string (str l)) (.int .i64 (a' : Int)) (.int .i64 (e' : Int))).alloc o) g A n c l a e ∧
    ((set3 w b (.string (str l)) (.int .i64 (a' : Int)) (.int .i64 (e' : Int))).alloc o).heap[b]? = some (.cells #[.string (str l), .int .i64 (a' : Int), .int .i64 (e' : Int)] 50 (0, 0)) ∧
    Below w0.heap.size w0 ((set3 w b (.string (str l)) (.int .i64 (a' : Int)) (.int .i64 (e' : Int))).alloc o) ∧
    ((set3 w b (.string (str l)) (.int .i64 (a' : Int)) (.int .i64 (e' : Int))).alloc o).heap.size = w.heap.size + 1 ∧
    (∀ k, k < w.heap.size → k ≠ b → ((set3 w b (.string (str l)) (.int .i64 (a' : Int)) (.int .i64 (e' : Int))).alloc o).heap[k]? = w.heap[k]?) := by
  have hbl := lt_of_block h.ref
  have hgl := h.rr.lt
  have hk : ∀ k, k < w.heap.size → k ≠ b → ((set3 w b (.string (str l)) (.int .i64 (a' : Int)) (.int .i64 (e' : Int))).alloc o).heap[k]? = w.heap[k]? := fun k h1 h2 => by
    rw [Below.heap_alloc _ _ _ (by rw [set3_size]; exact h1), set3_other _ _ _ _ _ _ h2]
  refine ⟨h.rr.off (hk g hgl (by have := h.gb; omega)) (fun ad _ hlt => hk _ (by omega) (by have := h.gb; omega)), ?_, ?_, by rw [World.size_alloc, set3_size], hk⟩
  · rw [Below.heap_alloc _ _ _ (by rw [set3_size]; exact hbl)]; exact set3_block h.ref
  · exact (set3_below h.below (by have := h.g0; have := h.gb; omega) _ _ _).alloc (by rw [set3_size]; exact h.below.size) _
theorem two_of {w0 X w' : World} {g b n c a e : Nat} {A : Option Addr} {l : List Nat} (href : X.heap[b]? = some (.cells #[.string (str l), .int .i64 (a : Int), .int .i64 (e : Int)] 50 (0, 0)))
    (hb : Below w0.heap.size w0 X) (g0 : w0.heap.size ≤ g) (gb : g < b) (h : RLeft g A n c l a e X w') : Two w0 w' g b A n c l a e :=
  ⟨h.1, (h.2.block b (lt_of_block href) (by omega)).trans href, hb.trans (h.2.below hb.size g0), g0, gb⟩
theorem Two.grown {w0 w w' : World} {g b n c a e : Nat} {A : Option Addr} {l : List Nat} (h : Two w0 w g b A n c l a e) {row : Option Nat} (hg : w.grownBy w' row) (hr : ∀ k, row = some k → b < k) : Two w0 w' g b A n c l a e := by
  have hgb := h.gb
  have hbl := lt_of_block h.ref
  exact ⟨h.rr.off (hg.block g (by omega) (fun e => by have := hr g e.symm; omega)) (fun ad _ hlt => hg.block _ (by omega) (fun e => by have := hr _ e.symm; omega)),
    (hg.block b hbl (fun e => by have := hr b e.symm; omega)).trans h.ref, h.below.grown hg h.below.size (fun k hk => by have := hr k hk; have := h.g0; omega), h.g0, h.gb⟩

set_option maxRecDepth 100000 in
set_option maxHeartbeats 3200000 in
theorem reads_any (B : Nat) (A : Option Addr) (n c : Nat) (l : List Nat) (AL : Option Addr) (N C : Nat) (acts : List ActV) (w : World) (h : Rd w B 1 A n (bs l)) (hb8 : ∀ x ∈ l, x < 256) (hn : n ≤ c) (hc : c ≤ 9223372036854775807)
    (hL : Rd w B 5 AL N (actCells acts)) (hl : acts.length = N) (hB : B = w.heap.size) (hN : N ≤ 9223372036854775807) (hok : ∀ a ∈ acts, ∃ bl ll, ActOK w a bl ll) :
    Calls Try.prog 5 #[.slice A n c, .slice AL N C] w fun e w' => e = .returned (.bool true) ∧ Below w.heap.size w w' := by
  have HL := Lib_hid hl
  have HOK := Lib_hid hok
  have HB8 := Lib_hid hb8
  have F := few_any B N C AL acts w hL hl hN
  have hcount := h.count
  subst hcount
  clear hl hok hb8
  by_cases h200 : 200 < l.length
  · go_enter Try.func5, Try.ntmps5
    go_wp2_with (go_at_call 9; refine (works_any w).mono ?_; rintro e w1 ⟨rfl, hb1⟩)
    go_ret
    exact ⟨rfl, hb1⟩
  · have O := own_any B A l.length c l w h (by omega)
    go_enter Try.func5, Try.ntmps5
    go_wp2_with fail
    refine F.mono ?_
    rintro e w1 ⟨b, rfl, rfl, hfew⟩
    clear F
    cases b with
    | false =>
      clear hfew
      go_wp2_with (go_at_call 9; refine (works_any w).mono ?_; rintro e w1 ⟨rfl, hb1⟩)
      go_ret
      exact ⟨rfl, hb1⟩
    | true =>
      obtain ⟨hN30, hF⟩ := hfew rfl
      clear hfew hF
      go_wp2_with fail
      refine O.mono ?_
      rintro e w1 ⟨Ao, co, rfl, ho1, hb1⟩
      clear O
      go_wp2_with fail
      refine (read_any w1.heap.size Ao _ co l w1 (Rd.own ho1) HB8.out (by omega) (Nat.le_refl _)).mono ?_
      rintro e w2 ⟨g, A', c', rfl, hg1, hr2, hb2, hA2⟩
      have hstr := str_rule (c := c) (h.below ((hb1.trans (hb2.mono hb1.size)).mono (show B ≤ w.heap.size by omega)))
      have hO2 := (own_below ho1 hb2 (own_lt ho1)).alloc (.cells #[.string (str l), .int .i64 0, .int .i64 0] 50)
      have hr3 := hr2.kept ((Below.refl _ w2).alloc (Nat.le_refl _) (.cells #[.string (str l), .int .i64 0, .int .i64 0] 50))
      go_wp2_with fail
      refine (spoil_any w.heap.size l.length co Ao _ _ hO2 (by omega)).mono ?_
      rintro e w3 ⟨rfl, hg3⟩
      have T0 : Two w w3 g w2.heap.size A' l.length c' l 0 0 := by
        have hlo : ∀ k, (Value.slice Ao l.length co).ownBlock = some k → k < w1.heap.size := own_lt ho1
        have hlt2 := hr2.lt
        refine ⟨hr3.off (hg3.block g (by simp; omega) (fun e => by have := hlo g e.symm; omega)) (fun ad had hlt => hg3.block _ (by simp; omega) (fun e => by have := hlo _ e.symm; have := hA2 ad had; omega)), ?_, ?_, ?_, hlt2⟩
        · exact (hg3.block w2.heap.size (by simp) (fun e => by have := hlo _ e.symm; have := hb2.size; omega)).trans (heap_alloc_new w2 _)
        · exact ((hb1.trans (hb2.mono hb1.size)).alloc (Nat.le_trans hb1.size hb2.size) _).grown hg3 (by have := hb1.size; have := hb2.size; simp; omega) (own_ge ho1)
        · have := hb1.size; omega
      obtain ⟨sb, hsb⟩ : ∃ sb, sb = w2.heap.size := ⟨_, rfl⟩
      rw [← hsb] at T0 ⊢
      clear hsb hO2 hr3 hg3 ho1 hb1 hr2 hb2 hA2 hg1 hstr
      go_wp2_with fail
      go_loopw [8] (fun x wr => ∃ (i a e : Nat), x = .int .i64 i ∧ i ≤ N ∧ Two w wr g sb A' l.length c' l a e) (fun x _ => N - (intOf x).toNat)
      case atStart => exact ⟨0, 0, 0, rfl, Nat.zero_le _, T0⟩
      case round =>
        obtain ⟨i, a, e, rfl, hi, T⟩ := hrel
        by_cases hlt : i < N
        · obtain ⟨bb, off, act, rfl, hbb, ha, c0, c1, c2, c3, c4⟩ := acts_at (hL.below (T.below.mono (show B ≤ w.heap.size by omega))) HL.out hlt
          obtain ⟨bl, ll, ok⟩ := HOK.out act (List.mem_of_getElem? ha)
          have hk64 := ok.k
          obtain ⟨d, v, k, bA, bn, bc, lA, ln, lc⟩ := act
          simp only at c0 c1 c2 c3 c4 hk64
          clear ok ha
          obtain ⟨aw, haw⟩ : ∃ aw, aw = wr.alloc (.cells #[.int .i64 d, .int .u64 v, .int .i64 k, .slice bA bn bc, .slice lA ln lc] 40) := ⟨_, rfl⟩
          have T1 : Two w aw g sb A' l.length c' l a e := by rw [haw]; exact T.kept ((Below.refl _ _).alloc (Nat.le_refl _) _)
          have hact : aw.heap[wr.heap.size]? = some (.cells #[.int .i64 d, .int .u64 v, .int .i64 k, .slice bA bn bc, .slice lA ln lc] 40 (0, 0)) := by rw [haw]; exact heap_alloc_new wr _
          have hsbl : sb < wr.heap.size := lt_of_block T.ref
          go_wp2_with fail
          rw [← haw]
          have hactH := Lib_hid hact
          have T1H := Lib_hid T1
          clear c0 c1 c2 c3 c4 T T0 haw hact T1
          refine (pick_any d aw).mono ?_
          rintro en w4 ⟨kk, rfl, hkk, rfl⟩
          go_upto_block 2 with (fail)
          go_cut [10, 11, 12, 13, 14, 15, 16, 17, 18, 19, 20, 21] (fun _ _ _ _ _ _ _ _ _ _ _ _ wx => ∃ (a' e' : Nat), Two w wx g sb A' l.length c' l a' e')
          case first =>
            have hk4 : kk = 0 ∨ kk = 1 ∨ kk = 2 ∨ kk = 3 := by omega
            obtain ⟨r0, r1, r2, m0, m1, m2⟩ := blk3 T1H.out.ref
            have hee := T1H.out.rr.err
            have hpl := T1H.out.rr.place
            rcases hk4 with rfl | rfl | rfl | rfl
            · obtain ⟨⟨p', e', u⟩, hS⟩ : ∃ x, numS l a e = x := ⟨_, rfl⟩
              have Nr := rnum_any l a e aw HB8.out (by omega) (by omega) hee p' e' u hS
              have HS := Lib_hid hS
              clear hS hactH
              go_wp2_with fail
              refine Nr.mono ?_
              rintro en w5 ⟨rfl, hb5⟩
              have T5 := T1H.out.kept hb5
              clear r0 r1 r2 m0 m1 m2 Nr
              obtain ⟨r0, r1, r2, m0, m1, m2⟩ := blk3 T5.ref
              have hsb1 : sb < w5.heap.size := lt_of_block T5.ref
              have hsb2 : sb ≠ w5.heap.size := by omega
              have T5H := Lib_hid T5
              clear T5 T1H hb5
              go_wp2_with fail
              obtain ⟨X1, X2, X3, X4, X5⟩ := T5H.out.set p' e' (.cells #[.string (str l), .int .i64 (p' : Int), .int .i64 (e' : Int)] 50)
              refine (number_any g A' _ c' a e l _ X1 p' e' u HS.out).mono ?_
              rintro en w7 ⟨rfl, hL⟩
              have T7 := two_of X2 X3 T5H.out.g0 T5H.out.gb hL
              clear X1 X2 X3 X4 X5 hL T5H r0 r1 r2 m0 m1 m2
              go_wp2_with fail
              go_meet
              exact ⟨p', e', T7⟩
            · obtain ⟨⟨p', e', m⟩, hS⟩ : ∃ x, rawS l a e k = x := ⟨_, rfl⟩
              have Nr := rraw_any l a e k aw HB8.out (by omega) hpl hee
              rw [hS] at Nr
              have HS := Lib_hid hS
              have hactA := blk5 hactH.out
              have hgsb := T1H.out.gb
              have hsbA : sb < aw.heap.size := lt_of_block T1H.out.ref
              clear hS
              obtain ⟨_, _, a2, _, _⟩ := hactA
              go_wp2_with fail
              refine Nr.mono ?_
              rintro en w5 ⟨A5, c5, rfl, hR5, hb5, hA5⟩
              have hact5 := (hb5.block _ (lt_of_block hactH.out)).trans hactH.out
              have T5 := T1H.out.kept hb5
              clear r0 r1 r2 m0 m1 m2 Nr a2
              obtain ⟨r0, r1, r2, m0, m1, m2⟩ := blk3 T5.ref
              have hsb1 : sb < w5.heap.size := lt_of_block T5.ref
              have hsb2 : sb ≠ w5.heap.size := by omega
              have hab5 : wr.heap.size < w5.heap.size := lt_of_block hact5
              have hab6 : wr.heap.size ≠ w5.heap.size := by omega
              have hab7 : wr.heap.size ≠ sb := by omega
              obtain ⟨_, _, a2, _, _⟩ := blk5 hact5
              have T5H := Lib_hid T5
              have hm5 : m.length = m.length := rfl
              clear T5 T1H hb5 hact5 hm5
              go_wp2_with fail
              obtain ⟨X1, X2, X3, X4, X5⟩ := T5H.out.set p' e' (.cells #[.string (str l), .int .i64 (p' : Int), .int .i64 (e' : Int)] 50)
              have P := raw_any g A' _ c' a e l k _ X1 hk64
              rw [HS.out] at P
              refine P.mono ?_
              rintro en w7 ⟨A7, c7, rfl, ho7, hL⟩
              have T7 := two_of X2 X3 T5H.out.g0 T5H.out.gb hL
              have hR7 : Rd w7 w5.heap.size 1 A5 m.length (bs m) := by
                refine hR5.off (fun ad had hlt => ?_) (Nat.le_refl _)
                have := hA5 ad had
                exact (hL.2.block _ (by rw [X4]; omega) (by omega)).trans (X5 _ hlt (by omega))
              have hml : m.length ≤ 1000 := rawS_len (by omega) HS.out
              have T7H := Lib_hid T7
              have hge7 : ∀ k, (Value.slice A7 m.length c7).ownBlock = some k → sb < k := fun k hk => by have := own_ge ho7 k hk; rw [X4] at this; omega
              clear T7 X1 X2 X3 X5 hL P T5H hactH r0 r1 r2 m0 m1 m2 a2
              go_wp2_with fail
              refine (same_yes m w7 (Rd.own ho7) hR7 (by omega)).mono ?_
              rintro en w8 ⟨rfl, q8, rfl⟩
              go_wp2_with fail
              refine (spoil_any _ m.length c7 A7 _ (w7.drewN q8) (own_keep (w' := w7.drewN q8) ho7 (fun _ _ => rfl)) (by omega)).mono ?_
              rintro en w9 ⟨rfl, hg9⟩
              have T9 := (T7H.out.kept (below_drew_ (n := q8) (Below.refl _ w7))).grown hg9 hge7
              go_wp2_with fail
              go_meet
              exact ⟨p', e', T9⟩
            · obtain ⟨⟨p', e', m⟩, hS⟩ : ∃ x, textS l a e = x := ⟨_, rfl⟩
              have Nr := rtext_any l a e aw HB8.out (by omega) hpl hee
              rw [hS] at Nr
              have HS := Lib_hid hS
              have hactA := blk5 hactH.out
              have hgsb := T1H.out.gb
              have hsbA : sb < aw.heap.size := lt_of_block T1H.out.ref
              clear hS
              obtain ⟨_, _, a2, _, _⟩ := hactA
              go_wp2_with fail
              refine Nr.mono ?_
              rintro en w5 ⟨A5, c5, rfl, hR5, hb5, hA5⟩
              have hact5 := (hb5.block _ (lt_of_block hactH.out)).trans hactH.out
              have T5 := T1H.out.kept hb5
              clear r0 r1 r2 m0 m1 m2 Nr a2
              obtain ⟨r0, r1, r2, m0, m1, m2⟩ := blk3 T5.ref
              have hsb1 : sb < w5.heap.size := lt_of_block T5.ref
              have hsb2 : sb ≠ w5.heap.size := by omega
              have hab5 : wr.heap.size < w5.heap.size := lt_of_block hact5
              have hab6 : wr.heap.size ≠ w5.heap.size := by omega
              have hab7 : wr.heap.size ≠ sb := by omega
              obtain ⟨_, _, a2, _, _⟩ := blk5 hact5
              have T5H := Lib_hid T5
              have hm5 : m.length = m.length := rfl
              clear T5 T1H hb5 hact5 hm5
              go_wp2_with fail
              obtain ⟨X1, X2, X3, X4, X5⟩ := T5H.out.set p' e' (.cells #[.string (str l), .int .i64 (p' : Int), .int .i64 (e' : Int)] 50)
              have P := text_any g A' _ c' a e l _ X1
              rw [HS.out] at P
              refine P.mono ?_
              rintro en w7 ⟨A7, c7, rfl, ho7, hL⟩
              have T7 := two_of X2 X3 T5H.out.g0 T5H.out.gb hL
              have hR7 : Rd w7 w5.heap.size 1 A5 m.length (bs m) := by
                refine hR5.off (fun ad had hlt => ?_) (Nat.le_refl _)
                have := hA5 ad had
                exact (hL.2.block _ (by rw [X4]; omega) (by omega)).trans (X5 _ hlt (by omega))
              have hml : m.length ≤ 1000 := textS_len (by omega) HS.out
              have T7H := Lib_hid T7
              have hge7 : ∀ k, (Value.slice A7 m.length c7).ownBlock = some k → sb < k := fun k hk => by have := own_ge ho7 k hk; rw [X4] at this; omega
              clear T7 X1 X2 X3 X5 hL P T5H hactH r0 r1 r2 m0 m1 m2 a2
              go_wp2_with fail
              refine (same_yes m w7 (Rd.own ho7) hR7 (by omega)).mono ?_
              rintro en w8 ⟨rfl, q8, rfl⟩
              go_wp2_with fail
              refine (spoil_any _ m.length c7 A7 _ (w7.drewN q8) (own_keep (w' := w7.drewN q8) ho7 (fun _ _ => rfl)) (by omega)).mono ?_
              rintro en w9 ⟨rfl, hg9⟩
              have T9 := (T7H.out.kept (below_drew_ (n := q8) (Below.refl _ w7))).grown hg9 hge7
              go_wp2_with fail
              go_meet
              exact ⟨p', e', T9⟩
            · obtain ⟨⟨p', e', m⟩, hS⟩ : ∃ x, numsS l a e k = x := ⟨_, rfl⟩
              have Nr := rnums_any l a e k aw HB8.out (by omega) hpl hee hk64.2
              rw [hS] at Nr
              have HS := Lib_hid hS
              have hactA := blk5 hactH.out
              have hgsb := T1H.out.gb
              have hsbA : sb < aw.heap.size := lt_of_block T1H.out.ref
              clear hS
              obtain ⟨_, _, a2, _, _⟩ := hactA
              go_wp2_with fail
              refine Nr.mono ?_
              rintro en w5 ⟨A5, c5, rfl, hR5, hb5, hA5⟩
              have hact5 := (hb5.block _ (lt_of_block hactH.out)).trans hactH.out
              have T5 := T1H.out.kept hb5
              clear r0 r1 r2 m0 m1 m2 Nr a2
              obtain ⟨r0, r1, r2, m0, m1, m2⟩ := blk3 T5.ref
              have hsb1 : sb < w5.heap.size := lt_of_block T5.ref
              have hsb2 : sb ≠ w5.heap.size := by omega
              have hab5 : wr.heap.size < w5.heap.size := lt_of_block hact5
              have hab6 : wr.heap.size ≠ w5.heap.size := by omega
              have hab7 : wr.heap.size ≠ sb := by omega
              obtain ⟨_, _, a2, _, _⟩ := blk5 hact5
              have T5H := Lib_hid T5
              clear T5 T1H hb5 hact5
              go_wp2_with fail
              obtain ⟨X1, X2, X3, X4, X5⟩ := T5H.out.set p' e' (.cells #[.string (str l), .int .i64 (p' : Int), .int .i64 (e' : Int)] 50)
              have P := numbers_any g A' _ c' a e l k _ X1 hk64
              rw [HS.out] at P
              refine P.mono ?_
              rintro en w7 ⟨A7, c7, rfl, ho7, hL⟩
              have T7 := two_of X2 X3 T5H.out.g0 T5H.out.gb hL
              have hR7 : Rd w7 w5.heap.size 1 A5 m.length (us m) := by
                refine hR5.off (fun ad had hlt => ?_) (Nat.le_refl _)
                have := hA5 ad had
                exact (hL.2.block _ (by rw [X4]; omega) (by omega)).trans (X5 _ hlt (by omega))
              have T7H := Lib_hid T7
              have hge7 : ∀ k, (Value.slice A7 m.length c7).ownBlock = some k → w5.heap.size + 1 ≤ k := fun k hk => by have := own_ge ho7 k hk; rw [X4] at this; omega
              have hml : m.length ≤ 9223372036854775807 := Nat.le_trans (own_cap ho7).1 (own_cap ho7).2
              obtain ⟨b7, hb7⟩ : ∃ b7, w7.ownsRow b7 22 1 (.slice A7 m.length c7) m.length (us m) := ⟨_, ho7⟩
              clear T7 X1 X2 X3 X4 X5 hL P T5H hactH r0 r1 r2 m0 m1 m2 a2 ho7
              obtain ⟨wo, rfl⟩ : ∃ wo : World, wo = wr := ⟨_, rfl⟩
              go_wp2_with fail
              go_loopw [21] (fun x wx => ∃ (j : Nat) (zs : List Value), x = .int .i64 j ∧ j ≤ m.length ∧ wx.ownsRow b7 22 1 (.slice A7 m.length c7) m.length zs ∧ Hid (∀ t, j ≤ t → zs[t]? = (us m)[t]?) ∧ Stp w7 wx (.slice A7 m.length c7) (.slice A7 m.length c7)) (fun x _ => m.length - (intOf x).toNat)
              case atStart => exact ⟨0, us m, rfl, Nat.zero_le _, hb7, fun _ _ => rfl, Stp.refl _ _⟩
              case round =>
                obtain ⟨j, zs, rfl, hj, ho, hz, hst⟩ := hrel
                by_cases hjm : j < m.length
                · obtain ⟨g7, cap7, hv7, _, _⟩ := ho.form (by omega)
                  have hA7 : A7 = some ⟨g7, 0, none⟩ := by injection hv7
                  subst hA7
                  obtain ⟨x, hx⟩ : ∃ x, m[j]? = some x := ⟨_, List.getElem?_eq_getElem hjm⟩
                  have hux : (us m)[j]? = some (.int .u64 ((x : Nat) : Int)) := by simp [us, hx]
                  have hc1 : wr.cell? ⟨g7, j, none⟩ = some (.int .u64 ((x : Nat) : Int)) := (ho.cellAt j (by omega)).trans ((hz.out j (Nat.le_refl _)).trans hux)
                  have hRx : Rd wr w5.heap.size 1 A5 m.length (us m) := hR7.grown hst.grow (by have := hge7 g7 rfl; have := own_lt hb7 g7 rfl; omega) (fun q hq => by have := hge7 q hq; omega)
                  obtain ⟨ad5, y, rfl, hy, hc2⟩ := hRx.num hjm
                  obtain rfl : x = y := by rw [hx] at hy; injection hy
                  have hf := ho.frozenAt j
                  have ⟨hs1, hs2⟩ := ho.stored j (.int .u64 77)
                  have hz' : Hid (∀ t, j + 1 ≤ t → (zs.set j (.int .u64 77))[t]? = (us m)[t]?) := fun t ht => by rw [List.getElem?_set, if_neg (by omega)]; exact hz.out t (by omega)
                  have hst' : ∀ q, Stp w7 ((wr.setCell ⟨g7, j, none⟩ (.int .u64 77)).drewN q) (.slice (some ⟨g7, 0, none⟩) m.length c7) (.slice (some ⟨g7, 0, none⟩) m.length c7) := fun q =>
                    (hst.trans ⟨hs2, .inl rfl⟩).trans ⟨⟨rfl, rfl, rfl, Nat.le_refl _, fun _ _ _ => rfl⟩, .inl rfl⟩
                  have HST := Lib_hid hst'
                  clear hst hst' hs2 ho hz hx hy hux hRx hv7 hR7
                  go_wp2
                  go_quiet (fail)
                  go_wp2
                  go_roundw
                  case rel => exact ⟨j + 1, _, by go_num, by omega, own_keep (w' := (wr.setCell ⟨g7, j, none⟩ (.int .u64 77)).drewN nq) hs1 (fun _ _ => rfl), hz', HST.out nq⟩
                  case measure => simp [intOf]; omega
                · obtain rfl : j = m.length := by omega
                  have T9 := T7H.out.grown hst.grow (fun q hq => by have := hge7 q hq; omega)
                  have TH9 := Lib_hid T9
                  clear T9
                  go_wp2_with fail
                  go_meet
                  exact ⟨p', e', TH9.out⟩
          case rest =>
            obtain ⟨a', e', T⟩ := hcut
            obtain ⟨r0, r1, r2, _, _, _⟩ := blk3 T.ref
            have hszs := str_size l
            have hpl := T.rr.place
            have hw : IntKind.i64.wrap ((l.length : Int) - (a' : Int)) = (l.length : Int) - (a' : Int) := IntWalk.i64_in _ (by omega)
            have TH := Lib_hid T
            clear T hactH T1H
            go_wp2_with fail
            go_quiet ((first | (go_at_call 34; exact at_quiet TH.out.rr) | (go_at_call 35; exact left_quiet TH.out.rr) | (go_at_call 36; exact err_quiet TH.out.rr)))
            go_wp2_with fail
            go_roundw
            case rel => exact ⟨i + 1, a', e', by go_num, by omega, TH.out.kept (below_drew_ (Below.refl _ _))⟩
            case measure => simp [intOf]; omega
        · obtain rfl : i = N := by omega
          have hbw := T.below
          clear T
          go_wp2_with (go_at_call 9; refine (works_any _).mono ?_; rintro e w6 ⟨rfl, hb6⟩)
          go_ret
          exact ⟨rfl, hbw.trans (hb6.mono hbw.size)⟩

end Go.Proofs.Ytaafladmpdkfjaa
