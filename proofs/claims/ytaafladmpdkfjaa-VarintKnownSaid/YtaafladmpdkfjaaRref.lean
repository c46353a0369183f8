/-
  Contracts of the document's reader (alibiref01.Number, Raw, Text, Numbers), for every input.
-/
import Derived.Test.YtaafladmpdkfjaaWrite
import Derived.Laws.IdiomStrings
import Derived.Laws.BytesString
import Derived.Handy
import Derived.Lib.Strings
namespace Go.Proofs.Ytaafladmpdkfjaa
open Go Go.RowKit
set_option linter.unusedVariables false

/-- The bytes l as a text. -/
def str (l : List Nat) : ByteArray := ⟨(l.map UInt8.ofNat).toArray⟩
theorem str_size (l : List Nat) : (str l).size = l.length := by simp [str, ByteArray.size]
theorem str_cells (l : List Nat) (h : ∀ x ∈ l, x < 256) : ((str l).data.map (fun b => Value.int .u8 (b.toNat : Int))).toList = bs l := by
  simp only [str, bs, Array.toList_map, List.map_map]
  apply List.map_congr_left
  intro x hx
  have := h x hx
  simp [Nat.mod_eq_of_lt this]

theorem str_of (l : List Nat) (s : ByteArray) : (l.map fun (n : Nat) => (n : Int)).foldl (fun r n => r.push (UInt8.ofNat n.toNat)) s = ⟨s.data ++ (l.map UInt8.ofNat).toArray⟩ := by
  induction l generalizing s with
  | nil => simp
  | cons x l ih =>
    simp only [List.map_cons, List.foldl_cons]
    rw [ih]
    have : (s.push (UInt8.ofNat (x : Int).toNat)).data = s.data.push (UInt8.ofNat x) := rfl
    rw [this]
    congr 1
    simp

/-- The capacity, and the block, of []byte of a text. -/
def capOf (l : List Nat) (W : World) : Nat := grownCap W (str l).size 0 5
def objOf (l : List Nat) (W : World) : Obj := .cells (bytesRow (str l) (capOf l W)) 5 ((bytesRow (str l) (capOf l W)).size, (bytesRow (str l) (capOf l W)).size + 1)
theorem bytes_rule (l : List Nat) (W : World) : (convert 9 23 (.string (str l))).run Try.prog W = .ok (.slice (some ⟨W.heap.size, 0, none⟩) l.length (capOf l W)) (W.drew.alloc (objOf l W)) := by
  rw [run_bytes_of_string W 9 23 5 (str l) Try.underlying9 Try.underlying23 Try.underlying5]
  unfold capOf objOf capOf
  rw [str_size]
theorem bytes_rd (l : List Nat) (hb : ∀ x ∈ l, x < 256) (W W' : World) (g B : Nat) (hh : W'.heap[g]? = some (objOf l W)) (hB : g < B) : Rd W' B 1 (some ⟨g, 0, none⟩) l.length (bs l) := by
  refine ⟨by rw [bs_length]; simp, fun _ => ⟨_, rfl, hB, fun j u hu => ?_⟩⟩
  have hj : j < l.length := by have := (List.getElem?_eq_some_iff.1 hu).1; rwa [bs_length] at this
  rw [add_plain, Nat.zero_add]
  unfold World.cell?
  simp only [hh, objOf]
  have hc := str_cells l hb
  have : (bytesRow (str l) (capOf l W))[j]? = some u := by
    unfold bytesRow
    rw [Array.getElem?_append_left (by simp only [Array.size_map]; show j < (str l).size; rw [str_size]; exact hj)]
    rw [← Array.getElem?_toList, hc]
    exact hu
  rw [this]
  rfl
theorem capOf_le (l : List Nat) (W : World) (h : l.length ≤ 1000) : l.length ≤ capOf l W ∧ capOf l W ≤ 9223372036854775807 := by
  unfold capOf
  rw [str_size]
  have := grownCap_le_maxLen W l.length 0 5 (by unfold maxLen; omega)
  unfold maxLen at this
  exact ⟨grownCap_ge _ _ _ _, by omega⟩

/-- What reading a number does to place and error; the number. -/
def numS (l : List Nat) (a e : Nat) : Nat × Nat × Nat :=
  if e ≠ 0 then (a, e, 0) else if (getS l a).2.2 ≠ 0 then (a, (getS l a).2.2, 0) else ((getS l a).2.1, 0, (getS l a).1)

/-- Get of []byte of a text. -/
theorem rget_str {l : List Nat} {a : Int} (W : World) (g : Nat) (hg : g = W.heap.size) (x y z : Nat) (hx : Hid (getS l a = (x, y, z))) (hb : Hid (∀ x ∈ l, x < 256)) (hl : l.length ≤ 1000) :
    Calls Try.prog 17 #[.slice (some ⟨g, 0, none⟩) l.length (capOf l W), .int .i64 a] (W.alloc (objOf l W)).drew fun e w' => e = .returned (.tuple #[.int .u64 x, .int .i64 y, .int .i64 z]) ∧ Below W.heap.size W w' := by
  subst hg
  refine (rget_tup (W.alloc (objOf l W)).drew x y z hx.out (bytes_rd l hb.out W _ W.heap.size (W.heap.size + 1) (heap_alloc_new W _) (by omega)) hb.out (by omega) (by simp)).mono ?_
  rintro e w' ⟨h1, h2⟩
  exact ⟨h1, (((Below.refl _ W).alloc (Nat.le_refl _) (objOf l W)).drew).trans (h2.mono (by simp))⟩

/-- A block of three cells, known whole. -/
theorem blk3 {w : World} {b : Nat} {x y z : Value} {T : TypeId} (h : w.heap[b]? = some (.cells #[x, y, z] T (0, 0))) :
    w.cell? ⟨b, 0, none⟩ = some x ∧ w.cell? ⟨b, 1, none⟩ = some y ∧ w.cell? ⟨b, 2, none⟩ = some z ∧ w.frozen? ⟨b, 0, none⟩ = false ∧ w.frozen? ⟨b, 1, none⟩ = false ∧ w.frozen? ⟨b, 2, none⟩ = false :=
  ⟨cell_of_row w b 0 _ T (0, 0) h, cell_of_row w b 1 _ T (0, 0) h, cell_of_row w b 2 _ T (0, 0) h, frozen_of_row w b 0 _ T h, frozen_of_row w b 1 _ T h, frozen_of_row w b 2 _ T h⟩

set_option maxRecDepth 100000 in
theorem rnum_any (l : List Nat) (a e : Nat) (w : World) (hb : ∀ x ∈ l, x < 256) (hl : l.length ≤ 1000) (ha : a ≤ 1000) (he : e < 1000) (a' e' v : Nat) (hS : numS l a e = (a', e', v)) :
    Calls Try.prog 26 #[.agg #[.string (str l), .int .i64 a, .int .i64 e]] w fun en w' => en = .returned (.tuple #[.agg #[.string (str l), .int .i64 a', .int .i64 e'], .int .u64 v]) ∧ Below w.heap.size w w' := by
  by_cases h0 : e = 0
  · subst h0
    obtain ⟨⟨x, y, z⟩, hx⟩ : ∃ x, getS l a = x := ⟨_, rfl⟩
    have hrule := bytes_rule l
    have HX := Lib_hid hx
    have HB := Lib_hid hb
    have hS' : Hid ((if z ≠ 0 then (a, z, 0) else (y, 0, x)) = (a', e', v)) := by
      have h1 : numS l a 0 = if z ≠ 0 then (a, z, 0) else (y, 0, x) := by unfold numS; rw [if_neg (by omega), hx]
      unfold Hid; rw [← h1]; exact hS
    clear hx hb hS
    go_enter Try.func26, Try.ntmps26
    go_wp2_with fail
    refine (rget_str _ _ ?_ x y z HX HB hl).mono ?_
    · simp
    rintro en w1 ⟨rfl, hb1⟩
    have g1 := blk3 ((hb1.block w.heap.size (by simp; omega)).trans ((Below.heap_alloc _ _ _ (by simp)).trans (heap_alloc_new w _)))
    have g2 := blk3 ((hb1.block (w.heap.size + 1) (by simp)).trans (by have := heap_alloc_new (w.alloc (Obj.cells #[Value.string (str l), Value.int IntKind.i64 (a : Int), Value.int IntKind.i64 0] 50)) (Obj.cells #[Value.string { data := #[] }, Value.int IntKind.i64 0, Value.int IntKind.i64 0] 50); simpa using this))
    obtain ⟨p1, p2, p3, f1, f2, f3⟩ := g1
    obtain ⟨q1, q2, q3, k1, k2, k3⟩ := g2
    have hbw : Below w.heap.size w w1 := by
      refine Below.trans ?_ (hb1.mono ?_)
      · go_grown
      · simp; omega
    have hsz := hbw.size
    clear hb1 hrule
    by_cases hz : z = 0
    · subst hz
      have hs := hS'.out
      simp only [ne_eq, not_true_eq_false, if_false, Prod.mk.injEq] at hs
      obtain ⟨rfl, rfl, rfl⟩ := hs
      clear hS'
      go_wp2
      refine bodyPost_ret (v := .tuple #[.agg #[.string (str l), .int .i64 y, .int .i64 0], .int .u64 x]) (by simp [results, Try.results26, go_sem, *]) rfl ⟨rfl, ?_⟩
      go_grown
    · have hz0 : ((z : Int) != 0) = true := by simpa using hz
      have hs := hS'.out
      rw [if_pos hz] at hs
      simp only [Prod.mk.injEq] at hs
      obtain ⟨rfl, rfl, rfl⟩ := hs
      clear hS' hz
      go_wp2
      refine bodyPost_ret (v := .tuple #[.agg #[.string (str l), .int .i64 a, .int .i64 z], .int .u64 0]) (by simp [results, Try.results26, go_sem, *]) rfl ⟨rfl, ?_⟩
      go_grown
  · have h0' : ((e : Int) != 0) = true := by simpa using h0
    have hs : (a, e, 0) = (a', e', v) := by rw [← hS]; unfold numS; rw [if_pos h0]
    simp only [Prod.mk.injEq] at hs
    obtain ⟨rfl, rfl, rfl⟩ := hs
    clear hS
    go_enter Try.func26, Try.ntmps26
    go_wp2
    exact bodyPost_ret (v := .tuple #[.agg #[.string (str l), .int .i64 a, .int .i64 e], .int .u64 0]) (by simp [results, Try.results26, go_sem]) rfl ⟨rfl, by go_grown⟩

/-- What reading n bytes does to place and error; the bytes. -/
def rawS (l : List Nat) (a e : Nat) (n : Int) : Nat × Nat × List Nat :=
  if e ≠ 0 then (a, e, []) else if n < 0 then (a, 2, []) else if (l.length : Int) - a < n then (a, 4, []) else (a + n.toNat, 0, (l.drop a).take n.toNat)

theorem str_extract (l : List Nat) (a k : Nat) : (str l).extract a (a + k) = str ((l.drop a).take k) := by
  apply ByteArray.ext
  apply Array.ext'
  rw [Lib.extract_data]
  simp [str, List.map_drop, List.map_take]

/-- A result: a reader, and bytes. -/
def RawPost (l : List Nat) (r : Nat × Nat × List Nat) (w : World) (en : Ending) (w' : World) : Prop :=
  ∃ A c, en = .returned (.tuple #[.agg #[.string (str l), .int .i64 (r.1 : Int), .int .i64 (r.2.1 : Int)], .slice A r.2.2.length c]) ∧ Rd w' w'.heap.size 1 A r.2.2.length (bs r.2.2) ∧ Below w.heap.size w w' ∧ ∀ ad, A = some ad → w.heap.size ≤ ad.block

theorem Rd.off {w w' : World} {B B' size n : Nat} {A : Option Addr} {xs : List Value} (h : Rd w B size A n xs) (hk : ∀ ad, A = some ad → ad.block < B → w'.heap[ad.block]? = w.heap[ad.block]?) (hB : B ≤ B') : Rd w' B' size A n xs :=
  ⟨h.len, fun hn => by
    obtain ⟨ad, e, hb, hc⟩ := h.lies hn
    exact ⟨ad, e, by omega, fun j u hu => (World.cell?_of_block (by rw [add_block]; exact hk ad e hb)).trans (hc j u hu)⟩⟩

theorem two_new (w : World) (x y z x' y' z' : Value) (T : TypeId) :
    ((w.alloc (.cells #[x, y, z] T)).alloc (.cells #[x', y', z'] T)).heap[w.heap.size]? = some (.cells #[x, y, z] T (0, 0)) ∧ ((w.alloc (.cells #[x, y, z] T)).alloc (.cells #[x', y', z'] T)).heap[w.heap.size + 1]? = some (.cells #[x', y', z'] T (0, 0)) :=
  ⟨(Below.heap_alloc _ _ _ (by simp)).trans (heap_alloc_new w _), by have := heap_alloc_new (w.alloc (.cells #[x, y, z] T)) (.cells #[x', y', z'] T); simpa using this⟩

set_option maxRecDepth 100000 in
theorem rraw_any (l : List Nat) (a e : Nat) (n : Int) (w : World) (hb : ∀ x ∈ l, x < 256) (hl : l.length ≤ 1000) (ha : a ≤ l.length) (he : e < 1000) :
    Calls Try.prog 28 #[.agg #[.string (str l), .int .i64 a, .int .i64 e], .int .i64 n] w (RawPost l (rawS l a e n) w) := by
  by_cases h0 : e = 0
  · subst h0
    by_cases hn : n < 0
    · have hs : rawS l a 0 n = (a, 2, []) := by unfold rawS; rw [if_neg (by omega), if_pos hn]
      rw [hs]
      go_enter Try.func28, Try.ntmps28
      go_wp2
      refine bodyPost_ret (v := .tuple #[.agg #[.string (str l), .int .i64 a, .int .i64 2], .slice none 0 0]) (by simp [results, Try.results28, go_sem]) rfl ⟨none, 0, rfl, Rd.zero, ?_, by simp⟩
      go_grown
    · obtain ⟨k, rfl⟩ : ∃ k : Nat, n = k := ⟨n.toNat, by omega⟩
      have hsz := str_size l
      by_cases hk : (l.length : Int) - a < k
      · have hs : rawS l a 0 k = (a, 4, []) := by unfold rawS; rw [if_neg (by omega), if_neg (by omega), if_pos hk]
        rw [hs]
        go_enter Try.func28, Try.ntmps28
        go_wp2
        refine bodyPost_ret (v := .tuple #[.agg #[.string (str l), .int .i64 a, .int .i64 4], .slice none 0 0]) (by simp [results, Try.results28, go_sem]) rfl ⟨none, 0, rfl, Rd.zero, ?_, by simp⟩
        go_grown
      · obtain ⟨m, hm⟩ : ∃ m, m = (l.drop a).take k := ⟨_, rfl⟩
        have hml : m.length = k := by rw [hm, List.length_take, List.length_drop]; omega
        have hs : rawS l a 0 k = (a + k, 0, m) := by unfold rawS; rw [if_neg (by omega), if_neg (by omega), if_neg hk, hm]; rfl
        have hbm : ∀ x ∈ m, x < 256 := fun x hx => hb x (by rw [hm] at hx; exact List.mem_of_mem_drop (List.mem_of_mem_take hx))
        have hex := str_extract l a k
        rw [← hm] at hex
        have hrule := bytes_rule m
        have HBM := Lib_hid hbm
        have HML := Lib_hid hml
        rw [hs]
        clear hm hml hs hbm hb
        go_enter Try.func28, Try.ntmps28
        go_wp2
        refine bodyPost_ret (v := .tuple #[.agg #[.string (str l), .int .i64 ((a : Int) + k), .int .i64 0], .slice (some ⟨w.heap.size + 1 + 1, 0, none⟩) m.length _]) (by simp [results, Try.results28, go_sem]; rfl) rfl ⟨_, _, rfl, bytes_rd m HBM.out ((w.alloc (Obj.cells #[Value.string (str l), Value.int IntKind.i64 ((a : Int) + k), Value.int IntKind.i64 0] 50)).alloc (Obj.cells #[Value.string { data := #[] }, Value.int IntKind.i64 0, Value.int IntKind.i64 0] 50)) _ (w.heap.size + 1 + 1) _ ?_ ?_, ?_, ?_⟩
        · have := heap_alloc_new ((w.alloc (Obj.cells #[Value.string (str l), Value.int IntKind.i64 ((a : Int) + k), Value.int IntKind.i64 0] 50)).alloc (Obj.cells #[Value.string (str l), Value.int IntKind.i64 ((a : Int) + k), Value.int IntKind.i64 0] 50)) (objOf m ((w.alloc (Obj.cells #[Value.string (str l), Value.int IntKind.i64 ((a : Int) + k), Value.int IntKind.i64 0] 50)).alloc (Obj.cells #[Value.string { data := #[] }, Value.int IntKind.i64 0, Value.int IntKind.i64 0] 50)))
          rw [World.size_alloc, World.size_alloc] at this
          exact this
        · simp
        · go_grown
        · intro ad had; obtain rfl : (⟨w.heap.size + 1 + 1, 0, none⟩ : Addr) = ad := (by injection had); simp; omega
  · have h0' : ((e : Int) != 0) = true := by simpa using h0
    have hs : rawS l a e n = (a, e, []) := by unfold rawS; rw [if_pos h0]
    rw [hs]
    clear hs h0
    go_enter Try.func28, Try.ntmps28
    go_wp2
    refine bodyPost_ret (v := .tuple #[.agg #[.string (str l), .int .i64 a, .int .i64 e], .slice none 0 0]) (by simp [results, Try.results28, go_sem]) rfl ⟨none, 0, rfl, Rd.zero, ?_, by simp⟩
    go_grown

/-- What reading a text does to place and error; the bytes. -/
def textS (l : List Nat) (a e : Nat) : Nat × Nat × List Nat :=
  if (numS l a e).2.1 ≠ 0 then (a, (numS l a e).2.1, []) else if (l.length : Int) - (numS l a e).1 < (numS l a e).2.2 then (a, 4, []) else
    ((numS l a e).1 + (numS l a e).2.2, 0, (l.drop (numS l a e).1).take (numS l a e).2.2)

theorem getS_le {l : List Nat} {a : Nat} {x y z : Nat} (hb : ∀ x ∈ l, x < 256) (ha : a ≤ l.length) (h : getS l a = (x, y, z)) : y ≤ l.length ∧ (x : Int) ≤ 18446744073709551615 ∧ z < 1000 := by
  unfold getS at h
  rw [if_neg (by omega), Int.toNat_natCast] at h
  cases hg : got (l.drop a) with
  | num v k =>
    rw [hg] at h
    simp only [ans, Prod.mk.injEq] at h
    obtain ⟨rfl, rfl, rfl⟩ := h
    have := got_put (fun x hx => hb x (List.mem_of_mem_drop hx)) hg
    rw [List.length_drop] at this
    omega
  | err e =>
    rw [hg] at h
    simp only [ans, Prod.mk.injEq] at h
    obtain ⟨rfl, rfl, rfl⟩ := h
    have key : ∀ k i v (r : List Nat) (e : Nat), scan k i v r = .err e → e < 1000 := by
      intro k
      induction k with
      | zero => intro i v r e hh; simp [scan] at hh; omega
      | succ k ih =>
        intro i v r e hh
        cases r with
        | nil => simp [scan] at hh; omega
        | cons c r =>
          simp only [scan] at hh
          split at hh
          · exact ih _ _ _ _ hh
          · split at hh
            · cases hh
            · injection hh with hh; omega
    have := key _ _ _ _ _ hg
    omega
theorem numS_le {l : List Nat} {a e a' e' v : Nat} (hb : ∀ x ∈ l, x < 256) (ha : a ≤ l.length) (he : e < 1000) (h : numS l a e = (a', e', v)) : a' ≤ l.length ∧ e' < 1000 ∧ (v : Int) ≤ 18446744073709551615 := by
  unfold numS at h
  obtain ⟨⟨x, y, z⟩, hx⟩ : ∃ x, getS l a = x := ⟨_, rfl⟩
  have hle := getS_le hb ha hx
  rw [hx] at h
  split at h
  · simp only [Prod.mk.injEq] at h; omega
  · split at h <;> (simp only [Prod.mk.injEq] at h; omega)

set_option maxRecDepth 100000 in
set_option maxHeartbeats 800000 in
theorem rtext_any (l : List Nat) (a e : Nat) (w : World) (hb : ∀ x ∈ l, x < 256) (hl : l.length ≤ 1000) (ha : a ≤ l.length) (he : e < 1000) :
    Calls Try.prog 30 #[.agg #[.string (str l), .int .i64 a, .int .i64 e]] w (RawPost l (textS l a e) w) := by
  obtain ⟨⟨a', e', v⟩, hS⟩ : ∃ x, numS l a e = x := ⟨_, rfl⟩
  obtain ⟨hle, hee, hv⟩ := numS_le hb ha he hS
  have N := rnum_any l a e ((w.alloc (.cells #[.string (str l), .int .i64 a, .int .i64 e] 50)).alloc (.cells #[.string { data := #[] }, .int .i64 0, .int .i64 0] 50)) hb hl (by omega) he a' e' v hS
  obtain ⟨R, hR⟩ : ∃ R, R = textS l a e := ⟨_, rfl⟩
  have hT : R = if e' ≠ 0 then (a, e', []) else if (l.length : Int) - a' < v then (a, 4, []) else (a' + v, 0, (l.drop a').take v) := by rw [hR]; unfold textS; rw [hS]
  rw [← hR]
  clear hR
  have HT := Lib_hid hT
  clear hT
  go_enter Try.func30, Try.ntmps30
  go_wp2_with fail
  refine N.mono ?_
  rintro en w1 ⟨rfl, hb1⟩
  have g0 := two_new w (.string (str l)) (.int .i64 a) (.int .i64 e) (.string { data := #[] }) (.int .i64 0) (.int .i64 0) 50
  have hbw : Below w.heap.size w w1 := by
    refine Below.trans ?_ (hb1.mono ?_)
    · go_grown
    · simp; omega
  have j1 := (hb1.block w.heap.size (by simp; omega)).trans g0.1
  have j2 := (hb1.block (w.heap.size + 1) (by simp)).trans g0.2
  obtain ⟨p1, p2, p3, f1, f2, f3⟩ := blk3 j1
  obtain ⟨q1, q2, q3, k1, k2, k3⟩ := blk3 j2
  have hsz : w.heap.size + 2 ≤ w1.heap.size := by have := hb1.size; simp at this; omega
  have hz3 : w.heap.size < w1.heap.size := by omega
  have hz4 : w.heap.size + 1 < w1.heap.size := by omega
  have hz5 : w.heap.size ≠ w1.heap.size := by omega
  have hz6 : w.heap.size + 1 ≠ w1.heap.size := by omega
  have HB := Lib_hid hb
  have J1 := Lib_hid j1
  have J2 := Lib_hid j2
  clear hb1 g0 N hS hb j1 j2
  by_cases h0 : e' = 0
  · subst h0
    by_cases hbig : (v : Int) ≤ 9223372036854775807
    · have hz0 : (((0 : Nat) : Int) == 0) = true := rfl
      have W0 := fun W => rraw_any l a' 0 v W HB.out hl hle (by omega)
      by_cases hsh : (l.length : Int) - a' < v
      · have hs : rawS l a' 0 v = (a', 4, []) := by unfold rawS; rw [if_neg (by omega), if_neg (by omega), if_pos hsh]
        rw [hs] at W0
        have HR : Hid (R = (a, 4, [])) := by unfold Hid; rw [HT.out, if_neg (by omega), if_pos hsh]
        have HW := Lib_hid W0
        clear W0 hs HT
        go_wp2_with fail
        refine (HW.out _).mono ?_
        rintro en w2 ⟨A2, c2, rfl, hr2, hb2, hA2⟩
        have hb12 : Below w.heap.size w w2 := (hbw.alloc (by omega) _).trans (hb2.mono (by simp; omega))
        have hs2 : w.heap.size + 2 ≤ w2.heap.size := by have := hb2.size; simp at this; omega
        have hs3 : w.heap.size < w2.heap.size := by omega
        have hs4 : w.heap.size + 1 < w2.heap.size := by omega
        have hs5 : w.heap.size ≠ w2.heap.size := by omega
        have hs6 : w.heap.size + 1 ≠ w2.heap.size := by omega
        clear p1 p2 p3 f1 f2 f3 q1 q2 q3 k1 k2 k3
        obtain ⟨p1, p2, p3, f1, f2, f3⟩ := blk3 ((hb2.block w.heap.size (by simp; omega)).trans ((Below.heap_alloc _ _ _ (by omega)).trans J1.out))
        obtain ⟨q1, q2, q3, k1, k2, k3⟩ := blk3 ((hb2.block (w.heap.size + 1) (by simp; omega)).trans ((Below.heap_alloc _ _ _ (by omega)).trans J2.out))
        clear hb2 hbw
        go_wp2
        exact bodyPost_ret (v := .tuple #[.agg #[.string (str l), .int .i64 a, .int .i64 4], .slice none 0 0]) (by simp [results, Try.results30, go_sem, *]) rfl (by rw [HR.out]; exact ⟨none, 0, rfl, Rd.zero, by go_grown, by simp⟩)
      · obtain ⟨m, hm⟩ : ∃ m, m = (l.drop a').take v := ⟨_, rfl⟩
        have hs : rawS l a' 0 v = (a' + v, 0, m) := by unfold rawS; rw [if_neg (by omega), if_neg (by omega), if_neg hsh, hm]; rfl
        rw [hs] at W0
        have HR : Hid (R = (a' + v, 0, m)) := by unfold Hid; rw [HT.out, if_neg (by omega), if_neg hsh, hm]
        have HW := Lib_hid W0
        clear W0 hs HT hm
        go_wp2_with fail
        refine (HW.out _).mono ?_
        rintro en w2 ⟨A2, c2, rfl, hr2, hb2, hA2⟩
        have hb12 : Below w.heap.size w w2 := (hbw.alloc (by omega) _).trans (hb2.mono (by simp; omega))
        have hs2 : w.heap.size + 2 ≤ w2.heap.size := by have := hb2.size; simp at this; omega
        have hs3 : w.heap.size < w2.heap.size := by omega
        have hs4 : w.heap.size + 1 < w2.heap.size := by omega
        have hs5 : w.heap.size ≠ w2.heap.size := by omega
        have hs6 : w.heap.size + 1 ≠ w2.heap.size := by omega
        clear p1 p2 p3 f1 f2 f3 q1 q2 q3 k1 k2 k3
        obtain ⟨q1, q2, q3, k1, k2, k3⟩ := blk3 ((hb2.block (w.heap.size + 1) (by simp; omega)).trans ((Below.heap_alloc _ _ _ (by omega)).trans J2.out))
        clear hb2 hbw
        go_wp2
        have hr3 : Rd w2 w2.heap.size 1 A2 m.length (bs m) := hr2
        exact bodyPost_ret (v := .tuple #[.agg #[.string (str l), .int .i64 ((a' : Int) + v), .int .i64 0], .slice A2 m.length c2]) (by simp [results, Try.results30, go_sem, *]) rfl (by
          rw [HR.out]
          refine ⟨A2, c2, rfl, hr3.off (fun ad had hlt => ?_) (by simp), by go_grown, fun ad had => ?_⟩
          · have := hA2 ad had
            simp at this
            rw [Below.heap_alloc _ _ _ (by simp; exact hlt), Below.heap_setCell _ _ _ _ (by simp; omega), Below.heap_setCell _ _ _ _ (by simp; omega), Below.heap_setCell _ _ _ _ (by simp; omega)]
          · have := hA2 ad had
            simp at this
            omega)
    · have HR : Hid (R = (a, 4, [])) := by unfold Hid; rw [HT.out, if_neg (by omega), if_pos (by omega)]
      go_wp2
      exact bodyPost_ret (v := .tuple #[.agg #[.string (str l), .int .i64 a, .int .i64 4], .slice none 0 0]) (by simp [results, Try.results30, go_sem, *]) rfl (by rw [HR.out]; exact ⟨none, 0, rfl, Rd.zero, by go_grown, by simp⟩)
  · have HR : Hid (R = (a, e', [])) := by unfold Hid; rw [HT.out, if_pos h0]
    have hz0 : ((e' : Int) == 0) = false := by simpa using h0
    have hz1 : ((e' : Int) != 0) = true := by simpa using h0
    clear HT h0
    go_wp2
    exact bodyPost_ret (v := .tuple #[.agg #[.string (str l), .int .i64 a, .int .i64 e'], .slice none 0 0]) (by simp [results, Try.results30, go_sem, *]) rfl (by rw [HR.out]; exact ⟨none, 0, rfl, Rd.zero, by go_grown, by simp⟩)

end Go.Proofs.Ytaafladmpdkfjaa
