/-
  Layer 5: works: the chapter's examples.
  Layer 5: RecordLines.
-/
import Derived.Test.YtbcadnkdehknoaaGreatDoorZlVlr
import Derived.Test.YtbcadnkdehknoaaGreatDoorHlp
import Derived.Test.YtbcadnkdehknoaaGreatDoorZlVdl
import Derived.Test.YtbcadnkdehknoaaGreatDoorZlVdr

namespace Go.Proofs.YtbcadnkdehknoaaGreatDoor
open Go Go.RowKit
set_option linter.unusedVariables false

def r1X : Rc := ⟨2, 7, 300, 2, 1, 0, .node 0 0 0 [], []⟩
def r2X : Rc := ⟨5, 1, 0, 0, 0, 0, .node 1 0 0 [], [⟨5, 0, 0, false⟩]⟩
theorem r1X_right : r1X.rightB = true := by rfl
theorem r2X_right : r2X.rightB = true := by rfl
theorem enc_one {n : Nat} (h : n < 128) : enc n = [n] := by rw [enc, if_pos h]
theorem enc300 : enc 300 = [172, 2] := by rw [enc, if_neg (by decide), enc_one (by decide)]
theorem r1X_stand : r1X.stand = [7, 172, 2, 2, 1] := by
  unfold Rc.stand Rc.standN
  rw [show r1X.kind = 2 from rfl, partsN_of]
  show enc 7 ++ (enc 300 ++ ((enc 2 ++ (enc 1 ++ [])) ++ [])) = _
  rw [enc300, enc_one (n := 7) (by decide), enc_one (n := 2) (by decide), enc_one (n := 1) (by decide)]
  rfl
theorem r2X_stand : r2X.stand = [1, 1, 1, 1, 5, 0, 0, 0] := by
  unfold Rc.stand Rc.standN
  rw [show r2X.kind = 5 from rfl, partsN_of]
  show enc 1 ++ ((enc 1 ++ [1]) ++ ((enc 1 ++ (((enc 5 ++ (enc 0 ++ (enc 0 ++ []))) ++ [0]) ++ [])) ++ [])) = _
  rw [enc_one (n := 1) (by decide), enc_one (n := 5) (by decide), enc_one (n := 0) (by decide)]
  rfl
theorem dec2 {n : Nat} (h : ¬ n < 10) : Lib.decDigits n = Lib.decDigits (n / 10) ++ [UInt8.ofNat (48 + n % 10)] := by
  conv => lhs; rw [Lib.decDigits, dif_neg h]
theorem dec300 : Lib.decDigits 300 = [51, 48, 48] := by
  rw [dec2 (by decide), dec2 (n := 300 / 10) (by decide), dec1 (n := 300 / 10 / 10) (by decide)]; decide
theorem r1X_tell : r1X.tell = [114, 101, 97, 100, 32, 55, 32, 51, 48, 48, 32, 50, 46, 49] := by
  rw [tell_ws, show r1X.kind = 2 from rfl, partsN_of]
  show nameL 2 ++ wsL r1X [0, 1, 2] = _
  rw [wsL_cons, wsL_cons, wsL_cons]
  show nameL 2 ++ (([32] ++ Lib.decDigits 7 ++ []) ++ (([32] ++ Lib.decDigits 300 ++ []) ++ (([32] ++ (Lib.decDigits 2 ++ [46] ++ Lib.decDigits 1) ++ []) ++ []))) = _
  rw [dec300, dec1 (n := 7) (by decide), dec1 (n := 2) (by decide), dec1 (n := 1) (by decide)]
  rfl
theorem lineX1 : lineB [114, 101, 97, 100, 32, 55, 32, 51, 48, 48, 32, 50, 46, 49] = some r1X := by
  rw [← r1X_tell]
  exact line_tell r1X_right ⟨by decide, by decide, by decide, by decide, by decide, okN_zero, by intro e he; cases he⟩
theorem goP_bad {r : Rc} {l : List UInt8} {i : Nat} {is : List Nat} (h : r.setP i l = none) : goP r l (i :: is) = none := by
  show (r.setP i l).bind _ = none
  rw [h]; rfl
theorem goP_go {r r' : Rc} {l l' : List UInt8} {i : Nat} {is : List Nat} (h : r.setP i l = some (r', l')) : goP r l (i :: is) = goP r' l' is := by
  show (r.setP i l).bind _ = _
  rw [h]; rfl
theorem numW_one {n : Nat} (h : n < 10) : numW [UInt8.ofNat (48 + n)] = some n := by
  rw [← dec1 h]; exact numW_dec (by omega)
theorem setP_none0 {r : Rc} {l : List UInt8} (h : numW (wordW l) = none) : r.setP 0 l = none := by
  show (numW (wordW l)).map _ = _
  rw [h]; rfl
theorem setP_none2 {r : Rc} {l : List UInt8} (h : verW (wordW l) = none) : r.setP 2 l = none := by
  show (verW (wordW l)).map _ = _
  rw [h]; rfl
theorem setP_num0 {r : Rc} {l : List UInt8} {n : Nat} (h : wordW l = [UInt8.ofNat (48 + n)]) (hn : n < 10) : r.setP 0 l = some ({ r with t := n }, leftW l) := by
  show (numW (wordW l)).map _ = _
  rw [h, numW_one hn]; rfl
theorem setP_num1 {r : Rc} {l : List UInt8} {n : Nat} (h : wordW l = [UInt8.ofNat (48 + n)]) (hn : n < 10) : r.setP 1 l = some ({ r with x := n }, leftW l) := by
  show (numW (wordW l)).map _ = _
  rw [h, numW_one hn]; rfl
theorem lineX2 : lineB [98, 101, 103, 105, 110, 32, 32, 49] = none := by
  show endP (goP (Rc.zero 1) [32, 32, 49] (partsN 1 6)) = none
  rw [partsN_of]
  show endP (goP (Rc.zero 1) [32, 32, 49] [0]) = none
  rw [goP_bad (setP_none0 (by show numW [] = none; exact numW_nil))]
  rfl
theorem lineX3 : lineB [114, 101, 97, 100, 32, 49, 32, 50, 32, 51] = none := by
  show endP (goP (Rc.zero 2) [32, 49, 32, 50, 32, 51] (partsN 2 6)) = none
  rw [partsN_of]
  show endP (goP (Rc.zero 2) [32, 49, 32, 50, 32, 51] [0, 1, 2]) = none
  rw [goP_go (setP_num0 (n := 1) rfl (by decide)), goP_go (setP_num1 (n := 2) rfl (by decide)), goP_bad (setP_none2 (by
    show verW [UInt8.ofNat (48 + 3)] = none
    unfold verW
    rw [show behind 46 [UInt8.ofNat (48 + 3)] = [] from rfl, numW_nil, show ahead 46 [UInt8.ofNat (48 + 3)] = [UInt8.ofNat (48 + 3)] from rfl, numW_one (by decide)]))]
  rfl
theorem numW_01 : numW [48, 49] = none := by
  cases h : numW [48, 49] with
  | none => rfl
  | some u =>
    have hp : Lib.parseUintB 64 [48, 49] = .ok 1 := by rfl
    unfold numW at h
    rw [hp] at h
    simp only at h
    rw [dec1 (n := 1) (by decide)] at h
    cases h
theorem lineX4 : lineB [119, 114, 105, 116, 101, 32, 48, 49, 32, 50, 32, 51] = none := by
  show endP (goP (Rc.zero 3) [32, 48, 49, 32, 50, 32, 51] (partsN 3 6)) = none
  rw [partsN_of]
  show endP (goP (Rc.zero 3) [32, 48, 49, 32, 50, 32, 51] [0, 1, 3]) = none
  rw [goP_bad (setP_none0 (by show numW [48, 49] = none; exact numW_01))]
  rfl

set_option maxRecDepth 100000 in
set_option maxHeartbeats 6400000 in
theorem works5_any (B : Nat) (w : World) (hE : EnvM B w) (hB : B ≤ w.heap.size) : Calls Tryz.prog 9 #[] w fun e w' => e = .returned (.bool true) ∧ Below w.heap.size w w' := by
  have P1 : Hid (∀ W, Calls Tryz.prog 12 #[.agg #[.int .i64 2, .int .u64 7, .int .u64 300, .int .u64 2, .int .u64 1, .int .u64 0, .int .i64 0, .int .u64 0, .int .u64 0, .slice none 0 0, .slice none 0 0]] W fun e w' => ∃ A c, e = .returned (.tuple #[.agg #[.int .u8 2, .slice A 5 c], .int .i64 0]) ∧ w'.ownsRow W.heap.size 5 1 (.slice A 5 c) 5 (bs [7, 172, 2, 2, 1]) ∧ Below W.heap.size W w') := fun W => by
    have hL : RLies W 0 W.heap.size ⟨2, 7, 300, 2, 1, 0, .node 0 0 0 none 0 [], none, 0, []⟩ := ⟨by decide, by decide, by decide, by decide, by decide, by decide, lies_zero _ _ _, Rd.zero, by decide, (by intro e he; cases he), (by intro ad e; cases e)⟩
    have h := rput5_any ⟨2, 7, 300, 2, 1, 0, .node 0 0 0 none 0 [], none, 0, []⟩ W 0 W.heap.size hL (Nat.le_refl _) (by decide)
    have ha : Rv.abs ⟨2, 7, 300, 2, 1, 0, .node 0 0 0 none 0 [], none, 0, []⟩ = r1X := by simp [Rv.abs, V.abs, V.absL, r1X]
    rw [ha] at h
    refine (show Calls Tryz.prog 12 #[.agg #[.int .i64 2, .int .u64 7, .int .u64 300, .int .u64 2, .int .u64 1, .int .u64 0, .int .i64 0, .int .u64 0, .int .u64 0, .slice none 0 0, .slice none 0 0]] W (PutEnd r1X W) from h).mono ?_
    rintro e w' ⟨hb, -, h2⟩
    obtain ⟨A, c, e1, e2⟩ := h2 r1X_right
    rw [r1X_stand] at e1 e2
    exact ⟨A, c, e1, e2, hb⟩
  have P2 : Hid (∀ W g, W.heap[g]? = some (.cells #[.int .u64 5, .int .u64 0, .int .u64 0, .bool false] 84 (0, 0)) → Calls Tryz.prog 12 #[.agg #[.int .i64 5, .int .u64 1, .int .u64 0, .int .u64 0, .int .u64 0, .int .u64 0, .int .i64 1, .int .u64 0, .int .u64 0, .slice none 0 0, .slice (some ⟨g, 0, none⟩) 1 1]] W fun e w' => ∃ A c, e = .returned (.tuple #[.agg #[.int .u8 5, .slice A 8 c], .int .i64 0]) ∧ w'.ownsRow W.heap.size 5 1 (.slice A 8 c) 8 (bs [1, 1, 1, 1, 5, 0, 0, 0]) ∧ Below W.heap.size W w') := fun W g hg => by
    have hgl := lt_of_block hg
    have hL : RLies W 0 W.heap.size ⟨5, 1, 0, 0, 0, 0, .node 1 0 0 none 0 [], some ⟨g, 0, none⟩, 1, [⟨5, 0, 0, false⟩]⟩ := ⟨⟨by show (-9223372036854775808 : Int) ≤ 5; omega, by show (5 : Int) ≤ _; omega⟩, by show ((1 : Nat) : Int) ≤ _; omega, by show ((0 : Nat) : Int) ≤ _; omega, by show ((0 : Nat) : Int) ≤ _; omega, by show ((0 : Nat) : Int) ≤ _; omega, by show ((0 : Nat) : Int) ≤ _; omega, .mk _ _ _ _ _ _ (by omega) (by omega) (by omega) Rd.zero (by simp) (fun ad e => by cases e) (by simp), (rd_row (size := 4) (n := 1) (l := enCells [⟨5, 0, 0, false⟩]) hg rfl).more (by omega), ⟨by show (1 : Nat) ≤ 1; omega, by show (1 : Nat) ≤ 9223372036854775807; omega⟩, (by intro e he; obtain rfl : e = ⟨5, 0, 0, false⟩ := (by simpa using he); exact ⟨by decide, by decide, by decide⟩), fun ad e hn => Nat.zero_le _⟩
    have h := rput5_any ⟨5, 1, 0, 0, 0, 0, .node 1 0 0 none 0 [], some ⟨g, 0, none⟩, 1, [⟨5, 0, 0, false⟩]⟩ W 0 W.heap.size hL (Nat.le_refl _) (by simp)
    have ha : Rv.abs ⟨5, 1, 0, 0, 0, 0, .node 1 0 0 none 0 [], some ⟨g, 0, none⟩, 1, [⟨5, 0, 0, false⟩]⟩ = r2X := by simp [Rv.abs, V.abs, V.absL, r2X]
    rw [ha] at h
    refine (show Calls Tryz.prog 12 #[.agg #[.int .i64 5, .int .u64 1, .int .u64 0, .int .u64 0, .int .u64 0, .int .u64 0, .int .i64 1, .int .u64 0, .int .u64 0, .slice none 0 0, .slice (some ⟨g, 0, none⟩) 1 1]] W (PutEnd r2X W) from h).mono ?_
    rintro e w' ⟨hb, -, h2⟩
    obtain ⟨A, c, e1, e2⟩ := h2 r2X_right
    rw [r2X_stand] at e1 e2
    exact ⟨A, c, e1, e2, hb⟩
  have L1 : Hid (∀ W, Below w.heap.size w W → Calls Tryz.prog 31 #[.string ⟨#[114, 101, 97, 100, 32, 55, 32, 51, 48, 48, 32, 50, 46, 49]⟩] W fun e w' => ∃ x2 x5 x6 x7 x8 x9 x10 y9 y10 z9 z10, e = .returned (.tuple #[.agg #[.int .i64 x2, .int .u64 7, .int .u64 300, .int .u64 2, .int .u64 1, .int .u64 x5, .int .i64 x6, .int .u64 x7, .int .u64 x8, .slice x9 y9 z9, .slice x10 y10 z10], .int .i64 0]) ∧ Below W.heap.size W w') := fun W hW => by
    have h := pline_any B [114, 101, 97, 100, 32, 55, 32, 51, 48, 48, 32, 50, 46, 49] W (hE.under hW hB) (by have := hW.size; omega) (by decide)
    rw [lineX1] at h
    refine h.mono ?_
    rintro e w' ⟨r, e1, e2, -, -, -, hb⟩
    obtain ⟨k, t, x, wn, nn, v, p, A, c, es⟩ := r
    have e3 : t = 7 := congrArg Rc.t e2
    have e4 : x = 300 := congrArg Rc.x e2
    have e5 : wn = 2 := congrArg Rc.w e2
    have e6 : nn = 1 := congrArg Rc.n e2
    subst e3 e4 e5 e6
    exact ⟨_, _, _, _, _, _, _, _, _, _, _, e1, hb⟩
  have L2 : Hid (∀ (s : List UInt8) W, lineB s = none → s.length ≤ 100 → Below w.heap.size w W → Calls Tryz.prog 31 #[.string ⟨s.toArray⟩] W fun e w' => ∃ x0 x1 x2 x3 x4 x5 x6 x7 x8 x9 x10 y9 y10 z9 z10, e = .returned (.tuple #[.agg #[.int .i64 x0, .int .u64 x1, .int .u64 x2, .int .u64 x3, .int .u64 x4, .int .u64 x5, .int .i64 x6, .int .u64 x7, .int .u64 x8, .slice x9 y9 z9, .slice x10 y10 z10], .int .i64 50]) ∧ Below W.heap.size W w') := fun s W hs hl hW => by
    have h := pline_any B s W (hE.under hW hB) (by have := hW.size; omega) (by omega)
    rw [hs] at h
    refine h.mono ?_
    rintro e w' ⟨r, e1, e2, -, -, -, hb⟩
    exact ⟨_, _, _, _, _, _, _, _, _, _, _, _, _, _, _, e1, hb⟩
  clear hE
  go_enter Tryz.func9, Tryz.ntmps9
  go_wp2_with fail
  refine (P1.out _).mono ?_
  rintro e w1 ⟨A1, c1, rfl, ho1, hb1⟩
  have hs1 := hb1.size
  have hf1 := heap_alloc_new w1 (.cells #[.int .u8 2, .slice A1 5 c1] 48)
  have hn1 := below_new w1 (.cells #[.int .u8 2, .slice A1 5 c1] 48)
  have ho2 := own_below ho1 hn1 (own_lt ho1)
  have hb2 := hb1.trans (hn1.mono hs1)
  clear ho1 hb1 hn1 P1
  go_upto_region 2 with (fail)
  generalize w1.alloc (.cells #[.int .u8 2, .slice A1 5 c1] 48) = w2 at *
  have hs2 := hb2.size
  have hg3 := heap_alloc_new w2 (.cells #[.int .u64 5, .int .u64 0, .int .u64 0, .bool false] 84)
  have hn3 := below_new w2 (.cells #[.int .u64 5, .int .u64 0, .int .u64 0, .bool false] 84)
  have Q2 := P2.out _ _ hg3
  go_wp2_with fail
  refine Q2.mono ?_
  rintro e w3 ⟨A3, c3, rfl, ho3, hb3⟩
  have hs3 := hb3.size
  have hf3 := (hb3.block _ (Nat.lt_of_lt_of_le (lt_of_block hf1) hn3.size)).trans ((hn3.block _ (lt_of_block hf1)).trans hf1)
  have ho2b := own_below (own_below ho2 hn3 (own_lt ho2)) hb3 (own_lt (own_below ho2 hn3 (own_lt ho2)))
  have hf4 := heap_alloc_new w3 (.cells #[.int .u8 5, .slice A3 8 c3] 48)
  have hn4 := below_new w3 (.cells #[.int .u8 5, .slice A3 8 c3] 48)
  have ho4 := own_below ho3 hn4 (own_lt ho3)
  have ho2c := own_below ho2b hn4 (own_lt ho2b)
  have hf3b := (hn4.block _ (lt_of_block hf3)).trans hf3
  have hb4 := (hb2.trans ((hn3.mono hs2).trans (hb3.mono (by have := hn3.size; omega)))).trans (hn4.mono (by have := hn3.size; omega))
  clear ho2 ho2b hf1 hf3 hn3 hb3 hg3 Q2 P2 hs3 hn4 ho3
  go_upto_region 3 with (fail)
  generalize w3.alloc (.cells #[.int .u8 5, .slice A3 8 c3] 48) = w4 at *
  have Q3 := L1.out w4 hb4
  go_wp2_with fail
  refine Q3.mono ?_
  rintro e w5 ⟨x2, x5, x6, x7, x8, x9, x10, y9, y10, z9, z10, rfl, hb5⟩
  have ho5a := own_below ho2c hb5 (own_lt ho2c)
  have ho5b := own_below ho4 hb5 (own_lt ho4)
  have hf5a := (hb5.block _ (lt_of_block hf3b)).trans hf3b
  have hf5b := (hb5.block _ (lt_of_block hf4)).trans hf4
  have hb5' := hb4.trans (hb5.mono hb4.size)
  have hf6 := heap_alloc_new w5 (.cells #[.int .i64 x2, .int .u64 7, .int .u64 300, .int .u64 2, .int .u64 1, .int .u64 x5, .int .i64 x6, .int .u64 x7, .int .u64 x8, .slice x9 y9 z9, .slice x10 y10 z10] 30)
  have hn6 := below_new w5 (.cells #[.int .i64 x2, .int .u64 7, .int .u64 300, .int .u64 2, .int .u64 1, .int .u64 x5, .int .i64 x6, .int .u64 x7, .int .u64 x8, .slice x9 y9 z9, .slice x10 y10 z10] 30)
  have ho6a := own_below ho5a hn6 (own_lt ho5a)
  have ho6b := own_below ho5b hn6 (own_lt ho5b)
  have hf6a := (hn6.block _ (lt_of_block hf5a)).trans hf5a
  have hf6b := (hn6.block _ (lt_of_block hf5b)).trans hf5b
  have hb6 := hb5'.trans (hn6.mono hb5'.size)
  clear ho5a ho5b hf5a hf5b hb5' hb5 hn6 hf3b hf4 ho2c ho4 hb4 Q3 L1
  go_upto_region 4 with (fail)
  generalize w5.alloc (.cells #[.int .i64 x2, .int .u64 7, .int .u64 300, .int .u64 2, .int .u64 1, .int .u64 x5, .int .i64 x6, .int .u64 x7, .int .u64 x8, .slice x9 y9 z9, .slice x10 y10 z10] 30) = w6 at *
  have hf7 := heap_alloc_new w6 (.cells #[.string ⟨#[98, 101, 103, 105, 110, 32, 32, 49]⟩, .string ⟨#[114, 101, 97, 100, 32, 49, 32, 50, 32, 51]⟩, .string ⟨#[119, 114, 105, 116, 101, 32, 48, 49, 32, 50, 32, 51]⟩] 9)
  have hn7 := below_new w6 (.cells #[.string ⟨#[98, 101, 103, 105, 110, 32, 32, 49]⟩, .string ⟨#[114, 101, 97, 100, 32, 49, 32, 50, 32, 51]⟩, .string ⟨#[119, 114, 105, 116, 101, 32, 48, 49, 32, 50, 32, 51]⟩] 9)
  have HW : Hid (∀ W, Below (w6.alloc (.cells #[.string ⟨#[98, 101, 103, 105, 110, 32, 32, 49]⟩, .string ⟨#[114, 101, 97, 100, 32, 49, 32, 50, 32, 51]⟩, .string ⟨#[119, 114, 105, 116, 101, 32, 48, 49, 32, 50, 32, 51]⟩] 9)).heap.size (w6.alloc (.cells #[.string ⟨#[98, 101, 103, 105, 110, 32, 32, 49]⟩, .string ⟨#[114, 101, 97, 100, 32, 49, 32, 50, 32, 51]⟩, .string ⟨#[119, 114, 105, 116, 101, 32, 48, 49, 32, 50, 32, 51]⟩] 9)) W → (W.heap[w1.heap.size]? = some (.cells #[.int .u8 2, .slice A1 5 c1] 48 (0, 0)) ∧ W.heap[w3.heap.size]? = some (.cells #[.int .u8 5, .slice A3 8 c3] 48 (0, 0)) ∧
      W.heap[w5.heap.size]? = some (.cells #[.int .i64 x2, .int .u64 7, .int .u64 300, .int .u64 2, .int .u64 1, .int .u64 x5, .int .i64 x6, .int .u64 x7, .int .u64 x8, .slice x9 y9 z9, .slice x10 y10 z10] 30 (0, 0)) ∧ W.heap[w6.heap.size]? = some (.cells #[.string ⟨#[98, 101, 103, 105, 110, 32, 32, 49]⟩, .string ⟨#[114, 101, 97, 100, 32, 49, 32, 50, 32, 51]⟩, .string ⟨#[119, 114, 105, 116, 101, 32, 48, 49, 32, 50, 32, 51]⟩] 9 (0, 0))) ∧
      Rd W W.heap.size 1 A1 5 (bs [7, 172, 2, 2, 1]) ∧ Rd W W.heap.size 1 A3 8 (bs [1, 1, 1, 1, 5, 0, 0, 0]) ∧ Below w.heap.size w W) := fun W hW => by
    have ho7a := own_below ho6a hn7 (own_lt ho6a)
    have ho7b := own_below ho6b hn7 (own_lt ho6b)
    have K : ∀ {k : Nat} {o : Obj}, w6.heap[k]? = some o → W.heap[k]? = some o := fun {k o} h => (hW.block k (Nat.lt_of_lt_of_le (lt_of_block h) hn7.size)).trans ((hn7.block k (lt_of_block h)).trans h)
    exact ⟨⟨K hf6a, K hf6b, K hf6, (hW.block _ (lt_of_block hf7)).trans hf7⟩, Rd.own (own_below ho7a hW (own_lt ho7a)), Rd.own (own_below ho7b hW (own_lt ho7b)), hb6.trans ((hn7.mono hb6.size).trans (hW.mono (by have := hn7.size; have := hb6.size; omega)))⟩
  clear ho6a ho6b hf6a hf6b hb6 hn7 hf6 hf7 hs1 hb2 hs2
  go_upto_region 5 with (fail)
  generalize w6.alloc (.cells #[.string ⟨#[98, 101, 103, 105, 110, 32, 32, 49]⟩, .string ⟨#[114, 101, 97, 100, 32, 49, 32, 50, 32, 51]⟩, .string ⟨#[119, 114, 105, 116, 101, 32, 48, 49, 32, 50, 32, 51]⟩] 9) = w7 at *
  go_wp2
  go_loopw [8] (fun z wr => ∃ i : Nat, z = .int .i64 i ∧ i ≤ 3 ∧ Hid (Below w7.heap.size w7 wr)) (fun z _ => 3 - (intOf z).toNat)
  case atStart => exact ⟨0, rfl, by omega, Below.refl _ _⟩
  case round =>
    obtain ⟨i, rfl, hi3, hbw⟩ := hrel
    obtain ⟨⟨hx1, hx2, hx3, hx4⟩, hr1, hr2, hbb⟩ := HW.out wr hbw.out
    have K0 : ∀ (s : List UInt8) (i : Nat) (W : World), Hid (wr.cell? ⟨w6.heap.size, i, none⟩ = some (.string ⟨s.toArray⟩)) → lineB s = none → s.length ≤ 100 → True := fun _ _ _ _ _ _ => trivial
    clear K0
    have hi4 : i = 0 ∨ i = 1 ∨ i = 2 ∨ i = 3 := by omega
    rcases hi4 with rfl | rfl | rfl | rfl
    · have d0 : wr.cell? ⟨w6.heap.size, 0, none⟩ = some (.string ⟨#[98, 101, 103, 105, 110, 32, 32, 49]⟩) := cell_of_row wr _ 0 _ _ _ hx4
      have Q := L2.out [98, 101, 103, 105, 110, 32, 32, 49] wr lineX2 (by decide) hbb
      clear hx1 hx2 hx3 hx4 hr1 hr2 hbb
      go_wp2_with fail
      refine Q.mono ?_
      rintro e w8 ⟨t0, t1, t2, t3, t4, t5, t6, t7, t8, t9, t10, s9, s10, r9, r10, rfl, hb8⟩
      have hb9 := Lib_hid (hbw.out.trans ((hb8.trans ((below_new w8 (.cells #[.int .i64 t0, .int .u64 t1, .int .u64 t2, .int .u64 t3, .int .u64 t4, .int .u64 t5, .int .i64 t6, .int .u64 t7, .int .u64 t8, .slice t9 s9 r9, .slice t10 s10 r10] 30)).mono hb8.size)).mono hbw.out.size))
      clear hb8 Q d0
      go_wp2
      go_roundw
      case rel => exact ⟨1, by go_num, by omega, hb9⟩
      case measure => simp [intOf]
    · have d0 : wr.cell? ⟨w6.heap.size, 1, none⟩ = some (.string ⟨#[114, 101, 97, 100, 32, 49, 32, 50, 32, 51]⟩) := cell_of_row wr _ 1 _ _ _ hx4
      have Q := L2.out [114, 101, 97, 100, 32, 49, 32, 50, 32, 51] wr lineX3 (by decide) hbb
      clear hx1 hx2 hx3 hx4 hr1 hr2 hbb
      go_wp2_with fail
      refine Q.mono ?_
      rintro e w8 ⟨t0, t1, t2, t3, t4, t5, t6, t7, t8, t9, t10, s9, s10, r9, r10, rfl, hb8⟩
      have hb9 := Lib_hid (hbw.out.trans ((hb8.trans ((below_new w8 (.cells #[.int .i64 t0, .int .u64 t1, .int .u64 t2, .int .u64 t3, .int .u64 t4, .int .u64 t5, .int .i64 t6, .int .u64 t7, .int .u64 t8, .slice t9 s9 r9, .slice t10 s10 r10] 30)).mono hb8.size)).mono hbw.out.size))
      clear hb8 Q d0
      go_wp2
      go_roundw
      case rel => exact ⟨2, by go_num, by omega, hb9⟩
      case measure => simp [intOf]
    · have d0 : wr.cell? ⟨w6.heap.size, 2, none⟩ = some (.string ⟨#[119, 114, 105, 116, 101, 32, 48, 49, 32, 50, 32, 51]⟩) := cell_of_row wr _ 2 _ _ _ hx4
      have Q := L2.out [119, 114, 105, 116, 101, 32, 48, 49, 32, 50, 32, 51] wr lineX4 (by decide) hbb
      clear hx1 hx2 hx3 hx4 hr1 hr2 hbb
      go_wp2_with fail
      refine Q.mono ?_
      rintro e w8 ⟨t0, t1, t2, t3, t4, t5, t6, t7, t8, t9, t10, s9, s10, r9, r10, rfl, hb8⟩
      have hb9 := Lib_hid (hbw.out.trans ((hb8.trans ((below_new w8 (.cells #[.int .i64 t0, .int .u64 t1, .int .u64 t2, .int .u64 t3, .int .u64 t4, .int .u64 t5, .int .i64 t6, .int .u64 t7, .int .u64 t8, .slice t9 s9 r9, .slice t10 s10 r10] 30)).mono hb8.size)).mono hbw.out.size))
      clear hb8 Q d0
      go_wp2
      go_roundw
      case rel => exact ⟨3, by go_num, by omega, hb9⟩
      case measure => simp [intOf]
    · clear hx4 hr1 hr2 hbb L2
      have d0 : wr.cell? ⟨w1.heap.size, 0, none⟩ = some (.int .u8 2) := cell_of_row wr _ 0 _ _ _ hx1
      have d1 : wr.cell? ⟨w1.heap.size, 1, none⟩ = some (.slice A1 5 c1) := cell_of_row wr _ 1 _ _ _ hx1
      have hn8 := below_new wr (.cells #[.int .u8 7, .int .u8 172, .int .u8 2, .int .u8 2, .int .u8 1] 5)
      have hl8 := World.ownsRow_lit (base := wr.heap.size) (e := 5) (size := 1) wr #[.int .u8 7, .int .u8 172, .int .u8 2, .int .u8 2, .int .u8 1] 5 (Nat.le_refl _) (by decide) rfl
      have hb8 := hbw.out.trans (hn8.mono hbw.out.size)
      obtain ⟨_, hr1, hr2, hbb⟩ := HW.out _ hb8
      have SB := same_yes (c := c1) (c' := 5) [7, 172, 2, 2, 1] _ hr1 (Rd.own hl8) (by omega)
      clear hx1 hx2 hx3 hn8 hl8 hr1 hr2 hbb
      go_wp2_with fail
      refine SB.mono ?_
      rintro e w8 ⟨rfl, q, rfl⟩
      have hb9 : Below w7.heap.size w7 ((wr.alloc (.cells #[.int .u8 7, .int .u8 172, .int .u8 2, .int .u8 2, .int .u8 1] 5)).drewN q) := below_drew_ hb8
      generalize (wr.alloc (.cells #[.int .u8 7, .int .u8 172, .int .u8 2, .int .u8 2, .int .u8 1] 5)).drewN q = w9 at *
      obtain ⟨⟨-, hx2, hx3, -⟩, -, -, -⟩ := HW.out _ hb9
      clear SB hb8 d0 d1
      have d1 : w9.cell? ⟨w3.heap.size, 1, none⟩ = some (.slice A3 8 c3) := cell_of_row w9 _ 1 _ _ _ hx2
      have hn8 := below_new w9 (.cells #[.int .u8 1, .int .u8 1, .int .u8 1, .int .u8 1, .int .u8 5, .int .u8 0, .int .u8 0, .int .u8 0] 5)
      have hl8 := World.ownsRow_lit (base := w9.heap.size) (e := 5) (size := 1) w9 #[.int .u8 1, .int .u8 1, .int .u8 1, .int .u8 1, .int .u8 5, .int .u8 0, .int .u8 0, .int .u8 0] 8 (Nat.le_refl _) (by decide) rfl
      have hb8 := hb9.trans (hn8.mono hb9.size)
      obtain ⟨_, -, hr2, -⟩ := HW.out _ hb8
      have SB := same_yes (c := c3) (c' := 8) [1, 1, 1, 1, 5, 0, 0, 0] _ hr2 (Rd.own hl8) (by omega)
      clear hx2 hx3 hn8 hl8 hr2
      go_wp2_with fail
      refine SB.mono ?_
      rintro e w8 ⟨rfl, q, rfl⟩
      have hb10 : Below w7.heap.size w7 ((w9.alloc (.cells #[.int .u8 1, .int .u8 1, .int .u8 1, .int .u8 1, .int .u8 5, .int .u8 0, .int .u8 0, .int .u8 0] 5)).drewN q) := below_drew_ hb8
      generalize (w9.alloc (.cells #[.int .u8 1, .int .u8 1, .int .u8 1, .int .u8 1, .int .u8 5, .int .u8 0, .int .u8 0, .int .u8 0] 5)).drewN q = w10 at *
      obtain ⟨⟨-, -, hx3, -⟩, -, -, hbz⟩ := HW.out _ hb10
      obtain ⟨-, -, g2, g3, g4, -, -, -, -, -, -⟩ := rec_cells hx3
      clear SB hb8 d1 hb9 hb10 HW hx3 hbw
      go_wp2
      go_ret
      exact ⟨rfl, hbz⟩

end Go.Proofs.YtbcadnkdehknoaaGreatDoor

namespace Go.Proofs.YtbcadnkdehknoaaGreatDoor
open Go Go.RowKit
set_option linter.unusedVariables false

theorem sameR_refl (r : Rc) : r.sameB r = true := by unfold Rc.sameB; simp [(sameB_iff r.p r.p).2 rfl]
theorem lineD_small {s : List UInt8} {r : Rc} (h : lineD s = some r) : r.p.count ≤ s.length + 1 ∧ r.es.length ≤ s.length + 1 := by
  unfold lineD at h
  split at h
  · cases h
  · obtain ⟨r', h1, h2⟩ := Option.bind_eq_some_iff.1 h
    split at h2
    · injection h2 with h2
      subst h2
      have hz : (T.node 0 0 0 []).count = 1 := by decide
      unfold looseL at h1
      repeat' split at h1
      · injection h1 with h1; subst h1
        exact ⟨by show (T.node 0 0 0 []).count ≤ _; omega, by show (0 : Nat) ≤ _; omega⟩
      · injection h1 with h1; subst h1
        exact ⟨by show (T.node 0 0 0 []).count ≤ _; omega, by show (0 : Nat) ≤ _; omega⟩
      · injection h1 with h1; subst h1
        exact ⟨by show (T.node 0 0 0 []).count ≤ _; omega, by show (0 : Nat) ≤ _; omega⟩
      · obtain ⟨p, h3, h4⟩ := Option.bind_eq_some_iff.1 h1
        obtain ⟨es, h5, rfl⟩ := Option.map_eq_some_iff.1 h4
        refine ⟨?_, ?_⟩
        · have hc := readT_count h3
          have hl : ((cutsL 32 s).getD 2 []).length ≤ s.length := by
            rw [List.getD_eq_getElem?_getD]
            cases hg : (cutsL 32 s)[2]? with
            | none => simp
            | some y => exact cutsL_mem 32 s y (List.mem_of_getElem? hg)
          show p.count ≤ _
          omega
        · have h6 := lentsL_len h5
          have h7 := cutsL_len 32 s
          rw [List.length_drop] at h6
          show es.length ≤ _
          omega
      · injection h1 with h1; subst h1
        exact ⟨by show (T.node 0 0 0 []).count ≤ _; omega, by show (0 : Nat) ≤ _; omega⟩
    · cases h2

set_option maxRecDepth 100000 in
set_option maxHeartbeats 6400000 in
theorem reclines_any (B : Nat) (s : List UInt8) (w : World) (hE : EnvM B w) (hB : B ≤ w.heap.size) :
    Calls Tryz.prog 5 #[.string ⟨s.toArray⟩] w fun e w' => e = .returned (.bool true) ∧ Below w.heap.size w w' := by
  have WK : Hid (∀ W, Below w.heap.size w W → Calls Tryz.prog 9 #[] W fun e w' => e = .returned (.bool true) ∧ Below W.heap.size W w') := fun W hW => works5_any B W (hE.under (hW.mono (Nat.le_refl _)) hB) (Nat.le_trans hB hW.size)
  by_cases hl : s.length ≤ 300
  · have q : ¬ (300 : Int) < (s.length : Int) := by omega
    have PL := pline_any B s w hE hB (by omega)
    have DL : Hid (∀ W, Calls Tryz.prog 32 #[.string ⟨s.toArray⟩] W (DEnd (ansR (lineB s)) W)) := fun W => by
      have h := dline5_any s W (by omega)
      rwa [lineD_eq] at h
    have HSM : Hid ((ansR (lineB s)).1.p.count ≤ 1000 ∧ (ansR (lineB s)).1.es.length ≤ 100000) := by
      unfold Hid
      rw [← lineD_eq]
      cases h : lineD s with
      | none => exact ⟨by show (T.node 0 0 0 []).count ≤ _; decide, by show (0 : Nat) ≤ _; omega⟩
      | some r =>
        obtain ⟨h1, h2⟩ := lineD_small h
        exact ⟨by show r.p.count ≤ _; omega, by show r.es.length ≤ _; omega⟩
    generalize ansR (lineB s) = o at *
    go_enter Tryz.func5, Tryz.ntmps5
    go_wp2_with fail
    refine PL.mono ?_
    rintro e w1 ⟨r, rfl, hra, hrL, -, -, hb1⟩
    obtain ⟨W2, hW2⟩ : ∃ W2, W2 = w1.alloc (.cells r.arr 30) := ⟨_, rfl⟩
    have hb2 : Below w1.heap.size w1 W2 := by rw [hW2]; exact below_new w1 _
    have hp2 : W2.heap[w1.heap.size]? = some (.cells r.arr 30 (0, 0)) := by rw [hW2]; exact heap_alloc_new w1 _
    have hrL2 := hrL.under hb2
    have hbw2 := hb1.trans (hb2.mono hb1.size)
    have HRA := Lib_hid hra
    have HRL := Lib_hid hrL2
    have HP2 := Lib_hid hp2
    have HS2 := Lib_hid hb2.size
    have HBW2 := Lib_hid hbw2
    clear hra hrL hrL2 hp2 hb2 hbw2 hb1
    have HW2 := Lib_hid hW2
    clear hW2
    obtain ⟨k, t, x, wn, nn, v, p, A, c, es⟩ := r
    simp only [Rv.val, Rv.arr, Rv.sl, V.sl] at HW2 HP2 ⊢
    have DL2 := DL.out W2
    clear DL PL
    go_upto_region 4 with (fail)
    rw [← HW2.out]
    clear HW2
    go_wp2_with fail
    refine DL2.mono ?_
    rintro e w3 ⟨xr, rfl, hxa, hxL, hb3⟩
    obtain ⟨W4, hW4⟩ : ∃ W4, W4 = w3.alloc (.cells xr.arr 39) := ⟨_, rfl⟩
    have hb4 : Below w3.heap.size w3 W4 := by rw [hW4]; exact below_new w3 _
    have hp4 : W4.heap[w3.heap.size]? = some (.cells xr.arr 39 (0, 0)) := by rw [hW4]; exact heap_alloc_new w3 _
    have hb24 := hb3.trans (hb4.mono hb3.size)
    have hp2 := (hb24.block _ (lt_of_block HP2.out)).trans HP2.out
    have hbw4 := HBW2.out.trans (hb24.mono HBW2.out.size)
    have hxL4 := hxL.under hb4
    have hrL4 := HRL.out.under (hb24.mono HS2.out)
    have DR : Hid (∀ W, Below W4.heap.size W4 W → Calls Tryz.prog 10 #[(Rv.mk k t x wn nn v p A c es).val] W fun e w' => ∃ uv, e = .returned uv ∧ Hid (∀ W', Below w'.heap.size w' W' → Calls Tryz.prog 21 #[uv, xr.val] W' fun e w'' => e = .returned (.bool true) ∧ Below W4.heap.size W4 w'') ∧ Below W4.heap.size W4 w') := fun W hW => by
      have hs := HS2.out
      have hs2 := hb24.size
      have hs3 := hW.size
      have hs4 := hb4.size
      have hra : p.abs = o.1.p ∧ es = o.1.es := ⟨by rw [← HRA.out]; rfl, by rw [← HRA.out]; rfl⟩
      refine (drec5_any ⟨k, t, x, wn, nn, v, p, A, c, es⟩ W _ w1.heap.size (hrL4.under (hW.mono (by omega))) (by omega) (by show p.abs.count ≤ _; rw [hra.1]; exact HSM.out.1) (by show es.length ≤ _; rw [hra.2]; exact HSM.out.2)).mono ?_
      rintro e w' ⟨u, rfl, hua, huL, hb⟩
      refine ⟨_, rfl, ?_, hW.trans (hb.mono hs3)⟩
      intro W' hW'
      have hs5 := hb.size
      have hs6 := hW'.size
      have hbb := (hW.trans (hb.mono hs3)).trans (hW'.mono (by omega))
      refine (rsame5_any u xr W' _ w'.heap.size _ w3.heap.size (huL.under hW') (by omega) (hxL4.under (hbb.mono (by omega))) (by omega)).mono ?_
      rintro e w'' ⟨rfl, hb''⟩
      refine ⟨?_, hbb.trans (hb''.mono (by omega))⟩
      rw [hua, HRA.out, hxa, sameR_refl]
    have WK2 : Hid (∀ W, Below W4.heap.size W4 W → Calls Tryz.prog 9 #[] W fun e w' => e = .returned (.bool true) ∧ Below W4.heap.size W4 w') := fun W hW => (WK.out W (hbw4.trans (hW.mono hbw4.size))).mono fun e w' h => ⟨h.1, hW.trans (h.2.mono hW.size)⟩
    have HBW4 := Lib_hid hbw4
    have HW4 := Lib_hid hW4
    clear hW4 hbw4 hb24 hxL hxL4 hrL4 hb3 hb4 DL2 WK HRL HRA HSM HP2 HS2 HBW2 hxa
    obtain ⟨k', t', x', wn', nn', v', p', A', c', es'⟩ := xr
    simp only [Rv.val, Rv.arr, Rv.sl, V.sl] at HW4 hp4 DR ⊢
    have HB4 : Hid (∀ W, Below W4.heap.size W4 W → (W.cell? ⟨w1.heap.size, 0, none⟩ = some (.int .i64 k) ∧ W.cell? ⟨w1.heap.size, 1, none⟩ = some (.int .u64 (t : Int)) ∧ W.cell? ⟨w1.heap.size, 2, none⟩ = some (.int .u64 (x : Int)) ∧ W.cell? ⟨w1.heap.size, 3, none⟩ = some (.int .u64 (wn : Int)) ∧ W.cell? ⟨w1.heap.size, 4, none⟩ = some (.int .u64 (nn : Int)) ∧ W.cell? ⟨w1.heap.size, 5, none⟩ = some (.int .u64 (v : Int)) ∧ W.cell? ⟨w1.heap.size, 6, none⟩ = some (.int .i64 p.kind) ∧ W.cell? ⟨w1.heap.size, 7, none⟩ = some (.int .u64 (p.a : Int)) ∧ W.cell? ⟨w1.heap.size, 8, none⟩ = some (.int .u64 (p.b : Int)) ∧ W.cell? ⟨w1.heap.size, 9, none⟩ = some (.slice p.addr p.parts.length p.cap) ∧ W.cell? ⟨w1.heap.size, 10, none⟩ = some (.slice A es.length c)) ∧ (W.cell? ⟨w3.heap.size, 0, none⟩ = some (.int .i64 k') ∧ W.cell? ⟨w3.heap.size, 1, none⟩ = some (.int .u64 (t' : Int)) ∧ W.cell? ⟨w3.heap.size, 2, none⟩ = some (.int .u64 (x' : Int)) ∧ W.cell? ⟨w3.heap.size, 3, none⟩ = some (.int .u64 (wn' : Int)) ∧ W.cell? ⟨w3.heap.size, 4, none⟩ = some (.int .u64 (nn' : Int)) ∧ W.cell? ⟨w3.heap.size, 5, none⟩ = some (.int .u64 (v' : Int)) ∧ W.cell? ⟨w3.heap.size, 6, none⟩ = some (.int .i64 p'.kind) ∧ W.cell? ⟨w3.heap.size, 7, none⟩ = some (.int .u64 (p'.a : Int)) ∧ W.cell? ⟨w3.heap.size, 8, none⟩ = some (.int .u64 (p'.b : Int)) ∧ W.cell? ⟨w3.heap.size, 9, none⟩ = some (.slice p'.addr p'.parts.length p'.cap) ∧ W.cell? ⟨w3.heap.size, 10, none⟩ = some (.slice A' es'.length c'))) := fun W hW => ⟨rec_cells ((hW.block _ (lt_of_block hp2)).trans hp2), rec_cells ((hW.block _ (lt_of_block hp4)).trans hp4)⟩
    clear hp2 hp4
    go_upto_region 5 with (fail)
    rw [← HW4.out]
    clear HW4
    generalize p.addr = pA at *
    generalize p.parts.length = pn at *
    generalize p.cap = pc at *
    generalize p.kind = pk at *
    generalize (p.a : Int) = pa at *
    generalize (p.b : Int) = pb at *
    generalize p'.addr = pA' at *
    generalize p'.parts.length = pn' at *
    generalize p'.cap = pc' at *
    generalize p'.kind = pk' at *
    generalize (p'.a : Int) = pa' at *
    generalize (p'.b : Int) = pb' at *
    go_region_held3 (fun W => (W.cell? ⟨w1.heap.size, 0, none⟩ = some (.int .i64 k) ∧ W.cell? ⟨w1.heap.size, 1, none⟩ = some (.int .u64 (t : Int)) ∧ W.cell? ⟨w1.heap.size, 2, none⟩ = some (.int .u64 (x : Int)) ∧ W.cell? ⟨w1.heap.size, 3, none⟩ = some (.int .u64 (wn : Int)) ∧ W.cell? ⟨w1.heap.size, 4, none⟩ = some (.int .u64 (nn : Int)) ∧ W.cell? ⟨w1.heap.size, 5, none⟩ = some (.int .u64 (v : Int)) ∧ W.cell? ⟨w1.heap.size, 6, none⟩ = some (.int .i64 pk) ∧ W.cell? ⟨w1.heap.size, 7, none⟩ = some (.int .u64 pa) ∧ W.cell? ⟨w1.heap.size, 8, none⟩ = some (.int .u64 pb) ∧ W.cell? ⟨w1.heap.size, 9, none⟩ = some (.slice pA pn pc) ∧ W.cell? ⟨w1.heap.size, 10, none⟩ = some (.slice A es.length c)) ∧ (W.cell? ⟨w3.heap.size, 0, none⟩ = some (.int .i64 k') ∧ W.cell? ⟨w3.heap.size, 1, none⟩ = some (.int .u64 (t' : Int)) ∧ W.cell? ⟨w3.heap.size, 2, none⟩ = some (.int .u64 (x' : Int)) ∧ W.cell? ⟨w3.heap.size, 3, none⟩ = some (.int .u64 (wn' : Int)) ∧ W.cell? ⟨w3.heap.size, 4, none⟩ = some (.int .u64 (nn' : Int)) ∧ W.cell? ⟨w3.heap.size, 5, none⟩ = some (.int .u64 (v' : Int)) ∧ W.cell? ⟨w3.heap.size, 6, none⟩ = some (.int .i64 pk') ∧ W.cell? ⟨w3.heap.size, 7, none⟩ = some (.int .u64 pa') ∧ W.cell? ⟨w3.heap.size, 8, none⟩ = some (.int .u64 pb') ∧ W.cell? ⟨w3.heap.size, 9, none⟩ = some (.slice pA' pn' pc') ∧ W.cell? ⟨w3.heap.size, 10, none⟩ = some (.slice A' es'.length c')))
      (first | exact HB4.out _ (below_like4 (Below.refl _ _) rfl rfl rfl rfl) | exact HB4.out _ ka | exact HB4.out _ kb | exact HB4.out _ kc)
      ((first | (go_at_call 10; ((with_reducible refine (DR.out _ (by exact below_like4 (Below.refl _ _) rfl rfl rfl rfl)).mono ?_); rintro e wa ⟨uv, rfl, ks, ka⟩)) | (go_at_call 21; ((with_reducible refine (ks.out _ (Below.refl _ _)).mono ?_); rintro e wb ⟨rfl, kb⟩)) | (go_at_call 9; ((with_reducible refine (WK2.out _ kb).mono ?_); rintro e wc ⟨rfl, kc⟩))))
    all_goals
      go_wp2
      go_ret
      exact ⟨rfl, HBW4.out.trans (kc.mono HBW4.out.size)⟩
  · have q : (300 : Int) < (s.length : Int) := by omega
    go_enter Tryz.func5, Tryz.ntmps5
    go_wp2_with fail
    refine (WK.out w (Below.refl _ _)).mono ?_
    rintro e w1 ⟨rfl, hb⟩
    go_wp2
    go_ret
    exact ⟨rfl, hb⟩

end Go.Proofs.YtbcadnkdehknoaaGreatDoor
