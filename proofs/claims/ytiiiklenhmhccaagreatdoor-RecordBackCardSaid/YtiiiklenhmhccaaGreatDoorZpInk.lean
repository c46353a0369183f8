/-
  Layer 5: works: the chapter's examples.
  Two values that calls made, put into two boxes, in any order: what holds on the way. No program is named here.
  A region that draws its order, with guards, by what holds of each operation's value (an operation that isn't wanted gives undef). No program is named here.
-/
import Derived.Test.YtiiiklenhmhccaaGreatDoorZpTbo
import Derived.Test.YtiiiklenhmhccaaGreatDoorZpTkd
import Derived.Test.YtiiiklenhmhccaaGreatDoorZpIny

namespace Go.Proofs.YtiiiklenhmhccaaGreatDoor
open Go Go.RowKit
set_option linter.unusedVariables false
def r1X : Rc := ⟨2, 7, 300, 2, 1, 0, .node 0 0 0 [], []⟩
def r2X : Rc := ⟨5, 1, 0, 0, 0, 0, .node 1 0 0 [], [⟨5, 0, 0, false⟩]⟩
theorem r1X_right : r1X.rightB = true := by rfl
theorem r2X_right : r2X.rightB = true := by rfl
theorem enc_one {n : Nat} (h : n < 128) : enc n = [n] := by rw [enc, if_pos h]
theorem enc300 : enc 300 = [172, 2] := by rw [enc, if_neg (by decide), enc_one (by decide)]
theorem r1X_stand : r1X.stand = [7, 172, 2, 2, 1] := by
  unfold Rc.stand Rc.standN
  rw [show r1X.kind = 2 from rfl, partsN_of]
  show enc 7 ++ (enc 300 ++ ((enc 2 ++ (enc 1 ++ [])) ++ [])) = _
  rw [enc300, enc_one (n := 7) (by decide), enc_one (n := 2) (by decide), enc_one (n := 1) (by decide)]
  rfl
theorem r2X_stand : r2X.stand = [1, 1, 1, 1, 5, 0, 0, 0] := by
  unfold Rc.stand Rc.standN
  rw [show r2X.kind = 5 from rfl, partsN_of]
  show enc 1 ++ ((enc 1 ++ [1]) ++ ((enc 1 ++ (((enc 5 ++ (enc 0 ++ (enc 0 ++ []))) ++ [0]) ++ [])) ++ [])) = _
  rw [enc_one (n := 1) (by decide), enc_one (n := 5) (by decide), enc_one (n := 0) (by decide)]
  rfl
theorem dec2 {n : Nat} (h : ¬ n < 10) : Lib.decDigits n = Lib.decDigits (n / 10) ++ [UInt8.ofNat (48 + n % 10)] := by
  conv => lhs; rw [Lib.decDigits, dif_neg h]
theorem dec300 : Lib.decDigits 300 = [51, 48, 48] := by
  rw [dec2 (by decide), dec2 (n := 300 / 10) (by decide), dec1 (n := 300 / 10 / 10) (by decide)]; decide
theorem r1X_tell : r1X.tell = [114, 101, 97, 100, 32, 55, 32, 51, 48, 48, 32, 50, 46, 49] := by
  rw [tell_ws, show r1X.kind = 2 from rfl, partsN_of]
  show nameL 2 ++ wsL r1X [0, 1, 2] = _
  rw [wsL_cons, wsL_cons, wsL_cons]
  show nameL 2 ++ (([32] ++ Lib.decDigits 7 ++ []) ++ (([32] ++ Lib.decDigits 300 ++ []) ++ (([32] ++ (Lib.decDigits 2 ++ [46] ++ Lib.decDigits 1) ++ []) ++ []))) = _
  rw [dec300, dec1 (n := 7) (by decide), dec1 (n := 2) (by decide), dec1 (n := 1) (by decide)]
  rfl
theorem lineX1 : lineB [114, 101, 97, 100, 32, 55, 32, 51, 48, 48, 32, 50, 46, 49] = some r1X := by
  rw [← r1X_tell]
  exact line_tell r1X_right ⟨by decide, by decide, by decide, by decide, by decide, okN_zero, by intro e he; cases he⟩
theorem goP_bad {r : Rc} {l : List UInt8} {i : Nat} {is : List Nat} (h : r.setP i l = none) : goP r l (i :: is) = none := by
  show (r.setP i l).bind _ = none
  rw [h]; rfl
theorem goP_go {r r' : Rc} {l l' : List UInt8} {i : Nat} {is : List Nat} (h : r.setP i l = some (r', l')) : goP r l (i :: is) = goP r' l' is := by
  show (r.setP i l).bind _ = _
  rw [h]; rfl
theorem numW_one {n : Nat} (h : n < 10) : numW [UInt8.ofNat (48 + n)] = some n := by
  rw [← dec1 h]; exact numW_dec (by omega)
theorem setP_none0 {r : Rc} {l : List UInt8} (h : numW (wordW l) = none) : r.setP 0 l = none := by
  show (numW (wordW l)).map _ = _
  rw [h]; rfl
theorem setP_none2 {r : Rc} {l : List UInt8} (h : verW (wordW l) = none) : r.setP 2 l = none := by
  show (verW (wordW l)).map _ = _
  rw [h]; rfl
theorem setP_num0 {r : Rc} {l : List UInt8} {n : Nat} (h : wordW l = [UInt8.ofNat (48 + n)]) (hn : n < 10) : r.setP 0 l = some ({ r with t := n }, leftW l) := by
  show (numW (wordW l)).map _ = _
  rw [h, numW_one hn]; rfl
theorem setP_num1 {r : Rc} {l : List UInt8} {n : Nat} (h : wordW l = [UInt8.ofNat (48 + n)]) (hn : n < 10) : r.setP 1 l = some ({ r with x := n }, leftW l) := by
  show (numW (wordW l)).map _ = _
  rw [h, numW_one hn]; rfl
theorem lineX2 : lineB [98, 101, 103, 105, 110, 32, 32, 49] = none := by
  show endP (goP (Rc.zero 1) [32, 32, 49] (partsN 1 6)) = none
  rw [partsN_of]
  show endP (goP (Rc.zero 1) [32, 32, 49] [0]) = none
  rw [goP_bad (setP_none0 (by show numW [] = none; exact numW_nil))]
  rfl
theorem lineX3 : lineB [114, 101, 97, 100, 32, 49, 32, 50, 32, 51] = none := by
  show endP (goP (Rc.zero 2) [32, 49, 32, 50, 32, 51] (partsN 2 6)) = none
  rw [partsN_of]
  show endP (goP (Rc.zero 2) [32, 49, 32, 50, 32, 51] [0, 1, 2]) = none
  rw [goP_go (setP_num0 (n := 1) rfl (by decide)), goP_go (setP_num1 (n := 2) rfl (by decide)), goP_bad (setP_none2 (by
    show verW [UInt8.ofNat (48 + 3)] = none
    unfold verW
    rw [show behind 46 [UInt8.ofNat (48 + 3)] = [] from rfl, numW_nil, show ahead 46 [UInt8.ofNat (48 + 3)] = [UInt8.ofNat (48 + 3)] from rfl, numW_one (by decide)]))]
  rfl
theorem numW_01 : numW [48, 49] = none := by
  cases h : numW [48, 49] with
  | none => rfl
  | some u =>
    have hp : Lib.parseUintB 64 [48, 49] = .ok 1 := by rfl
    unfold numW at h
    rw [hp] at h
    simp only at h
    rw [dec1 (n := 1) (by decide)] at h
    cases h
theorem lineX4 : lineB [119, 114, 105, 116, 101, 32, 48, 49, 32, 50, 32, 51] = none := by
  show endP (goP (Rc.zero 3) [32, 48, 49, 32, 50, 32, 51] (partsN 3 6)) = none
  rw [partsN_of]
  show endP (goP (Rc.zero 3) [32, 48, 49, 32, 50, 32, 51] [0, 1, 3]) = none
  rw [goP_bad (setP_none0 (by show numW [48, 49] = none; exact numW_01))]
  rfl
set_option maxRecDepth 100000 in
set_option maxHeartbeats 6400000 in
theorem works5_any (B : Nat) (w : World) (hE : EnvM B w) (hB : B ≤ w.heap.size) : Calls Tryz.prog 9 #[] w fun e w' => e = .returned (.bool true) ∧ Below w.heap.size w w' := by
  have P1 : Hid (∀ W, Calls Tryz.prog 12 #[.agg #[.int .i64 2, .int .u64 7, .int .u64 300, .int .u64 2, .int .u64 1, .int .u64 0, .int .i64 0, .int .u64 0, .int .u64 0, .slice none 0 0, .slice none 0 0]] W fun e w' => ∃ A c, e = .returned (.tuple #[.agg #[.int .u8 2, .slice A 5 c], .int .i64 0]) ∧ w'.ownsRow W.heap.size 5 1 (.slice A 5 c) 5 (bs [7, 172, 2, 2, 1]) ∧ Below W.heap.size W w') := fun W => by
    have hL : RLies W 0 W.heap.size ⟨2, 7, 300, 2, 1, 0, .node 0 0 0 none 0 [], none, 0, []⟩ := ⟨by decide, by decide, by decide, by decide, by decide, by decide, lies_zero _ _ _, Rd.zero, by decide, (by intro e he; cases he), (by intro ad e; cases e)⟩
    have h := rput5_any ⟨2, 7, 300, 2, 1, 0, .node 0 0 0 none 0 [], none, 0, []⟩ W 0 W.heap.size hL (Nat.le_refl _) (by decide)
    have ha : Rv.abs ⟨2, 7, 300, 2, 1, 0, .node 0 0 0 none 0 [], none, 0, []⟩ = r1X := by simp [Rv.abs, V.abs, V.absL, r1X]
    rw [ha] at h
    refine (show Calls Tryz.prog 12 #[.agg #[.int .i64 2, .int .u64 7, .int .u64 300, .int .u64 2, .int .u64 1, .int .u64 0, .int .i64 0, .int .u64 0, .int .u64 0, .slice none 0 0, .slice none 0 0]] W (PutEnd r1X W) from h).mono ?_
    rintro e w' ⟨hb, -, h2⟩
    obtain ⟨A, c, e1, e2⟩ := h2 r1X_right
    rw [r1X_stand] at e1 e2
    exact ⟨A, c, e1, e2, hb⟩
  have P2 : Hid (∀ W g, W.heap[g]? = some (.cells #[.int .u64 5, .int .u64 0, .int .u64 0, .bool false] 84 (0, 0)) → Calls Tryz.prog 12 #[.agg #[.int .i64 5, .int .u64 1, .int .u64 0, .int .u64 0, .int .u64 0, .int .u64 0, .int .i64 1, .int .u64 0, .int .u64 0, .slice none 0 0, .slice (some ⟨g, 0, none⟩) 1 1]] W fun e w' => ∃ A c, e = .returned (.tuple #[.agg #[.int .u8 5, .slice A 8 c], .int .i64 0]) ∧ w'.ownsRow W.heap.size 5 1 (.slice A 8 c) 8 (bs [1, 1, 1, 1, 5, 0, 0, 0]) ∧ Below W.heap.size W w') := fun W g hg => by
    have hgl := lt_of_block hg
    have hL : RLies W 0 W.heap.size ⟨5, 1, 0, 0, 0, 0, .node 1 0 0 none 0 [], some ⟨g, 0, none⟩, 1, [⟨5, 0, 0, false⟩]⟩ := ⟨⟨by show (-9223372036854775808 : Int) ≤ 5; omega, by show (5 : Int) ≤ _; omega⟩, by show ((1 : Nat) : Int) ≤ _; omega, by show ((0 : Nat) : Int) ≤ _; omega, by show ((0 : Nat) : Int) ≤ _; omega, by show ((0 : Nat) : Int) ≤ _; omega, by show ((0 : Nat) : Int) ≤ _; omega, .mk _ _ _ _ _ _ (by omega) (by omega) (by omega) Rd.zero (by simp) (fun ad e => by cases e) (by simp), (rd_row (size := 4) (n := 1) (l := enCells [⟨5, 0, 0, false⟩]) hg rfl).more (by omega), ⟨by show (1 : Nat) ≤ 1; omega, by show (1 : Nat) ≤ 9223372036854775807; omega⟩, (by intro e he; obtain rfl : e = ⟨5, 0, 0, false⟩ := (by simpa using he); exact ⟨by decide, by decide, by decide⟩), fun ad e hn => Nat.zero_le _⟩
    have h := rput5_any ⟨5, 1, 0, 0, 0, 0, .node 1 0 0 none 0 [], some ⟨g, 0, none⟩, 1, [⟨5, 0, 0, false⟩]⟩ W 0 W.heap.size hL (Nat.le_refl _) (by simp)
    have ha : Rv.abs ⟨5, 1, 0, 0, 0, 0, .node 1 0 0 none 0 [], some ⟨g, 0, none⟩, 1, [⟨5, 0, 0, false⟩]⟩ = r2X := by simp [Rv.abs, V.abs, V.absL, r2X]
    rw [ha] at h
    refine (show Calls Tryz.prog 12 #[.agg #[.int .i64 5, .int .u64 1, .int .u64 0, .int .u64 0, .int .u64 0, .int .u64 0, .int .i64 1, .int .u64 0, .int .u64 0, .slice none 0 0, .slice (some ⟨g, 0, none⟩) 1 1]] W (PutEnd r2X W) from h).mono ?_
    rintro e w' ⟨hb, -, h2⟩
    obtain ⟨A, c, e1, e2⟩ := h2 r2X_right
    rw [r2X_stand] at e1 e2
    exact ⟨A, c, e1, e2, hb⟩
  have L1 : Hid (∀ W, Below w.heap.size w W → Calls Tryz.prog 31 #[.string ⟨#[114, 101, 97, 100, 32, 55, 32, 51, 48, 48, 32, 50, 46, 49]⟩] W fun e w' => ∃ x2 x5 x6 x7 x8 x9 x10 y9 y10 z9 z10, e = .returned (.tuple #[.agg #[.int .i64 x2, .int .u64 7, .int .u64 300, .int .u64 2, .int .u64 1, .int .u64 x5, .int .i64 x6, .int .u64 x7, .int .u64 x8, .slice x9 y9 z9, .slice x10 y10 z10], .int .i64 0]) ∧ Below W.heap.size W w') := fun W hW => by
    have h := pline_any B [114, 101, 97, 100, 32, 55, 32, 51, 48, 48, 32, 50, 46, 49] W (hE.under hW hB) (by have := hW.size; omega) (by decide)
    rw [lineX1] at h
    refine h.mono ?_
    rintro e w' ⟨r, e1, e2, -, -, -, hb⟩
    obtain ⟨k, t, x, wn, nn, v, p, A, c, es⟩ := r
    have e3 : t = 7 := congrArg Rc.t e2
    have e4 : x = 300 := congrArg Rc.x e2
    have e5 : wn = 2 := congrArg Rc.w e2
    have e6 : nn = 1 := congrArg Rc.n e2
    subst e3 e4 e5 e6
    exact ⟨_, _, _, _, _, _, _, _, _, _, _, e1, hb⟩
  have L2 : Hid (∀ (s : List UInt8) W, lineB s = none → s.length ≤ 100 → Below w.heap.size w W → Calls Tryz.prog 31 #[.string ⟨s.toArray⟩] W fun e w' => ∃ x0 x1 x2 x3 x4 x5 x6 x7 x8 x9 x10 y9 y10 z9 z10, e = .returned (.tuple #[.agg #[.int .i64 x0, .int .u64 x1, .int .u64 x2, .int .u64 x3, .int .u64 x4, .int .u64 x5, .int .i64 x6, .int .u64 x7, .int .u64 x8, .slice x9 y9 z9, .slice x10 y10 z10], .int .i64 50]) ∧ Below W.heap.size W w') := fun s W hs hl hW => by
    have h := pline_any B s W (hE.under hW hB) (by have := hW.size; omega) (by omega)
    rw [hs] at h
    refine h.mono ?_
    rintro e w' ⟨r, e1, e2, -, -, -, hb⟩
    exact ⟨_, _, _, _, _, _, _, _, _, _, _, _, _, _, _, e1, hb⟩
  clear hE
  go_enter Tryz.func9, Tryz.ntmps9
  go_wp2_with fail
  refine (P1.out _).mono ?_
  rintro e w1 ⟨A1, c1, rfl, ho1, hb1⟩
  have hs1 := hb1.size
  have hf1 := heap_alloc_new w1 (.cells #[.int .u8 2, .slice A1 5 c1] 48)
  have hn1 := below_new w1 (.cells #[.int .u8 2, .slice A1 5 c1] 48)
  have ho2 := own_below ho1 hn1 (own_lt ho1)
  have hb2 := hb1.trans (hn1.mono hs1)
  clear ho1 hb1 hn1 P1
  go_upto_region 2 with (fail)
  generalize w1.alloc (.cells #[.int .u8 2, .slice A1 5 c1] 48) = w2 at *
  have hs2 := hb2.size
  have hg3 := heap_alloc_new w2 (.cells #[.int .u64 5, .int .u64 0, .int .u64 0, .bool false] 84)
  have hn3 := below_new w2 (.cells #[.int .u64 5, .int .u64 0, .int .u64 0, .bool false] 84)
  have Q2 := P2.out _ _ hg3
  go_wp2_with fail
  refine Q2.mono ?_
  rintro e w3 ⟨A3, c3, rfl, ho3, hb3⟩
  have hs3 := hb3.size
  have hf3 := (hb3.block _ (Nat.lt_of_lt_of_le (lt_of_block hf1) hn3.size)).trans ((hn3.block _ (lt_of_block hf1)).trans hf1)
  have ho2b := own_below (own_below ho2 hn3 (own_lt ho2)) hb3 (own_lt (own_below ho2 hn3 (own_lt ho2)))
  have hf4 := heap_alloc_new w3 (.cells #[.int .u8 5, .slice A3 8 c3] 48)
  have hn4 := below_new w3 (.cells #[.int .u8 5, .slice A3 8 c3] 48)
  have ho4 := own_below ho3 hn4 (own_lt ho3)
  have ho2c := own_below ho2b hn4 (own_lt ho2b)
  have hf3b := (hn4.block _ (lt_of_block hf3)).trans hf3
  have hb4 := (hb2.trans ((hn3.mono hs2).trans (hb3.mono (by have := hn3.size; omega)))).trans (hn4.mono (by have := hn3.size; omega))
  clear ho2 ho2b hf1 hf3 hn3 hb3 hg3 Q2 P2 hs3 hn4 ho3
  go_upto_region 3 with (fail)
  generalize w3.alloc (.cells #[.int .u8 5, .slice A3 8 c3] 48) = w4 at *
  have Q3 := L1.out w4 hb4
  go_wp2_with fail
  refine Q3.mono ?_
  rintro e w5 ⟨x2, x5, x6, x7, x8, x9, x10, y9, y10, z9, z10, rfl, hb5⟩
  have ho5a := own_below ho2c hb5 (own_lt ho2c)
  have ho5b := own_below ho4 hb5 (own_lt ho4)
  have hf5a := (hb5.block _ (lt_of_block hf3b)).trans hf3b
  have hf5b := (hb5.block _ (lt_of_block hf4)).trans hf4
  have hb5' := hb4.trans (hb5.mono hb4.size)
  have hf6 := heap_alloc_new w5 (.cells #[.int .i64 x2, .int .u64 7, .int .u64 300, .int .u64 2, .int .u64 1, .int .u64 x5, .int .i64 x6, .int .u64 x7, .int .u64 x8, .slice x9 y9 z9, .slice x10 y10 z10] 30)
  have hn6 := below_new w5 (.cells #[.int .i64 x2, .int .u64 7, .int .u64 300, .int .u64 2, .int .u64 1, .int .u64 x5, .int .i64 x6, .int .u64 x7, .int .u64 x8, .slice x9 y9 z9, .slice x10 y10 z10] 30)
  have ho6a := own_below ho5a hn6 (own_lt ho5a)
  have ho6b := own_below ho5b hn6 (own_lt ho5b)
  have hf6a := (hn6.block _ (lt_of_block hf5a)).trans hf5a
  have hf6b := (hn6.block _ (lt_of_block hf5b)).trans hf5b
  have hb6 := hb5'.trans (hn6.mono hb5'.size)
  clear ho5a ho5b hf5a hf5b hb5' hb5 hn6 hf3b hf4 ho2c ho4 hb4 Q3 L1
  go_upto_region 4 with (fail)
  generalize w5.alloc (.cells #[.int .i64 x2, .int .u64 7, .int .u64 300, .int .u64 2, .int .u64 1, .int .u64 x5, .int .i64 x6, .int .u64 x7, .int .u64 x8, .slice x9 y9 z9, .slice x10 y10 z10] 30) = w6 at *
  have hf7 := heap_alloc_new w6 (.cells #[.string ⟨#[98, 101, 103, 105, 110, 32, 32, 49]⟩, .string ⟨#[114, 101, 97, 100, 32, 49, 32, 50, 32, 51]⟩, .string ⟨#[119, 114, 105, 116, 101, 32, 48, 49, 32, 50, 32, 51]⟩] 9)
  have hn7 := below_new w6 (.cells #[.string ⟨#[98, 101, 103, 105, 110, 32, 32, 49]⟩, .string ⟨#[114, 101, 97, 100, 32, 49, 32, 50, 32, 51]⟩, .string ⟨#[119, 114, 105, 116, 101, 32, 48, 49, 32, 50, 32, 51]⟩] 9)
  have HW : Hid (∀ W, Below (w6.alloc (.cells #[.string ⟨#[98, 101, 103, 105, 110, 32, 32, 49]⟩, .string ⟨#[114, 101, 97, 100, 32, 49, 32, 50, 32, 51]⟩, .string ⟨#[119, 114, 105, 116, 101, 32, 48, 49, 32, 50, 32, 51]⟩] 9)).heap.size (w6.alloc (.cells #[.string ⟨#[98, 101, 103, 105, 110, 32, 32, 49]⟩, .string ⟨#[114, 101, 97, 100, 32, 49, 32, 50, 32, 51]⟩, .string ⟨#[119, 114, 105, 116, 101, 32, 48, 49, 32, 50, 32, 51]⟩] 9)) W → (W.heap[w1.heap.size]? = some (.cells #[.int .u8 2, .slice A1 5 c1] 48 (0, 0)) ∧ W.heap[w3.heap.size]? = some (.cells #[.int .u8 5, .slice A3 8 c3] 48 (0, 0)) ∧
      W.heap[w5.heap.size]? = some (.cells #[.int .i64 x2, .int .u64 7, .int .u64 300, .int .u64 2, .int .u64 1, .int .u64 x5, .int .i64 x6, .int .u64 x7, .int .u64 x8, .slice x9 y9 z9, .slice x10 y10 z10] 30 (0, 0)) ∧ W.heap[w6.heap.size]? = some (.cells #[.string ⟨#[98, 101, 103, 105, 110, 32, 32, 49]⟩, .string ⟨#[114, 101, 97, 100, 32, 49, 32, 50, 32, 51]⟩, .string ⟨#[119, 114, 105, 116, 101, 32, 48, 49, 32, 50, 32, 51]⟩] 9 (0, 0))) ∧
      Rd W W.heap.size 1 A1 5 (bs [7, 172, 2, 2, 1]) ∧ Rd W W.heap.size 1 A3 8 (bs [1, 1, 1, 1, 5, 0, 0, 0]) ∧ Below w.heap.size w W) := fun W hW => by
    have ho7a := own_below ho6a hn7 (own_lt ho6a)
    have ho7b := own_below ho6b hn7 (own_lt ho6b)
    have K : ∀ {k : Nat} {o : Obj}, w6.heap[k]? = some o → W.heap[k]? = some o := fun {k o} h => (hW.block k (Nat.lt_of_lt_of_le (lt_of_block h) hn7.size)).trans ((hn7.block k (lt_of_block h)).trans h)
    exact ⟨⟨K hf6a, K hf6b, K hf6, (hW.block _ (lt_of_block hf7)).trans hf7⟩, Rd.own (own_below ho7a hW (own_lt ho7a)), Rd.own (own_below ho7b hW (own_lt ho7b)), hb6.trans ((hn7.mono hb6.size).trans (hW.mono (by have := hn7.size; have := hb6.size; omega)))⟩
  clear ho6a ho6b hf6a hf6b hb6 hn7 hf6 hf7 hs1 hb2 hs2
  go_upto_region 5 with (fail)
  generalize w6.alloc (.cells #[.string ⟨#[98, 101, 103, 105, 110, 32, 32, 49]⟩, .string ⟨#[114, 101, 97, 100, 32, 49, 32, 50, 32, 51]⟩, .string ⟨#[119, 114, 105, 116, 101, 32, 48, 49, 32, 50, 32, 51]⟩] 9) = w7 at *
  go_wp2
  go_loopw [8] (fun z wr => ∃ i : Nat, z = .int .i64 i ∧ i ≤ 3 ∧ Hid (Below w7.heap.size w7 wr)) (fun z _ => 3 - (intOf z).toNat)
  case atStart => exact ⟨0, rfl, by omega, Below.refl _ _⟩
  case round =>
    obtain ⟨i, rfl, hi3, hbw⟩ := hrel
    obtain ⟨⟨hx1, hx2, hx3, hx4⟩, hr1, hr2, hbb⟩ := HW.out wr hbw.out
    have K0 : ∀ (s : List UInt8) (i : Nat) (W : World), Hid (wr.cell? ⟨w6.heap.size, i, none⟩ = some (.string ⟨s.toArray⟩)) → lineB s = none → s.length ≤ 100 → True := fun _ _ _ _ _ _ => trivial
    clear K0
    have hi4 : i = 0 ∨ i = 1 ∨ i = 2 ∨ i = 3 := by omega
    rcases hi4 with rfl | rfl | rfl | rfl
    · have d0 : wr.cell? ⟨w6.heap.size, 0, none⟩ = some (.string ⟨#[98, 101, 103, 105, 110, 32, 32, 49]⟩) := cell_of_row wr _ 0 _ _ _ hx4
      have Q := L2.out [98, 101, 103, 105, 110, 32, 32, 49] wr lineX2 (by decide) hbb
      clear hx1 hx2 hx3 hx4 hr1 hr2 hbb
      go_wp2_with fail
      refine Q.mono ?_
      rintro e w8 ⟨t0, t1, t2, t3, t4, t5, t6, t7, t8, t9, t10, s9, s10, r9, r10, rfl, hb8⟩
      have hb9 := Lib_hid (hbw.out.trans ((hb8.trans ((below_new w8 (.cells #[.int .i64 t0, .int .u64 t1, .int .u64 t2, .int .u64 t3, .int .u64 t4, .int .u64 t5, .int .i64 t6, .int .u64 t7, .int .u64 t8, .slice t9 s9 r9, .slice t10 s10 r10] 30)).mono hb8.size)).mono hbw.out.size))
      clear hb8 Q d0
      go_wp2
      go_roundw
      case rel => exact ⟨1, by go_num, by omega, hb9⟩
      case measure => simp [intOf]
    · have d0 : wr.cell? ⟨w6.heap.size, 1, none⟩ = some (.string ⟨#[114, 101, 97, 100, 32, 49, 32, 50, 32, 51]⟩) := cell_of_row wr _ 1 _ _ _ hx4
      have Q := L2.out [114, 101, 97, 100, 32, 49, 32, 50, 32, 51] wr lineX3 (by decide) hbb
      clear hx1 hx2 hx3 hx4 hr1 hr2 hbb
      go_wp2_with fail
      refine Q.mono ?_
      rintro e w8 ⟨t0, t1, t2, t3, t4, t5, t6, t7, t8, t9, t10, s9, s10, r9, r10, rfl, hb8⟩
      have hb9 := Lib_hid (hbw.out.trans ((hb8.trans ((below_new w8 (.cells #[.int .i64 t0, .int .u64 t1, .int .u64 t2, .int .u64 t3, .int .u64 t4, .int .u64 t5, .int .i64 t6, .int .u64 t7, .int .u64 t8, .slice t9 s9 r9, .slice t10 s10 r10] 30)).mono hb8.size)).mono hbw.out.size))
      clear hb8 Q d0
      go_wp2
      go_roundw
      case rel => exact ⟨2, by go_num, by omega, hb9⟩
      case measure => simp [intOf]
    · have d0 : wr.cell? ⟨w6.heap.size, 2, none⟩ = some (.string ⟨#[119, 114, 105, 116, 101, 32, 48, 49, 32, 50, 32, 51]⟩) := cell_of_row wr _ 2 _ _ _ hx4
      have Q := L2.out [119, 114, 105, 116, 101, 32, 48, 49, 32, 50, 32, 51] wr lineX4 (by decide) hbb
      clear hx1 hx2 hx3 hx4 hr1 hr2 hbb
      go_wp2_with fail
      refine Q.mono ?_
      rintro e w8 ⟨t0, t1, t2, t3, t4, t5, t6, t7, t8, t9, t10, s9, s10, r9, r10, rfl, hb8⟩
      have hb9 := Lib_hid (hbw.out.trans ((hb8.trans ((below_new w8 (.cells #[.int .i64 t0, .int .u64 t1, .int .u64 t2, .int .u64 t3, .int .u64 t4, .int .u64 t5, .int .i64 t6, .int .u64 t7, .int .u64 t8, .slice t9 s9 r9, .slice t10 s10 r10] 30)).mono hb8.size)).mono hbw.out.size))
      clear hb8 Q d0
      go_wp2
      go_roundw
      case rel => exact ⟨3, by go_num, by omega, hb9⟩
      case measure => simp [intOf]
    · clear hx4 hr1 hr2 hbb L2
      have d0 : wr.cell? ⟨w1.heap.size, 0, none⟩ = some (.int .u8 2) := cell_of_row wr _ 0 _ _ _ hx1
      have d1 : wr.cell? ⟨w1.heap.size, 1, none⟩ = some (.slice A1 5 c1) := cell_of_row wr _ 1 _ _ _ hx1
      have hn8 := below_new wr (.cells #[.int .u8 7, .int .u8 172, .int .u8 2, .int .u8 2, .int .u8 1] 5)
      have hl8 := World.ownsRow_lit (base := wr.heap.size) (e := 5) (size := 1) wr #[.int .u8 7, .int .u8 172, .int .u8 2, .int .u8 2, .int .u8 1] 5 (Nat.le_refl _) (by decide) rfl
      have hb8 := hbw.out.trans (hn8.mono hbw.out.size)
      obtain ⟨_, hr1, hr2, hbb⟩ := HW.out _ hb8
      have SB := same_yes (c := c1) (c' := 5) [7, 172, 2, 2, 1] _ hr1 (Rd.own hl8) (by omega)
      clear hx1 hx2 hx3 hn8 hl8 hr1 hr2 hbb
      go_wp2_with fail
      refine SB.mono ?_
      rintro e w8 ⟨rfl, q, rfl⟩
      have hb9 : Below w7.heap.size w7 ((wr.alloc (.cells #[.int .u8 7, .int .u8 172, .int .u8 2, .int .u8 2, .int .u8 1] 5)).drewN q) := below_drew_ hb8
      generalize (wr.alloc (.cells #[.int .u8 7, .int .u8 172, .int .u8 2, .int .u8 2, .int .u8 1] 5)).drewN q = w9 at *
      obtain ⟨⟨-, hx2, hx3, -⟩, -, -, -⟩ := HW.out _ hb9
      clear SB hb8 d0 d1
      have d1 : w9.cell? ⟨w3.heap.size, 1, none⟩ = some (.slice A3 8 c3) := cell_of_row w9 _ 1 _ _ _ hx2
      have hn8 := below_new w9 (.cells #[.int .u8 1, .int .u8 1, .int .u8 1, .int .u8 1, .int .u8 5, .int .u8 0, .int .u8 0, .int .u8 0] 5)
      have hl8 := World.ownsRow_lit (base := w9.heap.size) (e := 5) (size := 1) w9 #[.int .u8 1, .int .u8 1, .int .u8 1, .int .u8 1, .int .u8 5, .int .u8 0, .int .u8 0, .int .u8 0] 8 (Nat.le_refl _) (by decide) rfl
      have hb8 := hb9.trans (hn8.mono hb9.size)
      obtain ⟨_, -, hr2, -⟩ := HW.out _ hb8
      have SB := same_yes (c := c3) (c' := 8) [1, 1, 1, 1, 5, 0, 0, 0] _ hr2 (Rd.own hl8) (by omega)
      clear hx2 hx3 hn8 hl8 hr2
      go_wp2_with fail
      refine SB.mono ?_
      rintro e w8 ⟨rfl, q, rfl⟩
      have hb10 : Below w7.heap.size w7 ((w9.alloc (.cells #[.int .u8 1, .int .u8 1, .int .u8 1, .int .u8 1, .int .u8 5, .int .u8 0, .int .u8 0, .int .u8 0] 5)).drewN q) := below_drew_ hb8
      generalize (w9.alloc (.cells #[.int .u8 1, .int .u8 1, .int .u8 1, .int .u8 1, .int .u8 5, .int .u8 0, .int .u8 0, .int .u8 0] 5)).drewN q = w10 at *
      obtain ⟨⟨-, -, hx3, -⟩, -, -, hbz⟩ := HW.out _ hb10
      obtain ⟨-, -, g2, g3, g4, -, -, -, -, -, -⟩ := rec_cells hx3
      clear SB hb8 d1 hb9 hb10 HW hx3 hbw
      go_wp2
      go_ret
      exact ⟨rfl, hbz⟩
end Go.Proofs.YtiiiklenhmhccaaGreatDoor

namespace Go.Proofs.YtiiiklenhmhccaaGreatDoor
open Go Go.RowKit
set_option linter.unusedVariables false
structure RowSet (w w' : World) (g : Nat) (arr : Array Value) (E : TypeId) : Prop where
  os : w'.os = w.os
  tape : w'.tape = w.tape
  output : w'.output = w.output
  size : w'.heap.size = w.heap.size
  row : w'.heap[g]? = some (.cells arr E (0, 0))
  other : ∀ k, k ≠ g → w'.heap[k]? = w.heap[k]?
theorem RowSet.below {w0 w w' : World} {g B : Nat} {arr : Array Value} {E : TypeId} (h : RowSet w w' g arr E) (hb : Below B w0 w) (hg : B ≤ g) : Below B w0 w' :=
  ⟨h.os.trans hb.os, h.tape.trans hb.tape, h.output.trans hb.output, by rw [h.size]; exact hb.size, fun k hk => (h.other k (by omega)).trans (hb.block k hk)⟩
theorem rowset2 {w : World} {g : Nat} {E : TypeId} {x0 x1 : Value} (y0 y1 : Value) (h : w.heap[g]? = some (.cells #[x0, x1] E (0, 0))) : RowSet w ((w.setCell ⟨g, 0, none⟩ y0).setCell ⟨g, 1, none⟩ y1) g #[y0, y1] E :=
  ⟨rfl, rfl, rfl, by simp [World.setCell], heap_setCell_same _ g 1 _ E y1 (heap_setCell_same w g 0 _ E y0 h), fun k hk => by rw [Below.heap_setCell _ ⟨g, 1, none⟩ _ k hk, Below.heap_setCell _ ⟨g, 0, none⟩ _ k hk]⟩
structure SL6 where
  p : Nat
  c : Nat
  q : Nat
  d : Nat
  x : Nat
  y : Nat
structure SL6.ok (s : SL6) (n : Nat) : Prop where
  pc : s.p ≠ s.c
  pq : s.p ≠ s.q
  pd : s.p ≠ s.d
  px : s.p ≠ s.x
  py : s.p ≠ s.y
  cq : s.c ≠ s.q
  cd : s.c ≠ s.d
  cx : s.c ≠ s.x
  cy : s.c ≠ s.y
  qd : s.q ≠ s.d
  qx : s.q ≠ s.x
  qy : s.q ≠ s.y
  dx : s.d ≠ s.x
  dy : s.d ≠ s.y
  xy : s.x ≠ s.y
  pn : s.p < n
  cn : s.c < n
  qn : s.q < n
  dn : s.d < n
  xn : s.x < n
  yn : s.y < n
theorem put_ne2 {a : Act} {d s : Nat} {v : Value} (h : d ≠ s) : (a.put (some d) v).tmps.getD s undef = a.tmps.getD s undef := put_getD_ne (fun e => h (by injection e))
structure Two8 (w3 : World) (s : SL6) (pv qv : Value) (n : Nat) (E : TypeId) (M N : Nat → Nat → Array Value → World → Prop) (a0 : Act) (L : Nat → Bool) (a : Act) (w : World) (g9 g10 l1 h1 l2 h2 : Nat) (u r : Array Value) : Prop where
  size : a.tmps.size = a0.tmps.size
  defers : a.defers = a0.defers
  other : ∀ k, k ≠ s.p → k ≠ s.c → k ≠ s.q → k ≠ s.d → k ≠ s.x → k ≠ s.y → a.tmps.getD k undef = a0.tmps.getD k undef
  below : Below w3.heap.size w3 w
  o0 : L 0 = true → a.tmps.getD s.p undef = pv
  o2 : L 2 = true → a.tmps.getD s.q undef = qv
  o1 : L 1 = true → a.tmps.getD s.c undef = .agg u ∧ M l1 h1 u w ∧ w3.heap.size ≤ l1 ∧ h1 ≤ w.heap.size
  o3 : L 3 = true → a.tmps.getD s.d undef = .agg r ∧ N l2 h2 r w ∧ w3.heap.size ≤ l2 ∧ h2 ≤ w.heap.size
  o4 : L 4 = true → a.tmps.getD s.x undef = .pointer (some ⟨g9, 0, none⟩) ∧ w3.heap.size ≤ g9 ∧ ∃ xs : Array Value, xs.size = n ∧ w.heap[g9]? = some (.cells xs E (0, 0))
  o5 : L 5 = true → a.tmps.getD s.y undef = .pointer (some ⟨g10, 0, none⟩) ∧ w3.heap.size ≤ g10 ∧ ∃ xs : Array Value, xs.size = n ∧ w.heap[g10]? = some (.cells xs E (0, 0))
  d14 : L 1 = true → L 4 = true → g9 < l1 ∨ h1 ≤ g9
  d34 : L 3 = true → L 4 = true → g9 < l2 ∨ h2 ≤ g9
  d15 : L 1 = true → L 5 = true → g10 < l1 ∨ h1 ≤ g10
  d35 : L 3 = true → L 5 = true → g10 < l2 ∨ h2 ≤ g10
  d45 : L 4 = true → L 5 = true → g9 ≠ g10
  o6 : L 6 = true → L 4 = true ∧ L 1 = true ∧ w.heap[g9]? = some (.cells u E (0, 0))
  o7 : L 7 = true → L 5 = true ∧ L 3 = true ∧ w.heap[g10]? = some (.cells r E (0, 0))
def Within (M : Nat → Nat → Array Value → World → Prop) : Prop := ∀ (l h : Nat) (v : Array Value) (w w' : World), (∀ k, l ≤ k → k < h → w'.heap[k]? = w.heap[k]?) → M l h v w → M l h v w'
section
variable {w3 : World} {s : SL6} {pv qv : Value} {n : Nat} {E : TypeId} {M N : Nat → Nat → Array Value → World → Prop} {a0 : Act} {L : Nat → Bool} {a : Act} {w w' : World} {g9 g10 l1 h1 l2 h2 : Nat} {u r : Array Value}
theorem lt_of_blk {W : World} {g : Nat} {o : Obj} (h : W.heap[g]? = some o) : g < W.heap.size := (Array.getElem?_eq_some_iff.1 h).1
theorem Two8.start (p q : Array Value) : Two8 w3 s pv qv n E M N a0 (fun _ => false) a0 { w3 with drawn := w3.drawn + 1 } 0 0 0 0 0 0 p q :=
  ⟨rfl, rfl, fun _ _ _ _ _ _ _ => rfl, ⟨rfl, rfl, rfl, Nat.le_refl _, fun _ _ => rfl⟩, by simp, by simp, by simp, by simp, by simp, by simp, by simp, by simp, by simp, by simp, by simp, by simp, by simp⟩
theorem Two8.grow (h : Two8 w3 s pv qv n E M N a0 L a w g9 g10 l1 h1 l2 h2 u r) (hM : Within M) (hN : Within N) (hb : Below w.heap.size w w') : Two8 w3 s pv qv n E M N a0 L a w' g9 g10 l1 h1 l2 h2 u r := by
  have kp : ∀ {g : Nat} {o : Obj}, w.heap[g]? = some o → w'.heap[g]? = some o := fun {g o} e => (hb.block g (lt_of_blk e)).trans e
  refine ⟨h.size, h.defers, h.other, h.below.trans (hb.mono h.below.size), h.o0, h.o2, fun k => ?_, fun k => ?_, fun k => ?_, fun k => ?_, h.d14, h.d34, h.d15, h.d35, h.d45, fun k => ?_, fun k => ?_⟩
  · obtain ⟨e1, e3, e4, e5⟩ := h.o1 k; exact ⟨e1, hM _ _ _ _ _ (fun k _ k2 => hb.block k (Nat.lt_of_lt_of_le k2 e5)) e3, e4, Nat.le_trans e5 hb.size⟩
  · obtain ⟨e1, e3, e4, e5⟩ := h.o3 k; exact ⟨e1, hN _ _ _ _ _ (fun k _ k2 => hb.block k (Nat.lt_of_lt_of_le k2 e5)) e3, e4, Nat.le_trans e5 hb.size⟩
  · obtain ⟨e1, e2, xs, e3, e4⟩ := h.o4 k; exact ⟨e1, e2, xs, e3, kp e4⟩
  · obtain ⟨e1, e2, xs, e3, e4⟩ := h.o5 k; exact ⟨e1, e2, xs, e3, kp e4⟩
  · obtain ⟨e1, e2, e3⟩ := h.o6 k; exact ⟨e1, e2, kp e3⟩
  · obtain ⟨e1, e2, e3⟩ := h.o7 k; exact ⟨e1, e2, kp e3⟩
theorem Two8.op0 (hs : s.ok a0.tmps.size) (h : Two8 w3 s pv qv n E M N a0 L a w g9 g10 l1 h1 l2 h2 u r) : Two8 w3 s pv qv n E M N a0 (more L 0) (a.put (some s.p) pv) w g9 g10 l1 h1 l2 h2 u r := by
  refine ⟨put_size.trans h.size, put_defers'.trans h.defers, fun k k1 k2 k3 k4 k5 k6 => (put_ne2 (Ne.symm k1)).trans (h.other k k1 k2 k3 k4 k5 k6), h.below, fun _ => put_getD_eq (by rw [h.size]; exact hs.pn), fun k => (put_ne2 hs.pq).trans (h.o2 k), fun k => ?_, fun k => ?_, fun k => ?_, fun k => ?_, h.d14, h.d34, h.d15, h.d35, h.d45, h.o6, h.o7⟩
  · rw [put_ne2 hs.pc]; exact h.o1 k
  · rw [put_ne2 hs.pd]; exact h.o3 k
  · rw [put_ne2 hs.px]; exact h.o4 k
  · rw [put_ne2 hs.py]; exact h.o5 k
theorem Two8.op2 (hs : s.ok a0.tmps.size) (h : Two8 w3 s pv qv n E M N a0 L a w g9 g10 l1 h1 l2 h2 u r) : Two8 w3 s pv qv n E M N a0 (more L 2) (a.put (some s.q) qv) w g9 g10 l1 h1 l2 h2 u r := by
  refine ⟨put_size.trans h.size, put_defers'.trans h.defers, fun k k1 k2 k3 k4 k5 k6 => (put_ne2 (Ne.symm k3)).trans (h.other k k1 k2 k3 k4 k5 k6), h.below, fun k => (put_ne2 hs.pq.symm).trans (h.o0 k), fun _ => put_getD_eq (by rw [h.size]; exact hs.qn), fun k => ?_, fun k => ?_, fun k => ?_, fun k => ?_, h.d14, h.d34, h.d15, h.d35, h.d45, h.o6, h.o7⟩
  · rw [put_ne2 hs.cq.symm]; exact h.o1 k
  · rw [put_ne2 hs.qd]; exact h.o3 k
  · rw [put_ne2 hs.qx]; exact h.o4 k
  · rw [put_ne2 hs.qy]; exact h.o5 k
theorem Two8.op1 {u' : Array Value} (hs : s.ok a0.tmps.size) (hM : Within M) (hN : Within N) (h : Two8 w3 s pv qv n E M N a0 L a w g9 g10 l1 h1 l2 h2 u' r) (h0 : L 1 = false) (hb : Below w.heap.size w w') (hu : M w.heap.size w'.heap.size u w') :
    Two8 w3 s pv qv n E M N a0 (more L 1) (a.put (some s.c) (.agg u)) w' g9 g10 w.heap.size w'.heap.size l2 h2 u r := by
  have g := h.grow hM hN hb
  have hb9 : ∀ {k : L 4 = true}, g9 < w.heap.size := fun {k} => by obtain ⟨_, _, xs, _, e⟩ := h.o4 k; exact lt_of_blk e
  have hb10 : ∀ {k : L 5 = true}, g10 < w.heap.size := fun {k} => by obtain ⟨_, _, xs, _, e⟩ := h.o5 k; exact lt_of_blk e
  refine ⟨put_size.trans h.size, put_defers'.trans h.defers, fun k k1 k2 k3 k4 k5 k6 => (put_ne2 (Ne.symm k2)).trans (h.other k k1 k2 k3 k4 k5 k6), g.below, fun k => (put_ne2 hs.pc.symm).trans (h.o0 k), fun k => (put_ne2 hs.cq).trans (h.o2 k), fun _ => ⟨put_getD_eq (by rw [h.size]; exact hs.cn), hu, h.below.size, Nat.le_refl _⟩, fun k => ?_, fun k => ?_, fun k => ?_, fun _ k => .inl (hb9 (k := k)), h.d34, fun _ k => .inl (hb10 (k := k)), h.d35, h.d45, fun k => ?_, fun k => g.o7 k⟩
  · rw [put_ne2 hs.cd]; exact g.o3 k
  · rw [put_ne2 hs.cx]; exact g.o4 k
  · rw [put_ne2 hs.cy]; exact g.o5 k
  · have := (h.o6 k).2.1; rw [h0] at this; cases this
theorem Two8.op3 {r' : Array Value} (hs : s.ok a0.tmps.size) (hM : Within M) (hN : Within N) (h : Two8 w3 s pv qv n E M N a0 L a w g9 g10 l1 h1 l2 h2 u r') (h0 : L 3 = false) (hb : Below w.heap.size w w') (hr : N w.heap.size w'.heap.size r w') :
    Two8 w3 s pv qv n E M N a0 (more L 3) (a.put (some s.d) (.agg r)) w' g9 g10 l1 h1 w.heap.size w'.heap.size u r := by
  have g := h.grow hM hN hb
  have hb9 : ∀ {k : L 4 = true}, g9 < w.heap.size := fun {k} => by obtain ⟨_, _, xs, _, e⟩ := h.o4 k; exact lt_of_blk e
  have hb10 : ∀ {k : L 5 = true}, g10 < w.heap.size := fun {k} => by obtain ⟨_, _, xs, _, e⟩ := h.o5 k; exact lt_of_blk e
  refine ⟨put_size.trans h.size, put_defers'.trans h.defers, fun k k1 k2 k3 k4 k5 k6 => (put_ne2 (Ne.symm k4)).trans (h.other k k1 k2 k3 k4 k5 k6), g.below, fun k => (put_ne2 hs.pd.symm).trans (h.o0 k), fun k => (put_ne2 hs.qd.symm).trans (h.o2 k), fun k => ?_, fun _ => ⟨put_getD_eq (by rw [h.size]; exact hs.dn), hr, h.below.size, Nat.le_refl _⟩, fun k => ?_, fun k => ?_, h.d14, fun _ k => .inl (hb9 (k := k)), h.d15, fun _ k => .inl (hb10 (k := k)), h.d45, fun k => g.o6 k, fun k => ?_⟩
  · rw [put_ne2 hs.cd.symm]; exact g.o1 k
  · rw [put_ne2 hs.dx]; exact g.o4 k
  · rw [put_ne2 hs.dy]; exact g.o5 k
  · have := (h.o7 k).2.1; rw [h0] at this; cases this
theorem Two8.op4 {g9' : Nat} (hs : s.ok a0.tmps.size) (hM : Within M) (hN : Within N) (h : Two8 w3 s pv qv n E M N a0 L a w g9' g10 l1 h1 l2 h2 u r) (h0 : L 4 = false) (zs : Array Value) (hz : zs.size = n) :
    Two8 w3 s pv qv n E M N a0 (more L 4) (a.put (some s.x) (.pointer (some ⟨w.heap.size, 0, none⟩))) (w.alloc (.cells zs E)) w.heap.size g10 l1 h1 l2 h2 u r := by
  have g := h.grow hM hN (below_new w (.cells zs E))
  refine ⟨put_size.trans h.size, put_defers'.trans h.defers, fun k k1 k2 k3 k4 k5 k6 => (put_ne2 (Ne.symm k5)).trans (h.other k k1 k2 k3 k4 k5 k6), g.below, fun k => (put_ne2 hs.px.symm).trans (h.o0 k), fun k => (put_ne2 hs.qx.symm).trans (h.o2 k), fun k => ?_, fun k => ?_, fun _ => ⟨put_getD_eq (by rw [h.size]; exact hs.xn), h.below.size, zs, hz, heap_alloc_new w _⟩, fun k => ?_, fun k _ => .inr (h.o1 k).2.2.2, fun k _ => .inr (h.o3 k).2.2.2, h.d15, h.d35, fun _ k => ?_, fun k => ?_, fun k => g.o7 k⟩
  · rw [put_ne2 hs.cx.symm]; exact g.o1 k
  · rw [put_ne2 hs.dx.symm]; exact g.o3 k
  · rw [put_ne2 hs.xy]; exact g.o5 k
  · obtain ⟨_, _, xs, _, e⟩ := h.o5 k; have := lt_of_blk e; omega
  · have := (h.o6 k).1; rw [h0] at this; cases this
theorem Two8.op5 {g10' : Nat} (hs : s.ok a0.tmps.size) (hM : Within M) (hN : Within N) (h : Two8 w3 s pv qv n E M N a0 L a w g9 g10' l1 h1 l2 h2 u r) (h0 : L 5 = false) (zs : Array Value) (hz : zs.size = n) :
    Two8 w3 s pv qv n E M N a0 (more L 5) (a.put (some s.y) (.pointer (some ⟨w.heap.size, 0, none⟩))) (w.alloc (.cells zs E)) g9 w.heap.size l1 h1 l2 h2 u r := by
  have g := h.grow hM hN (below_new w (.cells zs E))
  refine ⟨put_size.trans h.size, put_defers'.trans h.defers, fun k k1 k2 k3 k4 k5 k6 => (put_ne2 (Ne.symm k6)).trans (h.other k k1 k2 k3 k4 k5 k6), g.below, fun k => (put_ne2 hs.py.symm).trans (h.o0 k), fun k => (put_ne2 hs.qy.symm).trans (h.o2 k), fun k => ?_, fun k => ?_, fun k => ?_, fun _ => ⟨put_getD_eq (by rw [h.size]; exact hs.yn), h.below.size, zs, hz, heap_alloc_new w _⟩, h.d14, h.d34, fun k _ => .inr (h.o1 k).2.2.2, fun k _ => .inr (h.o3 k).2.2.2, fun k _ => ?_, fun k => g.o6 k, fun k => ?_⟩
  · rw [put_ne2 hs.cy.symm]; exact g.o1 k
  · rw [put_ne2 hs.dy.symm]; exact g.o3 k
  · rw [put_ne2 hs.xy.symm]; exact g.o4 k
  · obtain ⟨_, _, xs, _, e⟩ := h.o4 k; have := lt_of_blk e; omega
  · have := (h.o7 k).1; rw [h0] at this; cases this
theorem Two8.store (hM : Within M) (hN : Within N) (h : Two8 w3 s pv qv n E M N a0 L a w g9 g10 l1 h1 l2 h2 u r) {g : Nat} {arr : Array Value} (hr : RowSet w w' g arr E) (hn : arr.size = n) (hg3 : w3.heap.size ≤ g) (h1g : L 1 = true → g < l1 ∨ h1 ≤ g) (h3g : L 3 = true → g < l2 ∨ h2 ≤ g)
    (h6 : L 6 = true → g ≠ g9) (h7 : L 7 = true → g ≠ g10) : Two8 w3 s pv qv n E M N a0 L a w' g9 g10 l1 h1 l2 h2 u r := by
  refine ⟨h.size, h.defers, h.other, hr.below h.below hg3, h.o0, h.o2, fun k => ?_, fun k => ?_, fun k => ?_, fun k => ?_, h.d14, h.d34, h.d15, h.d35, h.d45, fun k => ?_, fun k => ?_⟩
  · obtain ⟨e1, e3, e4, e5⟩ := h.o1 k
    exact ⟨e1, hM _ _ _ _ _ (fun j k1 k2 => hr.other j (by have := h1g k; omega)) e3, e4, by rw [hr.size]; exact e5⟩
  · obtain ⟨e1, e3, e4, e5⟩ := h.o3 k
    exact ⟨e1, hN _ _ _ _ _ (fun j k1 k2 => hr.other j (by have := h3g k; omega)) e3, e4, by rw [hr.size]; exact e5⟩
  · obtain ⟨e1, e2, xs, e3, e4⟩ := h.o4 k
    by_cases e : g9 = g
    · subst e; exact ⟨e1, e2, _, hn, hr.row⟩
    · exact ⟨e1, e2, xs, e3, (hr.other _ e).trans e4⟩
  · obtain ⟨e1, e2, xs, e3, e4⟩ := h.o5 k
    by_cases e : g10 = g
    · subst e; exact ⟨e1, e2, _, hn, hr.row⟩
    · exact ⟨e1, e2, xs, e3, (hr.other _ e).trans e4⟩
  · obtain ⟨e1, e2, e3⟩ := h.o6 k; exact ⟨e1, e2, (hr.other _ (fun e => h6 k e.symm)).trans e3⟩
  · obtain ⟨e1, e2, e3⟩ := h.o7 k; exact ⟨e1, e2, (hr.other _ (fun e => h7 k e.symm)).trans e3⟩
theorem Two8.op6 (hM : Within M) (hN : Within N) (h : Two8 w3 s pv qv n E M N a0 L a w g9 g10 l1 h1 l2 h2 u r) (h0 : L 6 = false) (k1 : L 1 = true) (k4 : L 4 = true) (k5 : L 5 = true) (hn : u.size = n) (hr : RowSet w w' g9 u E) :
    Two8 w3 s pv qv n E M N a0 (more L 6) a w' g9 g10 l1 h1 l2 h2 u r := by
  obtain ⟨_, e2, _⟩ := h.o4 k4
  have g := h.store hM hN hr hn e2 (fun k => h.d14 k k4) (fun k => h.d34 k k4) (fun k => by rw [h0] at k; cases k) (fun _ => h.d45 k4 k5)
  exact ⟨g.size, g.defers, g.other, g.below, g.o0, g.o2, g.o1, g.o3, g.o4, g.o5, g.d14, g.d34, g.d15, g.d35, g.d45, fun _ => ⟨k4, k1, hr.row⟩, g.o7⟩
theorem Two8.op7 (hM : Within M) (hN : Within N) (h : Two8 w3 s pv qv n E M N a0 L a w g9 g10 l1 h1 l2 h2 u r) (h0 : L 7 = false) (k3 : L 3 = true) (k4 : L 4 = true) (k5 : L 5 = true) (hn : r.size = n) (hr : RowSet w w' g10 r E) :
    Two8 w3 s pv qv n E M N a0 (more L 7) a w' g9 g10 l1 h1 l2 h2 u r := by
  obtain ⟨_, e2, _⟩ := h.o5 k5
  have g := h.store hM hN hr hn e2 (fun k => h.d15 k k5) (fun k => h.d35 k k5) (fun _ e => h.d45 k4 k5 e.symm) (fun k => by rw [h0] at k; cases k)
  exact ⟨g.size, g.defers, g.other, g.below, g.o0, g.o2, g.o1, g.o3, g.o4, g.o5, g.d14, g.d34, g.d15, g.d35, g.d45, g.o6, fun _ => ⟨k5, k3, hr.row⟩⟩
theorem act_eq8 {a b : Act} (h1 : a.tmps.size = b.tmps.size) (h2 : a.defers = b.defers) (h3 : ∀ s, a.tmps.getD s undef = b.tmps.getD s undef) : a = b := by
  obtain ⟨t, d⟩ := a
  obtain ⟨t', d'⟩ := b
  simp only at h1 h2 h3
  subst h2
  have : t = t' := by
    apply Array.ext h1
    intro i hi hi'
    have := h3 i
    rw [Array.getD_eq_getD_getElem?, Array.getD_eq_getD_getElem?, Array.getElem?_eq_getElem hi, Array.getElem?_eq_getElem hi'] at this
    simpa using this
  rw [this]
theorem Two8.act (hs : s.ok a0.tmps.size) (h : Two8 w3 s pv qv n E M N a0 L a w g9 g10 l1 h1 l2 h2 u r) (hL : ∀ i, i < 8 → L i = true) :
    a = (((((a0.put (some s.p) pv).put (some s.c) (.agg u)).put (some s.q) qv).put (some s.d) (.agg r)).put (some s.x) (.pointer (some ⟨g9, 0, none⟩))).put (some s.y) (.pointer (some ⟨g10, 0, none⟩)) := by
  have k0 := h.o0 (hL 0 (by omega))
  have k1 := (h.o1 (hL 1 (by omega))).1
  have k2 := h.o2 (hL 2 (by omega))
  have k3 := (h.o3 (hL 3 (by omega))).1
  have k4 := (h.o4 (hL 4 (by omega))).1
  have k5 := (h.o5 (hL 5 (by omega))).1
  refine act_eq8 ?_ ?_ fun k => ?_
  · rw [put_size, put_size, put_size, put_size, put_size, put_size]; exact h.size
  · rw [put_defers', put_defers', put_defers', put_defers', put_defers', put_defers']; exact h.defers
  · by_cases e10 : k = s.y
    · subst e10
      rw [put_getD_eq (by rw [put_size, put_size, put_size, put_size, put_size]; exact hs.yn)]
      exact k5
    rw [put_ne2 (Ne.symm e10)]
    by_cases e9 : k = s.x
    · subst e9
      rw [put_getD_eq (by rw [put_size, put_size, put_size, put_size]; exact hs.xn)]
      exact k4
    rw [put_ne2 (Ne.symm e9)]
    by_cases e28 : k = s.d
    · subst e28
      rw [put_getD_eq (by rw [put_size, put_size, put_size]; exact hs.dn)]
      exact k3
    rw [put_ne2 (Ne.symm e28)]
    by_cases e27 : k = s.q
    · subst e27
      rw [put_getD_eq (by rw [put_size, put_size]; exact hs.qn)]
      exact k2
    rw [put_ne2 (Ne.symm e27)]
    by_cases e26 : k = s.c
    · subst e26
      rw [put_getD_eq (by rw [put_size]; exact hs.cn)]
      exact k1
    rw [put_ne2 (Ne.symm e26)]
    by_cases e25 : k = s.p
    · subst e25
      rw [put_getD_eq hs.pn]
      exact k0
    rw [put_ne2 (Ne.symm e25)]
    exact h.other k e25 e26 e27 e28 e9 e10
end
end Go.Proofs.YtiiiklenhmhccaaGreatDoor

namespace Go.Proofs.YtiiiklenhmhccaaGreatDoor
open Go Go.RowKit
set_option linter.unusedVariables false
section
variable {P : Program} {ops : Array Oper} {Q : Exit → Act → World → Prop} {a0 : Act} {w0 : World}
theorem wp_region_midG {id N : Nat} (Pr : Nat → Value → World → Prop) (hm : P.follows .mixedOrders = true) (hok : regionOk ops N = true) (hN : a0.tmps.size = N)
    (hst : ∀ i v w w', Below w0.heap.size w0 w → Below w.heap.size w w' → Pr i v w → Pr i v w')
    (hop : ∀ i o a w, ops[i]? = some o → Mid ops Pr a0 w0 a w → (∀ j, (o.after.any fun e => e.on == j && Region.binds .any e) = true → Done ops Pr j a w) →
      (Region.wanted o (yielded ops a.tmps) = true ∧ o.wp P a w (fun a' w' => ∃ v, a' = a.put o.dst v ∧ Pr i v w' ∧ Below w.heap.size w w') Q) ∨ (Region.wanted o (yielded ops a.tmps) = false ∧ Pr i undef w))
    (hend : ∀ a w, Mid ops Pr a0 w0 a w → (∀ i, i < ops.size → Done ops Pr i a w) → Q .normal a w) :
    (Code.region id ops true).wp P Q a0 w0 := by
  have hok' := hok
  simp only [regionOk, Bool.and_eq_true, decide_eq_true_eq] at hok'
  have hput : ∀ (i : Nat) (o : Oper) (L : Nat → Bool) (a : Act) (w w' : World) (v : Value), ops[i]? = some o → (Mid ops Pr a0 w0 a w ∧ ∀ k, L k = true → Done ops Pr k a w) → Below w.heap.size w w' → Pr i v w' →
      (Mid ops Pr a0 w0 (a.put o.dst v) w' ∧ ∀ k, more L i k = true → Done ops Pr k (a.put o.dst v) w') := by
    intro i o L a w w' v ho ⟨hM, h5⟩ hb hv
    refine ⟨⟨put_size.trans hM.tmps, put_defers'.trans hM.defers, hM.below.trans (hb.mono hM.below.size), fun s hs => (put_getD_ne (fun e => hs (mem_dsts ho e))).trans (hM.other s hs)⟩, fun k hk o' d ho' hd => ?_⟩
    by_cases hki : k = i
    · subst hki
      obtain rfl : o' = o := Option.some.inj (ho'.symm.trans ho)
      rw [hd, put_getD_eq (by rw [hM.tmps, hN]; simpa using (List.all_eq_true.1 hok'.1.2) d (mem_dsts ho hd))]
      exact hv
    · have hk' : L k = true := by unfold more at hk; rwa [if_neg hki] at hk
      rw [put_getD_ne (fun e => hki (dst_inj hok'.1.1 ho' ho hd e))]
      exact hst k _ w w' hM.below hb (h5 k hk' o' d ho' hd)
  refine wp_region_any hm (wpAny_gen3 (fun L a w => Mid ops Pr a0 w0 a w ∧ ∀ k, L k = true → Done ops Pr k a w) (regionOk_back hok) (fun i o L a w ho h1 hI hD => ?_) (fun L a w hI hall => hend a w hI.1 fun k hk => hI.2 k (hall k hk)) _ _ _ _ (by simp) ?_ ?_)
  · have hD' : ∀ k, (o.after.any fun e => e.on == k && Region.binds .any e) = true → Done ops Pr k a w := fun k hj => by
      rw [← Array.any_toList, List.any_eq_true] at hj
      obtain ⟨e, he, hj⟩ := hj
      have he := Array.mem_toList_iff.1 he
      simp only [Bool.and_eq_true, beq_iff_eq] at hj
      rw [← hj.1]
      exact hI.2 _ (hD e he hj.2)
    rcases hop i o a w ho hI.1 hD' with ⟨hw, hwp⟩ | ⟨hw, hv⟩
    · refine .inl ⟨hw, Oper.wp_mono ?_ hwp⟩
      rintro a' w' ⟨v, rfl, hv, hb⟩
      exact hput i o L a w w' v ho hI hb hv
    · exact .inr ⟨hw, hput i o L a w w undef ho hI (Below.refl _ _) hv⟩
  · simp
  · have e : (fun k => (Array.replicate ops.size false).getD k false) = fun _ => false := by
      funext k
      rw [Array.getD_eq_getD_getElem?, Array.getElem?_replicate]
      split <;> rfl
    rw [e]
    exact ⟨⟨rfl, rfl, below_drew1 w0, fun _ _ => rfl⟩, fun k hk => by cases hk⟩
end
end Go.Proofs.YtiiiklenhmhccaaGreatDoor
