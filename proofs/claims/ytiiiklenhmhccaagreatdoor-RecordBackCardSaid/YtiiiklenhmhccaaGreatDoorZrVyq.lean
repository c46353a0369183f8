/-
  Layer 3, for layer 5: two frames the same, the program's.
  Layer 5: Text, the document's.
  Layer 5: Text, the program's.
  Layer 5: the statements' FewRecord.
  Layer 5: docs.Record: the document's record of a program's, in new memory.
  Layer 5: RecordPuts: what its walk needs.
-/
import Derived.Test.YtiiiklenhmhccaaGreatDoorZrSup
import Derived.Test.YtiiiklenhmhccaaGreatDoorZpVfd
import Derived.StillTailTactics
import Derived.Deep.RegionHeld3
import Derived.Test.YtiiiklenhmhccaaGreatDoorZpVcv
import Derived.Test.YtiiiklenhmhccaaGreatDoorZpTqb
import Derived.Test.YtiiiklenhmhccaaGreatDoorZpTp4
import Derived.Test.YtiiiklenhmhccaaGreatDoorZpVpu
import Derived.Test.YtiiiklenhmhccaaGreatDoorZpIny
import Derived.Test.YtiiiklenhmhccaaGreatDoorZpTbo
import Derived.Test.YtiiiklenhmhccaaGreatDoorZpVri
import Derived.Test.YtiiiklenhmhccaaGreatDoorZpTkd
import Derived.Test.YtiiiklenhmhccaaGreatDoorZpTdn
import Derived.Great.BuildSlice
import Derived.Deep.DeepCutAuto
import Derived.Deep.CutBlock
import Derived.Deep.RegionLaw
import Derived.Test.YtiiiklenhmhccaaGreatDoorZpTrw
import Derived.Test.YtiiiklenhmhccaaGreatDoorZpInq
import Derived.Test.YtiiiklenhmhccaaGreatDoorZpVlk
import Derived.Test.YtiiiklenhmhccaaGreatDoorZpVcm
import Derived.Test.YtiiiklenhmhccaaGreatDoorZrVyz
import Derived.Test.YtiiiklenhmhccaaGreatDoorZpInk

namespace Go.Proofs.YtiiiklenhmhccaaGreatDoor
open Go Go.RowKit
set_option linter.unusedVariables false
theorem equal_any (B B' : Nat) (A A' : Option Addr) (n n' c c' : Nat) (l m : List Nat) (w : World) (h : Rd w B 1 A n (bs l)) (h' : Rd w B' 1 A' n' (bs m)) (hl : ∀ x ∈ l, x < 256) (hm : ∀ x ∈ m, x < 256) :
    Calls Tryz.prog 71 #[.slice A n c, .slice A' n' c'] w fun e w' => e = .returned (.bool (eqB l m)) ∧ w = w' := by
  have h1 := run_str (c := c) h (rd_none h)
  have h2 := run_str (c := c') h' (rd_none h')
  have he : eqB l m = ((strb l).data.toList == (strb m).data.toList) := by
    rw [Bool.eq_iff_iff]
    unfold eqB
    rw [decide_eq_true_iff, beq_iff_eq]
    exact ⟨fun e => by rw [e], strb_inj hl hm⟩
  have HE := Lib_hid he
  clear he hl hm h h'
  generalize strb l = s1 at *
  generalize strb m = s2 at *
  go_enter Tryz.func71, Tryz.ntmps71
  go_wp2
  go_ret
  exact ⟨by rw [HE.out, ← Lib.toList_data, ← Lib.toList_data]; rfl, rfl⟩
theorem sameF_eq {d d' : Nat × List Nat} : sameF d d' = true ↔ d = d' := by
  unfold sameF eqB
  rw [Bool.and_eq_true, decide_eq_true_iff, decide_eq_true_iff]
  exact ⟨fun h => Prod.ext h.1 h.2, fun h => by rw [h]; exact ⟨rfl, rfl⟩⟩
set_option maxRecDepth 100000 in
theorem fsame_any (B B' k k' : Nat) (A A' : Option Addr) (m m' c c' : Nat) (p p' : List Nat) (w : World) (h : Rd w B 1 A m (bs p)) (h' : Rd w B' 1 A' m' (bs p')) (hp : ∀ x ∈ p, x < 256) (hp' : ∀ x ∈ p', x < 256) (hB : B ≤ w.heap.size) (hB' : B' ≤ w.heap.size) :
    Calls Tryz.prog 33 #[.agg #[.int .u8 (k : Int), .slice A m c], .agg #[.int .u8 (k' : Int), .slice A' m' c']] w fun e w' => e = .returned (.bool (sameF (k, p) (k', p'))) ∧ Below w.heap.size w w' := by
  have hb1 := below_new w (.cells #[.int .u8 (k : Int), .slice A m c] 48)
  have hb2 := hb1.trans ((below_new _ (.cells #[.int .u8 (k' : Int), .slice A' m' c'] 48)).mono hb1.size)
  have E := equal_any B B' A A' m m' c c' p p' _ (h.below (hb2.mono hB)) (h'.below (hb2.mono hB')) hp hp'
  have HE := Lib_hid E
  clear E h h' hp hp' hb1
  by_cases hk : k = k'
  · subst hk
    have e : sameF (k, p) (k, p') = eqB p p' := by unfold sameF; simp
    rw [e]
    clear e
    generalize eqB p p' = r at *
    go_enter Tryz.func33, Tryz.ntmps33
    go_wp2_with fail
    refine HE.out.mono ?_
    rintro e w1 ⟨rfl, rfl⟩
    go_wp2_with fail
    go_ret
    exact ⟨rfl, hb2⟩
  · have e : sameF (k, p) (k', p') = false := by unfold sameF; simp [hk]
    rw [e]
    clear e HE
    have hk2 : ((k : Int) == (k' : Int)) = false := by simp; omega
    have hk3 : decide ((k : Int) = (k' : Int)) = false := by simp; omega
    go_enter Tryz.func33, Tryz.ntmps33
    go_wp2_with fail
    go_ret
    exact ⟨rfl, hb2⟩
end Go.Proofs.YtiiiklenhmhccaaGreatDoor

namespace Go.Proofs.YtiiiklenhmhccaaGreatDoor
open Go Go.RowKit
set_option linter.unusedVariables false
theorem tell_one {r : Rc} (h : r.kind = 1 ∨ r.kind = 6 ∨ r.kind = 7) : r.tell = nameL r.kind ++ [32] ++ Lib.decDigits r.t := by
  rw [tell_ws, show partsN r.kind 6 = [0] by rw [partsN_of]; rcases h with h | h | h <;> rw [h] <;> rfl, wsL_cons]
  show nameL r.kind ++ (([32] ++ Lib.decDigits r.t ++ []) ++ []) = _
  simp
theorem tell_k2 {r : Rc} (h : r.kind = 2) : r.tell = nameL 2 ++ [32] ++ Lib.decDigits r.t ++ [32] ++ Lib.decDigits r.x ++ [32] ++ verL r.w r.n := by
  rw [tell_ws, show partsN r.kind 6 = [0, 1, 2] by rw [partsN_of, h]; rfl, wsL_cons, wsL_cons, wsL_cons, h]
  show nameL 2 ++ (([32] ++ Lib.decDigits r.t ++ []) ++ (([32] ++ Lib.decDigits r.x ++ []) ++ (([32] ++ verL r.w r.n ++ []) ++ []))) = _
  simp
theorem tell_k3 {r : Rc} (h : r.kind = 3) : r.tell = nameL 3 ++ [32] ++ Lib.decDigits r.t ++ [32] ++ Lib.decDigits r.x ++ [32] ++ Lib.decDigits r.v := by
  rw [tell_ws, show partsN r.kind 6 = [0, 1, 3] by rw [partsN_of, h]; rfl, wsL_cons, wsL_cons, wsL_cons, h]
  show nameL 3 ++ (([32] ++ Lib.decDigits r.t ++ []) ++ (([32] ++ Lib.decDigits r.x ++ []) ++ (([32] ++ Lib.decDigits r.v ++ []) ++ []))) = _
  simp
theorem tell_k4 {r : Rc} (h : r.kind = 4) : r.tell = nameL 4 ++ [32] ++ Lib.decDigits r.t ++ [32] ++ Lib.decDigits r.x := by
  rw [tell_ws, show partsN r.kind 6 = [0, 1] by rw [partsN_of, h]; rfl, wsL_cons, wsL_cons, h]
  show nameL 4 ++ (([32] ++ Lib.decDigits r.t ++ []) ++ (([32] ++ Lib.decDigits r.x ++ []) ++ [])) = _
  simp
theorem tell_k5 {r : Rc} (h : r.kind = 5) : r.tell = nameL 5 ++ [32] ++ Lib.decDigits r.t ++ [32] ++ r.p.text ++ ensL r.es := by
  rw [tell_ws, show partsN r.kind 6 = [0, 4, 5] by rw [partsN_of, h]; rfl, wsL_cons, wsL_cons, wsL_cons, h]
  show nameL 5 ++ (([32] ++ Lib.decDigits r.t ++ []) ++ (([32] ++ r.p.text ++ []) ++ ((r.es.map En.tell).flatMap ([32] ++ ·) ++ []))) = _
  rw [ens_ws]
  simp
theorem ensL_size {es : List En} (h : ∀ e ∈ es, e.ok) : (ensL es).length ≤ 84 * es.length := by
  induction es with
  | nil => exact Nat.le_refl _
  | cons e es ih =>
    have h1 := En.tell_len (h e (by simp))
    have h2 := ih fun x hx => h x (by simp [hx])
    show (32 :: e.tell ++ ensL es).length ≤ _
    rw [List.length_append, List.length_cons, List.length_cons]
    omega
theorem nameL_len (k : Int) : (nameL k).length ≤ 6 := by
  unfold nameL
  repeat' split
  all_goals decide
end Go.Proofs.YtiiiklenhmhccaaGreatDoor

namespace Go.Proofs.YtiiiklenhmhccaaGreatDoor
open Go Go.RowKit
set_option linter.unusedVariables false
set_option maxRecDepth 100000 in
theorem tellpartEntries_any (B : Nat) (r : Rv) (w : World) (lo hi : Nat) (hL : RLies w lo hi r) (hhi : hi ≤ w.heap.size) (hE : Env B w) (hB : B ≤ w.heap.size) (hes : r.es.length ≤ 100000) : Calls Tryz.prog 149 #[r.val] w (TellEnd (r.abs.wordsP 5) w) := by
  have CD : Hid (∀ W, Below w.heap.size w W → Calls Tryz.prog 150 #[.slice r.A r.es.length r.c] W (TellEnd (r.abs.wordsP 5) W)) := fun W hW =>
    tellentries_any B r.es r.A r.c hi W (hL.es.below (hW.mono hhi)) (Nat.le_trans hhi hW.size) hL.ok hes (hE.under (hW.mono (Nat.le_refl _)) hB) (Nat.le_trans hB hW.size)
  generalize r.abs.wordsP 5 = ws at *
  clear hL hhi hE hB hes
  obtain ⟨k, t, x, wn, nn, v, p, A, c, es⟩ := r
  simp only [Rv.val, Rv.arr, Rv.sl, V.sl] at CD ⊢
  generalize p.addr = pA at *
  generalize p.parts.length = pn at *
  generalize p.cap = pc at *
  generalize p.kind = pk at *
  generalize (p.a : Int) = pa at *
  generalize (p.b : Int) = pb at *
  generalize es.length = en at *
  have h1 := heap_alloc_new w (.cells #[.int .i64 k, .int .u64 (t : Int), .int .u64 (x : Int), .int .u64 (wn : Int), .int .u64 (nn : Int), .int .u64 (v : Int), .int .i64 pk, .int .u64 pa, .int .u64 pb, .slice pA pn pc, .slice A en c] 30)
  have b1 := below_new w (.cells #[.int .i64 k, .int .u64 (t : Int), .int .u64 (x : Int), .int .u64 (wn : Int), .int .u64 (nn : Int), .int .u64 (v : Int), .int .i64 pk, .int .u64 pa, .int .u64 pb, .slice pA pn pc, .slice A en c] 30)
  have CD2 := CD.out _ b1
  go_enter Tryz.func149, Tryz.ntmps149
  go_upto_region 1 with (fail)
  generalize w.alloc (.cells #[.int .i64 k, .int .u64 (t : Int), .int .u64 (x : Int), .int .u64 (wn : Int), .int .u64 (nn : Int), .int .u64 (v : Int), .int .i64 pk, .int .u64 pa, .int .u64 pb, .slice pA pn pc, .slice A en c] 30) = w1 at *
  obtain ⟨c0, c1, c2, c3, c4, c5, c6, c7, c8, c9, c10⟩ := rec_cells h1
  go_wp2_with fail
  refine CD2.mono ?_
  rintro e w2 ⟨A2, cc, rfl, ho, hb2⟩
  have FF : Hid (TellEnd ws w (.returned (.slice A2 ws.length cc)) w2) := ⟨A2, cc, rfl, own_base ho (fun j hj => Nat.le_trans b1.size (own_ge ho j hj)), b1.trans (hb2.mono b1.size)⟩
  clear c0 c1 c2 c3 c4 c5 c6 c7 c8 c9 c10 h1 b1 hb2 CD CD2 ho
  go_wp2
  go_ret
  exact FF.out
theorem tell6_any (i : Nat) (hi6 : i < 6) (B : Nat) (r : Rv) (w : World) (lo hi : Nat) (hL : RLies w lo hi r) (hhi : hi ≤ w.heap.size) (hE : Env B w) (hB : B ≤ w.heap.size) (hes : r.es.length ≤ 100000) : Calls Tryz.prog (mtellF i) #[r.val] w (TellEnd (r.abs.wordsP i) w) := by
  have : i = 0 ∨ i = 1 ∨ i = 2 ∨ i = 3 ∨ i = 4 ∨ i = 5 := by omega
  rcases this with rfl | rfl | rfl | rfl | rfl | rfl
  · exact tellpartT_any B r w lo hi hL hhi hE hB
  · exact tellpartX_any B r w lo hi hL hhi hE hB
  · exact tellpartV_any B r w lo hi hL hhi hE hB
  · exact tellpartValue_any B r w lo hi hL hhi hE hB
  · exact tellpartP_any B r w lo hi hL hhi hE hB
  · exact tellpartEntries_any B r w lo hi hL hhi hE hB hes
set_option maxRecDepth 100000 in
theorem call_tell {i : Nat} (hi6 : i < 6) : ∀ (args : Array Value) (wx : World), (callFunc (mtellF i) args).run Tryz.prog wx = .ok (.enter (mtellF i) args) wx := by
  have : i = 0 ∨ i = 1 ∨ i = 2 ∨ i = 3 ∨ i = 4 ∨ i = 5 := by omega
  rcases this with rfl | rfl | rfl | rfl | rfl | rfl <;> exact fun args wx => by kernel_rfl
theorem wordsP_len (r : Rc) (i : Nat) : (r.wordsP i).length ≤ r.es.length + 1 := by
  unfold Rc.wordsP
  repeat' split
  all_goals simp
theorem wordsN_len (r : Rc) : ∀ l : List Nat, (r.wordsN l).length ≤ l.length * (r.es.length + 1)
  | [] => by simp [Rc.wordsN]
  | i :: l => by
    have h1 := wordsP_len r i
    have h2 := wordsN_len r l
    have e : r.wordsN (i :: l) = r.wordsP i ++ r.wordsN l := by simp [Rc.wordsN]
    rw [e, List.length_append, List.length_cons, Nat.succ_mul]
    omega
theorem tell_size (r : Rv) (w : World) (lo hi : Nat) (hL : RLies w lo hi r) (hct : r.p.abs.count ≤ 1000) (hk : 1 ≤ r.kind ∧ r.kind ≤ 7) (hes : r.es.length ≤ 1000) : r.abs.tell.length ≤ 1000000 := by
  have hpt : r.p.abs.text.length ≤ 50000 := by
    have := tell_len r.p hL.p
    unfold T.text
    split
    · omega
    · simp
  have h1 := dec_len hL.t
  have h2 := dec_len hL.x
  have h3 := dec_len hL.v
  have h4 := verL_len hL.wn hL.n
  have h5 := ensL_size hL.ok
  have e5 : r.abs.p.text.length = r.p.abs.text.length := rfl
  have hkk : (r.kind = 1 ∨ r.kind = 6 ∨ r.kind = 7) ∨ r.kind = 2 ∨ r.kind = 3 ∨ r.kind = 4 ∨ r.kind = 5 := by omega
  rcases hkk with h | h | h | h | h
  · have hn := nameL_len r.kind
    rw [tell_one (r := r.abs) h]
    show (nameL r.kind ++ [32] ++ Lib.decDigits r.t).length ≤ _
    simp only [List.length_append, List.length_cons, List.length_nil]
    omega
  · have hn := nameL_len 2
    rw [tell_k2 (r := r.abs) h]
    show (nameL 2 ++ [32] ++ Lib.decDigits r.t ++ [32] ++ Lib.decDigits r.x ++ [32] ++ verL r.w r.n).length ≤ _
    simp only [List.length_append, List.length_cons, List.length_nil]
    omega
  · have hn := nameL_len 3
    rw [tell_k3 (r := r.abs) h]
    show (nameL 3 ++ [32] ++ Lib.decDigits r.t ++ [32] ++ Lib.decDigits r.x ++ [32] ++ Lib.decDigits r.v).length ≤ _
    simp only [List.length_append, List.length_cons, List.length_nil]
    omega
  · have hn := nameL_len 4
    rw [tell_k4 (r := r.abs) h]
    show (nameL 4 ++ [32] ++ Lib.decDigits r.t ++ [32] ++ Lib.decDigits r.x).length ≤ _
    simp only [List.length_append, List.length_cons, List.length_nil]
    omega
  · have hn := nameL_len 5
    rw [tell_k5 (r := r.abs) h]
    show (nameL 5 ++ [32] ++ Lib.decDigits r.t ++ [32] ++ r.p.abs.text ++ ensL r.es).length ≤ _
    simp only [List.length_append, List.length_cons, List.length_nil]
    omega
set_option maxRecDepth 100000 in
set_option maxHeartbeats 6400000 in
theorem ptext5_any (B : Nat) (r : Rv) (w : World) (lo hi : Nat) (hL : RLies w lo hi r) (hhi : hi ≤ w.heap.size) (hE : Env B w) (hB : B ≤ w.heap.size) (hct : r.p.abs.count ≤ 1000) (hes : r.es.length ≤ 1000) :
    Calls Tryz.prog 14 #[r.val] w fun e w' => e = .returned (.string ⟨r.abs.text.toArray⟩) ∧ Below w.heap.size w w' := by
  obtain ⟨i0, hi0, hz0, hz1, hz2⟩ := info_parts Tryz.infoS
  have RG : Hid (∀ W, Below w.heap.size w W → Calls Tryz.prog 16 #[r.val] W fun e w' => e = .returned (.bool r.abs.rightB) ∧ Below W.heap.size W w') := fun W hW => right5_any r W lo hi (hL.under (hW.mono hhi)) (Nat.le_trans hhi hW.size)
  have TL : Hid (∀ q, q < 6 → ∀ W, Below w.heap.size w W → Calls Tryz.prog (mtellF q) #[r.val] W (TellEnd (r.abs.wordsP q) W)) := fun q hq W hW => tell6_any q hq B r W lo hi (hL.under (hW.mono hhi)) (Nat.le_trans hhi hW.size) (hE.under (hW.mono (Nat.le_refl _)) hB) (Nat.le_trans hB hW.size) (by omega)
  have HSZ : Hid (r.abs.rightB = true → r.abs.tell.length ≤ 1000000) := fun h => tell_size r w lo hi hL hct (right_shape h).1 hes
  have HWN : Hid (∀ l : List Nat, l.length ≤ 6 → (r.abs.wordsN l).length ≤ 6006) := fun l hl => by
    have := wordsN_len r.abs l
    have h2 : r.abs.es.length = r.es.length := rfl
    have h3 : l.length * (r.abs.es.length + 1) ≤ 6 * 1001 := Nat.mul_le_mul hl (by omega)
    omega
  have HTXT : Hid (r.abs.text = if r.abs.rightB then r.abs.tell else []) := rfl
  have HTE : Hid (r.abs.tell = Lib.join (nameL r.kind :: r.abs.wordsN (partsN r.kind 6)) [32]) := rfl
  have HK : Hid (r.abs.rightB = true → 1 ≤ r.kind ∧ r.kind ≤ 7) := fun h => (right_shape h).1
  have HSN : Hid (∀ (l : List Nat) (i j : Nat), l[i]? = some j → r.abs.wordsN (l.take (i + 1)) = r.abs.wordsN (l.take i) ++ r.abs.wordsP j) := fun l i j h => wordsN_snoc h
  have HW0 : Hid (r.abs.wordsN [] = []) := rfl
  clear hL hhi hE hB hct hes
  generalize r.abs.text = rt at *
  generalize r.abs.tell = rtl at *
  generalize r.abs.rightB = rr at *
  generalize r.abs.wordsN = WN at *
  generalize r.abs.wordsP = WP at *
  obtain ⟨k, t, x, wn, nn, v, p, A, c, es⟩ := r
  simp only [Rv.val, Rv.arr, Rv.sl, V.sl] at RG TL HTE HK ⊢
  generalize p.addr = pA at *
  generalize p.parts.length = pn at *
  generalize p.cap = pc at *
  generalize p.kind = pk at *
  generalize (p.a : Int) = pa at *
  generalize (p.b : Int) = pb at *
  generalize es.length = en at *
  have h1 := heap_alloc_new w (.cells #[.int .i64 k, .int .u64 (t : Int), .int .u64 (x : Int), .int .u64 (wn : Int), .int .u64 (nn : Int), .int .u64 (v : Int), .int .i64 pk, .int .u64 pa, .int .u64 pb, .slice pA pn pc, .slice A en c] 30)
  have b1 := below_new w (.cells #[.int .i64 k, .int .u64 (t : Int), .int .u64 (x : Int), .int .u64 (wn : Int), .int .u64 (nn : Int), .int .u64 (v : Int), .int .i64 pk, .int .u64 pa, .int .u64 pb, .slice pA pn pc, .slice A en c] 30)
  have RG2 := RG.out _ b1
  go_enter Tryz.func14, Tryz.ntmps14
  go_upto_region 1 with (fail)
  generalize w.alloc (.cells #[.int .i64 k, .int .u64 (t : Int), .int .u64 (x : Int), .int .u64 (wn : Int), .int .u64 (nn : Int), .int .u64 (v : Int), .int .i64 pk, .int .u64 pa, .int .u64 pb, .slice pA pn pc, .slice A en c] 30) = w1 at *
  obtain ⟨c0, c1, c2, c3, c4, c5, c6, c7, c8, c9, c10⟩ := rec_cells h1
  go_wp2_with fail
  refine RG2.mono ?_
  rintro e w2 ⟨rfl, hb2⟩
  have hx2 := (hb2.block _ (lt_of_block h1)).trans h1
  have hbw := b1.trans (hb2.mono b1.size)
  clear c0 c1 c2 c3 c4 c5 c6 c7 c8 c9 c10 h1 b1 hb2 RG RG2
  cases hr : rr with
  | false =>
    have HF : Hid (rt = []) := by unfold Hid; rw [HTXT.out, hr]; rfl
    clear HTXT HTE HSZ HK hr
    go_wp2
    go_ret
    exact ⟨by rw [HF.out]; rfl, hbw⟩
  | true =>
    have hk17 := HK.out hr
    have HSZ2 := Lib_hid (HSZ.out hr)
    have HF : Hid (rt = rtl) := by unfold Hid; rw [HTXT.out, hr]; rfl
    clear HTXT HSZ HK hr
    obtain ⟨kn, rfl⟩ : ∃ kn : Nat, k = kn := ⟨k.toNat, by omega⟩
    have BX : Hid (∀ W, Below w2.heap.size w2 W → W.heap[w.heap.size]? = some (.cells #[.int .i64 (kn : Int), .int .u64 (t : Int), .int .u64 (x : Int), .int .u64 (wn : Int), .int .u64 (nn : Int), .int .u64 (v : Int), .int .i64 pk, .int .u64 pa, .int .u64 pb, .slice pA pn pc, .slice A en c] 30 (0, 0)) ∧ Below w.heap.size w W) := fun W hW => ⟨(hW.block _ (lt_of_block hx2)).trans hx2, hbw.trans (hW.mono hbw.size)⟩
    have HIX := Lib_hid (index_name (i := kn) (by omega))
    have hsw := hbw.size
    have hlx := lt_of_block hx2
    clear hx2 hbw
    go_upto_region 3 with (fail)
    refine wp_region_midU (N := 31) 6 (fun i v ww => ([fun v ww => v = .agg namesA, fun v ww => v = .pointer (some ⟨w.heap.size, 0, none⟩), fun v ww => v = .int .i64 (kn : Int), fun v ww => v = .string ⟨(nameL (kn : Int)).toArray⟩, fun v ww => ∃ h, v = .slice (some ⟨h, 0, none⟩) 1 1 ∧ ww.heap[h]? = some (.cells #[.string ⟨(nameL (kn : Int)).toArray⟩] 9 (0, 0)) ∧ w2.heap.size ≤ h, fun v ww => ∃ h, v = .slice (some ⟨h, 0, none⟩) 1 1 ∧ ww.heap[h]? = some (.cells #[.string ⟨(nameL (kn : Int)).toArray⟩] 9 (0, 0)) ∧ w2.heap.size ≤ h] : List (Value → World → Prop)).getD i (fun _ _ => True) v ww) (by kernel_rfl) (by kernel_rfl) (by kernel_rfl) rfl ?_ ?_ ?_
    · intro i v wa wb h0 hb hp
      by_cases hi : i < 6
      · have hcase : i = 0 ∨ i = 1 ∨ i = 2 ∨ i = 3 ∨ i = 4 ∨ i = 5 := by omega
        rcases hcase with rfl | rfl | rfl | rfl | rfl | rfl
        · exact hp
        · exact hp
        · exact hp
        · exact hp
        · obtain ⟨h, e, hh, hq⟩ := hp
          exact ⟨h, e, (hb.block h (lt_of_block hh)).trans hh, hq⟩
        · obtain ⟨h, e, hh, hq⟩ := hp
          exact ⟨h, e, (hb.block h (lt_of_block hh)).trans hh, hq⟩
      · have hnn : ([fun v ww => v = .agg namesA, fun v ww => v = .pointer (some ⟨w.heap.size, 0, none⟩), fun v ww => v = .int .i64 (kn : Int), fun v ww => v = .string ⟨(nameL (kn : Int)).toArray⟩, fun v ww => ∃ h, v = .slice (some ⟨h, 0, none⟩) 1 1 ∧ ww.heap[h]? = some (.cells #[.string ⟨(nameL (kn : Int)).toArray⟩] 9 (0, 0)) ∧ w2.heap.size ≤ h, fun v ww => ∃ h, v = .slice (some ⟨h, 0, none⟩) 1 1 ∧ ww.heap[h]? = some (.cells #[.string ⟨(nameL (kn : Int)).toArray⟩] 9 (0, 0)) ∧ w2.heap.size ≤ h] : List (Value → World → Prop))[i]? = none := List.getElem?_eq_none (by simpa using hi)
        rw [List.getD_eq_getElem?_getD, hnn]
        trivial
    · intro i o a wx hi8 hi hM hU hD
      have hcase : i = 0 ∨ i = 1 ∨ i = 2 ∨ i = 3 ∨ i = 4 ∨ i = 5 := by omega
      clear hi8
      rcases hcase with rfl | rfl | rfl | rfl | rfl | rfl
      · obtain rfl := Option.some.inj hi
        refine ⟨rfl, mid_call (fun v w' => v = (.agg namesA) ∧ Below wx.heap.size wx w') (fun K hK => ?_) (fun v w' h => ⟨v, rfl, h.1, h.2⟩)⟩
        go_simp
        refine (names_any wx).mono ?_
        rintro e w' ⟨rfl, hb'⟩
        exact hK _ _ ⟨rfl, hb'⟩
      · obtain rfl := Option.some.inj hi
        have e1 : a.tmps.getD 1 undef = .pointer (some ⟨w.heap.size, 0, none⟩) := (hM.other 1 (by decide +kernel)).trans rfl
        refine ⟨rfl, mid_step (.pointer (some ⟨w.heap.size, 0, none⟩)) wx (fun K hK => ?_) ⟨_, rfl, rfl, Below.refl _ _⟩⟩
        go_simp
        exact hK
      · obtain rfl := Option.some.inj hi
        have e10 : a.tmps.getD 10 undef = .pointer (some ⟨w.heap.size, 0, none⟩) := hD 1 (by kernel_rfl) _ 10 rfl rfl
        obtain ⟨c0, c1, -, -, -, -, -, -, -, -, -⟩ := rec_cells (BX.out wx hM.below).1
        refine ⟨rfl, mid_step (.int .i64 (kn : Int)) wx (fun K hK => ?_) ⟨_, rfl, rfl, Below.refl _ _⟩⟩
        go_simp
        exact hK
      · obtain rfl := Option.some.inj hi
        have e9 : a.tmps.getD 9 undef = .agg namesA := hD 0 (by kernel_rfl) _ 9 rfl rfl
        have e11 : a.tmps.getD 11 undef = .int .i64 (kn : Int) := hD 2 (by kernel_rfl) _ 11 rfl rfl
        have hix := HIX.out
        refine ⟨rfl, mid_step (.string ⟨(nameL (kn : Int)).toArray⟩) wx (fun K hK => ?_) ⟨_, rfl, rfl, Below.refl _ _⟩⟩
        go_simp
        exact hK
      · obtain rfl := Option.some.inj hi
        have e12 : a.tmps.getD 12 undef = .string ⟨(nameL (kn : Int)).toArray⟩ := hD 3 (by kernel_rfl) _ 12 rfl rfl
        have f12 := e12
        rw [Array.getD_eq_getD_getElem?] at f12
        refine ⟨rfl, mid_step (.slice (some ⟨wx.heap.size, 0, none⟩) 1 1) (wx.alloc (.cells #[.string ⟨(nameL (kn : Int)).toArray⟩] 9)) (fun K hK => ?_) ⟨_, rfl, ⟨_, rfl, heap_alloc_new _ _, hM.below.size⟩, below_new _ _⟩⟩
        go_simp
        exact hK
      · obtain rfl := Option.some.inj hi
        obtain ⟨h, e13, hh, hq⟩ := hD 4 (by kernel_rfl) _ 13 rfl rfl
        refine ⟨rfl, mid_step (.slice (some ⟨h, 0, none⟩) 1 1) wx (fun K hK => ?_) ⟨_, rfl, ⟨h, rfl, hh, hq⟩, Below.refl _ _⟩⟩
        go_simp
        exact hK
    · intro a wx hM hU hD
      have q0 := hD 0 (by decide) _ 9 rfl rfl
      have q1 := hD 1 (by decide) _ 10 rfl rfl
      have q2 := hD 2 (by decide) _ 11 rfl rfl
      have q3 := hD 3 (by decide) _ 12 rfl rfl
      obtain ⟨h13, e13, -, -⟩ := hD 4 (by decide) _ 13 rfl rfl
      have q4 : a.tmps.getD 13 undef = .slice (some ⟨h13, 0, none⟩) 1 1 := by assumption
      obtain ⟨h3, e3, hh3, hq3⟩ := hD 5 (by decide) _ 3 rfl rfl
      have q5 : a.tmps.getD 3 undef = .slice (some ⟨h3, 0, none⟩) 1 1 := by assumption
      have hact := act_puts (a := a) [(9, .agg namesA), (10, .pointer (some ⟨w.heap.size, 0, none⟩)), (11, .int .i64 (kn : Int)), (12, .string ⟨(nameL (kn : Int)).toArray⟩), (13, .slice (some ⟨h13, 0, none⟩) 1 1), (3, .slice (some ⟨h3, 0, none⟩) 1 1)] _ hM.tmps hM.defers (by
        intro s v hm
        simp only [List.mem_cons, Prod.mk.injEq, List.not_mem_nil, or_false] at hm
        rcases hm with ⟨rfl, rfl⟩ | ⟨rfl, rfl⟩ | ⟨rfl, rfl⟩ | ⟨rfl, rfl⟩ | ⟨rfl, rfl⟩ | ⟨rfl, rfl⟩
        · exact ⟨(by show 9 < 31; decide), q0⟩
        · exact ⟨(by show 10 < 31; decide), q1⟩
        · exact ⟨(by show 11 < 31; decide), q2⟩
        · exact ⟨(by show 12 < 31; decide), q3⟩
        · exact ⟨(by show 13 < 31; decide), q4⟩
        · exact ⟨(by show 3 < 31; decide), q5⟩) (fun s hs => hM.other s (by exact hs))
      rw [hact]
      have hBX := hM.below
      clear hact hD hM hU q0 q1 q2 q3 q4 q5
      simp only [List.foldl, Act.put, List.setIfInBounds_toArray, List.set_cons_succ, List.set_cons_zero, List.drop_succ_cons, List.drop_zero]
      clear e13 e3
      have ho3 : wx.ownsRow w2.heap.size 9 1 (.slice (some ⟨h3, 0, none⟩) 1 1) 1 (strs (nameL (kn : Int) :: WN ([] : List Nat))) := by
        rw [HW0.out]
        exact ⟨rfl, .inr ⟨h3, 1, _, rfl, hq3, hh3, by decide, by decide, rfl, rfl⟩⟩
      have hl3 := lt_of_block hh3
      have hbx := (BX.out wx hBX).1
      obtain ⟨c0, -, -, -, -, -, -, -, -, -, -⟩ := rec_cells hbx
      clear hh3 hq3 hbx HIX
      go_wp2_with fail
      refine (partsof_any (kn : Int) _).mono ?_
      rintro e w7 ⟨Ap, cp, rfl, hop, hb7⟩
      have hbx7 := hBX.trans (hb7.mono hBX.size)
      have HO7 := Lib_hid (own_below ho3 hb7 (own_lt ho3))
      have HBX7 := Lib_hid (BX.out w7 hbx7)
      have HPB : Hid (∀ j, (Value.slice Ap (partsN (kn : Int) 6).length cp).ownBlock = some j → wx.heap.size ≤ j ∧ j < w7.heap.size) := fun j hj => ⟨own_ge hop j hj, own_lt hop j hj⟩
      have HPL : Hid (∀ q, q ∈ partsN (kn : Int) 6 → q < 6) := fun q hq => partsN_lt hq
      have hpl := partsN_le (kn : Int) 6
      have HOP := Lib_hid hop
      have hs7 := hb7.size
      have hs2x := hBX.size
      clear ho3 hb7 hop c0 hBX hbx7 BX
      generalize hpp : partsN (kn : Int) 6 = pl at *
      clear hpp
      go_wp2
      go_loopw [3, 18] (fun s z wr => ∃ (i n cap : Nat) (A0 : Option Addr), s = .slice A0 n cap ∧ z = .int .i64 i ∧ i ≤ pl.length ∧ Hid (n = (WN (pl.take i)).length + 1) ∧ Hid (wr.ownsRow w2.heap.size 9 1 (.slice A0 n cap) n (strs (nameL (kn : Int) :: WN (pl.take i)))) ∧
        Hid (∀ j, (Value.slice A0 n cap).ownBlock = some j → j < wx.heap.size ∨ w7.heap.size ≤ j) ∧ Hid (wr.heap[w.heap.size]? = some (.cells #[.int .i64 (kn : Int), .int .u64 (t : Int), .int .u64 (x : Int), .int .u64 (wn : Int), .int .u64 (nn : Int), .int .u64 (v : Int), .int .i64 pk, .int .u64 pa, .int .u64 pb, .slice pA pn pc, .slice A en c] 30 (0, 0)) ∧ Below w.heap.size w wr) ∧ Hid (wr.ownsRow wx.heap.size 102 6 (.slice Ap pl.length cp) pl.length (psL pl)) ∧ Hid (w7.heap.size ≤ wr.heap.size)) (fun _ z _ => pl.length - (intOf z).toNat)
      case atStart => exact ⟨0, 1, 1, some ⟨h3, 0, none⟩, rfl, rfl, Nat.zero_le _, Lib_hid (by rw [List.take_zero, HW0.out]; rfl), HO7, (fun j hj => .inl (by have e : h3 = j := Option.some.inj hj; omega)), HBX7, HOP, Nat.le_refl _⟩
      case round =>
        clear HO7 HBX7 HOP
        obtain ⟨i, n, cap, A0, rfl, rfl, hi1, hn, HOW, HNB, HBR, HOP, HSR⟩ := hrel
        by_cases hlt : i < pl.length
        · obtain ⟨b, off, q, rfl, hq, d0, d1, d2, d3, d4, d5⟩ := ps_nth (Rd.own HOP.out) hlt
          have hq6 := HPL.out q (List.mem_of_getElem? hq)
          have hcp := call_tell hq6
          have HTK := Lib_hid (HSN.out pl i q hq)
          have b8 := below_new wr (.cells #[.func (.func (mofF q)) #[] #[], .func (.func (memptyF q)) #[] #[], .func (.func (mputF q)) #[] #[], .func (.func (mtakeF q)) #[] #[], .func (.func (mtellF q)) #[] #[], .func (.func (mreadF q)) #[] #[]] 102)
          have hp8 := heap_alloc_new wr (.cells #[.func (.func (mofF q)) #[] #[], .func (.func (memptyF q)) #[] #[], .func (.func (mputF q)) #[] #[], .func (.func (mtakeF q)) #[] #[], .func (.func (mtellF q)) #[] #[], .func (.func (mreadF q)) #[] #[]] 102)
          have hx8 := (b8.block _ (lt_of_block HBR.out.1)).trans HBR.out.1
          have hbw8 := HBR.out.2.trans (b8.mono HBR.out.2.size)
          have CP := TL.out q hq6 _ hbw8
          have HO8 := Lib_hid (own_below HOW.out b8 (own_lt HOW.out))
          have HP8 := Lib_hid (own_below HOP.out b8 (own_lt HOP.out))
          have HB8 := Lib_hid hbw8
          have HX8 := Lib_hid hx8
          have hs8 := Nat.le_trans HSR.out b8.size
          clear HOW HBR HOP HSR hbw8 b8 hq6 hq
          generalize mofF q = f1 at *
          generalize memptyF q = f2 at *
          generalize mputF q = f3 at *
          generalize mtakeF q = f4 at *
          generalize mtellF q = f5 at *
          generalize mreadF q = f6 at *
          go_upto_region 7 with (fail)
          generalize wr.alloc (.cells #[.func (.func f1) #[] #[], .func (.func f2) #[] #[], .func (.func f3) #[] #[], .func (.func f4) #[] #[], .func (.func f5) #[] #[], .func (.func f6) #[] #[]] 102) = w8 at *
          clear d0 d1 d2 d3 d4 d5
          have d4 : w8.cell? ⟨wr.heap.size, 4, none⟩ = some (.func (.func f5) #[] #[]) := cell_of_row w8 _ 4 _ _ _ hp8
          obtain ⟨c0, c1, c2, c3, c4, c5, c6, c7, c8, c9, c10⟩ := rec_cells hx8
          clear hx8 hp8
          go_wp2_with fail
          refine CP.mono ?_
          rintro e w9 ⟨A2, cc, rfl, ho2, hb9⟩
          have ho9 := own_below HO8.out hb9 (own_lt HO8.out)
          have hp9 := own_below HP8.out hb9 (own_lt HP8.out)
          have hx9 := (hb9.block _ (lt_of_block HX8.out)).trans HX8.out
          have hbw9 := HB8.out.trans (hb9.mono HB8.out.size)
          have hs9 := Nat.le_trans hs8 hb9.size
          have hr2 := Rd.own ho2
          have h1c : ∀ u ∈ strs (WP q), u.oneCell' = true := by
            intro u hu
            obtain ⟨y, _, rfl⟩ := List.mem_map.1 hu
            rfl
          have hwq : n + (WP q).length = (WN (pl.take (i + 1))).length + 1 := by rw [HTK.out, List.length_append, hn.out]; omega
          have hwl := HWN.out (pl.take (i + 1)) (by rw [List.length_take]; omega)
          have hm1 : n + (WP q).length ≤ maxLen := by rw [hwq]; unfold maxLen; omega
          have hm2 : (n + (WP q).length) * 16 ≤ 140737488355328 := by rw [hwq]; omega
          have hs2 : w2.heap.size ≤ w9.heap.size := by omega
          have HWQ := Lib_hid hwq
          clear hb9 ho2 CP c0 c1 c2 c3 c4 c5 c6 c7 c8 c9 c10 d4 hwl hwq HO8 HP8 HX8 HB8
          go_wp2_with (at_builtin; (refine wpList_app rfl _ _ 81 rfl w2.heap.size 9 i0 (.string ⟨#[]⟩) 1 16 Tryz.underlying81 hi0 hz0 hz1 hz2 rfl (by decide) (.slice A0 n cap) n _ rfl ho9 _ _ (WP q).length cc _ rfl hr2 h1c hm1 hm2 hs2 ?_); intro v' w10 hown' hst; obtain ⟨A', c', rfl, _⟩ := own_form hown')
          have hge := own_ge ho9
          have R1 : Hid (w10.ownsRow w2.heap.size 9 1 (.slice A' (n + (WP q).length) c') (n + (WP q).length) (strs (nameL (kn : Int) :: WN (pl.take (i + 1))))) := by
            unfold Hid
            rw [HTK.out, ← List.cons_append, strs_append]
            exact hown'
          have R2 : Hid (∀ j, (Value.slice A' (n + (WP q).length) c').ownBlock = some j → j < wx.heap.size ∨ w7.heap.size ≤ j) := fun j hj => by
            rcases hst.row with h | ⟨k, h1, h2⟩
            · rw [h] at hj; exact HNB.out j hj
            · rw [h1] at hj; injection hj with hj; subst hj; exact .inr (by omega)
          have R3 : Hid (w10.heap[w.heap.size]? = some (.cells #[.int .i64 (kn : Int), .int .u64 (t : Int), .int .u64 (x : Int), .int .u64 (wn : Int), .int .u64 (nn : Int), .int .u64 (v : Int), .int .i64 pk, .int .u64 pa, .int .u64 pb, .slice pA pn pc, .slice A en c] 30 (0, 0)) ∧ Below w.heap.size w w10) :=
            ⟨(hst.grow.block _ (lt_of_block hx9) (fun e => by have := hge _ e.symm; omega)).trans hx9, hbw9.trans (hst.below (B := w.heap.size) (by omega) (fun j hj => by have := hge j hj; omega))⟩
          have R4 : Hid (w10.ownsRow wx.heap.size 102 6 (.slice (some ⟨b, off, none⟩) pl.length cp) pl.length (psL pl)) := own_keep hp9 fun j hj => hst.grow.block j (own_lt hp9 j hj) (fun e => by
            have h1 := HPB.out j hj
            rcases HNB.out j e.symm with h | h <;> omega)
          have R5 : Hid (w7.heap.size ≤ w10.heap.size) := Nat.le_trans hs9 hst.grow.size
          clear hown' hst ho9 hp9 hx9 hbw9 hge hr2 h1c
          go_roundw
          case rel => exact ⟨i + 1, n + (WP q).length, c', A', rfl, by go_num, by omega, HWQ, R1, R2, R3, R4, R5⟩
          case measure => simp [intOf]; omega
        · obtain rfl : i = pl.length := by omega
          have ho := HOW.out
          rw [List.take_length] at ho hn
          have hwl := HWN.out pl (by omega)
          have CJ := joined_any w2.heap.size n cap 9 A0 (nameL (kn : Int) :: WN pl) [32] wr ho (by have := hn.out; omega) (by rw [← HTE.out]; exact HSZ2.out)
          rw [← HTE.out, ← HF.out] at CJ
          clear ho HOW HOP HNB hwl
          go_wp2_with fail
          refine CJ.mono ?_
          rintro e w11 ⟨rfl, hb11⟩
          have hbf := HBR.out.2.trans (hb11.mono HBR.out.2.size)
          clear CJ hb11 HBR
          go_wp2
          go_ret
          exact ⟨rfl, hbf⟩
end Go.Proofs.YtiiiklenhmhccaaGreatDoor

namespace Go.Proofs.YtiiiklenhmhccaaGreatDoor
open Go Go.RowKit
set_option linter.unusedVariables false
set_option maxRecDepth 100000 in
theorem fewn5_any (v : V) (w : World) (lo hi : Nat) (hL : Lies w lo hi v) (hhi : hi ≤ w.heap.size) :
    Calls Tryz.prog 36 #[v.val] w fun e w' => e = .returned (.bool (decide (v.abs.count ≤ 60))) ∧ Below w.heap.size w w' := by
  have hb0 := below_new w (.cells #[.int .i64 v.kind, .int .u64 (v.a : Int), .int .u64 (v.b : Int), v.sl] 27)
  have DN := dnodes_any v 60 (w.alloc (.cells #[.int .i64 v.kind, .int .u64 (v.a : Int), .int .u64 (v.b : Int), v.sl] 27)) lo hi (hL.under (hb0.mono hhi)) (by have := hb0.size; omega) (by omega) (by omega)
  have hn : decide ((0 : Int) ≤ nl v.abs.count 60) = decide (v.abs.count ≤ 60) := by
    by_cases h : v.abs.count ≤ 60
    · rw [nl_yes (by omega), decide_eq_true h, decide_eq_true (by omega)]
    · rw [nl_no (by omega), decide_eq_false h, decide_eq_false (by omega)]
  have HN := Lib_hid hn
  clear hn hL
  simp only [V.val, V.sl] at DN hb0 ⊢
  generalize v.kind = x0 at *
  generalize (v.a : Int) = x1 at *
  generalize (v.b : Int) = x2 at *
  generalize v.addr = pA at *
  generalize v.parts.length = pn at *
  generalize v.cap = pc at *
  generalize nl v.abs.count 60 = z at *
  generalize decide (v.abs.count ≤ 60) = r at *
  go_enter Tryz.func36, Tryz.ntmps36
  go_wp2_with fail
  refine DN.mono ?_
  rintro e w1 ⟨rfl, hb1⟩
  have hbw := hb0.trans (hb1.mono hb0.size)
  clear DN hb1 hb0
  go_wp2_with fail
  go_ret
  exact ⟨ret_b HN.out, hbw⟩
set_option maxRecDepth 100000 in
theorem fewrec5_any (r : Rv) (w : World) (lo hi : Nat) (hL : RLies w lo hi r) (hhi : hi ≤ w.heap.size) :
    Calls Tryz.prog 8 #[r.val] w fun e w' => e = .returned (.bool (decide (r.es.length ≤ 60 ∧ r.p.abs.count ≤ 60))) ∧ Below w.heap.size w w' := by
  have FW : Hid (∀ W, Below w.heap.size w W → Calls Tryz.prog 36 #[r.p.val] W fun e w' => e = .returned (.bool (decide (r.p.abs.count ≤ 60))) ∧ Below W.heap.size W w') := fun W hW => fewn5_any r.p W lo hi (hL.p.under (hW.mono hhi)) (Nat.le_trans hhi hW.size)
  have HZ : Hid (decide (r.es.length ≤ 60 ∧ r.p.abs.count ≤ 60) = (decide (r.es.length ≤ 60) && decide (r.p.abs.count ≤ 60))) := by unfold Hid; simp
  clear hL hhi
  generalize decide (r.es.length ≤ 60 ∧ r.p.abs.count ≤ 60) = z at *
  generalize hcp : decide (r.p.abs.count ≤ 60) = zc at *
  clear hcp
  obtain ⟨k, t, x, wn, nn, v, p, A, c, es⟩ := r
  simp only [Rv.val, Rv.arr, Rv.sl, V.sl, V.val] at FW HZ ⊢
  generalize p.addr = pA at *
  generalize p.parts.length = pn at *
  generalize p.cap = pc at *
  generalize p.kind = pk at *
  generalize (p.a : Int) = pa at *
  generalize (p.b : Int) = pb at *
  generalize es.length = en at *
  have h1 := heap_alloc_new w (.cells #[.int .i64 k, .int .u64 (t : Int), .int .u64 (x : Int), .int .u64 (wn : Int), .int .u64 (nn : Int), .int .u64 (v : Int), .int .i64 pk, .int .u64 pa, .int .u64 pb, .slice pA pn pc, .slice A en c] 30)
  have b1 := below_new w (.cells #[.int .i64 k, .int .u64 (t : Int), .int .u64 (x : Int), .int .u64 (wn : Int), .int .u64 (nn : Int), .int .u64 (v : Int), .int .i64 pk, .int .u64 pa, .int .u64 pb, .slice pA pn pc, .slice A en c] 30)
  have FW2 := FW.out _ b1
  go_enter Tryz.func8, Tryz.ntmps8
  go_upto_region 1 with (fail)
  generalize w.alloc (.cells #[.int .i64 k, .int .u64 (t : Int), .int .u64 (x : Int), .int .u64 (wn : Int), .int .u64 (nn : Int), .int .u64 (v : Int), .int .i64 pk, .int .u64 pa, .int .u64 pb, .slice pA pn pc, .slice A en c] 30) = w1 at *
  obtain ⟨c0, c1, c2, c3, c4, c5, c6, c7, c8, c9, c10⟩ := rec_cells h1
  by_cases h60 : en ≤ 60
  · have h : (en : Int) ≤ 60 := by omega
    have HZ2 : Hid (z = zc) := by unfold Hid; rw [HZ.out]; simp [h60]
    clear HZ h60 FW
    go_wp2_with fail
    refine FW2.mono ?_
    rintro e w2 ⟨rfl, hb2⟩
    have hbw := b1.trans (hb2.mono b1.size)
    clear FW2 hb2 b1
    go_wp2
    go_ret
    exact ⟨by rw [HZ2.out]; rfl, hbw⟩
  · have h : ¬ (en : Int) ≤ 60 := by omega
    have HZ2 : Hid (z = false) := by unfold Hid; rw [HZ.out]; simp [h60]
    clear HZ h60 FW FW2
    go_wp2
    go_ret
    exact ⟨by rw [HZ2.out]; rfl, b1⟩
end Go.Proofs.YtiiiklenhmhccaaGreatDoor

namespace Go.Proofs.YtiiiklenhmhccaaGreatDoor
open Go Go.RowKit
set_option linter.unusedVariables false
theorem Lies.aside {E : TypeId} {w w' : World} {lo hi lo' : Nat} {v : V} (h : Lies w lo hi v) (hS : Shp E w lo' v) (hk : ∀ (g : Nat) (arr : Array Value), w.heap[g]? = some (Obj.cells arr E (0, 0)) → w'.heap[g]? = w.heap[g]?) : Lies w' lo hi v := by
  induction h with
  | mk k a b A c ps h1 h2 h3 h4 h5 h6 _ ih =>
    cases hS with
    | mk _ _ _ _ _ _ s1 s2 =>
    refine .mk k a b A c ps h1 h2 h3 ⟨h4.len, fun hn => ?_⟩ h5 h6 fun p hp => ih p hp (s2 p hp)
    obtain ⟨ad, e, hb, hc⟩ := h4.lies hn
    obtain ⟨g, arr, e2, _, hg, _⟩ := s1 hn
    rw [e] at e2
    injection e2 with e2
    subst e2
    exact ⟨_, e, hb, fun j u hu => (World.cell?_of_block (by rw [add_block]; exact hk g arr hg)).trans (hc j u hu)⟩
end Go.Proofs.YtiiiklenhmhccaaGreatDoor

namespace Go.Proofs.YtiiiklenhmhccaaGreatDoor
open Go Go.RowKit
set_option linter.unusedVariables false
def PutU (r : Rc) (w : World) (e : Ending) (w' : World) : Prop :=
  ∃ A c, e = .returned (.tuple #[.agg #[.int .u8 ((frD r).1 : Int), .slice A (frD r).2.length c], .int .i64 (erD r : Int)]) ∧ w'.ownsRow w.heap.size 5 1 (.slice A (frD r).2.length c) (frD r).2.length (bs (frD r).2) ∧ Below w.heap.size w w'
theorem putU {r : Rc} {w w' : World} {e : Ending} (h : PutEnd r w e w') : PutU r w e w' := by
  obtain ⟨hb, h1, h2⟩ := h
  unfold PutU frD erD
  cases hr : r.rightB with
  | false => exact ⟨none, 0, h1 hr, World.ownsRow_nil _ _ _ _, hb⟩
  | true =>
    obtain ⟨A, c, e1, ho⟩ := h2 hr
    have hk := (right_shape hr).1
    have hkk : ((r.kind.toNat : Nat) : Int) = r.kind := by omega
    simp only [if_true]
    rw [hkk]
    exact ⟨A, c, e1, ho, hb⟩
theorem frD_byte (r : Rc) : ∀ x ∈ (frD r).2, x < 256 := by
  unfold frD
  cases r.rightB with
  | false => simp
  | true => exact stand_byteR r
theorem sameR_self (r : Rc) : r.sameB r = true := by unfold Rc.sameB; simp [(sameB_iff r.p r.p).2 rfl]
end Go.Proofs.YtiiiklenhmhccaaGreatDoor
