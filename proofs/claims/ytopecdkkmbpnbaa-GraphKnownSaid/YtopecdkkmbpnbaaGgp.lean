/-
  Layer 13: a graph between some nodes: Only of the program.
-/
import Derived.Test.YtopecdkkmbpnbaaGgn
namespace Go.Proofs.Ytopecdkkmbpnbaa
open Go Go.RowKit Go.Maps
set_option linter.unusedVariables false

theorem Try.infoB : (Try.prog.info? 4).map (fun i => (i.zero, i.size, i.bytes)) = some (some (.bool false), 1, 1) := by kernel_rfl
/-- Which nodes are named. -/
def flB (N : Nat) (l : List Int) : List Value := (List.range N).map fun (j : Nat) => Value.bool (decide ((j : Int) ∈ l))
theorem flB_get {N : Nat} {l : List Int} {j : Nat} (h : j < N) : (flB N l)[j]? = some (.bool (decide ((j : Int) ∈ l))) := by simp [flB, h]
theorem flB_nil (N : Nat) : flB N [] = List.replicate N (.bool false) := by
  unfold flB
  apply List.ext_getElem
  · simp
  · intro i h1 h2; simp
theorem flB_set {N : Nat} {l : List Int} {j : Nat} (h : j < N) : (flB N l).set j (.bool true) = flB N (l ++ [(j : Int)]) := by
  unfold flB
  apply List.ext_getElem
  · simp
  · intro i h1 h2
    rw [List.getElem_set]
    simp only [List.getElem_map, List.getElem_range, List.mem_append, List.mem_singleton]
    by_cases hi : j = i
    · subst hi; simp
    · have : ¬ (i : Int) = (j : Int) := by omega
      simp [hi, this]
theorem flB_skip {N : Nat} {l : List Int} {x : Int} (h : isN N x = false) : flB N (l ++ [x]) = flB N l := by
  unfold flB
  apply List.map_congr_left
  intro j hj
  have hjN := List.mem_range.1 hj
  have : ¬ (j : Int) = x := fun e => by
    have : isN N x = true := isN_iff.2 (by omega)
    rw [this] at h; cases h
  simp [this]
theorem make_bools (n : Nat) (hn : n ≤ 1000000000) (wx : World) : (Instr.makeSlice 94 (.int .i64 n) (.int .i64 n)).run Try.prog wx = .ok (.slice (some ⟨wx.heap.size, 0, none⟩) n n) (wx.alloc (.cells (madeCells #[.bool false] n) 4)) := by
  obtain ⟨i0, hi, hz0, hz1, hz2⟩ := info_parts Try.infoB
  have := run_make (P := Try.prog) wx 94 4 i0 (.bool false) Try.underlying94 hi hz0 .i64 .i64 (n : Int) (n : Int) (by omega) (by omega) (by rw [hz2]; omega) (by omega)
  rw [hz1, show (Value.bool false).cells = #[.bool false] from rfl] at this
  simpa using this
theorem own_bools (n : Nat) (hn : n ≤ 1000000000) (w : World) : (w.alloc (.cells (madeCells #[.bool false] n) 4)).ownsRow w.heap.size 4 1 (.slice (some ⟨w.heap.size, 0, none⟩) n n) n (flB n []) := by
  have h1 : (madeCells #[.bool false] n).toList = flB n [] := by
    rw [flB_nil]
    unfold madeCells
    apply List.ext_getElem
    · simp
    · intro i h1 h2; simp [Nat.mod_one]
  exact ⟨by simp [flB], .inr ⟨_, n, _, rfl, Nat.le_refl _, heap_alloc_new w _, Nat.le_refl _, by unfold maxLen; omega, by rw [size_madeCells]; omega, by rw [← h1, List.take_of_length_le (by rw [h1]; simp [flB])]⟩⟩

/-- The edges of the first k rows between named nodes; of the first i of the next row, too. -/
def selE (l : List Int) (r : List Ed) : List Ed := r.filter fun x => decide (x.2.1 ∈ l)
def accE (R : Nat → List Ed) (l : List Int) : Nat → List Ed
  | 0 => []
  | k + 1 => accE R l k ++ (if (k : Int) ∈ l then selE l (R k) else [])
theorem mem_accE {R : Nat → List Ed} {l : List Int} {e : Ed} : ∀ k, e ∈ accE R l k ↔ ∃ j, j < k ∧ (j : Int) ∈ l ∧ e ∈ R j ∧ e.2.1 ∈ l
  | 0 => by simp [accE]
  | k + 1 => by
    rw [accE, List.mem_append, mem_accE k]
    constructor
    · rintro (⟨j, h1, h2⟩ | h)
      · exact ⟨j, by omega, h2⟩
      · split at h
        · rename_i hk
          simp only [selE, List.mem_filter, decide_eq_true_eq] at h
          exact ⟨k, by omega, hk, h.1, h.2⟩
        · simp at h
    · rintro ⟨j, h1, h2, h3, h4⟩
      by_cases hj : j = k
      · subst hj
        rw [if_pos h2]
        exact .inr (by simp [selE, h3, h4])
      · exact .inl ⟨j, by omega, h2, h3, h4⟩
theorem accE_len (R : Nat → List Ed) (l : List Int) (m : Nat) : ∀ k, (∀ j, j < k → (R j).length ≤ m) → (accE R l k).length ≤ k * m
  | 0, _ => by simp [accE]
  | k + 1, h => by
    rw [accE, List.length_append]
    have h1 := accE_len R l m k fun j hj => h j (by omega)
    have h2 := h k (by omega)
    have h3 : (if (k : Int) ∈ l then selE l (R k) else []).length ≤ m := by
      split
      · exact Nat.le_trans (List.length_filter_le _ _) h2
      · simp
    rw [Nat.succ_mul]; omega
theorem sub_len : ∀ {l m : List Ed}, l.Nodup → (∀ e ∈ l, e ∈ m) → l.length ≤ m.length
  | [], m, _, _ => by simp
  | x :: l, m, h, hs => by
    have h1 := List.nodup_cons.1 h
    have hx := hs x (List.mem_cons_self ..)
    have h2 := sub_len (l := l) (m := m.erase x) h1.2 fun e he => (List.mem_erase_of_ne (fun hc => h1.1 (by rw [← hc]; exact he))).2 (hs e (List.mem_cons_of_mem _ he))
    rw [List.length_erase_of_mem hx] at h2
    have h3 := List.length_pos_of_mem hx
    simp only [List.length_cons]
    omega
theorem accE_nodup {N : Nat} {L : List Ed} {R I : Nat → List Ed} {f : Ed → Option Pl} (h : GrG N L R I f) (l : List Int) : ∀ k, k ≤ N → (accE R l k).Nodup
  | 0, _ => List.nodup_nil
  | k + 1, hk => by
    rw [accE, List.nodup_append]
    refine ⟨accE_nodup h l k (by omega), ?_, fun a ha b hb e => ?_⟩
    · split
      · exact (h.out.nd k (by omega)).sublist List.filter_sublist
      · exact List.nodup_nil
    · subst e
      obtain ⟨j, h1, h2, h3, h4⟩ := (mem_accE k).1 ha
      split at hb
      · simp only [selE, List.mem_filter, decide_eq_true_eq] at hb
        have e1 := (h.out.mem j (by omega) a h3).2
        have e2 := (h.out.mem k (by omega) a hb.1).2
        omega
      · simp at hb
theorem accE_le {N : Nat} {L : List Ed} {R I : Nat → List Ed} {f : Ed → Option Pl} (h : GrG N L R I f) (l : List Int) {k : Nat} (hk : k ≤ N) : (accE R l k).length ≤ L.length :=
  sub_len (accE_nodup h l k hk) fun e he => by
    obtain ⟨j, h1, h2, h3, h4⟩ := (mem_accE k).1 he
    exact (h.out.mem j (by omega) e h3).1
theorem accE_only {N : Nat} {L : List Ed} {R I : Nat → List Ed} {f : Ed → Option Pl} (h : GrG N L R I f) (l : List Int) : addEs [] (accE R l N) = onlyE L l := by
  refine Srt.uniq (srt_addEs Srt.nil) (h.srt.filter _) fun e => ?_
  rw [mem_addEs, mem_accE]
  simp only [onlyE, List.not_mem_nil, or_false, List.mem_filter, decide_eq_true_eq]
  constructor
  · rintro ⟨j, h1, h2, h3, h4⟩
    have := h.out.mem j h1 e h3
    exact ⟨this.1, by rw [this.2]; exact h2, h4⟩
  · rintro ⟨h1, h2, h3⟩
    have hn := h.node e h1
    obtain ⟨j, hj⟩ : ∃ j : Nat, e.1 = j := ⟨e.1.toNat, by omega⟩
    exact ⟨j, by omega, by rw [← hj]; exact h2, (h.out.iff (by omega) e).2 ⟨h1, hj⟩, h3⟩
theorem sel_snoc (l : List Int) (r : List Ed) (i : Nat) (h : i < r.length) : selE l (r.take (i + 1)) = selE l (r.take i) ++ (if (at3 r i).2.1 ∈ l then [at3 r i] else []) := by
  unfold selE
  rw [take_snoc3 h, List.filter_append]
  congr 1
  by_cases h1 : (at3 r i).2.1 ∈ l
  · simp [h1]
  · simp [h1]

set_option maxRecDepth 100000 in
set_option maxHeartbeats 3200000 in
theorem ponly_any {w : World} {B p N n c : Nat} {A : Option Addr} {S : Nat → Prop} {L : List Ed} {l : List Int} (h : GmIs w p S N L) (hr : Rd w B 1 A n (zc l)) (hB : B ≤ w.heap.size) (hN : N ≤ 65536) (hn : n ≤ 1000000) (hL : L.length ≤ 1000000) :
    Calls Try.prog 25 #[.pointer (some ⟨p, 0, none⟩), .slice A n c] w (MadeG N (onlyE L l) w) := by
  have HC := Lib_hid (rdz_count hr)
  have HI := Lib_hid (fun (W : World) (hW : Below w.heap.size w W) (i : Nat) (hi : i < n) => z_at (hr.below (hW.mono hB)) hi)
  have HNO := Lib_hid (fun (W : World) (hW : Below w.heap.size w W) (x : Int) => pnode_any (h.later hW) x)
  have c0 := h.c0
  have HE := Lib_hid h.eds
  obtain ⟨m, go, gi, So, Si, R, I, f, tg, hX, hS⟩ := h
  have HX : Hid (∀ W : World, Below w.heap.size w W → W.cell? ⟨p, 0, none⟩ = some (.int .i64 (N : Int)) ∧ W.cell? ⟨p, 2, none⟩ = some (.slice (some ⟨go, 0, none⟩) N N) ∧ ∀ k, k < N → W.cell? ⟨go, k, none⟩ = some (.slice (So k).1 (R k).length (So k).2) ∧ Rd W w.heap.size 3 (So k).1 (R k).length (ec (R k))) := fun W hW => by
    have hX2 := hX.keep hW.size fun k hk _ => hW.block k hk
    exact ⟨hX2.c0, hX2.c2, fun k hk => ⟨hX2.out.cell hk, (Rd.own (hX.out.row k hk)).below hW⟩⟩
  have HA : Hid (addEs [] (accE R l N) = onlyE L l ∧ (∀ k, k ≤ N → (accE R l k).length ≤ L.length) ∧ (∀ k, k < N → (R k).length ≤ L.length) ∧ ∀ e ∈ accE R l N, e ∈ L ∧ 0 ≤ e.2.1 ∧ e.2.1 < N) := ⟨accE_only hX.pl l, fun k hk => accE_le hX.pl l hk, fun k hk => hX.pl.out_len hk, fun e he => by
    obtain ⟨j, h1, h2, h3, h4⟩ := (mem_accE N).1 he
    have h5 := (hX.pl.out.mem j h1 e h3).1
    exact ⟨h5, (hX.pl.node e h5).2.2⟩⟩
  have HTO : Hid (∀ k, k < N → ∀ i, i < (R k).length → ∃ t : Nat, (at3 (R k) i).2.1 = t ∧ t < N) := fun k hk i hi => by
    have h5 := hX.pl.node _ (hX.pl.out.mem k hk _ (at3_mem hi)).1
    exact ⟨(at3 (R k) i).2.1.toNat, by omega, by omega⟩
  obtain ⟨i0, hi, hz0, hz1, hz2⟩ := info_parts Try.infoE
  have MK := make_bools N (by omega) w
  have oB := own_bools N (by omega) w
  have bB := below_new w (.cells (madeCells #[.bool false] N) 4)
  generalize hcs : Obj.cells (madeCells #[.bool false] N) 4 = oc at *
  clear hcs
  have HN := Lib_hid (And.intro hN (And.intro hn hL))
  clear hX hr hS hB hL
  go_enter Try.func25, Try.ntmps25
  go_upto_region 4 with (fail)
  have H0 := Lib_hid (And.intro oB bB)
  clear oB bB MK c0
  generalize hb : w.heap.size = b at *
  have HBB := Lib_hid hb
  clear hb
  generalize w.alloc oc = W0 at *
  go_wp2
  go_loopw [7, 22] (fun x i wr => ∃ k : Nat, i = .int .i64 k ∧ k ≤ n ∧ wr.ownsRow b 4 1 (.slice (some ⟨b, 0, none⟩) N N) N (flB N (l.take k)) ∧ Below b w wr) (fun _ i _ => n - (intOf i).toNat)
  case atStart => exact ⟨0, rfl, Nat.zero_le _, H0.out.1, H0.out.2⟩
  case round =>
    obtain ⟨k, rfl, hk, ho, hbw⟩ := hrel
    by_cases hlt : k < n
    · obtain ⟨ad, rfl, _, c1⟩ := HI.out _ hbw k hlt
      have ht : Hid (l.take (k + 1) = l.take k ++ [atZ l k]) := take_snocZ (by rw [HC.out]; exact hlt)
      have NO := Lib_hid (HNO.out _ hbw (atZ l k))
      by_cases h1 : isN N (atZ l k) = true
      · rw [h1] at NO
        obtain ⟨j, hj, hjN⟩ := isN_nat h1
        have hs1 := (ho.stored j (.bool true)).1
        rw [flB_set hjN, ← hj, ← ht.out] at hs1
        have hb2 : Below b w (wr.setCell ⟨b, j, none⟩ (.bool true)) := hbw.setCell (p := ⟨b, j, none⟩) (Nat.le_refl _) _
        have HS := Lib_hid (And.intro hs1 hb2)
        have f0 := ho.frozenAt j
        have k0 := (ho.cellAt j (by omega)).trans (flB_get hjN)
        have hji : (j : Int) < (N : Int) := by omega
        have hj0 : (0 : Int) ≤ (j : Int) := by omega
        rw [hj] at c1 NO
        clear hs1 hb2 ho hbw h1 hj ht
        go_wp2_with fail
        refine NO.out.mono ?_
        rintro e w1 ⟨rfl, rfl⟩
        go_wp2
        go_roundw
        case rel => exact ⟨k + 1, by go_num, by omega, HS.out.1, HS.out.2⟩
        case measure => simp [intOf]; omega
      · have h2 : isN N (atZ l k) = false := by cases h : isN N (atZ l k) with | false => rfl | true => exact absurd h h1
        rw [h2] at NO
        have hf : flB N (l.take (k + 1)) = flB N (l.take k) := by rw [ht.out, flB_skip h2]
        rw [← hf] at ho
        have HS := Lib_hid (And.intro ho hbw)
        clear ho hbw h1 h2 hf ht
        generalize atZ l k = x at *
        go_wp2_with fail
        refine NO.out.mono ?_
        rintro e w1 ⟨rfl, rfl⟩
        go_wp2
        go_roundw
        case rel => exact ⟨k + 1, by go_num, by omega, HS.out.1, HS.out.2⟩
        case measure => simp [intOf]; omega
    · obtain rfl : k = n := by omega
      rw [show l.take k = l from List.take_of_length_le (by rw [HC.out]; exact Nat.le_refl _)] at ho
      obtain ⟨Wf, rfl⟩ : ∃ Wf, Wf = wr := ⟨wr, rfl⟩
      have HF : Hid (∀ W : World, Below (b + 1) Wf W → Below b w W ∧ ∀ j, j < N → W.cell? ⟨b, j, none⟩ = some (.bool (decide ((j : Int) ∈ l)))) := fun W hW =>
        ⟨hbw.trans (hW.mono (by omega)), fun j hj => (hW.cell (p := ⟨b, j, none⟩) (by show b < b + 1; omega)).trans ((ho.cellAt j (by omega)).trans (flB_get hj))⟩
      have hgl : b + 1 ≤ Wf.heap.size := own_lt ho b rfl
      clear ho hbw
      go_wp2
      go_loopw [8, 9, 10, 12, 35] (fun o x y z i wr => ∃ (k m' c' : Nat) (A' : Option Addr), o = .slice A' m' c' ∧ i = .int .i64 k ∧ k ≤ N ∧ m' = (accE R l k).length ∧ wr.ownsRow (b + 1) 39 3 (.slice A' m' c') m' (ec (accE R l k)) ∧ Below (b + 1) Wf wr) (fun _ _ _ _ i _ => N - (intOf i).toNat)
      case atStart => exact ⟨0, 0, 0, none, rfl, rfl, Nat.zero_le _, rfl, own_zero _ _ _ _, Below.refl _ _⟩
      case round =>
        obtain ⟨k, m', c', A', rfl, rfl, hk, hm', ho, hbw⟩ := hrel
        by_cases hlt : k < N
        · obtain ⟨hbb, hfl⟩ := HF.out _ hbw
          have k0 := hfl k hlt
          have hki : (k : Int) < (N : Int) := by omega
          have hk0 : (0 : Int) ≤ (k : Int) := by omega
          by_cases hin : (k : Int) ∈ l
          · rw [decide_eq_true hin] at k0
            have HIN := Lib_hid hin
            obtain ⟨_, x2, x3⟩ := HX.out _ hbb
            obtain ⟨x4, x5⟩ := x3 k hlt
            obtain ⟨W1, rfl⟩ : ∃ W1, W1 = wr := ⟨wr, rfl⟩
            have HR := Lib_hid (fun (W : World) (hW : Below b W1 W) (i : Nat) (hi : i < (R k).length) => e_at (x5.below hW) hi)
            have HO := Lib_hid (And.intro ho (And.intro hbw (And.intro hm' hfl)))
            have hcapR : (R k).length ≤ 1000000 := Nat.le_trans (HA.out.2.2.1 k hlt) HN.out.2.2
            clear ho hbw hm' hfl x3 x5 hin hbb
            generalize hq : (R k).length = q at *
            have HQ := Lib_hid hq
            clear hq
            go_wp2
            go_loopw [8, 12, 51] (fun o z i wr => ∃ (i' m2 c2 : Nat) (A2 : Option Addr), o = .slice A2 m2 c2 ∧ i = .int .i64 i' ∧ i' ≤ q ∧ m2 = (accE R l k ++ selE l ((R k).take i')).length ∧ wr.ownsRow (b + 1) 39 3 (.slice A2 m2 c2) m2 (ec (accE R l k ++ selE l ((R k).take i'))) ∧ Below (b + 1) W1 wr) (fun _ _ i _ => q - (intOf i).toNat)
            case atStart => exact ⟨0, m', c', A', rfl, rfl, Nat.zero_le _, by rw [HO.out.2.2.1]; simp [selE], by rw [show accE R l k ++ selE l ((R k).take 0) = accE R l k by simp [selE]]; exact HO.out.1, Below.refl _ _⟩
            case round =>
              obtain ⟨i, m2, c2, A2, rfl, rfl, hi2, hm2, ho, hbw⟩ := hrel
              by_cases hlq : i < q
              · obtain ⟨bb, off, hAq, _, e0, e1, e2⟩ := HR.out _ (hbw.mono (by omega)) i hlq
                obtain ⟨t, ht, htN⟩ := HTO.out k hlt i (by rw [HQ.out]; exact hlq)
                have hsn := sel_snoc l (R k) i (by rw [HQ.out]; exact hlq)
                have hle : (accE R l k ++ selE l ((R k).take (i + 1))).length ≤ 2000000 := by
                  have h1 := HA.out.2.1 k (by omega)
                  have h2 : (selE l ((R k).take (i + 1))).length ≤ ((R k).take (i + 1)).length := List.length_filter_le _ _
                  rw [List.length_take] at h2
                  have h3 := HN.out.2.2
                  rw [List.length_append]
                  omega
                rw [hAq]
                have bA := below_new wr (.cells #[.int .i64 (at3 (R k) i).1, .int .i64 (at3 (R k) i).2.1, .int .i64 (at3 (R k) i).2.2] 39)
                have hWf : b + 1 ≤ wr.heap.size := Nat.le_trans hgl (Nat.le_trans HO.out.2.1.size hbw.size)
                have hb1 := hbw.trans (bA.mono hWf)
                have hfl := HO.out.2.2.2 t htN
                have kf := (hb1.cell (p := ⟨b, t, none⟩) (by show b < b + 1; omega)).trans hfl
                have ho1 := own_below ho bA (own_lt ho)
                have hti : (t : Int) < (N : Int) := by omega
                have ht0 : (0 : Int) ≤ (t : Int) := by omega
                rw [ht] at e1 hsn
                rw [ht] at bA hb1 kf ho1
                clear bA hfl ho
                by_cases htl : (t : Int) ∈ l
                · rw [if_pos htl] at hsn
                  rw [decide_eq_true htl] at kf
                  have HS := Lib_hid hsn
                  have hlen : (accE R l k ++ selE l ((R k).take (i + 1))).length = m2 + 1 := by rw [hsn, ← List.append_assoc, List.length_append, ← hm2]; rfl
                  have hm1 : m2 + 1 ≤ maxLen := by unfold maxLen; omega
                  have hmb : (m2 + 1) * 24 ≤ 140737488355328 := by omega
                  have hz : at3 (R k) i = ((at3 (R k) i).1, (t : Int), (at3 (R k) i).2.2) := Prod.ext rfl (Prod.ext ht rfl)
                  rw [hz] at hsn
                  have HS2 := Lib_hid hsn
                  have HL2 := Lib_hid hlen
                  clear hz hsn HS hlen hle htl hm2 ht hAq
                  generalize (at3 (R k) i).1 = a1 at *
                  generalize (at3 (R k) i).2.2 = a3 at *
                  have ho2 := own_below ho1 (below_new (wr.alloc (.cells #[.int .i64 a1, .int .i64 (t : Int), .int .i64 a3] 39)) (.cells #[.int .i64 a1, .int .i64 (t : Int), .int .i64 a3] 39)) (own_lt ho1)
                  have hr2 := ec_new (wr.alloc (.cells #[.int .i64 a1, .int .i64 (t : Int), .int .i64 a3] 39)) (a1, (t : Int), a3) 39
                  have hb2 := hb1.alloc (Nat.le_trans hWf (below_new wr (.cells #[.int .i64 a1, .int .i64 (t : Int), .int .i64 a3] 39)).size) (.cells #[.int .i64 a1, .int .i64 (t : Int), .int .i64 a3] 39)
                  have hbs2 : b + 1 ≤ ((wr.alloc (.cells #[.int .i64 a1, .int .i64 (t : Int), .int .i64 a3] 39)).alloc (.cells #[.int .i64 a1, .int .i64 (t : Int), .int .i64 a3] 39)).heap.size := by simp; omega
                  rw [show (wr.alloc (.cells #[.int .i64 a1, .int .i64 (t : Int), .int .i64 a3] 39)).heap.size = wr.heap.size + 1 by simp] at hr2
                  clear ho1 hb1
                  go_wp2_with (at_builtin; (refine wpList_app rfl _ _ 34 rfl (b + 1) 39 i0 (.agg #[.int .i64 0, .int .i64 0, .int .i64 0]) 3 24 Try.underlying34 hi hz0 hz1 hz2 rfl (by decide) _ m2 _ rfl ho2 (wr.heap.size + 1 + 1) (some ⟨wr.heap.size + 1, 0, none⟩) 1 1 (ec [(a1, (t : Int), a3)]) rfl hr2 (ec_one _) hm1 hmb hbs2 ?_); intro v' w6 hown6 hst; obtain ⟨Aw6, cw6, rfl⟩ := own_form' hown6)
                  rw [← ec_append, List.append_assoc, ← HS2.out] at hown6
                  have hbw6 := hb2.grown hst.grow hbs2 (own_ge ho2)
                  clear ho2 hr2 hst hb2 e0 e1 e2 kf
                  go_roundw
                  case rel => exact ⟨i + 1, m2 + 1, cw6, Aw6, rfl, by go_num, by omega, HL2.out.symm, hown6, hbw6⟩
                  case measure => simp [intOf]; omega
                · rw [if_neg htl, List.append_nil] at hsn
                  rw [decide_eq_false htl] at kf
                  rw [← hsn] at ho1 hm2
                  have HS := Lib_hid (And.intro ho1 (And.intro hb1 hm2))
                  clear hsn hle htl hm2 ho1 hb1 ht hAq
                  generalize (at3 (R k) i).1 = a1 at *
                  generalize (at3 (R k) i).2.2 = a3 at *
                  go_wp2
                  go_roundw
                  case rel => exact ⟨i + 1, m2, c2, A2, rfl, by go_num, by omega, HS.out.2.2, HS.out.1, HS.out.2.1⟩
                  case measure => simp [intOf]; omega
              · obtain rfl : i = q := by omega
                rw [show (R k).take i = R k from List.take_of_length_le (by rw [HQ.out]; exact Nat.le_refl _)] at ho hm2
                have hac : accE R l (k + 1) = accE R l k ++ selE l (R k) := by rw [accE, if_pos HIN.out]
                rw [← hac] at ho hm2
                have HS := Lib_hid (And.intro ho (And.intro (HO.out.2.1.trans hbw) hm2))
                clear ho hbw hm2 hac
                go_wp2
                go_roundw
                case rel => exact ⟨k + 1, m2, c2, A2, rfl, by go_num, by omega, HS.out.2.2, HS.out.1, HS.out.2.1⟩
                case measure => simp [intOf]; omega
          · rw [decide_eq_false hin] at k0
            have hac : accE R l (k + 1) = accE R l k := by rw [accE, if_neg hin, List.append_nil]
            rw [← hac] at ho hm'
            have HS := Lib_hid (And.intro ho (And.intro hbw hm'))
            clear ho hbw hm' hac hin hbb hfl
            go_wp2
            go_roundw
            case rel => exact ⟨k + 1, m', c', A', rfl, by go_num, by omega, HS.out.2.2, HS.out.1, HS.out.2.1⟩
            case measure => simp [intOf]; omega
        · obtain rfl : k = N := by omega
          have hbb := (HF.out _ hbw).1
          have c0 := (HX.out _ hbb).1
          have hml : m' ≤ 1000000 := by have := HA.out.2.1 k (Nat.le_refl _); have := HN.out.2.2; omega
          have WI := pwith_any (N := k) (c := c') (Rd.own ho) (Nat.le_refl _) (fun e he => HE.out e (HA.out.2.2.2 e he).1) hN hml
          rw [HA.out.1] at WI
          have HWI := Lib_hid WI
          have HBW : Hid (Below w.heap.size w wr) := by rw [HBB.out]; exact hbb
          clear WI ho hbw hbb hm'
          go_wp2_with fail
          refine HWI.out.mono ?_
          rintro r w2 ⟨p2, S2, rfl, hG2, hb2, hS2⟩
          have FIN : Hid (MadeG k (onlyE L l) w (.returned (.pointer (some ⟨p2, 0, none⟩))) w2) := ⟨p2, S2, rfl, hG2, HBW.out.trans (hb2.mono HBW.out.size), fun q hq => Nat.le_trans HBW.out.size (hS2 q hq)⟩
          clear hG2 hb2 hS2
          go_wp2
          go_ret
          exact FIN.out

end Go.Proofs.Ytopecdkkmbpnbaa
