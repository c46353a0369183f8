/-
  For all records r and other, of any kind and numbers, every frame f and every text s, RecordBack(r, other, f, s) returns true and its arguments read afterwards 
-/
import Derived.Test.YtiiiklenhmhccaaGreatDoorZrSup
import Derived.Test.YtiiiklenhmhccaaGreatDoorRows
import Derived.Test.YtiiiklenhmhccaaGreatDoorCards
import Derived.Test.YtiiiklenhmhccaaGreatDoorZrVzb
import Derived.Test.YtiiiklenhmhccaaGreatDoorZpVhd

namespace Go.Proofs.YtiiiklenhmhccaaGreatDoor.recordBack
open Go.ChangeShapes Go.WideShapes Go.ChangeAt Go.RowKit
open Go.ChangeMaps (open_string shut_string)
set_option linter.unusedVariables false
set_option maxRecDepth 100000 in
theorem lifted (os : Os) (started : os.Started) (H : Type) (enc : TypeId × Value → H) :
    ReturnsInHanded {} Tryz.checked os 6 .any (fun w args => (Rows.recordBackSpec.pre enc Tryz.prog Tryz.f6 [] false w args ∧ laidMetH Tryz.prog laidL w) ∧ sizedMet enc Tryz.prog Tryz.f6 (OpenSpec.ofChange Rows.recordBackSpec) false w args)
      (Rows.recordBackSpec.post enc Tryz.prog Tryz.f6 false true false false) := by
  refine handedH (C := Tryz.checked) (X := fun w _ => laidMetH Tryz.prog laidL w) (fun _ _ _ hh h => h.of_heap hh) ownH started (by kernel_rfl) Tryz.func6
    (ChangeSpec.witness_shaped (enc := enc) (C := Tryz.checked) (os := os) (X := fun w _ => laidMetH Tryz.prog laidL w) false (World.laidAll Tryz.prog os laidL) #[.agg #[.int .i64 0, .int .u64 0, .int .u64 0, .int .u64 0, .int .u64 0, .int .u64 0, .int .i64 0, .int .u64 0, .int .u64 0, .slice none 0 0, .slice none 0 0], .agg #[.int .i64 0, .int .u64 0, .int .u64 0, .int .u64 0, .int .u64 0, .int .u64 0, .int .i64 0, .int .u64 0, .int .u64 0, .slice none 0 0, .slice none 0 0], .agg #[.int .u8 0, .slice none 0 0], .string ByteArray.empty] 8 (World.laidAll_os _ _ _) (World.shaped_of_ZipB (by kernel_rfl) (by kernel_rfl)) (by kernel_rfl) (by kernel_rfl) (by kernel_rfl)
      (by rw [MakeChecks.laidMetH_plain _ _ _ (by kernel_rfl)]; exact laidMet_laidAll _ (by kernel_rfl) (by kernel_rfl))) ?_
  intro W base args ds gs before hval0 hW hL hSh
  have hval : ∀ (j : Nat) t v, Tryz.f6.params[j]? = some t → args[j]? = some v → Value.okWide Tryz.prog W .any base t v := hval0
  have hW' := hW
  obtain ⟨p, q, hA0, hV, rfl, hfz, hnd⟩ := hW
  have hA : DataW.TrodAll enc Tryz.prog W 0 (fun _ => true) true Tryz.f6.params.toList args.toList ds p := hA0
  rw [Tryz.params6] at hA hval
  obtain ⟨v0, vs0, d0, ds0, p0, q0, hargs, rfl, rfl, h0, r_0⟩ := trodAll_cons hA
  obtain ⟨v1, vs1, d1, ds1, p1, q1, hargs1, rfl, rfl, h1, r_1⟩ := trodAll_cons r_0
  obtain ⟨v2, vs2, d2, ds2, p2, q2, hargs2, rfl, rfl, h2, r_2⟩ := trodAll_cons r_1
  obtain ⟨v3, vs3, d3, ds3, p3, q3, hargs3, rfl, rfl, h3, r_3⟩ := trodAll_cons r_2
  obtain ⟨rfl, rfl, rfl⟩ := trodAll_nil r_3
  obtain rfl : args = #[v0, v1, v2, v3] := by cases args; simp_all
  obtain ⟨rfl, rfl⟩ := trodVars_none hV
  obtain ⟨cs0, rfl, _⟩ := okWide_struct Tryz.underlying30 (hval 0 30 v0 rfl rfl)
  obtain ⟨cs1, rfl, _⟩ := okWide_struct Tryz.underlying30 (hval 1 30 v1 rfl rfl)
  obtain ⟨cs2, rfl, _⟩ := okWide_struct Tryz.underlying48 (hval 2 48 v2 rfl rfl)
  obtain ⟨s3, rfl, rfl, rfl, w3⟩ := open_string Tryz.underlying9 (hval 3 9 v3 rfl rfl) h3
  have g0 := h0
  have g1 := h1
  have g2 := h2
  have lt0 : ∀ x ∈ p0, x.block < W.heap.size := by obtain ⟨m, hm⟩ := g0; exact DataW.trod_lt m _ _ _ hm
  have lt1 : ∀ x ∈ p1, x.block < W.heap.size := by obtain ⟨m, hm⟩ := g1; exact DataW.trod_lt m _ _ _ hm
  have lt2 : ∀ x ∈ p2, x.block < W.heap.size := by obtain ⟨m, hm⟩ := g2; exact DataW.trod_lt m _ _ _ hm
  obtain ⟨r0, e0, L0⟩ : ∃ r : Rv, (Value.agg cs0) = r.val ∧ RLies W 0 W.heap.size r := by
    obtain ⟨fuel, hf⟩ := h0
    obtain ⟨r, f1, f2⟩ := rec_read (show DataW.trod enc Tryz.prog W 0 (fun _ => true) true fuel 30 cs0.toList = _ by simpa [Value.cells] using hf)
    exact ⟨r, by rw [← Array.toArray_toList (xs := cs0), f1]; rfl, f2⟩
  obtain ⟨r1, e1, L1⟩ : ∃ r : Rv, (Value.agg cs1) = r.val ∧ RLies W 0 W.heap.size r := by
    obtain ⟨fuel, hf⟩ := h1
    obtain ⟨r, f1, f2⟩ := rec_read (show DataW.trod enc Tryz.prog W 0 (fun _ => true) true fuel 30 cs1.toList = _ by simpa [Value.cells] using hf)
    exact ⟨r, by rw [← Array.toArray_toList (xs := cs1), f1]; rfl, f2⟩
  obtain ⟨k2, A2, n2, c2, l2, e2, hk2, hr2, hb2, hn2⟩ : ∃ (k : Nat) (A : Option Addr) (n c : Nat) (l : List Nat), (Value.agg cs2) = .agg #[.int .u8 (k : Int), .slice A n c] ∧ k < 256 ∧ Rd W W.heap.size 1 A n (bs l) ∧ (∀ x ∈ l, x < 256) ∧ n ≤ c ∧ c ≤ 9223372036854775807 := by
    obtain ⟨fuel, hf⟩ := h2
    obtain ⟨k, A, n, c, l, f1, f2⟩ := frame_read (show DataW.trod enc Tryz.prog W 0 (fun _ => true) true fuel 48 cs2.toList = _ by simpa [Value.cells] using hf)
    exact ⟨k, A, n, c, l, by rw [← Array.toArray_toList (xs := cs2), f1], f2⟩
  have e3 : s3 = ⟨s3.data.toList.toArray⟩ := rfl
  clear hA0 hval0
  have hE : EnvM W.heap.size W := ⟨env_of_laid hL, (let ⟨_, hm⟩ := maxlen_intH hSh; pos_of_cellH hm), maxlen_intH hSh⟩
  have walk := recback_any W.heap.size r0 r1 k2 A2 n2 c2 l2 s3.data.toList W hk2 hr2 hb2 L0 L1 hE (Nat.le_refl _)
  rw [← e0, ← e1, ← e2, ← e3] at walk
  refine walk.mono fun e W' ⟨he, bel⟩ => ?_
  subst he
  exact ⟨_, rfl, _, _, _, [], _, [], hW', trodAll_mk1 (shut_bool Tryz.underlying4 _), (trodAll_cons_mk (Below.trod laidOutH (by kernel_rfl) (of_decide_eq_true (by kernel_rfl)) g0 bel lt0) (trodAll_cons_mk (Below.trod laidOutH (by kernel_rfl) (of_decide_eq_true (by kernel_rfl)) g1 bel lt1) (trodAll_cons_mk (Below.trod laidOutH (by kernel_rfl) (of_decide_eq_true (by kernel_rfl)) g2 bel lt2) (trodAll_cons_mk (shut_string Tryz.underlying9 w3) trodAll_mk0)))), rfl, bel.frame _, fun h => by cases h⟩
theorem over : Rows.recordBackRow.holds Tryz.pinned (OpenSpec.ofChange Rows.recordBackSpec) :=
  OpenClaim.holds_of_wide 6 Tryz.f6 rfl rfl rfl rfl rfl rfl rfl ⟨rfl, rfl, rfl, rfl, rfl⟩ rfl rfl rfl rfl rfl (by kernel_rfl) Tryz.func6 (by kernel_rfl)
    (of_decide_eq_true (by kernel_rfl)) (by unfold Func.isWrapper; first | (rw [if_pos (by decide +kernel)]; kernel_rfl) | (rw [if_neg (by decide +kernel)]; exact ⟨rfl, rfl⟩))
    (fun os started H enc _ => lifted os started H enc)
theorem said : Rows.RecordBackSaid := over
theorem proved : Rows.RecordBackCardSaid :=
  Claim7.holds_tied_plain_at .later [] [.data, .data, .data, .data, .sentinel, .sentinel, .pinned] true (true, "eb9d3bb4c9c891a77409bd6a3dd8898b26aa1620e145f6e52ca2886ffb3f8ff2") true
    said (fun _ h => by cases h) (by kernel_rfl) (fun _ h => by cases h) recordBack_row_tie rfl ⟨rfl, rfl⟩ (by kernel_rfl) rfl
    (fun f fn hf hfn => by
      obtain rfl : f = 6 := Option.some.inj ((show Tryz.prog.funcNamed "alibi/alibilaw05.RecordBack" = some 6 by kernel_rfl).symm.trans hf) |>.symm
      obtain rfl : fn = Tryz.f6 := (Option.some.inj (Tryz.func6.symm.trans hfn)).symm
      exact ⟨by kernel_rfl, fun j t ht => by
        rw [Tryz.params6] at ht
        have hm : t ∈ [30, 30, 48, 9] := by simpa using Array.mem_of_getElem? ht
        have hall : ([30, 30, 48, 9].all fun u => !Tryz.prog.wantsStandIn u) = true := by kernel_rfl
        exact (show Tryz.prog.wantsStandIn t = false by simpa using List.all_eq_true.1 hall t hm)⟩)
    (by kernel_rfl)
#print axioms proved
end Go.Proofs.YtiiiklenhmhccaaGreatDoor.recordBack
