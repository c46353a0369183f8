/-
  For all trees p and q, all bytes behind, and all 64-bit numbers x and v, PredBack(p, q, behind, x, v) returns true and its arguments read afterwards as before.
  The library's tables and errors that the program reads are listed, and tied to the program's text. No other condition.
  (The frame round the walk was printed by the kit's program for this function, and turned to the listed form.)
-/
import Derived.Test.YtpbmgbeiieapiaaGreatDoorRows
import Derived.Test.YtpbmgbeiieapiaaGreatDoorTly
import Derived.Test.YtpbmgbeiieapiaaGreatDoorZcOpr
import Derived.Test.YtpbmgbeiieapiaaGreatDoorZcTpk
import Derived.Test.YtpbmgbeiieapiaaGreatDoorZcTtd
import Derived.Test.YtpbmgbeiieapiaaGreatDoorZcTqr
import Derived.Test.YtpbmgbeiieapiaaGreatDoorCards
import Derived.SevenTiedAt
import Derived.WalkKit
import Derived.ProofKit
import Derived.OpenShut
import Derived.ShutString
import Derived.ChangeOld
import Derived.Below
import Derived.Lay

namespace Go.Proofs.YtpbmgbeiieapiaaGreatDoor.predBack
open Go.ChangeShapes Go.WideShapes Go.ChangeAt Go.RowKit
open Go.ChangeMaps (open_string shut_string)
set_option linter.unusedVariables false

theorem laidOut : laidOutB Tryz.prog = true := by kernel_rfl
theorem own : ownKnob Tryz.prog.godebug = none := by kernel_rfl

set_option maxRecDepth 100000 in
theorem lifted (os : Os) (started : os.Started) (H : Type) (enc : TypeId × Value → H) :
    ReturnsInHanded {} Tryz.checked os 6 .any (fun w args => (Rows.predBackSpec.pre enc Tryz.prog Tryz.f6 [] false w args ∧ laidMetH Tryz.prog laidL w) ∧ sizedMet enc Tryz.prog Tryz.f6 (OpenSpec.ofChange Rows.predBackSpec) false w args)
      (Rows.predBackSpec.post enc Tryz.prog Tryz.f6 false true false false) := by
  refine returnsInHanded_of_change_and (C := Tryz.checked) (X := fun w _ => laidMetH Tryz.prog laidL w) (fun _ _ _ hh h => h.of_heap hh) own started (by kernel_rfl) Tryz.func6
    (ChangeSpec.witness_shaped (enc := enc) (C := Tryz.checked) (os := os) (X := fun w _ => laidMetH Tryz.prog laidL w) false (World.laidAll Tryz.prog os laidL) #[.agg #[.int .i64 0, .int .u64 0, .int .u64 0, .slice none 0 0], .agg #[.int .i64 0, .int .u64 0, .int .u64 0, .slice none 0 0], .slice none 0 0, .int .u64 0, .int .u64 0] 8 (World.laidAll_os _ _ _) (World.shaped_of_ZipB (by kernel_rfl) (by kernel_rfl)) (by kernel_rfl) (by kernel_rfl) (by kernel_rfl)
      (by rw [MakeChecks.laidMetH_plain _ _ _ (by kernel_rfl)]; exact laidMet_laidAll _ (by kernel_rfl) (by kernel_rfl))) ?_
  intro W base args ds gs before hval0 hW _ _ hL _
  have hval : ∀ (j : Nat) t v, Tryz.f6.params[j]? = some t → args[j]? = some v → Value.okWide Tryz.prog W .any base t v := hval0
  have hW' := hW
  obtain ⟨p, q, hA0, hV, rfl, hfz, hnd⟩ := hW
  have hA : DataW.TrodAll enc Tryz.prog W 0 (fun _ => true) true Tryz.f6.params.toList args.toList ds p := hA0
  rw [Tryz.params6] at hA hval
  obtain ⟨v0, vs0, d0, ds0, p0, q0, hargs, rfl, rfl, h0, r0⟩ := trodAll_cons hA
  obtain ⟨v1, vs1, d1, ds1, p1, q1, hargs1, rfl, rfl, h1, r1⟩ := trodAll_cons r0
  obtain ⟨v2, vs2, d2, ds2, p2, q2, hargs2, rfl, rfl, h2, r2⟩ := trodAll_cons r1
  obtain ⟨v3, vs3, d3, ds3, p3, q3, hargs3, rfl, rfl, h3, r3⟩ := trodAll_cons r2
  obtain ⟨v4, vs4, d4, ds4, p4, q4, hargs4, rfl, rfl, h4, r4⟩ := trodAll_cons r3
  obtain ⟨rfl, rfl, rfl⟩ := trodAll_nil r4
  obtain rfl : args = #[v0, v1, v2, v3, v4] := by cases args; simp_all
  obtain ⟨rfl, rfl⟩ := trodVars_none hV
  obtain ⟨cs0, rfl, _⟩ := okWide_struct Tryz.underlying25 (hval 0 25 v0 rfl rfl)
  obtain ⟨cs1, rfl, _⟩ := okWide_struct Tryz.underlying25 (hval 1 25 v1 rfl rfl)
  obtain ⟨A0, len0, cap0, rfl⟩ := okWide_slice Tryz.underlying32 (hval 2 32 v2 rfl rfl)
  obtain ⟨n3, rfl⟩ := okWide_int Tryz.underlying22 (hval 3 22 v3 rfl rfl)
  obtain ⟨n4, rfl⟩ := okWide_int Tryz.underlying22 (hval 4 22 v4 rfl rfl)
  have k0 := h0
  have k1 := h1
  have k2 := h2
  have k3 := h3
  have k4 := h4
  have lt0 : ∀ x ∈ p0, x.block < W.heap.size := by obtain ⟨m, hm⟩ := k0; exact DataW.trod_lt m _ _ _ hm
  have lt1 : ∀ x ∈ p1, x.block < W.heap.size := by obtain ⟨m, hm⟩ := k1; exact DataW.trod_lt m _ _ _ hm
  have lt2 : ∀ x ∈ p2, x.block < W.heap.size := by obtain ⟨m, hm⟩ := k2; exact DataW.trod_lt m _ _ _ hm
  have lt3 : ∀ x ∈ p3, x.block < W.heap.size := by obtain ⟨m, hm⟩ := k3; exact DataW.trod_lt m _ _ _ hm
  have lt4 : ∀ x ∈ p4, x.block < W.heap.size := by obtain ⟨m, hm⟩ := k4; exact DataW.trod_lt m _ _ _ hm
  have tree : ∀ (fuel : Nat) (cs : Array Value) (y : DataW H × List MemPlace), DataW.trod enc Tryz.prog W 0 (fun _ => true) true fuel 25 cs.toList = some y → ∃ v : V, (Value.agg cs) = v.val ∧ Lies W 0 W.heap.size v := by
    intro fuel cs y hf
    obtain ⟨v, g1, g2⟩ := expr_read fuel _ _ hf
    refine ⟨v, ?_, g2⟩
    rw [← Array.toArray_toList (xs := cs), g1]
    rfl
  obtain ⟨p, hp, hpL⟩ : ∃ v : V, (Value.agg cs0) = v.val ∧ Lies W 0 W.heap.size v := by
    obtain ⟨fuel, hf⟩ := h0
    exact tree fuel cs0 _ (by simpa [Value.cells] using hf)
  obtain ⟨q, hq, hqL⟩ : ∃ v : V, (Value.agg cs1) = v.val ∧ Lies W 0 W.heap.size v := by
    obtain ⟨fuel, hf⟩ := h1
    exact tree fuel cs1 _ (by simpa [Value.cells] using hf)
  obtain ⟨x, hx, rfl⟩ : ∃ x : Nat, x < 18446744073709551616 ∧ n3 = (x : Int) := by
    obtain ⟨fuel, hf⟩ := h3
    obtain ⟨d, e, _, w0⟩ := DataW.trod_int Tryz.underlying22 (show DataW.trod enc Tryz.prog W 0 (fun _ => true) true fuel 22 [.int .u64 n3] = _ by simpa [Value.cells] using hf)
    simp at e
    subst e
    have := bounds_u64 w0
    exact ⟨n3.toNat, by omega, by omega⟩
  obtain ⟨z, hz, rfl⟩ : ∃ x : Nat, x < 18446744073709551616 ∧ n4 = (x : Int) := by
    obtain ⟨fuel, hf⟩ := h4
    obtain ⟨d, e, _, w0⟩ := DataW.trod_int Tryz.underlying22 (show DataW.trod enc Tryz.prog W 0 (fun _ => true) true fuel 22 [.int .u64 n4] = _ by simpa [Value.cells] using hf)
    simp at e
    subst e
    have := bounds_u64 w0
    exact ⟨n4.toNat, by omega, by omega⟩
  obtain ⟨lb, hb, hb8, hbc⟩ : ∃ lb, Rd W W.heap.size 1 A0 len0 (bs lb) ∧ (∀ x ∈ lb, x < 256) ∧ (len0 ≤ cap0 ∧ cap0 ≤ 9223372036854775807) := by
    obtain ⟨fuel, hf⟩ := h2
    obtain ⟨a, len, cap, zs, he, g⟩ := row_read (v := .slice A0 len0 cap0) Tryz.underlying32 Tryz.underlying5 (by kernel_rfl) (by simpa [Value.cells] using hf)
    simp only [Value.slice.injEq] at he
    obtain ⟨rfl, rfl, rfl⟩ := he
    exact g.rd
  clear hA0 hval0 tree
  have walk := predback_any p q lb hb8 A0 len0 cap0 hbc x z hx hz W hpL hqL hb (env_of_laid hL) (fun l A n c h1 h2 => tnode_any A n c l h1 h2 8 (Nat.le_refl _)) (fun l A n c s B W h1 h2 h3 => pTakeO_any A n c h1 s B W h2 h3)
  rw [← hp, ← hq] at walk
  refine walk.mono fun e W' ⟨he, bel⟩ => ?_
  subst he
  exact ⟨_, rfl, _, _, _, [], _, [], hW', trodAll_mk1 (shut_bool Tryz.underlying4 _), (trodAll_cons_mk (Below.trod laidOut (by kernel_rfl) (of_decide_eq_true (by kernel_rfl)) k0 bel lt0) (trodAll_cons_mk (Below.trod laidOut (by kernel_rfl) (of_decide_eq_true (by kernel_rfl)) k1 bel lt1) (trodAll_cons_mk (Below.trod laidOut (by kernel_rfl) (of_decide_eq_true (by kernel_rfl)) k2 bel lt2) (trodAll_cons_mk (Below.trod laidOut (by kernel_rfl) (of_decide_eq_true (by kernel_rfl)) k3 bel lt3) (trodAll_cons_mk (Below.trod laidOut (by kernel_rfl) (of_decide_eq_true (by kernel_rfl)) k4 bel lt4) trodAll_mk0))))), rfl, bel.frame _, fun h => by cases h⟩

theorem over : Rows.predBackRow.holds Tryz.pinned (OpenSpec.ofChange Rows.predBackSpec) :=
  OpenClaim.holds_of_wide 6 Tryz.f6 rfl rfl rfl rfl rfl rfl rfl ⟨rfl, rfl, rfl, rfl, rfl⟩ rfl rfl rfl rfl rfl (by kernel_rfl) Tryz.func6 (by kernel_rfl)
    (of_decide_eq_true (by kernel_rfl)) (by unfold Func.isWrapper; first | (rw [if_pos (by decide +kernel)]; kernel_rfl) | (rw [if_neg (by decide +kernel)]; exact ⟨rfl, rfl⟩))
    (fun os started H enc _ => lifted os started H enc)

theorem said : Rows.PredBackSaid := over
theorem proved : Rows.PredBackCardSaid :=
  Claim7.holds_tied_plain_at .later [] [.data, .data, .data, .data, .sentinel, .sentinel, .pinned] true (true, "d26090c0072b2c9b5c20d0254246b5e4fe08edd6f44f83ba9b7323559d35da9b") true
    said (fun _ h => by cases h) (by kernel_rfl) (fun _ h => by cases h) predBack_row_tie rfl ⟨rfl, rfl⟩ (by kernel_rfl) rfl
    (fun f fn hf hfn => by
      obtain rfl : f = 6 := Option.some.inj ((show Tryz.prog.funcNamed "alibi/alibilaw04.PredBack" = some 6 by kernel_rfl).symm.trans hf) |>.symm
      obtain rfl : fn = Tryz.f6 := (Option.some.inj (Tryz.func6.symm.trans hfn)).symm
      exact ⟨by kernel_rfl, fun j t ht => by
        rw [Tryz.params6] at ht
        have hm : t ∈ [25, 25, 32, 22, 22] := by simpa using Array.mem_of_getElem? ht
        have hall : ([25, 25, 32, 22, 22].all fun u => !Tryz.prog.wantsStandIn u) = true := by kernel_rfl
        exact (show Tryz.prog.wantsStandIn t = false by simpa using List.all_eq_true.1 hall t hm)⟩)
    (by kernel_rfl)
#print axioms proved
end Go.Proofs.YtpbmgbeiieapiaaGreatDoor.predBack
