/-
  Layer 13: whether two graphs are one: Same of the program.
-/
import Derived.Test.YtopecdkkmbpnbaaGgp
namespace Go.Proofs.Ytopecdkkmbpnbaa
open Go Go.RowKit Go.Maps
set_option linter.unusedVariables false

theorem same_of_sub {l m : List Ed} (hl : Srt l) (hm : Srt m) (hs : ∀ e ∈ l, e ∈ m) (hn : l.length = m.length) : l = m := by
  refine Srt.uniq hl hm fun e => ⟨hs e, fun he => ?_⟩
  by_cases h : e ∈ l
  · exact h
  · exfalso
    have h1 : (e :: l).Nodup := List.nodup_cons.2 ⟨h, hl.nodup⟩
    have h2 := sub_len h1 (m := m) fun x hx => by
      rcases List.mem_cons.1 hx with rfl | hx
      · exact he
      · exact hs x hx
    simp at h2
    omega

set_option maxRecDepth 100000 in
set_option maxHeartbeats 3200000 in
theorem psame_any {w : World} {p p' N N' : Nat} {S S' : Nat → Prop} {L L' : List Ed} (h : GmIs w p S N L) (h' : GmIs w p' S' N' L') (hN : N ≤ 65536) (hN' : N' ≤ 65536) (hL : L.length ≤ 1000000) (hL' : L'.length ≤ 1000000) :
    Calls Try.prog 22 #[.pointer (some ⟨p, 0, none⟩), .pointer (some ⟨p', 0, none⟩)] w fun r w' => r = .returned (.bool (decide (N = N' ∧ L = L'))) ∧ Below w.heap.size w w' := by
  have c0 := h.c0
  have c0' := h'.c0
  have MA := Lib_hid (fun (W : World) (hW : Below w.heap.size w W) => pmany_any (h.later hW))
  have MB := Lib_hid (fun (W : World) (hW : Below w.heap.size w W) => pmany_any (h'.later hW))
  by_cases hNN : N = N'
  · subst hNN
    by_cases hLL : L.length = L'.length
    · have HAS := Lib_hid (fun (W : World) (hW : Below w.heap.size w W) (e : Ed) (he : EdOk e) => phas_any (h'.later hW) he)
      have HSS : Hid (Srt L ∧ Srt L' ∧ L.length = L'.length) := ⟨h.srt, h'.srt, hLL⟩
      obtain ⟨m, go, gi, So, Si, R, I, f, tg, hX, hS⟩ := h
      have c2 := hX.c2
      have HX : Hid (∀ W : World, Below w.heap.size w W → ∀ k, k < N → W.cell? ⟨go, k, none⟩ = some (.slice (So k).1 (R k).length (So k).2) ∧ Rd W w.heap.size 3 (So k).1 (R k).length (ec (R k))) := fun W hW k hk => by
        have hX2 := hX.keep hW.size fun k hk _ => hW.block k hk
        exact ⟨hX2.out.cell hk, (Rd.own (hX.out.row k hk)).below hW⟩
      have HM : Hid ((∀ k, k < N → ∀ e ∈ R k, e ∈ L ∧ EdOk e) ∧ (∀ e ∈ L, ∃ k, k < N ∧ e ∈ R k) ∧ ∀ k, k < N → (R k).length ≤ L.length) := ⟨fun k hk e he => ⟨(hX.pl.out.mem k hk e he).1, hX.ok e (hX.pl.out.mem k hk e he).1⟩, fun e he => by
        have := hX.pl.node e he
        exact ⟨e.1.toNat, by omega, (hX.pl.out.iff (by omega) e).2 ⟨he, by omega⟩⟩, fun k hk => hX.pl.out_len hk⟩
      have HN := Lib_hid (And.intro hN hL)
      clear hX hS h' hL hL' hN'
      rw [hLL] at MA
      clear hLL
      generalize hl : L'.length = ln at *
      have HLn := Lib_hid hl
      clear hl
      go_enter Try.func22, Try.ntmps22
      go_upto_region 3 with (fail)
      have d0 : ((N : Int) != (N : Int)) = false := by simp
      have d1 : ((ln : Int) != (ln : Int)) = false := by simp
      go_region_held3 (fun V => V.cell? ⟨p, 0, none⟩ = some (.int .i64 (N : Int)) ∧ V.cell? ⟨p', 0, none⟩ = some (.int .i64 (N : Int)))
        (exact ⟨c0, c0'⟩)
        (first | (go_at_call 33; ((with_reducible refine (MA.out _ (by exact (Below.refl _ _).drew)).mono ?_); rintro r ws ⟨rfl, rfl⟩)) | (go_at_call 33; ((with_reducible refine (MB.out _ (by exact (Below.refl _ _).drew)).mono ?_); rintro r ws ⟨rfl, rfl⟩)))
      clear c0 c0' d0 d1
      go_wp2
      go_loopw [6, 8, 40] (fun x y i wr => ∃ k : Nat, i = .int .i64 k ∧ k ≤ N ∧ Hid (∀ j, j < k → ∀ e ∈ R j, e ∈ L') ∧ Hid (Below w.heap.size w wr)) (fun _ _ i _ => N - (intOf i).toNat)
      case atStart => exact ⟨0, rfl, Nat.zero_le _, (fun j hj => absurd hj (by omega)), (Below.refl _ _).drew⟩
      case round =>
        obtain ⟨k, rfl, hk, hall, hbw⟩ := hrel
        by_cases hlt : k < N
        · obtain ⟨x1, x2⟩ := HX.out _ hbw.out k hlt
          obtain ⟨W1, rfl⟩ : ∃ W1, W1 = wr := ⟨wr, rfl⟩
          have HR := Lib_hid (fun (W : World) (hW : Below w.heap.size w W) (i : Nat) (hi : i < (R k).length) => e_at ((HX.out _ hW k hlt).2) hi)
          have hcapR : (R k).length ≤ 1000000 := Nat.le_trans (HM.out.2.2 k hlt) HN.out.2
          have hki : (k : Int) < (N : Int) := by omega
          have hk0 : (0 : Int) ≤ (k : Int) := by omega
          clear x2
          generalize hq : (R k).length = q at *
          have HQ := Lib_hid hq
          clear hq
          go_wp2
          go_loopw [8, 46] (fun y i wr => ∃ i' : Nat, i = .int .i64 i' ∧ i' ≤ q ∧ Hid (∀ j, j < i' → at3 (R k) j ∈ L') ∧ Hid (Below w.heap.size w wr)) (fun _ i _ => q - (intOf i).toNat)
          case atStart => exact ⟨0, rfl, Nat.zero_le _, (fun j hj => absurd hj (by omega)), hbw⟩
          case round =>
            obtain ⟨i, rfl, hi, hin, hbx⟩ := hrel
            by_cases hlq : i < q
            · obtain ⟨b, off, hA, _, e0, e1, e2⟩ := HR.out _ hbx.out i hlq
              rw [hA]
              have hme := at3_mem (l := R k) (k := i) (by rw [HQ.out]; exact hlq)
              have hok := (HM.out.1 k hlt _ hme).2
              have hb1 : Hid (Below w.heap.size w (wr.alloc (.cells #[.int .i64 (at3 (R k) i).1, .int .i64 (at3 (R k) i).2.1, .int .i64 (at3 (R k) i).2.2] 39))) := hbx.out.alloc hbx.out.size _
              have HA := Lib_hid (HAS.out _ hb1.out (at3 (R k) i) hok)
              unfold eV at HA
              by_cases hmm : at3 (R k) i ∈ L'
              · have hin2 : Hid (∀ j, j < i + 1 → at3 (R k) j ∈ L') := fun j hj => by
                  rcases Nat.lt_or_ge j i with h3 | h3
                  · exact hin.out j h3
                  · obtain rfl : j = i := by omega
                    exact hmm
                rw [decide_eq_true hmm] at HA
                clear hme hok hmm hin hA
                generalize (at3 (R k) i).1 = a1 at *
                generalize (at3 (R k) i).2.1 = a2 at *
                generalize (at3 (R k) i).2.2 = a3 at *
                go_wp2_with fail
                refine HA.out.mono ?_
                rintro r w3 ⟨rfl, hb3⟩
                have HB3 := Lib_hid (hb1.out.trans (hb3.mono hb1.out.size))
                clear hb3 e0 e1 e2
                go_wp2
                go_roundw
                case rel => exact ⟨i + 1, by go_num, by omega, hin2, HB3⟩
                case measure => simp [intOf]; omega
              · have FIN : Hid (decide (N = N ∧ L = L') = false) := decide_eq_false fun hc => hmm (by rw [← hc.2]; exact (HM.out.1 k hlt _ hme).1)
                rw [decide_eq_false hmm] at HA
                clear hme hok hmm hin hA
                generalize (at3 (R k) i).1 = a1 at *
                generalize (at3 (R k) i).2.1 = a2 at *
                generalize (at3 (R k) i).2.2 = a3 at *
                go_wp2_with fail
                refine HA.out.mono ?_
                rintro r w3 ⟨rfl, hb3⟩
                have HB3 := Lib_hid (hb1.out.trans (hb3.mono hb1.out.size))
                clear hb3 e0 e1 e2
                go_wp2
                go_ret
                refine ⟨?_, HB3.out⟩
                first | exact congrArg (fun b => Ending.returned (.bool b)) FIN.out.symm | (have := FIN.out; simp at this; simp [this])
            · obtain rfl : i = q := by omega
              have hall2 : Hid (∀ j, j < k + 1 → ∀ e ∈ R j, e ∈ L') := fun j hj e he => by
                rcases Nat.lt_or_ge j k with h3 | h3
                · exact hall.out j h3 e he
                · obtain rfl : j = k := by omega
                  obtain ⟨t, ht⟩ := List.getElem?_of_mem he
                  have hl := (List.getElem?_eq_some_iff.1 ht).1
                  rw [at3_get hl] at ht
                  rw [← Option.some.inj ht]
                  exact hin.out t (by rw [← HQ.out]; exact hl)
              clear hall hin
              go_wp2
              go_roundw
              case rel => exact ⟨k + 1, by go_num, by omega, hall2, hbx⟩
              case measure => simp [intOf]; omega
        · obtain rfl : k = N := by omega
          have FIN : Hid (decide (k = k ∧ L = L') = true) := decide_eq_true ⟨rfl, same_of_sub HSS.out.1 HSS.out.2.1 (fun e he => by
            obtain ⟨j, hj, hje⟩ := HM.out.2.1 e he
            exact hall.out j hj e hje) (HSS.out.2.2.trans HLn.out.symm)⟩
          clear hall
          go_wp2
          go_ret
          refine ⟨?_, hbw.out⟩
          first | exact congrArg (fun b => Ending.returned (.bool b)) FIN.out.symm | (have := FIN.out; simp at this; simp [this])
    · have FIN : Hid (decide (N = N ∧ L = L') = false) := decide_eq_false fun hc => hLL (by rw [hc.2])
      have d0 : ((N : Int) != (N : Int)) = false := by simp
      have d1 : ((L.length : Int) != (L'.length : Int)) = true := by simp; omega
      clear h h' hLL hL hL' hN hN'
      generalize L.length = l1 at *
      generalize L'.length = l2 at *
      go_enter Try.func22, Try.ntmps22
      go_upto_region 3 with (fail)
      go_region_held3 (fun V => V.cell? ⟨p, 0, none⟩ = some (.int .i64 (N : Int)) ∧ V.cell? ⟨p', 0, none⟩ = some (.int .i64 (N : Int)))
        (exact ⟨c0, c0'⟩)
        (first | (go_at_call 33; ((with_reducible refine (MA.out _ (by exact (Below.refl _ _).drew)).mono ?_); rintro r ws ⟨rfl, rfl⟩)) | (go_at_call 33; ((with_reducible refine (MB.out _ (by exact (Below.refl _ _).drew)).mono ?_); rintro r ws ⟨rfl, rfl⟩)))
      all_goals
        go_wp2
        go_ret
        refine ⟨?_, (Below.refl _ _).drew⟩
        first | exact congrArg (fun b => Ending.returned (.bool b)) FIN.out.symm | (have := FIN.out; simp at this; simp [this])
  · have FIN : Hid (decide (N = N' ∧ L = L') = false) := decide_eq_false fun hc => hNN hc.1
    have d0 : ((N : Int) != (N' : Int)) = true := by simp; omega
    clear h h' hNN hL hL' hN hN' MA MB
    go_enter Try.func22, Try.ntmps22
    go_upto_region 3 with (fail)
    go_quiet (fail)
    go_wp2
    go_ret
    refine ⟨?_, below_drew_ (Below.refl _ _)⟩
    first | exact congrArg (fun b => Ending.returned (.bool b)) FIN.out.symm | (have := FIN.out; simp at this; simp [this])

end Go.Proofs.Ytopecdkkmbpnbaa
