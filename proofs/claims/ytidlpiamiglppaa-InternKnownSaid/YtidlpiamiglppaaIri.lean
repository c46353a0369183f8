/-
  The document's Rising.
-/
import Derived.Test.YtidlpiamiglppaaIrh
import Derived.Deep.RegionHeld3
namespace Go.Proofs.Ytidlpiamiglppaa
open Go Go.RowKit
set_option linter.unusedVariables false

theorem made_ints (n : Nat) : (madeCells #[.int .i64 0] n).toList = ic (List.replicate n 0) := by
  unfold madeCells ic
  apply List.ext_getElem
  · simp
  · intro i h1 h2
    simp [Nat.mod_one]
theorem make_ints (n : Nat) (hn : n ≤ 1000000000) (wx : World) : (Instr.makeSlice 40 (.int .i64 n) (.int .i64 n)).run Try.prog wx = .ok (.slice (some ⟨wx.heap.size, 0, none⟩) n n) (wx.alloc (.cells (madeCells #[.int .i64 0] n) 3)) := by
  obtain ⟨i0, hi, hz0, hz1, hz2⟩ := info_parts Try.infoI
  have := run_make (P := Try.prog) wx 40 3 i0 (.int .i64 0) Try.underlying40 hi hz0 .i64 .i64 (n : Int) (n : Int) (by omega) (by omega) (by rw [hz2]; omega) (by omega)
  rw [hz1, show (Value.int .i64 0).cells = #[.int .i64 0] from rfl] at this
  simpa using this
theorem own_ints (n : Nat) (hn : n ≤ 1000000000) (w : World) : (w.alloc (.cells (madeCells #[.int .i64 0] n) 3)).ownsRow w.heap.size 3 1 (.slice (some ⟨w.heap.size, 0, none⟩) n n) n (ic (List.replicate n 0)) := by
  have := World.ownsRow_lit (base := w.heap.size) (e := 3) (size := 1) w (madeCells #[.int .i64 0] n) n (Nat.le_refl _) (by unfold maxLen; omega) (by rw [size_madeCells]; omega)
  rwa [made_ints] at this
theorem ic_set (s : List Nat) (j k : Nat) : (ic s).set j (.int .i64 (k : Int)) = ic (s.set j k) := by unfold ic; rw [List.map_set]

/-- Ends with a row of numbers in new memory, of which P holds. -/
def IntsEnd (P : List Nat → Prop) (n : Nat) (w : World) (e : Ending) (w' : World) : Prop :=
  ∃ A c s, P s ∧ e = .returned (.slice A n c) ∧ w'.ownsRow w.heap.size 3 1 (.slice A n c) n (ic s) ∧ Below w.heap.size w w'

set_option maxRecDepth 100000 in
set_option maxHeartbeats 1600000 in
theorem rrising_any (B n c : Nat) (A : Option Addr) (l : List PP) (w : World) (h : Rd w B 2 A n (pc l)) (hd : l.Nodup) (hB : B ≤ w.heap.size) (hn : n ≤ 1000000000) :
    Calls Try.prog 18 #[.slice A n c] w (IntsEnd (fun s => Ranks l s l.length) n w) := by
  have HN := Lib_hid (rdp_count h)
  have H := fun (W : World) (hW : Below w.heap.size w W) (i : Nat) (hi : i < n) => p_at (h.below (hW.mono hB)) hi
  have HH := Lib_hid H
  have HD := Lib_hid hd
  clear H h hd
  have MK := make_ints n hn
  have OW := own_ints n hn w
  have hb0 := below_new w (.cells (madeCells #[.int .i64 0] n) 3)
  have hr0 : Hid (Ranks l (List.replicate n 0) 0) := ranks_start l (by simp [HN.out])
  have hsz0 : (w.alloc (.cells (madeCells #[.int .i64 0] n) 3)).heap.size = w.heap.size + 1 := by simp
  generalize hcs : Obj.cells (madeCells #[.int .i64 0] n) 3 = ob at *
  clear hcs
  go_enter Try.func18, Try.ntmps18
  go_wp2
  go_loopw [4] (fun i wr => ∃ (k : Nat) (s : List Nat), i = .int .i64 k ∧ k ≤ n ∧ Hid (Ranks l s k) ∧ wr.ownsRow w.heap.size 3 1 (.slice (some ⟨w.heap.size, 0, none⟩) n n) n (ic s) ∧ Below w.heap.size w wr) (fun i _ => n - (intOf i).toNat)
  case atStart => exact ⟨0, _, rfl, Nat.zero_le _, hr0, OW, hb0⟩
  case round =>
    clear hr0 OW hb0 hsz0
    obtain ⟨k, s, rfl, hk, hr, ho, hbw⟩ := hrel
    by_cases hlt : k < n
    · have ho0 := ho
      have HP := HH.out _ hbw k hlt
      have hkl : k < l.length := by rw [HN.out]; exact hlt
      have hq := aheadP_lt hkl
      have HS : Hid (Ranks l (s.set (aheadP l (at0 l k)) k) (k + 1)) := ranks_step HD.out hkl hr.out
      have HLT := Lib_hid hlt
      have HO := Lib_hid ho
      clear ho0 hr ho HP
      obtain ⟨p, hp⟩ : ∃ p, p = at0 l k := ⟨_, rfl⟩
      rw [← hp] at HS hq
      have HPP := Lib_hid hp
      clear hp
      go_wp2
      go_loopw [5, 6] (fun a j wx => ∃ m : Nat, a = .int .i64 (aheadK l p m : Int) ∧ j = .int .i64 m ∧ m ≤ n ∧ Below wr.heap.size wr wx) (fun _ j _ => n - (intOf j).toNat)
      case atStart => exact ⟨0, by rw [aheadK_zero]; rfl, rfl, Nat.zero_le _, Below.refl _ _⟩
      case round =>
        obtain ⟨m, rfl, rfl, hm, hbx⟩ := hrel
        by_cases hlm : m < n
        · have hbwx := hbw.trans (hbx.mono hbw.size)
          have hml : m < l.length := by rw [HN.out]; exact hlm
          obtain ⟨b, off, rfl, hb, c1, c2⟩ := HH.out _ hbwx m hlm
          obtain ⟨b', off', e, hb', c3, c4⟩ := HH.out _ hbwx k hlt
          simp only [Option.some.injEq, Addr.mk.injEq, and_true] at e
          obtain ⟨rfl, rfl⟩ := e
          rw [← HPP.out] at c3 c4
          have LS : Hid (∀ W : World, Calls Try.prog 36 #[.agg #[.int .u64 ((at0 l m).1 : Int), .int .u64 ((at0 l m).2 : Int)], .agg #[.int .u64 (p.1 : Int), .int .u64 (p.2 : Int)]] W fun e w' => e = .returned (.bool (lessP (at0 l m) p)) ∧ Below W.heap.size W w') := fun W => rless_any (at0 l m) p W
          have EY := Lib_hid (fun h => aheadK_yes (p := p) hml h)
          have EN := Lib_hid (fun h => aheadK_no (p := p) hml h)
          have hal : aheadK l p m ≤ n := Nat.le_trans (aheadK_le l p m) (by omega)
          have KP : Hid (∀ W : World, Below wr.heap.size wr W → W.cell? ⟨b, off + m * 2, none⟩ = some (.int .u64 ((at0 l m).1 : Int)) ∧ W.cell? ⟨b, off + m * 2 + 1, none⟩ = some (.int .u64 ((at0 l m).2 : Int)) ∧ W.cell? ⟨b, off + k * 2, none⟩ = some (.int .u64 (p.1 : Int)) ∧ W.cell? ⟨b, off + k * 2 + 1, none⟩ = some (.int .u64 (p.2 : Int))) := fun W hW =>
            have hbb : b < wr.heap.size := by have := hbwx.size; omega
            ⟨(hW.cell (p := ⟨b, off + m * 2, none⟩) hbb).trans c1, (hW.cell (p := ⟨b, off + m * 2 + 1, none⟩) hbb).trans c2, (hW.cell (p := ⟨b, off + k * 2, none⟩) hbb).trans c3, (hW.cell (p := ⟨b, off + k * 2 + 1, none⟩) hbb).trans c4⟩
          clear c1 c2 c3 c4 hbwx hml
          generalize lessP (at0 l m) p = bb at *
          generalize (at0 l m).1 = x1 at *
          generalize (at0 l m).2 = x2 at *
          generalize p.1 = y1 at *
          generalize p.2 = y2 at *
          have hbx' := Lib_hid hbx
          clear hbx
          cases hbb : bb with
          | true =>
            have e1 := Lib_hid (EY.out hbb)
            subst hbb
            clear EY EN
            go_wp2
            go_region_held3 (fun W => W.cell? ⟨b, off + m * 2, none⟩ = some (.int .u64 (x1 : Int)) ∧ W.cell? ⟨b, off + m * 2 + 1, none⟩ = some (.int .u64 (x2 : Int)) ∧ W.cell? ⟨b, off + k * 2, none⟩ = some (.int .u64 (y1 : Int)) ∧ W.cell? ⟨b, off + k * 2 + 1, none⟩ = some (.int .u64 (y2 : Int)))
              (first | exact KP.out _ (below_drew_ (Below.refl _ _)) | exact KP.out _ (Below.refl _ _) | exact KP.out _ hbs)
              ((first | (go_at_call 36; ((with_reducible refine (LS.out _).mono ?_); rintro e ws ⟨rfl, hs'⟩; have hbs : Below wr.heap.size wr ws := ⟨hs'.os, hs'.tape, hs'.output, hs'.size, hs'.block⟩))))
            have hbz := hbx'.out.trans (hbs.mono hbx'.out.size)
            go_wp2
            go_roundw
            case rel => exact ⟨m + 1, by rw [e1.out]; go_num, by go_num, by omega, hbz⟩
            case measure => simp [intOf]; omega
          | false =>
            have e1 := Lib_hid (EN.out hbb)
            subst hbb
            clear EY EN
            go_wp2
            go_region_held3 (fun W => W.cell? ⟨b, off + m * 2, none⟩ = some (.int .u64 (x1 : Int)) ∧ W.cell? ⟨b, off + m * 2 + 1, none⟩ = some (.int .u64 (x2 : Int)) ∧ W.cell? ⟨b, off + k * 2, none⟩ = some (.int .u64 (y1 : Int)) ∧ W.cell? ⟨b, off + k * 2 + 1, none⟩ = some (.int .u64 (y2 : Int)))
              (first | exact KP.out _ (below_drew_ (Below.refl _ _)) | exact KP.out _ (Below.refl _ _) | exact KP.out _ hbs)
              ((first | (go_at_call 36; ((with_reducible refine (LS.out _).mono ?_); rintro e ws ⟨rfl, hs'⟩; have hbs : Below wr.heap.size wr ws := ⟨hs'.os, hs'.tape, hs'.output, hs'.size, hs'.block⟩))))
            have hbz := hbx'.out.trans (hbs.mono hbx'.out.size)
            go_wp2
            go_roundw
            case rel => exact ⟨m + 1, by rw [e1.out], by go_num, by omega, hbz⟩
            case measure => simp [intOf]; omega
        · obtain rfl : m = n := by omega
          have e := aheadK_all l p
          rw [HN.out] at e
          rw [e]
          rw [HN.out] at hq
          have hbw2 := hbw.trans (hbx.mono hbw.size)
          have ho2 := own_below HO.out hbx (own_lt HO.out)
          have hb3 := HLT.out
          generalize aheadP l p = q at *
          have ⟨hs1, hs2⟩ := ho2.stored q (.int .i64 (k : Int))
          rw [ic_set] at hs1
          have hfr := ho2.frozenAt q
          have hcl := (ho2.cellAt q (by omega)).trans (ic_get (by have := ho2.1; rw [ic_length] at this; omega))
          have hbw3 := hbw2.grown hs2 hbw2.size (own_ge ho2)
          have hqi : (q : Int) < (m : Int) := by omega
          clear ho2 hs2 e hbx hbw
          go_wp2
          go_roundw
          case rel => exact ⟨k + 1, _, by go_num, by omega, HS, hs1, hbw3⟩
          case measure => simp [intOf]; omega
    · obtain rfl : k = n := by omega
      go_wp2
      go_ret
      exact ⟨_, _, s, by rw [HN.out]; exact hr.out, rfl, ho, hbw⟩

end Go.Proofs.Ytidlpiamiglppaa
