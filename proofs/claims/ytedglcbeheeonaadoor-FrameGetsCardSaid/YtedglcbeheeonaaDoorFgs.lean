/-
  Spoil and copy over a row that came in.
-/
import Derived.Test.YtedglcbeheeonaaDoorCam
import Derived.Test.YtedglcbeheeonaaDoorTow
import Derived.Test.YtedglcbeheeonaaDoorFrs
import Derived.Test.YtedglcbeheeonaaDoorFge
import Derived.Test.YtedglcbeheeonaaDoorFwk
import Derived.Lib.SlBuf
namespace Go.Proofs.YtedglcbeheeonaaDoor
open Go Go.RowKit
set_option linter.unusedVariables false

theorem But.tab {n : Nat} {A : Option Addr} {l : List Nat} {w w' : World} {B : Nat} (h : But A n w w') (hr : Rd w B 1 A n (bs l)) (hT : Tab w) : Tab w' := by
  refine ⟨Nat.lt_of_lt_of_le hT.1 h.size, fun k hk => ?_⟩
  have ht := hT.2 k hk
  by_cases hx : 0 < n ∧ ∃ ad, A = some ad ∧ ad.block = 0
  · obtain ⟨hn, ad, e, h0⟩ := hx
    obtain ⟨arr, arr', T, fr, h1, h2, h3, h4⟩ := h.blk hn ad e
    obtain ⟨b, off, e2, _, hc⟩ := rd_cells hr hn
    rw [e] at e2
    injection e2 with e2
    subst e2
    simp only at h0 h1 h2 h4
    subst h0
    have hk2 : k < off ∨ off + n ≤ k := by
      rcases Nat.lt_or_ge k off with h5 | h5
      · exact .inl h5
      · rcases Nat.lt_or_ge k (off + n) with h6 | h6
        · exfalso
          have hl := hr.count
          have := hc (k - off) _ (bs_get (l := l) (j := k - off) (by omega))
          rw [show off + (k - off) = k by omega, ht] at this
          injection this with this
          injection this with this
          cases this
        · exact .inr h6
    have e1 : w.cell? ⟨0, k, none⟩ = arr[k]? := by simp [World.cell?, h1]
    have e3 : w'.cell? ⟨0, k, none⟩ = arr'[k]? := by simp [World.cell?, h2]
    rw [e3, h4 k hk2, ← e1]; exact ht
  · rw [← ht]
    exact World.cell?_of_block (h.other 0 hT.1 fun hn ad e h0 => hx ⟨hn, ad, e, h0.symm⟩)

set_option maxRecDepth 100000 in
theorem spoilb_any (B n c : Nat) (A : Option Addr) (l : List Nat) (w W : World) (h : Rd w B 1 A n (bs l)) (hb : But A n w W) (hf : Free w A n) (hn : n ≤ 9223372036854775807) :
    Calls Tryd.prog 15 #[.slice A n c] W fun e w' => e = .returned (.tuple #[]) ∧ But A n w w' := by
  go_enter Tryd.func15, Tryd.ntmps15
  go_wp2
  go_loopw [2] (fun i wr => ∃ (k : Nat), i = .int .i64 k ∧ k ≤ n ∧ But A n w wr) (fun i _ => n - (intOf i).toNat)
  case atStart => exact ⟨0, rfl, Nat.zero_le _, hb⟩
  case round =>
    clear hb
    obtain ⟨k, rfl, hk, ho⟩ := hrel
    by_cases hlt : k < n
    · obtain ⟨b, off, rfl, _, hc⟩ := rd_cells h (by omega)
      obtain ⟨arr, arr', T, fr, h1, h2, h3, h4⟩ := ho.blk (by omega) _ rfl
      simp only at h1 h2
      have hl := h.count
      have hcw := hc k _ (bs_get (l := l) (j := k) (by omega))
      have hin : off + k < arr.size := by
        simp [World.cell?, h1] at hcw
        exact (Array.getElem?_eq_some_iff.1 hcw).1
      obtain ⟨u, hu⟩ : ∃ u, wr.cell? ⟨b, off + k, none⟩ = some u := ⟨arr'[off + k]'(by omega), by simp [World.cell?, h2, h3, hin]⟩
      have hfr : wr.frozen? ⟨b, off + k, none⟩ = false := (ho.frozen rfl (by omega) _).trans (hf _ rfl k hlt)
      have hs := ho.set rfl hlt (.int .u8 165)
      simp only at hs
      clear ho h1 h2 h4 hc hcw h hf hl h3 hin
      go_wp2
      go_roundw
      case rel => exact ⟨k + 1, by go_num, by omega, hs⟩
      case measure => simp [intOf]; omega
    · go_wp2
      go_end0
      exact ⟨rfl, ho⟩

/-- copy(b, own): all is as it was. -/
theorem copyb {B B' n c c' : Nat} {A A' : Option Addr} {l : List Nat} {w W : World} (h : Rd w B 1 A n (bs l)) (hb : But A n w W) (hf : Free w A n) (h' : Rd W B' 1 A' n (bs l)) :
    ∃ W', (∀ ty, (Builtin.copy_ #[23, 23] ty #[.slice A n c, .slice A' n c']).run Tryd.prog W = .ok (.int .i64 (n : Int)) W') ∧ Below w.heap.size w W' := by
  have hsz : (Tryd.prog.info? 5).map (·.size) = some 1 := by
    obtain ⟨i0, hi, hz0, hz1, hz2⟩ := info_parts Tryd.info5
    rw [hi]; simp [hz1]
  have hl := h.count
  by_cases hn : n = 0
  · subst hn
    exact ⟨W, fun ty => run_copy_none (P := Tryd.prog) W 23 23 ty 5 A A' 0 c 0 c' Tryd.underlying23 hsz rfl, hb.back fun _ _ hx => absurd hx (by omega)⟩
  · obtain ⟨b, off, rfl, _, hc⟩ := rd_cells h (by omega)
    obtain ⟨a, rfl, _, hs⟩ := h'.lies (by omega)
    have hbl : (bs l).length = n := by rw [bs_length]; exact hl
    obtain ⟨arr, arr', T, fr, h1, h2, h3, h4⟩ := hb.blk (by omega) _ rfl
    simp only at h1 h2
    have hin : ∀ j, j < n → (W.cell? ⟨b, off + j, none⟩).isSome = true := by
      intro j hj
      have hcw := hc j _ (bs_get (l := l) (j := j) (by omega))
      simp [World.cell?, h1] at hcw
      have := (Array.getElem?_eq_some_iff.1 hcw).1
      simp [World.cell?, h2, h3, this]
    have hfr : ∀ j, j < n → W.frozen? ⟨b, off + j, none⟩ = false := fun j hj => (hb.frozen rfl (by omega) _).trans (hf _ rfl j hj)
    refine ⟨W.setCells b off (bs l), fun ty => ?_, (But.sets (bs l) 0 W hb (by omega)).back ?_⟩
    · have := run_copy_cells (P := Tryd.prog) W 23 23 ty 5 b off n c a n c' (bs l) Tryd.underlying23 hsz (by rw [hbl]; simp) hs (by rw [hbl]; exact hin) (by rw [hbl]; exact hfr) (bs_one l)
      rw [this, hbl]; rfl
    · intro ad e _ i hi
      injection e with e
      subst e
      show (W.setCells b (off + 0) (bs l)).cell? ⟨b, off + i, none⟩ = _
      rw [Nat.add_zero, World.cell?_setCells_in b (bs l) off W (by rw [hbl]; exact hin) i (by omega), hc i _ (bs_get (l := l) (j := i) (by omega))]
      simp [bs]

end Go.Proofs.YtedglcbeheeonaaDoor
