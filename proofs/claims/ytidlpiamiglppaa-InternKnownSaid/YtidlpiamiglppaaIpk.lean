/-
  Layer 7: tables of pairs: what their keys are; find, name of the program.
-/
import Derived.Test.YtidlpiamiglppaaIta
import Derived.Test.YtidlpiamiglppaaIrg
import Derived.DeepKeys4
import Derived.MapViews
import Derived.Deep.RegionHeld3
namespace Go.Proofs.Ytidlpiamiglppaa
open Go Go.RowKit Go.Maps
set_option linter.unusedVariables false

/-- Tables of pairs. -/
def kP : Sk := { K := 59, M := 60, kv := pv, Q := U64, size := 2, E := 59, T := 64, cs := pc }

theorem kp_laid : laidOutB Try.prog = true := by kernel_rfl
theorem kp_row : (59 : TypeId) < Try.prog.types.size := of_decide_eq_true (by kernel_rfl)
theorem kp_wide : (match Try.prog.underlying 59 with | some (.array _ _) | some (.struct _) => true | _ => false) = true := by rw [Try.underlying59]
theorem kp_cells : Try.prog.cellsOf 59 = 2 := by kernel_rfl
theorem kp_cell1 : Try.prog.cellsOf 23 = 1 := by kernel_rfl
theorem wf_u64' {x : Nat} (h : x < 18446744073709551616) : (Lit.int .u64 (x : Int)).wf = true := by
  simp [Lit.wf, IntKind.min, IntKind.max, IntKind.bits, IntKind.signed]
  omega

theorem kp_lits {p : PP} (h : U64 p) (d : Nat) : Try.prog.keyLits (d + 2) 59 (pcell p) = some [.int .u64 (p.1 : Int), .int .u64 (p.2 : Int)] := by
  have w1 := wf_u64' h.1
  have w2 := wf_u64' h.2
  simp [Program.keyLits, Try.underlying59, Try.underlying23, kp_cells, kp_cell1, pcell, w1, w2]

theorem kp_key {p : PP} (h : U64 p) : ∃ kl, keyOf Try.prog 59 (pv p) = some kl := by
  obtain ⟨e, he⟩ : ∃ e, Try.prog.types.size = e + 1 := Nat.exists_eq_succ_of_ne_zero (Nat.ne_of_gt (Nat.lt_of_le_of_lt (Nat.zero_le _) kp_row))
  have hk : Try.prog.keyType 59 = true := by kernel_rfl
  have hf : (pv p).formed Try.prog 59 = true := by simp [Value.formed, pv, Try.underlying59, kp_cells]
  refine ⟨.string (keyBytes [.int .u64 (p.1 : Int), .int .u64 (p.2 : Int)]), ?_⟩
  unfold keyOf
  rw [Try.underlying59]
  simp only [hk, hf, Bool.and_self, if_true]
  rw [he, show (pv p).cells.toList = pcell p from rfl, kp_lits h e]
  rfl

theorem kp_at : Try.prog.keyTypeAt 2 59 = true := by kernel_rfl
set_option maxRecDepth 100000 in
theorem kp_law : Keyed Try.prog 59 := Keyed.of_law (deep_law_laid kp_laid (m := 2) (by omega) kp_row kp_at kp_wide)
set_option maxRecDepth 100000 in
theorem kP_ok : kP.toKd.OK where
  law := kp_law
  ht := Try.underlying60
  key := fun p hp => kp_key hp
  inj := fun p q hp hq h => by
    have h1 : pv p = pv q := h
    unfold pv at h1
    simp at h1
    exact Prod.ext (by omega) (by omega)

set_option maxRecDepth 100000 in
/-- 'm[k] = n', as an equation on its run. -/
theorem MapHas.put_run {kd : Kd} (ok : kd.OK) {w : World} {b : Nat} {ps : List PP} {p : PP} (h : MapHas kd w (some b) ps) (hp : kd.Q p) (hn : p ∉ ps) (hl : ps.length ≤ 1000000000) :
    ∃ w', (Instr.mapUpdate kd.M (.map (some b)) (kd.kv p) (.int .i64 (ps.length : Int))).run Try.prog w = .ok () w' ∧ MapHas kd w' (some b) (ps ++ [p]) ∧ w.grownBy w' (some b) := by
  obtain ⟨kl, hkey⟩ := ok.key p hp
  rcases h with ⟨h, _⟩ | ⟨b', D, e, h, h2⟩
  · cases h
  · cases e
    have hwf : (Lit.int .i64 (ps.length : Int)).wf = true := WalkArith.wf_i64 (by omega)
    obtain ⟨w', hrun, h1, hg⟩ := h.update ok.law ok.ht (by unfold maxLen; omega) hkey (plainElem_int Try.underlying3 hwf)
    exact ⟨w', hrun, MapHas.put ok hp hkey hn h.isMap h2 h1, hg⟩

theorem nil_mapP (m : Option Nat) (wx : World) : (binOp .eql 60 (.map m) (.map none)).run Try.prog wx = .ok (.bool m.isNone) wx := run_eql_map_nil wx _ _ _ m Try.underlying60

set_option maxRecDepth 100000 in
theorem pfind_any {w : World} {p c : Nat} {A : Option Addr} {m : Option Nat} {l : List PP} (h : Tab kP w p A c m l) {q : PP} (hq : U64 q) :
    Calls Try.prog 42 #[.pointer (some ⟨p, 0, none⟩), pv q] w fun e w' => e = .returned (.tuple #[.int .i64 (numP l q : Int), .bool (hasP l q)]) ∧ Below w.heap.size w w' := by
  have hb0 := below_new w (.cells #[.int .u64 (q.1 : Int), .int .u64 (q.2 : Int)] 59)
  have h1 := h.below hb0 h.lt
  have LK : Hid (∀ W, MapHas kP.toKd W m l → (Instr.lookup 60 (.map m) (.agg #[.int .u64 (q.1 : Int), .int .u64 (q.2 : Int)]) true).run Try.prog W = .ok (.tuple #[.int .i64 (numP l q : Int), .bool (hasP l q)]) W) := fun W hW => hW.look kP_ok hq
  have L1 : ∀ k, (Instr.lookup 60 (.map m) (.agg #[.int .u64 (q.1 : Int), .int .u64 (q.2 : Int)]) true).run Try.prog ((w.alloc (.cells #[.int .u64 (q.1 : Int), .int .u64 (q.2 : Int)] 59)).drewN k) = .ok (.tuple #[.int .i64 (numP l q : Int), .bool (hasP l q)]) ((w.alloc (.cells #[.int .u64 (q.1 : Int), .int .u64 (q.2 : Int)] 59)).drewN k) := fun k => LK.out _ (h1.map.keep fun _ _ => rfl)
  have c1 := h.c1
  have hpl := h.lt p (.inl rfl)
  clear h h1 LK
  unfold pv
  generalize (q.1 : Int) = x at *
  generalize (q.2 : Int) = y at *
  generalize numP l q = nn at *
  generalize hasP l q = bb at *
  go_enter Try.func42, Try.ntmps42
  go_wp2
  go_quiet (fail)
  go_wp2
  go_ret2
  exact ⟨rfl, below_drew_ hb0⟩

end Go.Proofs.Ytidlpiamiglppaa
