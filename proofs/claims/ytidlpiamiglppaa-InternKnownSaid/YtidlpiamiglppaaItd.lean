/-
  Layer 7: tables of names: the calls, of a table that is there, and of none.
-/
import Derived.Test.YtidlpiamiglppaaItc
namespace Go.Proofs.Ytidlpiamiglppaa
open Go Go.RowKit Go.Maps
set_option linter.unusedVariables false

theorem eql_ptr (p : Nat) (wx : World) : (binOp .eql 33 (.pointer (some ⟨p, 0, none⟩)) (.pointer none)).run Try.prog wx = .ok (.bool false) wx := by
  kernel_rfl

section
variable {w : World} {p c : Nat} {A : Option Addr} {m : Option Nat} {l : List PP}

set_option maxRecDepth 100000 in
theorem tfind_any (h : Tab kU w p A c m l) {q : PP} (hq : NmU q) :
    Calls Try.prog 20 #[.pointer (some ⟨p, 0, none⟩), .int .u64 (q.1 : Int)] w fun e w' => e = .returned (.tuple #[.int .i64 (numP l q : Int), .bool (hasP l q)]) ∧ w = w' := by
  have F := ufind_any h hq
  generalize numP l q = x at *
  generalize hasP l q = y at *
  go_enter Try.func20, Try.ntmps20
  go_wp2_with fail
  refine F.mono ?_
  rintro e w1 ⟨rfl, rfl⟩
  go_wp2
  go_ret2
  exact ⟨rfl, rfl⟩

set_option maxRecDepth 100000 in
theorem tname_any (h : Tab kU w p A c m l) (k : Int) :
    Calls Try.prog 22 #[.pointer (some ⟨p, 0, none⟩), .int .i64 k] w fun e w' => e = .returned (.tuple #[.int .u64 ((nameP l k).1.1 : Int), .int .i64 (nameP l k).2]) ∧ w = w' := by
  have F := uname_any h k
  generalize (nameP l k).1.1 = x at *
  generalize (nameP l k).2 = y at *
  go_enter Try.func22, Try.ntmps22
  go_wp2_with fail
  refine F.mono ?_
  rintro e w1 ⟨rfl, rfl⟩
  go_wp2
  go_ret2
  exact ⟨rfl, rfl⟩

set_option maxRecDepth 100000 in
theorem tadd_any {n c' : Nat} {A' : Option Addr} {xs : List PP} (h : Tab kU w p A c m l) (hr : Rs w (Own p A m) 1 A' n (uc xs)) (hx : ∀ q ∈ xs, NmU q) (hl : l.length + n ≤ 1000000000) :
    Calls Try.prog 13 #[.pointer (some ⟨p, 0, none⟩), .slice A' n c'] w (AddEnd kU l xs (Own p A m) p w) := by
  have F := uadd_any (c' := c') h hr hx hl
  clear hr
  generalize hS : Own p A m = S at *
  have HS := Lib_hid hS
  clear hS
  go_enter Try.func13, Try.ntmps13
  go_wp2_with fail
  refine F.mono ?_
  rintro e w1 ⟨rfl, ht⟩
  have HT := Lib_hid ht
  clear ht F
  go_wp2
  go_ret
  exact ⟨rfl, HT.out⟩

set_option maxRecDepth 100000 in
theorem tnames_any (h : Tab kU w p A c m l) (hl : l.length ≤ 1000000000) :
    Calls Try.prog 14 #[.pointer (some ⟨p, 0, none⟩)] w (MadeC 23 1 l.length (uc l) w) := by
  have c0 := h.c0
  have F := uclone_any _ _ c A _ _ h.rd hl
  clear h
  go_enter Try.func14, Try.ntmps14
  go_wp2_with fail
  refine F.mono ?_
  rintro e w1 ⟨A1, c1, rfl, ho, hb⟩
  have HO := Lib_hid (And.intro ho hb)
  clear F ho hb
  go_wp2
  go_ret
  exact ⟨A1, c1, rfl, HO.out.1, HO.out.2⟩

set_option maxRecDepth 100000 in
theorem trising_any (h : Tab kU w p A c m l) (hz : Zs l) (hl : l.length ≤ 1000000000) :
    Calls Try.prog 15 #[.pointer (some ⟨p, 0, none⟩)] w (IntsEnd (IsRising l) l.length w) := by
  have F := urising_any h hz hl
  clear h
  go_enter Try.func15, Try.ntmps15
  go_wp2_with fail
  refine F.mono ?_
  rintro e w1 ⟨A1, c1, s, hs, rfl, ho, hb⟩
  have HO := Lib_hid (And.intro hs (And.intro ho hb))
  clear F ho hb hs
  go_wp2
  go_ret
  exact ⟨A1, c1, s, HO.out.1, rfl, HO.out.2.1, HO.out.2.2⟩

set_option maxRecDepth 100000 in
theorem tlen_any (h : Tab kU w p A c m l) :
    Calls Try.prog 19 #[.pointer (some ⟨p, 0, none⟩)] w fun e w' => e = .returned (.int .i64 (l.length : Int)) ∧ w = w' := by
  have c0 := h.c0
  clear h
  go_enter Try.func19, Try.ntmps19
  go_wp2
  go_ret
  exact ⟨rfl, rfl⟩

/-- A new table. -/
def TabNew (s : Sk) (l : List PP) (w : World) (e : Ending) (w' : World) : Prop :=
  ∃ p A c m, e = .returned (.pointer (some ⟨p, 0, none⟩)) ∧ Tab s w' p A c m l ∧ (∀ k, Own p A m k → w.heap.size ≤ k) ∧ Below w.heap.size w w'

set_option maxRecDepth 100000 in
theorem tcopy_any (h : Tab kU w p A c m l) (hl : l.length ≤ 1000000000) : Calls Try.prog 10 #[.pointer (some ⟨p, 0, none⟩)] w (TabNew kU l w) := by
  have F := uapart_any h hl
  have HA := Lib_hid (And.intro h.nd h.al)
  clear h
  go_enter Try.func10, Try.ntmps10
  go_wp2_with fail
  refine F.mono ?_
  rintro e w1 ⟨A1, c1, m1, rfl, ho, hm, hmb, hb⟩
  have HF : Hid (TabNew kU l w (.returned (.pointer (some ⟨w1.heap.size, 0, none⟩))) (w1.alloc (.cells #[.slice A1 l.length c1, .map m1] 31))) := by
    have hbn := below_new w1 (.cells #[.slice A1 l.length c1, .map m1] 31)
    refine ⟨_, A1, c1, m1, rfl, ⟨heap_alloc_new w1 _, own_base (own_below ho hbn (own_lt ho)) (fun k _ => Nat.zero_le k), hm.keep fun b e => hbn.block b (hm.lt b e), fun e => ?_, HA.out.1, HA.out.2⟩, ?_, hb.alloc hb.size _⟩
    · have := own_lt ho w1.heap.size (by rw [ob_eq]; exact e); omega
    · rintro k (rfl | e | e)
      · exact hb.size
      · exact own_ge ho k (by rw [ob_eq]; exact e)
      · exact hmb k e
  clear F ho hm hmb hb
  go_wp2
  go_ret
  exact HF.out

set_option maxRecDepth 100000 in
theorem tfrom_any {w : World} {B n c' : Nat} {A' : Option Addr} {xs : List PP} (hr : Rd w B 1 A' n (uc xs)) (hB : B ≤ w.heap.size) (hx : ∀ q ∈ xs, NmU q) (hn : n ≤ 1000000000) :
    Calls Try.prog 24 #[.slice A' n c'] w (TabNew kU (addL [] xs) w) := by
  have T : Tab kU (w.alloc (.cells #[.slice none 0 0, .map none] 31)) w.heap.size none 0 none [] := Tab.new kU rfl w
  have hb := below_new w (.cells #[.slice none 0 0, .map none] 31)
  have hs : (w.alloc (.cells #[.slice none 0 0, .map none] 31)).heap.size = w.heap.size + 1 := by simp
  have F := uadd_any (c' := c') T (Rs.of_rd (hr.below (hb.mono hB)) (by omega) (fun k hk => by
    rintro (e | e | e)
    · omega
    · cases e
    · cases e)) hx (by simpa using hn)
  have HB := Lib_hid (And.intro hb hs)
  clear hr hx T hb hs
  change Calls _ _ _ (w.alloc (.cells #[.slice none 0 0, .map none] 31)) _ at F
  go_enter Try.func24, Try.ntmps24
  go_wp2_with fail
  refine F.mono ?_
  rintro e w1 ⟨rfl, A1, c1, m1, ht, hw, hown⟩
  have HF : Hid (TabNew kU (addL [] xs) w (.returned (.pointer (some ⟨w.heap.size, 0, none⟩))) w1) := by
    refine ⟨_, A1, c1, m1, rfl, ht, fun k hk => ?_, ?_⟩
    · rcases hown k hk with (e | e | e) | e
      · omega
      · cases e
      · cases e
      · have := HB.out.2; omega
    · exact HB.out.1.trans (hw.below (by have := HB.out.2; omega) (fun k hk => by
        rcases hk with e | e | e
        · omega
        · cases e
        · cases e))
  clear F ht hw hown
  generalize lastP [] xs = x at *
  go_wp2
  go_ret
  exact HF.out
end

end Go.Proofs.Ytidlpiamiglppaa
