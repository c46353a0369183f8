/-
  The contract of the program's crc.Put, for all rows of bytes.
-/
import Derived.Test.YtaidegnjegmfdabDoorCat
import Derived.Test.YtaidegnjegmfdabDoorStd
import Derived.Test.YtaidegnjegmfdabDoorEqu
namespace Go.Proofs.YtaidegnjegmfdabDoor
open Go Go.RowKit
set_option linter.unusedVariables false

/-- Rows, with their check behind them. -/
def crcPut (l : List Nat) : List Nat := l ++ std (crcN l)

set_option maxRecDepth 100000 in
theorem cput_any (B : Nat) (A : Option Addr) (n c : Nat) (vs : List Value) (ls : List (List Nat)) (w : World) (hT : Tab w) (hrd : Rd w B 1 A n vs) (hR : Rws w B vs ls) (hB : B ≤ w.heap.size) (hn : n ≤ 9223372036854775807) (hm : ls.flatten.length ≤ 140737488355320) :
    Calls Tryd.prog 15 #[.slice A n c] w (Made 5 (crcPut ls.flatten) w) := by
  obtain ⟨i0, hi, hz0, hz1, hz2⟩ := info_parts Tryd.info5
  have G1 := concat_any B A n c vs ls w hrd hR hB hn (by omega)
  have hcl := crcN_lt ls.flatten
  have HF : Hid (crcPut ls.flatten = ls.flatten ++ std (crcN ls.flatten)) := Lib_hid rfl
  have HS : ∀ w1, Below w.heap.size w w1 → Calls Tryd.prog 19 #[.slice A n c] w1 fun e w' => e = .returned (.int .u32 (crcN ls.flatten : Nat)) ∧ Below w1.heap.size w1 w' := fun w1 hb =>
    sum_any B A n c vs ls w1 (hT.below hb hT.1) (hrd.below (hb.mono hB)) (hR.below (hb.mono hB)) (Nat.le_trans hB hb.size) hn
  have HS' := Lib_hid HS
  clear HS hrd hR
  generalize crcN ls.flatten = s at *
  generalize ls.flatten = l at *
  have hm1 : l.length + (std s).length ≤ maxLen := by rw [std_length]; unfold maxLen; omega
  have hm2 : (l.length + (std s).length) * 1 ≤ 140737488355328 := by rw [std_length]; omega
  go_enter Tryd.func15, Tryd.ntmps15
  go_wp2_with fail
  refine G1.mono ?_
  rintro e w1 ⟨A1, c1, rfl, ho1, hb1⟩
  go_wp2_with fail
  refine (HS'.out w1 hb1).mono ?_
  rintro e w2 ⟨rfl, hb2⟩
  go_wp2_with fail
  refine (stand_any s w2 hcl).mono ?_
  rintro e w3 ⟨A3, c3, rfl, ho3, hb3⟩
  have ho1' := own_below (own_below ho1 hb2 (own_lt ho1)) hb3 (fun k hk => Nat.lt_of_lt_of_le (own_lt ho1 k hk) hb2.size)
  have hbw : Below w.heap.size w w3 := (hb1.trans (hb2.mono hb1.size)).trans (hb3.mono (Nat.le_trans hb1.size hb2.size))
  have hr3 := Rd.own ho3
  clear ho1 ho3 hb1 hb2 hb3 G1
  go_wp2_with (at_builtin; (refine wpList_app rfl _ _ 23 rfl w.heap.size 5 i0 (.int .u8 0) 1 1 Tryd.underlying23 hi hz0 hz1 hz2 rfl (by decide) _ l.length _ rfl ho1' w3.heap.size A3 (std s).length c3 (bs (std s)) rfl hr3 (bs_one _) hm1 hm2 hbw.size ?_); intro v' w4 hown' hst; obtain ⟨A2, c2, rfl, _⟩ := own_form hown')
  go_ret
  rw [HF.out, made_iff]
  exact ⟨A2, _, c2, rfl, by rw [bs_append]; exact hown', hbw.trans (hst.below hbw.size (own_ge ho1'))⟩

end Go.Proofs.YtaidegnjegmfdabDoor
