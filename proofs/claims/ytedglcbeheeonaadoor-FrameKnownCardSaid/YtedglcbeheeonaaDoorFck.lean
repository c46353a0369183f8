/-
  The contract of the program's frame.check.
-/
import Derived.Test.YtedglcbeheeonaaDoorStl
import Derived.Test.YtedglcbeheeonaaDoorSum
import Derived.Test.YtedglcbeheeonaaDoorFra
namespace Go.Proofs.YtedglcbeheeonaaDoor
open Go Go.RowKit
set_option linter.unusedVariables false

set_option maxRecDepth 100000 in
theorem fcheck_any (B : Nat) (A : Option Addr) (n c : Nat) (l : List Nat) (w : World) (hT : Tab w) (h : Rd w B 1 A n (bs l)) (hb : ∀ x ∈ l, x < 256) (hnc : n ≤ c) (hc : c ≤ 9223372036854775807) (hB : B ≤ w.heap.size) :
    Calls Tryd.prog 38 #[.slice A n c] w (Made 5 (le4 (crcN l)) w) := by
  have hb0 := below_new w (.cells #[.slice A n c] 23)
  have hR := Rws.one (c := c) h hb hnc hc
  have hrd : Rd (w.alloc (.cells #[.slice A n c] 23)) (w.heap.size + 1) 1 (some ⟨w.heap.size, 0, none⟩) 1 [.slice A n c] :=
    ⟨rfl, fun _ => ⟨_, rfl, by simp, fun j u hu => by
      match j, hu with
      | 0, hu => simp at hu; subst hu; simp [Addr.add]⟩⟩
  have G := sum_any (w.heap.size + 1) _ 1 1 _ [l] _ (hT.below hb0 hT.1) hrd ((hR.below (hb0.mono hB)).more (by omega)) (by simp) (by omega)
  simp only [List.flatten_cons, List.flatten_nil, List.append_nil] at G
  have hcl := crcN_lt l
  generalize crcN l = s at *
  have e : Hid (bs (le4 s) = [.int .u8 ((s : Int) % 256), .int .u8 ((s : Int) / 256 % 256), .int .u8 ((s : Int) / 65536 % 256), .int .u8 ((s : Int) / 16777216)]) := by
    unfold Hid; simp [bs, le4]; omega
  have HG := Lib_hid G
  clear G hrd hR h hb
  go_enter Tryd.func38, Tryd.ntmps38
  go_wp2_with fail
  refine HG.out.mono ?_
  rintro e w1 ⟨rfl, hb1⟩
  have hbw := hb0.trans (hb1.mono hb0.size)
  clear HG hb1 hb0
  go_wp2_with fail
  go_ret
  exact (made_lit_at (w := w1) _ _ rfl rfl rfl (by rw [e.out]) (by rw [le4_length]; decide)).onto hbw

end Go.Proofs.YtedglcbeheeonaaDoor
