/-
  Layer 5: Right, the document's.
-/
import Derived.Test.YtinmoknbgnngcaaGreatDoorZwVds
import Derived.Test.YtinmoknbgnngcaaGreatDoorZwTqk
namespace Go.Proofs.YtinmoknbgnngcaaGreatDoor
open Go Go.RowKit
set_option linter.unusedVariables false
def Rv.bare (r:Rv):Rv:=
 ⟨r.kind,r.t,if r.kind=2∨r.kind=3∨r.kind=4 then r.x else 0,if r.kind=2 then r.w else 0,if r.kind=2 then r.n else 0,if r.kind=3 then r.v else 0,
  if r.kind=5 then r.p else .node 0 0 0 none 0 [],if r.kind=5 then r.A else none,if r.kind=5 then r.c else 0,if r.kind=5 then r.es else []⟩
theorem same_zero (t:T):T.sameB (.node 0 0 0 []) t=t.sameB (.node 0 0 0 []):=by
 rw [Bool.eq_iff_iff,sameB_iff,sameB_iff]
 exact ⟨fun h=>h.symm,fun h=>h.symm⟩
theorem bare_same {r:Rv} (h:1≤r.kind∧r.kind≤7) (h5:r.kind=5→r.p.abs.rightB=true):r.bare.abs.sameB r.abs=r.abs.rightB:=by
 obtain ⟨k,t,x,wn,nn,v,p,Ae,ce,es⟩:=r
 simp only at h h5
 have hk:k=1∨k=2∨k=3∨k=4∨k=5∨k=6∨k=7:=by omega
 have hz:(V.node 0 0 0 none 0 []).abs=.node 0 0 0 []:=by rw [V.abs,V.absL]
 have e0:∀ n:Nat,(0=n)=(n=0):=fun n=>propext eq_comm
 rcases hk with rfl | rfl | rfl | rfl | rfl | rfl | rfl <;>
  (rw [Bool.eq_iff_iff]; simp [Rv.bare,Rv.abs,Rc.sameB,Rc.rightB,Rc.knownB,Rc.bareB,Rc.emptyB,ofB,List.range,List.range.loop,hz,same_zero,sameB_self,h5,e0,and_assoc]; try (constructor <;> (intro h; simp_all)))
theorem bare_lies {w:World} {lo hi:Nat} {r:Rv} (h:RLies w lo hi r):RLies w lo hi r.bare:=by
 refine ⟨h.kind,h.t,?_,?_,?_,?_,?_,?_,?_,?_,?_⟩ <;> unfold Rv.bare <;> simp only
 · split; exact h.x; omega
 · split; exact h.wn; omega
 · split; exact h.n; omega
 · split; exact h.v; omega
 · split; exact h.p; exact lies_zero _ _ _
 · by_cases h5:r.kind=5
   · simp only [if_pos h5]; exact h.es
   · simp only [if_neg h5]; exact Rd.zero
 · by_cases h5:r.kind=5
   · simp only [if_pos h5]; exact h.cap
   · simp only [if_neg h5]; exact ⟨Nat.le_refl _,by omega⟩
 · by_cases h5:r.kind=5
   · simp only [if_pos h5]; exact h.ok
   · simp only [if_neg h5]; intro e he; cases he
 · by_cases h5:r.kind=5
   · simp only [if_pos h5]; exact h.lo
   · simp only [if_neg h5]; intro ad e; cases e
set_option maxRecDepth 100000 in
set_option maxHeartbeats 6400000 in
theorem rright5_any (r:Rv) (w:World) (lo hi:Nat) (hL:RLies w lo hi r) (hhi:hi≤w.heap.size) (hct:r.p.abs.count≤1000) :
 Calls Tryz.prog 57 #[r.val] w fun e w'=>e=.returned (.bool r.abs.rightB)∧Below w.heap.size w w':=by
 have SM:Hid (∀ W,Below w.heap.size w W→Calls Tryz.prog 22 #[r.bare.val,r.val] W fun e w'=>e=.returned (.bool (r.bare.abs.sameB r.abs))∧Below W.heap.size W w'):=fun W hW=>rsame5_any r.bare r W lo hi lo hi (bare_lies (hL.under (hW.mono hhi))) (Nat.le_trans hhi hW.size) (hL.under (hW.mono hhi)) (Nat.le_trans hhi hW.size)
 have PR:Hid (∀ W,Below w.heap.size w W→Calls Tryz.prog 93 #[r.p.val] W fun e w'=>e=.returned (.bool r.p.abs.rightB)∧Below W.heap.size W w'):=fun W hW=>rright_any r.p W lo hi (hL.p.under (hW.mono hhi)) (Nat.le_trans hhi hW.size) hct
 have HB:Hid (1≤r.kind∧r.kind≤7→(r.kind=5→r.p.abs.rightB=true)→r.bare.abs.sameB r.abs=r.abs.rightB):=fun h h5=>bare_same h h5
 have HN:Hid (¬ (1≤r.kind∧r.kind≤7)→r.abs.rightB=false):=fun h=>(rightB_parts r.abs).1 (by show decide (1≤r.kind∧r.kind≤7)=false; simpa using h)
 have HP:Hid (r.kind=5→r.p.abs.rightB=false→r.abs.rightB=false):=fun h5 hp=>by
  unfold Rc.rightB
  rw [show r.abs.p=r.p.abs from rfl,hp,show r.abs.kind=5 from h5]
  simp
 clear hL hct
 generalize r.abs.rightB=rr at *
 generalize r.bare.abs.sameB r.abs=sb at *
 obtain ⟨k,t,x,wn,nn,v,p,Ae,ce,es⟩:=r
 generalize p.abs.rightB=pr at *
 simp only at HB HN HP
 simp only [Rv.val,Rv.arr,Rv.sl,V.sl]
 by_cases hk:1≤k∧k≤7
 · have hk7:k=1∨k=2∨k=3∨k=4∨k=5∨k=6∨k=7:=by omega
   rcases hk7 with rfl | rfl | rfl | rfl | rfl | rfl | rfl
   · have hb2:=(below_new w (.cells #[.int .i64 1,.int .u64 (t:Int),.int .u64 (x:Int),.int .u64 (wn:Int),.int .u64 (nn:Int),.int .u64 (v:Int),.int .i64 p.kind,.int .u64 (p.a:Int),.int .u64 (p.b:Int),.slice p.addr p.parts.length p.cap,.slice Ae es.length ce] 60)).alloc (by simp) (.cells #[.int .i64 1,.int .u64 (t:Int),.int .u64 0,.int .u64 0,.int .u64 0,.int .u64 0,.int .i64 0,.int .u64 0,.int .u64 0,.slice none 0 0,.slice none 0 0] 60)
     have SK:Hid (∀ W,Below w.heap.size w W→Calls Tryz.prog 22 #[.agg #[.int .i64 1,.int .u64 (t:Int),.int .u64 0,.int .u64 0,.int .u64 0,.int .u64 0,.int .i64 0,.int .u64 0,.int .u64 0,.slice none 0 0,.slice none 0 0],.agg #[.int .i64 1,.int .u64 (t:Int),.int .u64 (x:Int),.int .u64 (wn:Int),.int .u64 (nn:Int),.int .u64 (v:Int),.int .i64 p.kind,.int .u64 (p.a:Int),.int .u64 (p.b:Int),.slice p.addr p.parts.length p.cap,.slice Ae es.length ce]] W fun e w'=>e=.returned (.bool sb)∧Below W.heap.size W w'):=SM
     have HF:=Lib_hid (HB.out (by omega) (fun h=>absurd h (by decide)))
     have hN1:w.heap.size≤w.heap.size+1:=by omega
     clear SM PR HN HP HB hk
     go_enter Tryz.func57,Tryz.ntmps57
     go_wp2_with fail
     refine (SK.out _ hb2).mono ?_
     rintro e w3 ⟨rfl,hb3⟩
     have hb4:Below w.heap.size w w3:=hb2.trans (hb3.mono (by simp; omega))
     clear hb3 hb2 SK
     go_wp2
     go_ret
     exact ⟨ret_b HF.out,hb4⟩
   · have hb2:=(below_new w (.cells #[.int .i64 2,.int .u64 (t:Int),.int .u64 (x:Int),.int .u64 (wn:Int),.int .u64 (nn:Int),.int .u64 (v:Int),.int .i64 p.kind,.int .u64 (p.a:Int),.int .u64 (p.b:Int),.slice p.addr p.parts.length p.cap,.slice Ae es.length ce] 60)).alloc (by simp) (.cells #[.int .i64 2,.int .u64 (t:Int),.int .u64 (x:Int),.int .u64 (wn:Int),.int .u64 (nn:Int),.int .u64 0,.int .i64 0,.int .u64 0,.int .u64 0,.slice none 0 0,.slice none 0 0] 60)
     have SK:Hid (∀ W,Below w.heap.size w W→Calls Tryz.prog 22 #[.agg #[.int .i64 2,.int .u64 (t:Int),.int .u64 (x:Int),.int .u64 (wn:Int),.int .u64 (nn:Int),.int .u64 0,.int .i64 0,.int .u64 0,.int .u64 0,.slice none 0 0,.slice none 0 0],.agg #[.int .i64 2,.int .u64 (t:Int),.int .u64 (x:Int),.int .u64 (wn:Int),.int .u64 (nn:Int),.int .u64 (v:Int),.int .i64 p.kind,.int .u64 (p.a:Int),.int .u64 (p.b:Int),.slice p.addr p.parts.length p.cap,.slice Ae es.length ce]] W fun e w'=>e=.returned (.bool sb)∧Below W.heap.size W w'):=SM
     have HF:=Lib_hid (HB.out (by omega) (fun h=>absurd h (by decide)))
     have hN1:w.heap.size≤w.heap.size+1:=by omega
     clear SM PR HN HP HB hk
     go_enter Tryz.func57,Tryz.ntmps57
     go_wp2_with fail
     refine (SK.out _ hb2).mono ?_
     rintro e w3 ⟨rfl,hb3⟩
     have hb4:Below w.heap.size w w3:=hb2.trans (hb3.mono (by simp; omega))
     clear hb3 hb2 SK
     go_wp2
     go_ret
     exact ⟨ret_b HF.out,hb4⟩
   · have hb2:=(below_new w (.cells #[.int .i64 3,.int .u64 (t:Int),.int .u64 (x:Int),.int .u64 (wn:Int),.int .u64 (nn:Int),.int .u64 (v:Int),.int .i64 p.kind,.int .u64 (p.a:Int),.int .u64 (p.b:Int),.slice p.addr p.parts.length p.cap,.slice Ae es.length ce] 60)).alloc (by simp) (.cells #[.int .i64 3,.int .u64 (t:Int),.int .u64 (x:Int),.int .u64 0,.int .u64 0,.int .u64 (v:Int),.int .i64 0,.int .u64 0,.int .u64 0,.slice none 0 0,.slice none 0 0] 60)
     have SK:Hid (∀ W,Below w.heap.size w W→Calls Tryz.prog 22 #[.agg #[.int .i64 3,.int .u64 (t:Int),.int .u64 (x:Int),.int .u64 0,.int .u64 0,.int .u64 (v:Int),.int .i64 0,.int .u64 0,.int .u64 0,.slice none 0 0,.slice none 0 0],.agg #[.int .i64 3,.int .u64 (t:Int),.int .u64 (x:Int),.int .u64 (wn:Int),.int .u64 (nn:Int),.int .u64 (v:Int),.int .i64 p.kind,.int .u64 (p.a:Int),.int .u64 (p.b:Int),.slice p.addr p.parts.length p.cap,.slice Ae es.length ce]] W fun e w'=>e=.returned (.bool sb)∧Below W.heap.size W w'):=SM
     have HF:=Lib_hid (HB.out (by omega) (fun h=>absurd h (by decide)))
     have hN1:w.heap.size≤w.heap.size+1:=by omega
     clear SM PR HN HP HB hk
     go_enter Tryz.func57,Tryz.ntmps57
     go_wp2_with fail
     refine (SK.out _ hb2).mono ?_
     rintro e w3 ⟨rfl,hb3⟩
     have hb4:Below w.heap.size w w3:=hb2.trans (hb3.mono (by simp; omega))
     clear hb3 hb2 SK
     go_wp2
     go_ret
     exact ⟨ret_b HF.out,hb4⟩
   · have hb2:=(below_new w (.cells #[.int .i64 4,.int .u64 (t:Int),.int .u64 (x:Int),.int .u64 (wn:Int),.int .u64 (nn:Int),.int .u64 (v:Int),.int .i64 p.kind,.int .u64 (p.a:Int),.int .u64 (p.b:Int),.slice p.addr p.parts.length p.cap,.slice Ae es.length ce] 60)).alloc (by simp) (.cells #[.int .i64 4,.int .u64 (t:Int),.int .u64 (x:Int),.int .u64 0,.int .u64 0,.int .u64 0,.int .i64 0,.int .u64 0,.int .u64 0,.slice none 0 0,.slice none 0 0] 60)
     have SK:Hid (∀ W,Below w.heap.size w W→Calls Tryz.prog 22 #[.agg #[.int .i64 4,.int .u64 (t:Int),.int .u64 (x:Int),.int .u64 0,.int .u64 0,.int .u64 0,.int .i64 0,.int .u64 0,.int .u64 0,.slice none 0 0,.slice none 0 0],.agg #[.int .i64 4,.int .u64 (t:Int),.int .u64 (x:Int),.int .u64 (wn:Int),.int .u64 (nn:Int),.int .u64 (v:Int),.int .i64 p.kind,.int .u64 (p.a:Int),.int .u64 (p.b:Int),.slice p.addr p.parts.length p.cap,.slice Ae es.length ce]] W fun e w'=>e=.returned (.bool sb)∧Below W.heap.size W w'):=SM
     have HF:=Lib_hid (HB.out (by omega) (fun h=>absurd h (by decide)))
     have hN1:w.heap.size≤w.heap.size+1:=by omega
     clear SM PR HN HP HB hk
     go_enter Tryz.func57,Tryz.ntmps57
     go_wp2_with fail
     refine (SK.out _ hb2).mono ?_
     rintro e w3 ⟨rfl,hb3⟩
     have hb4:Below w.heap.size w w3:=hb2.trans (hb3.mono (by simp; omega))
     clear hb3 hb2 SK
     go_wp2
     go_ret
     exact ⟨ret_b HF.out,hb4⟩
   · have hb2:=(below_new w (.cells #[.int .i64 5,.int .u64 (t:Int),.int .u64 (x:Int),.int .u64 (wn:Int),.int .u64 (nn:Int),.int .u64 (v:Int),.int .i64 p.kind,.int .u64 (p.a:Int),.int .u64 (p.b:Int),.slice p.addr p.parts.length p.cap,.slice Ae es.length ce] 60)).alloc (by simp) (.cells #[.int .i64 5,.int .u64 (t:Int),.int .u64 0,.int .u64 0,.int .u64 0,.int .u64 0,.int .i64 0,.int .u64 0,.int .u64 0,.slice none 0 0,.slice none 0 0] 60)
     have hx2:=(heap_alloc_old (w.alloc (.cells #[.int .i64 5,.int .u64 (t:Int),.int .u64 (x:Int),.int .u64 (wn:Int),.int .u64 (nn:Int),.int .u64 (v:Int),.int .i64 p.kind,.int .u64 (p.a:Int),.int .u64 (p.b:Int),.slice p.addr p.parts.length p.cap,.slice Ae es.length ce] 60)) (.cells #[.int .i64 5,.int .u64 (t:Int),.int .u64 0,.int .u64 0,.int .u64 0,.int .u64 0,.int .i64 0,.int .u64 0,.int .u64 0,.slice none 0 0,.slice none 0 0] 60) (by simp)).trans (heap_alloc_new w (.cells #[.int .i64 5,.int .u64 (t:Int),.int .u64 (x:Int),.int .u64 (wn:Int),.int .u64 (nn:Int),.int .u64 (v:Int),.int .i64 p.kind,.int .u64 (p.a:Int),.int .u64 (p.b:Int),.slice p.addr p.parts.length p.cap,.slice Ae es.length ce] 60))
     have hy2:=heap_alloc_new (w.alloc (.cells #[.int .i64 5,.int .u64 (t:Int),.int .u64 (x:Int),.int .u64 (wn:Int),.int .u64 (nn:Int),.int .u64 (v:Int),.int .i64 p.kind,.int .u64 (p.a:Int),.int .u64 (p.b:Int),.slice p.addr p.parts.length p.cap,.slice Ae es.length ce] 60)) (.cells #[.int .i64 5,.int .u64 (t:Int),.int .u64 0,.int .u64 0,.int .u64 0,.int .u64 0,.int .i64 0,.int .u64 0,.int .u64 0,.slice none 0 0,.slice none 0 0] 60)
     rw [show (w.alloc (.cells #[.int .i64 5,.int .u64 (t:Int),.int .u64 (x:Int),.int .u64 (wn:Int),.int .u64 (nn:Int),.int .u64 (v:Int),.int .i64 p.kind,.int .u64 (p.a:Int),.int .u64 (p.b:Int),.slice p.addr p.parts.length p.cap,.slice Ae es.length ce] 60)).heap.size=w.heap.size+1 by simp] at hy2
     have P1:=PR.out _ hb2
     have SK:Hid (∀ W,Below w.heap.size w W→Calls Tryz.prog 22 #[.agg #[.int .i64 5,.int .u64 (t:Int),.int .u64 0,.int .u64 0,.int .u64 0,.int .u64 0,.int .i64 p.kind,.int .u64 (p.a:Int),.int .u64 (p.b:Int),.slice p.addr p.parts.length p.cap,.slice Ae es.length ce],.agg #[.int .i64 5,.int .u64 (t:Int),.int .u64 (x:Int),.int .u64 (wn:Int),.int .u64 (nn:Int),.int .u64 (v:Int),.int .i64 p.kind,.int .u64 (p.a:Int),.int .u64 (p.b:Int),.slice p.addr p.parts.length p.cap,.slice Ae es.length ce]] W fun e w'=>e=.returned (.bool sb)∧Below W.heap.size W w'):=SM
     simp only [V.val,V.sl] at P1
     clear SM PR HN
     go_enter Tryz.func57,Tryz.ntmps57
     go_wp2_with fail
     refine P1.mono ?_
     rintro e w3 ⟨rfl,hb3⟩
     have hx3:=(hb3.block _ (lt_of_block hx2)).trans hx2
     have hy3:=(hb3.block _ (lt_of_block hy2)).trans hy2
     replace hb3:=hb2.trans (hb3.mono hb2.size)
     clear P1 hx2 hy2 hb2
     cases pr with
     | false=>
      have HF:Hid (rr=false):=Lib_hid (HP.out (by trivial) (by trivial))
      go_wp2
      go_ret
      exact ⟨ret_b HF.out.symm,hb3⟩
     | true=>
      have HF:Hid (sb=rr):=Lib_hid (HB.out (by omega) (by simp))
      have hN1:w.heap.size≤w.heap.size+1:=by omega
      have hb4:=((((hb3.setCell (p:=⟨w.heap.size+1,6,none⟩) hN1 (.int .i64 p.kind)).setCell (p:=⟨w.heap.size+1,7,none⟩) hN1 (.int .u64 (p.a:Int))).setCell (p:=⟨w.heap.size+1,8,none⟩) hN1 (.int .u64 (p.b:Int))).setCell (p:=⟨w.heap.size+1,9,none⟩) hN1 (.slice p.addr p.parts.length p.cap)).setCell (p:=⟨w.heap.size+1,10,none⟩) hN1 (.slice Ae es.length ce)
      have S1:=SK.out _ hb4
      obtain ⟨a0,a1,a2,a3,a4,a5,a6,a7,a8,a9,a10⟩:=rec_cells hx3
      obtain ⟨d0,d1,d2,d3,d4,d5,d6,d7,d8,d9,d10⟩:=rec_cells hy3
      have z6:=frozen_of_row w3 _ 6 _ _ hy3
      have z7:=frozen_of_row w3 _ 7 _ _ hy3
      have z8:=frozen_of_row w3 _ 8 _ _ hy3
      have z9:=frozen_of_row w3 _ 9 _ _ hy3
      have z10:=frozen_of_row w3 _ 10 _ _ hy3
      clear hx3 hy3 hb3 SK HB HP hk
      go_wp2_with fail
      refine S1.mono ?_
      rintro e w4 ⟨rfl,hb5⟩
      have hb6:=hb4.trans (hb5.mono hb4.size)
      clear hb4 hb5 S1
      go_wp2
      go_ret
      exact ⟨ret_b HF.out,hb6⟩
   · have hb2:=(below_new w (.cells #[.int .i64 6,.int .u64 (t:Int),.int .u64 (x:Int),.int .u64 (wn:Int),.int .u64 (nn:Int),.int .u64 (v:Int),.int .i64 p.kind,.int .u64 (p.a:Int),.int .u64 (p.b:Int),.slice p.addr p.parts.length p.cap,.slice Ae es.length ce] 60)).alloc (by simp) (.cells #[.int .i64 6,.int .u64 (t:Int),.int .u64 0,.int .u64 0,.int .u64 0,.int .u64 0,.int .i64 0,.int .u64 0,.int .u64 0,.slice none 0 0,.slice none 0 0] 60)
     have SK:Hid (∀ W,Below w.heap.size w W→Calls Tryz.prog 22 #[.agg #[.int .i64 6,.int .u64 (t:Int),.int .u64 0,.int .u64 0,.int .u64 0,.int .u64 0,.int .i64 0,.int .u64 0,.int .u64 0,.slice none 0 0,.slice none 0 0],.agg #[.int .i64 6,.int .u64 (t:Int),.int .u64 (x:Int),.int .u64 (wn:Int),.int .u64 (nn:Int),.int .u64 (v:Int),.int .i64 p.kind,.int .u64 (p.a:Int),.int .u64 (p.b:Int),.slice p.addr p.parts.length p.cap,.slice Ae es.length ce]] W fun e w'=>e=.returned (.bool sb)∧Below W.heap.size W w'):=SM
     have HF:=Lib_hid (HB.out (by omega) (fun h=>absurd h (by decide)))
     have hN1:w.heap.size≤w.heap.size+1:=by omega
     clear SM PR HN HP HB hk
     go_enter Tryz.func57,Tryz.ntmps57
     go_wp2_with fail
     refine (SK.out _ hb2).mono ?_
     rintro e w3 ⟨rfl,hb3⟩
     have hb4:Below w.heap.size w w3:=hb2.trans (hb3.mono (by simp; omega))
     clear hb3 hb2 SK
     go_wp2
     go_ret
     exact ⟨ret_b HF.out,hb4⟩
   · have hb2:=(below_new w (.cells #[.int .i64 7,.int .u64 (t:Int),.int .u64 (x:Int),.int .u64 (wn:Int),.int .u64 (nn:Int),.int .u64 (v:Int),.int .i64 p.kind,.int .u64 (p.a:Int),.int .u64 (p.b:Int),.slice p.addr p.parts.length p.cap,.slice Ae es.length ce] 60)).alloc (by simp) (.cells #[.int .i64 7,.int .u64 (t:Int),.int .u64 0,.int .u64 0,.int .u64 0,.int .u64 0,.int .i64 0,.int .u64 0,.int .u64 0,.slice none 0 0,.slice none 0 0] 60)
     have SK:Hid (∀ W,Below w.heap.size w W→Calls Tryz.prog 22 #[.agg #[.int .i64 7,.int .u64 (t:Int),.int .u64 0,.int .u64 0,.int .u64 0,.int .u64 0,.int .i64 0,.int .u64 0,.int .u64 0,.slice none 0 0,.slice none 0 0],.agg #[.int .i64 7,.int .u64 (t:Int),.int .u64 (x:Int),.int .u64 (wn:Int),.int .u64 (nn:Int),.int .u64 (v:Int),.int .i64 p.kind,.int .u64 (p.a:Int),.int .u64 (p.b:Int),.slice p.addr p.parts.length p.cap,.slice Ae es.length ce]] W fun e w'=>e=.returned (.bool sb)∧Below W.heap.size W w'):=SM
     have HF:=Lib_hid (HB.out (by omega) (fun h=>absurd h (by decide)))
     have hN1:w.heap.size≤w.heap.size+1:=by omega
     clear SM PR HN HP HB hk
     go_enter Tryz.func57,Tryz.ntmps57
     go_wp2_with fail
     refine (SK.out _ hb2).mono ?_
     rintro e w3 ⟨rfl,hb3⟩
     have hb4:Below w.heap.size w w3:=hb2.trans (hb3.mono (by simp; omega))
     clear hb3 hb2 SK
     go_wp2
     go_ret
     exact ⟨ret_b HF.out,hb4⟩
 · have HF:=Lib_hid (HN.out hk)
   have hb2:=(below_new w (.cells #[.int .i64 k,.int .u64 (t:Int),.int .u64 (x:Int),.int .u64 (wn:Int),.int .u64 (nn:Int),.int .u64 (v:Int),.int .i64 p.kind,.int .u64 (p.a:Int),.int .u64 (p.b:Int),.slice p.addr p.parts.length p.cap,.slice Ae es.length ce] 60)).alloc (by simp) (.cells #[.int .i64 k,.int .u64 (t:Int),.int .u64 0,.int .u64 0,.int .u64 0,.int .u64 0,.int .i64 0,.int .u64 0,.int .u64 0,.slice none 0 0,.slice none 0 0] 60)
   have n1:¬ k=1:=by omega
   have n2:¬ k=2:=by omega
   have n3:¬ k=3:=by omega
   have n4:¬ k=4:=by omega
   have n5:¬ k=5:=by omega
   have n6:¬ k=6:=by omega
   have n7:¬ k=7:=by omega
   clear SM PR HN HP HB hk
   go_enter Tryz.func57,Tryz.ntmps57
   go_wp2
   go_ret
   exact ⟨ret_b HF.out.symm,hb2⟩
end Go.Proofs.YtinmoknbgnngcaaGreatDoor
