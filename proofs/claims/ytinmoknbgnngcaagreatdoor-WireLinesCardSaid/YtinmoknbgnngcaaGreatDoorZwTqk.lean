/-
  Layer 5: of each part the function that tells whether it is 0, or empty; known.
-/
import Derived.Test.YtinmoknbgnngcaaGreatDoorZwVmk
import Derived.Test.YtinmoknbgnngcaaGreatDoorZwTqc
import Derived.Test.YtinmoknbgnngcaaGreatDoorZwTcf
namespace Go.Proofs.YtinmoknbgnngcaaGreatDoor
open Go Go.RowKit
set_option linter.unusedVariables false
theorem eq0_nat (a:Nat):((a:Int) == 0)=decide (a=0):=by rw [Bool.eq_iff_iff]; simp
theorem known_any (k:Int) (w:World):Calls Tryz.prog 82 #[.int .i64 k] w fun e w'=>e=.returned (.bool (Rc.knownB k))∧w'=w:=by
 by_cases h1:1≤k
 · by_cases h7:k≤7
   · have HK:Hid (Rc.knownB k=true):=by unfold Rc.knownB Hid; simp; omega
     go_enter Tryz.func82,Tryz.ntmps82
     go_wp2
     go_ret
     exact ⟨ret_b (by rw [HK.out]),rfl⟩
   · have HK:Hid (Rc.knownB k=false):=by unfold Rc.knownB Hid; simp; omega
     go_enter Tryz.func82,Tryz.ntmps82
     go_wp2
     go_ret
     exact ⟨ret_b (by rw [HK.out]),rfl⟩
 · have HK:Hid (Rc.knownB k=false):=by unfold Rc.knownB Hid; simp; omega
   go_enter Tryz.func82,Tryz.ntmps82
   go_wp2
   go_ret
   exact ⟨ret_b (by rw [HK.out]),rfl⟩
theorem unborn_any (a b:Nat) (w:World):Calls Tryz.prog 155 #[.agg #[.int .u64 (a:Int),.int .u64 (b:Int)]] w fun e w'=>e=.returned (.bool (decide (a=0∧b=0)))∧Below w.heap.size w w':=by
 go_enter Tryz.func155,Tryz.ntmps155
 go_wp2
 · have HK:Hid (decide (a=0∧b=0)=true):=Lib_hid (by simp_all)
   subst_vars
   go_ret
   exact ⟨rfl,below_new w _⟩
 · have HK:Hid (decide (a=0∧b=0)=false):=Lib_hid (by simp_all)
   go_ret
   exact ⟨ret_b HK.out.symm,below_new w _⟩
 · have HK:Hid (decide (a=0∧b=0)=false):=Lib_hid (by simp_all)
   go_ret
   exact ⟨ret_b HK.out.symm,below_new w _⟩
theorem emptyT_any (r:Rv) (w:World):Calls Tryz.prog 137 #[r.val] w fun e w'=>e=.returned (.bool (r.abs.emptyB 0))∧Below w.heap.size w w':=by
 obtain ⟨k,t,x,wn,n,v,p,A,c,es⟩:=r
 simp only [Rv.val,Rv.arr,Rv.sl,V.sl]
 go_enter Tryz.func137,Tryz.ntmps137
 go_wp2
 go_ret
 exact ⟨ret_b (eq0_nat t),below_new w _⟩
theorem emptyX_any (r:Rv) (w:World):Calls Tryz.prog 148 #[r.val] w fun e w'=>e=.returned (.bool (r.abs.emptyB 1))∧Below w.heap.size w w':=by
 obtain ⟨k,t,x,wn,n,v,p,A,c,es⟩:=r
 simp only [Rv.val,Rv.arr,Rv.sl,V.sl]
 go_enter Tryz.func148,Tryz.ntmps148
 go_wp2
 go_ret
 exact ⟨ret_b (eq0_nat x),below_new w _⟩
theorem emptyV_any (r:Rv) (w:World):Calls Tryz.prog 154 #[r.val] w fun e w'=>e=.returned (.bool (r.abs.emptyB 2))∧Below w.heap.size w w':=by
 obtain ⟨k,t,x,wn,n,v,p,A,c,es⟩:=r
 have HE:Hid ((Rv.abs ⟨k,t,x,wn,n,v,p,A,c,es⟩).emptyB 2=decide (wn=0∧n=0)):=Lib_hid rfl
 generalize (Rv.abs ⟨k,t,x,wn,n,v,p,A,c,es⟩).emptyB 2=eb at *
 simp only [Rv.val,Rv.arr,Rv.sl,V.sl]
 go_enter Tryz.func154,Tryz.ntmps154
 go_wp2_with fail
 refine (unborn_any wn n _).mono ?_
 rintro e w1 ⟨rfl,hb1⟩
 have hb:=(below_new w (.cells #[.int .i64 k,.int .u64 (t:Int),.int .u64 (x:Int),.int .u64 (wn:Int),.int .u64 (n:Int),.int .u64 (v:Int),.int .i64 p.kind,.int .u64 (p.a:Int),.int .u64 (p.b:Int),.slice p.addr p.parts.length p.cap,.slice A es.length c] 68)).trans (hb1.mono (by simp))
 clear hb1
 generalize decide (wn=0∧n=0)=ub at *
 go_wp2
 go_ret
 exact ⟨ret_b HE.out.symm,hb⟩
theorem emptyValue_any (r:Rv) (w:World):Calls Tryz.prog 164 #[r.val] w fun e w'=>e=.returned (.bool (r.abs.emptyB 3))∧Below w.heap.size w w':=by
 obtain ⟨k,t,x,wn,n,v,p,A,c,es⟩:=r
 simp only [Rv.val,Rv.arr,Rv.sl,V.sl]
 go_enter Tryz.func164,Tryz.ntmps164
 go_wp2
 go_ret
 exact ⟨ret_b (eq0_nat v),below_new w _⟩
theorem emptyEntries_any (r:Rv) (w:World):Calls Tryz.prog 182 #[r.val] w fun e w'=>e=.returned (.bool (r.abs.emptyB 5))∧Below w.heap.size w w':=by
 obtain ⟨k,t,x,wn,n,v,p,A,c,es⟩:=r
 have HE:Hid ((Rv.abs ⟨k,t,x,wn,n,v,p,A,c,es⟩).emptyB 5=decide (es=[])):=Lib_hid rfl
 generalize (Rv.abs ⟨k,t,x,wn,n,v,p,A,c,es⟩).emptyB 5=eb at *
 simp only [Rv.val,Rv.arr,Rv.sl,V.sl]
 go_enter Tryz.func182,Tryz.ntmps182
 go_wp2
 go_ret
 exact ⟨ret_b ((by rw [Bool.eq_iff_iff]; simp:((es.length:Int) == 0)=decide (es=[])).trans HE.out.symm),below_new w _⟩
theorem lies_zero (w:World) (lo hi:Nat):Lies w lo hi (.node 0 0 0 none 0 []):=.mk 0 0 0 none 0 [] ⟨by omega,by omega⟩ (by omega) (by omega) Rd.zero ⟨Nat.le_refl _,by omega⟩ (fun ad e hn=>absurd hn (by simp)) (fun p hp=>by cases hp)
theorem emptyP_any (r:Rv) (w:World) (lo hi:Nat) (h:RLies w lo hi r) (hhi:hi≤w.heap.size):Calls Tryz.prog 170 #[r.val] w fun e w'=>e=.returned (.bool (r.abs.emptyB 4))∧Below w.heap.size w w':=by
 obtain ⟨k,t,x,wn,n,v,p,A,c,es⟩:=r
 have HE:Hid ((Rv.abs ⟨k,t,x,wn,n,v,p,A,c,es⟩).emptyB 4=p.abs.sameB (.node 0 0 0 [])):=Lib_hid rfl
 generalize (Rv.abs ⟨k,t,x,wn,n,v,p,A,c,es⟩).emptyB 4=eb at *
 have hb:=below_new w (.cells #[.int .i64 k,.int .u64 (t:Int),.int .u64 (x:Int),.int .u64 (wn:Int),.int .u64 (n:Int),.int .u64 (v:Int),.int .i64 p.kind,.int .u64 (p.a:Int),.int .u64 (p.b:Int),.slice p.addr p.parts.length p.cap,.slice A es.length c] 68)
 have PS:=psame_any p (.node 0 0 0 none 0 []) _ lo hi 0 0 (h.p.under (hb.mono hhi)) (by have:=hb.size; omega) (lies_zero _ 0 0) (Nat.zero_le _)
 clear h
 simp only [V.val,V.sl,V.kind,V.a,V.b,V.addr,V.parts,V.cap] at PS
 simp only [Rv.val,Rv.arr,Rv.sl,V.sl]
 go_enter Tryz.func170,Tryz.ntmps170
 go_wp2_with fail
 refine PS.mono ?_
 rintro e w1 ⟨rfl,hb1⟩
 replace hb1:=hb.trans (hb1.mono hb.size)
 have HE2:Hid (p.abs.sameB (V.node 0 0 0 none 0 []).abs=eb):=Lib_hid (by rw [V.abs,V.absL]; exact HE.out.symm)
 generalize p.abs.sameB (V.node 0 0 0 none 0 []).abs=ub at *
 clear HE hb
 go_wp2
 go_ret
 exact ⟨ret_b HE2.out,hb1⟩
theorem empty_any (i:Nat) (hi6:i<6) (r:Rv) (w:World) (lo hi:Nat) (h:RLies w lo hi r) (hhi:hi≤w.heap.size):Calls Tryz.prog (memptyF i) #[r.val] w fun e w'=>e=.returned (.bool (r.abs.emptyB i))∧Below w.heap.size w w':=by
 have:i=0∨i=1∨i=2∨i=3∨i=4∨i=5:=by omega
 rcases this with rfl | rfl | rfl | rfl | rfl | rfl
 · exact emptyT_any r w
 · exact emptyX_any r w
 · exact emptyV_any r w
 · exact emptyValue_any r w
 · exact emptyP_any r w lo hi h hhi
 · exact emptyEntries_any r w
theorem of_any (i:Nat) (hi6:i<6) (k:Int) (w:World):Calls Tryz.prog (mofF i) #[.int .i64 k] w fun e w'=>e=.returned (.bool (ofB i k))∧w'=w:=by
 have:i=0∨i=1∨i=2∨i=3∨i=4∨i=5:=by omega
 rcases this with rfl | rfl | rfl | rfl | rfl | rfl
 · exact ofT_any k w
 · exact ofX_any k w
 · exact ofV_any k w
 · exact ofValue_any k w
 · exact ofP_any k w
 · exact ofEntries_any k w
set_option maxRecDepth 100000 in
theorem call_of {i:Nat} (hi6:i<6):∀ (args:Array Value) (wx:World),(callFunc (mofF i) args).run Tryz.prog wx=.ok (.enter (mofF i) args) wx:=by
 have:i=0∨i=1∨i=2∨i=3∨i=4∨i=5:=by omega
 rcases this with rfl | rfl | rfl | rfl | rfl | rfl <;> exact fun args wx=>by kernel_rfl
set_option maxRecDepth 100000 in
theorem call_empty {i:Nat} (hi6:i<6):∀ (args:Array Value) (wx:World),(callFunc (memptyF i) args).run Tryz.prog wx=.ok (.enter (memptyF i) args) wx:=by
 have:i=0∨i=1∨i=2∨i=3∨i=4∨i=5:=by omega
 rcases this with rfl | rfl | rfl | rfl | rfl | rfl <;> exact fun args wx=>by kernel_rfl
def Rc.rightB (r:Rc):Bool:=Rc.knownB r.kind && (List.range 6).all r.bareB && (decide (r.kind≠5) || r.p.rightB)
set_option maxRecDepth 100000 in
theorem index_part {i:Nat} (hi6:i<6):∀ wx,(Instr.index 216 (.agg partsA) (.int .i64 (i:Int))).run Tryz.prog wx=.ok (.agg #[.func (.func (mofF i)) #[] #[],.func (.func (memptyF i)) #[] #[],.func (.func (mputF i)) #[] #[],.func (.func (mtakeF i)) #[] #[],.func (.func (mtellF i)) #[] #[],.func (.func (mreadF i)) #[] #[]]) wx:=by
 have:i=0∨i=1∨i=2∨i=3∨i=4∨i=5:=by omega
 rcases this with rfl | rfl | rfl | rfl | rfl | rfl <;> exact fun wx=>by kernel_rfl
theorem rightB_parts (r:Rc):(Rc.knownB r.kind=false→r.rightB=false)∧(∀ i,i<6→r.bareB i=false→r.rightB=false)∧
 (Rc.knownB r.kind=true→(∀ i,i<6→r.bareB i=true)→(r.kind≠5→r.rightB=true)∧(r.kind=5→r.rightB=r.p.rightB)):=by
 refine ⟨fun h=>by simp [Rc.rightB,h],fun i hi h=>?_,fun h h2=>?_⟩
 · have:(List.range 6).all r.bareB=false:=by
    rw [List.all_eq_false]
    exact ⟨i,List.mem_range.2 hi,by simp [h]⟩
   simp [Rc.rightB,this]
 · have:(List.range 6).all r.bareB=true:=by
    rw [List.all_eq_true]
    exact fun i hi=>h2 i (List.mem_range.1 hi)
   exact ⟨fun h5=>by simp [Rc.rightB,h,this,h5],fun h5=>by rw [h5] at h; simp [Rc.rightB,h,this,h5]⟩
theorem rec_cells {w:World} {b:Nat} {a0 a1 a2 a3 a4 a5 a6 a7 a8 a9 a10:Value} {T:TypeId} (h:w.heap[b]? = some (.cells #[a0,a1,a2,a3,a4,a5,a6,a7,a8,a9,a10] T (0,0))) :
 w.cell? ⟨b,0,none⟩=some a0∧w.cell? ⟨b,1,none⟩=some a1∧w.cell? ⟨b,2,none⟩=some a2∧w.cell? ⟨b,3,none⟩=some a3∧w.cell? ⟨b,4,none⟩=some a4∧w.cell? ⟨b,5,none⟩=some a5∧w.cell? ⟨b,6,none⟩=some a6∧w.cell? ⟨b,7,none⟩=some a7∧w.cell? ⟨b,8,none⟩=some a8∧w.cell? ⟨b,9,none⟩=some a9∧w.cell? ⟨b,10,none⟩=some a10:=
 ⟨cell_of_row w _ 0 _ _ _ h,cell_of_row w _ 1 _ _ _ h,cell_of_row w _ 2 _ _ _ h,cell_of_row w _ 3 _ _ _ h,cell_of_row w _ 4 _ _ _ h,cell_of_row w _ 5 _ _ _ h,cell_of_row w _ 6 _ _ _ h,cell_of_row w _ 7 _ _ _ h,cell_of_row w _ 8 _ _ _ h,cell_of_row w _ 9 _ _ _ h,cell_of_row w _ 10 _ _ _ h⟩
set_option maxRecDepth 100000 in
set_option maxHeartbeats 3200000 in
theorem right5_any (r:Rv) (w:World) (lo hi:Nat) (h:RLies w lo hi r) (hhi:hi≤w.heap.size) :
 Calls Tryz.prog 67 #[r.val] w fun e w'=>e=.returned (.bool r.abs.rightB)∧Below w.heap.size w w':=by
 have HR:Hid (∀ W,Below w.heap.size w W→RLies W lo hi r∧hi≤W.heap.size):=fun W hW=>⟨h.under (hW.mono hhi),Nat.le_trans hhi hW.size⟩
 have HB:=Lib_hid (rightB_parts r.abs)
 have EM:Hid (∀ (i:Nat),i<6→∀ W,Below w.heap.size w W→Calls Tryz.prog (memptyF i) #[r.val] W fun e w'=>e=.returned (.bool (r.abs.emptyB i))∧Below W.heap.size W w'):=fun i hi6 W hW=>empty_any i hi6 r W lo hi (HR.out W hW).1 (HR.out W hW).2
 have PR:Hid (∀ W,Below w.heap.size w W→Calls Tryz.prog 99 #[r.p.val] W fun e w'=>e=.returned (.bool r.abs.p.rightB)∧Below W.heap.size W w'):=fun W hW=>pright_any r.p W lo hi (HR.out W hW).1.p (HR.out W hW).2
 have HE:Hid (∀ i,r.abs.bareB i=(ofB i r.kind || r.abs.emptyB i)):=Lib_hid fun i=>rfl
 have HK:Hid (r.abs.kind=r.kind):=rfl
 have hk64:=h.kind
 clear h
 generalize r.abs=ra at *
 obtain ⟨k,t,x,wn,n,v,p,A,c,es⟩:=r
 have hbx:=heap_alloc_new w (.cells #[.int .i64 k,.int .u64 (t:Int),.int .u64 (x:Int),.int .u64 (wn:Int),.int .u64 (n:Int),.int .u64 (v:Int),.int .i64 p.kind,.int .u64 (p.a:Int),.int .u64 (p.b:Int),.slice p.addr p.parts.length p.cap,.slice A es.length c] 68)
 have hb0:=below_new w (.cells #[.int .i64 k,.int .u64 (t:Int),.int .u64 (x:Int),.int .u64 (wn:Int),.int .u64 (n:Int),.int .u64 (v:Int),.int .i64 p.kind,.int .u64 (p.a:Int),.int .u64 (p.b:Int),.slice p.addr p.parts.length p.cap,.slice A es.length c] 68)
 simp only [Rv.val,Rv.arr,Rv.sl,V.sl,V.val] at EM PR HR HE HK hk64 ⊢
 go_enter Tryz.func67,Tryz.ntmps67
 go_wp2_with fail
 refine (known_any k _).mono ?_
 rintro e w1 ⟨rfl,rfl⟩
 cases hkn:Rc.knownB k with
 | false=>
  have HF:=Lib_hid (HB.out.1 (by rw [HK.out]; exact hkn))
  go_wp2
  go_ret
  exact ⟨ret_b HF.out.symm,hb0⟩
 | true=>
  go_wp2_with fail
  refine (parts_any _).mono ?_
  rintro e w2 ⟨rfl,hb2⟩
  have hx2:=(hb2.block w.heap.size (by simp)).trans hbx
  replace hb2:=hb0.trans (hb2.mono hb0.size)
  have HIX:=Lib_hid (fun (i:Nat) (hi6:i<6)=>index_part hi6)
  generalize partsA=pa at *
  clear hbx hb0
  go_wp2
  go_loopw [10] (fun z wr=>∃ i:Nat,z=.int .i64 i∧i≤6∧Hid (∀ j,j<i→ra.bareB j=true)∧wr.heap[w.heap.size]? = some (.cells #[.int .i64 k,.int .u64 (t:Int),.int .u64 (x:Int),.int .u64 (wn:Int),.int .u64 (n:Int),.int .u64 (v:Int),.int .i64 p.kind,.int .u64 (p.a:Int),.int .u64 (p.b:Int),.slice p.addr p.parts.length p.cap,.slice A es.length c] 68 (0,0))∧Below w.heap.size w wr) (fun z _=>6 - (intOf z).toNat)
  case atStart=>exact ⟨0,rfl,by omega,fun j hj=>absurd hj (by omega),hx2,hb2⟩
  case round=>
   clear hx2 hb2
   obtain ⟨i,rfl,hi6,hall,hbx,hbw⟩:=hrel
   have hgl:=lt_of_block hbx
   have c0:wr.cell? ⟨w.heap.size,0,none⟩=some (.int .i64 k):=cell_of_row wr _ 0 _ _ _ hbx
   by_cases hlt:i<6
   · have hix:=HIX.out i hlt
     have hco:=call_of hlt
     have hce:=call_empty hlt
     have OF:=of_any i hlt k
     have CE:=EM.out i hlt
     have hbe:=HE.out i
     have hba:=HB.out.2.1 i hlt
     rw [hbe] at hba
     have hb2:=hbw.alloc hbw.size (.cells #[.func (.func (mofF i)) #[] #[],.func (.func (memptyF i)) #[] #[],.func (.func (mputF i)) #[] #[],.func (.func (mtakeF i)) #[] #[],.func (.func (mtellF i)) #[] #[],.func (.func (mreadF i)) #[] #[]] 170)
     have hx2:=(heap_alloc_old wr (.cells #[.func (.func (mofF i)) #[] #[],.func (.func (memptyF i)) #[] #[],.func (.func (mputF i)) #[] #[],.func (.func (mtakeF i)) #[] #[],.func (.func (mtellF i)) #[] #[],.func (.func (mreadF i)) #[] #[]] 170) hgl).trans hbx
     have hp2:=heap_alloc_new wr (.cells #[.func (.func (mofF i)) #[] #[],.func (.func (memptyF i)) #[] #[],.func (.func (mputF i)) #[] #[],.func (.func (mtakeF i)) #[] #[],.func (.func (mtellF i)) #[] #[],.func (.func (mreadF i)) #[] #[]] 170)
     replace CE:=CE _ hb2
     generalize mofF i=f1 at *
     generalize memptyF i=f2 at *
     generalize mputF i=f3 at *
     generalize mtakeF i=f4 at *
     generalize mtellF i=f5 at *
     generalize mreadF i=f6 at *
     clear c0
     go_upto_region 6 with (fail)
     generalize wr.alloc (.cells #[.func (.func f1) #[] #[],.func (.func f2) #[] #[],.func (.func f3) #[] #[],.func (.func f4) #[] #[],.func (.func f5) #[] #[],.func (.func f6) #[] #[]] 170)=w3 at *
     have hgb:w.heap.size<w3.heap.size:=lt_of_block hx2
     have c0:w3.cell? ⟨w.heap.size,0,none⟩=some (.int .i64 k):=cell_of_row w3 _ 0 _ _ _ hx2
     have d0:w3.cell? ⟨wr.heap.size,0,none⟩=some (.func (.func f1) #[] #[]):=cell_of_row w3 _ 0 _ _ _ hp2
     have d1:w3.cell? ⟨wr.heap.size,1,none⟩=some (.func (.func f2) #[] #[]):=cell_of_row w3 _ 1 _ _ _ hp2
     cases ho:ofB i k with
     | true=>
      have HN:Hid (∀ j,j<i+1→ra.bareB j=true):=fun j hj=>by
       rcases Nat.lt_or_ge j i with h | h
       · exact hall.out j h
       · obtain rfl:j=i:=by omega
         rw [hbe,ho]; rfl
      rw [ho] at OF
      clear hba hbe ho CE hall
      go_wp2_with fail
      refine (OF _).mono ?_
      rintro e w4 ⟨rfl,rfl⟩
      go_wp2
      go_roundw
      case rel=>exact ⟨i+1,by go_num,by omega,HN,hx2,hb2⟩
      case measure=>simp [intOf]; omega
     | false=>
      rw [ho] at OF hba hbe
      clear c0
      obtain ⟨c0,c1,c2,c3,c4,c5,c6,c7,c8,c9,c10⟩:=rec_cells hx2
      go_wp2_with fail
      refine (OF _).mono ?_
      rintro e w4 ⟨rfl,rfl⟩
      go_wp2_with fail
      refine CE.mono ?_
      rintro e w5 ⟨rfl,hb5⟩
      have hx5:=(hb5.block _ hgb).trans hx2
      clear c0 c1 c2 c3 c4 c5 c6 c7 c8 c9 c10
      replace hb5:=hb2.trans (hb5.mono hb2.size)
      cases he:ra.emptyB i with
      | true=>
       have HN:Hid (∀ j,j<i+1→ra.bareB j=true):=fun j hj=>by
        rcases Nat.lt_or_ge j i with h | h
        · exact hall.out j h
        · obtain rfl:j=i:=by omega
          rw [hbe,he]; rfl
       clear hba hbe ho CE OF hall d0 d1 hx2 hp2 hb2
       go_wp2
       go_roundw
       case rel=>exact ⟨i+1,by go_num,by omega,HN,hx5,hb5⟩
       case measure=>simp [intOf]; omega
      | false=>
       have HF:=Lib_hid (hba (by rw [he]; rfl))
       clear hba hbe ho CE OF hall d0 d1 hx2 hp2 hb2
       go_wp2
       go_ret
       exact ⟨ret_b HF.out.symm,hb5⟩
   · obtain rfl:i=6:=by omega
     have HL:=Lib_hid (HB.out.2.2 (by rw [HK.out]; exact hkn) hall.out)
     by_cases h5:k=5
     · have PP:=PR.out _ hbw
       have HL5:=Lib_hid (HL.out.2 (by rw [HK.out]; exact h5))
       have hbw1:=hbw
       subst h5
       have c5:wr.cell? ⟨w.heap.size,6,none⟩=some (.int .i64 p.kind):=cell_of_row wr _ 6 _ _ _ hbx
       have c6:wr.cell? ⟨w.heap.size,7,none⟩=some (.int .u64 (p.a:Int)):=cell_of_row wr _ 7 _ _ _ hbx
       have c7:wr.cell? ⟨w.heap.size,8,none⟩=some (.int .u64 (p.b:Int)):=cell_of_row wr _ 8 _ _ _ hbx
       have c8:wr.cell? ⟨w.heap.size,9,none⟩=some (.slice p.addr p.parts.length p.cap):=cell_of_row wr _ 9 _ _ _ hbx
       go_wp2_with fail
       refine PP.mono ?_
       rintro e w3 ⟨rfl,hb3⟩
       have hb4:=hbw.trans (hb3.mono hbw.size)
       clear hb3 c0 c5 c6 c7 c8
       generalize ra.p.rightB=pr at *
       go_wp2
       go_ret
       exact ⟨ret_b HL5.out.symm,hb4⟩
     · have HL6:=Lib_hid (HL.out.1 (by rw [HK.out]; exact h5))
       have q5:(k != 5)=true:=by simp [h5]
       go_wp2
       go_ret
       exact ⟨ret_b HL6.out.symm,hbw⟩
theorem Tryz.infoPt:(Tryz.prog.info? 170).map (fun i=>(i.zero,i.size,i.bytes))=some (some (.agg #[.nilFunc,.nilFunc,.nilFunc,.nilFunc,.nilFunc,.nilFunc]),6,48):=by kernel_rfl
def partsN (k:Int) (i:Nat):List Nat:=(List.range i).filter fun j=>ofB j k
def psL (l:List Nat):List Value:=l.flatMap partL
theorem psL_append (l m:List Nat):psL (l ++ m)=psL l ++ psL m:=by simp [psL]
theorem partsN_yes {k:Int} {i:Nat} (h:ofB i k=true):partsN k (i+1)=partsN k i ++ [i]:=by simp [partsN,List.range_succ,h]
theorem partsN_no {k:Int} {i:Nat} (h:ofB i k=false):partsN k (i+1)=partsN k i:=by simp [partsN,List.range_succ,h]
theorem partsN_le (k:Int) (i:Nat):(partsN k i).length≤i:=by
 have:=List.length_filter_le (fun j=>ofB j k) (List.range i)
 rw [List.length_range] at this
 exact this
theorem rd_row {w:World} {b size n:Nat} {l:List Value} {T:TypeId} (h:w.heap[b]? = some (.cells l.toArray T (0,0))) (hl:l.length=n * size):Rd w (b+1) size (some ⟨b,0,none⟩) n l:=by
 refine ⟨hl,fun _=>⟨_,rfl,by simp,fun j x hx=>?_⟩⟩
 have e:(⟨b,0,none⟩:Addr).add j=⟨b,j,none⟩:=by unfold Addr.add; split <;> simp_all
 rw [e,cell_of_row _ _ j _ _ _ h,← hx]
 simp
def PsEnd (B:Nat) (l:List Nat) (w:World) (e:Ending) (w':World):Prop:=∃ A c,e=.returned (.slice A l.length c)∧w'.ownsRow B 170 6 (.slice A l.length c) l.length (psL l)∧Below w.heap.size w w'
set_option maxRecDepth 100000 in
set_option maxHeartbeats 3200000 in
theorem partsof_any (k:Int) (w:World):Calls Tryz.prog 68 #[.int .i64 k] w (PsEnd w.heap.size (partsN k 6) w):=by
 obtain ⟨i0,hi,hz0,hz1,hz2⟩:=info_parts Tryz.infoPt
 have HQ:Hid (partsN k 0=[]):=rfl
 have PE:Hid (∀ (A:Option Addr) (n c:Nat) (W:World),n=(partsN k 6).length→W.ownsRow w.heap.size 170 6 (.slice A n c) n (psL (partsN k 6))→Below w.heap.size w W→PsEnd w.heap.size (partsN k 6) w (.returned (.slice A n c)) W):=fun A n c W h1 h2 h3=>by subst h1; exact ⟨A,c,rfl,h2,h3⟩
 go_enter Tryz.func68,Tryz.ntmps68
 go_wp2_with fail
 refine (parts_any _).mono ?_
 rintro e w2 ⟨rfl,hb2⟩
 have HIX:=Lib_hid (fun (i:Nat) (hi6:i<6)=>index_part hi6)
 generalize partsA=pa at *
 go_wp2
 go_loopw [3,7] (fun v z wr=>∃ (i n c:Nat) (A:Option Addr),v=.slice A n c∧z=.int .i64 i∧i≤6∧n≤i∧Hid (n=(partsN k i).length)∧wr.ownsRow w.heap.size 170 6 (.slice A n c) n (psL (partsN k i))∧Below w.heap.size w wr) (fun _ z _=>6 - (intOf z).toNat)
 case atStart=>exact ⟨0,0,0,none,rfl,rfl,by omega,by omega,rfl,World.ownsRow_nil _ _ _ _,hb2⟩
 case round=>
  clear hb2
  obtain ⟨i,n,c,A,rfl,rfl,hi6,hn6,hn,hown,hbw⟩:=hrel
  by_cases hlt:i<6
  · have hix:=HIX.out i hlt
    have hco:=call_of hlt
    have OF:=of_any i hlt k
    have HPL:Hid (partL i=[.func (.func (mofF i)) #[] #[],.func (.func (memptyF i)) #[] #[],.func (.func (mputF i)) #[] #[],.func (.func (mtakeF i)) #[] #[],.func (.func (mtellF i)) #[] #[],.func (.func (mreadF i)) #[] #[]]):=rfl
    have hb2:=hbw.alloc hbw.size (.cells #[.func (.func (mofF i)) #[] #[],.func (.func (memptyF i)) #[] #[],.func (.func (mputF i)) #[] #[],.func (.func (mtakeF i)) #[] #[],.func (.func (mtellF i)) #[] #[],.func (.func (mreadF i)) #[] #[]] 170)
    have hp2:=heap_alloc_new wr (.cells #[.func (.func (mofF i)) #[] #[],.func (.func (memptyF i)) #[] #[],.func (.func (mputF i)) #[] #[],.func (.func (mtakeF i)) #[] #[],.func (.func (mtellF i)) #[] #[],.func (.func (mreadF i)) #[] #[]] 170)
    have ho2:=own_below hown (below_new wr (.cells #[.func (.func (mofF i)) #[] #[],.func (.func (memptyF i)) #[] #[],.func (.func (mputF i)) #[] #[],.func (.func (mtakeF i)) #[] #[],.func (.func (mtellF i)) #[] #[],.func (.func (mreadF i)) #[] #[]] 170)) (own_lt hown)
    generalize mofF i=f1 at *
    generalize memptyF i=f2 at *
    generalize mputF i=f3 at *
    generalize mtakeF i=f4 at *
    generalize mtellF i=f5 at *
    generalize mreadF i=f6 at *
    go_upto_region 5 with (fail)
    generalize wr.alloc (.cells #[.func (.func f1) #[] #[],.func (.func f2) #[] #[],.func (.func f3) #[] #[],.func (.func f4) #[] #[],.func (.func f5) #[] #[],.func (.func f6) #[] #[]] 170)=w3 at *
    have d0:w3.cell? ⟨wr.heap.size,0,none⟩=some (.func (.func f1) #[] #[]):=cell_of_row w3 _ 0 _ _ _ hp2
    have d1:w3.cell? ⟨wr.heap.size,1,none⟩=some (.func (.func f2) #[] #[]):=cell_of_row w3 _ 1 _ _ _ hp2
    have d2:w3.cell? ⟨wr.heap.size,2,none⟩=some (.func (.func f3) #[] #[]):=cell_of_row w3 _ 2 _ _ _ hp2
    have d3:w3.cell? ⟨wr.heap.size,3,none⟩=some (.func (.func f4) #[] #[]):=cell_of_row w3 _ 3 _ _ _ hp2
    have d4:w3.cell? ⟨wr.heap.size,4,none⟩=some (.func (.func f5) #[] #[]):=cell_of_row w3 _ 4 _ _ _ hp2
    have d5:w3.cell? ⟨wr.heap.size,5,none⟩=some (.func (.func f6) #[] #[]):=cell_of_row w3 _ 5 _ _ _ hp2
    cases ho:ofB i k with
    | true=>
     have HN:Hid (partsN k (i+1)=partsN k i ++ [i]):=partsN_yes ho
     rw [ho] at OF
     have hm1:n+1≤maxLen:=by unfold maxLen; omega
     have hm2:(n+1) * 48≤140737488355328:=by omega
     have hb3:=hb2.alloc hb2.size (.cells #[.func (.func f1) #[] #[],.func (.func f2) #[] #[],.func (.func f3) #[] #[],.func (.func f4) #[] #[],.func (.func f5) #[] #[],.func (.func f6) #[] #[]] 170)
     have ho3:=own_below ho2 (below_new w3 (.cells #[.func (.func f1) #[] #[],.func (.func f2) #[] #[],.func (.func f3) #[] #[],.func (.func f4) #[] #[],.func (.func f5) #[] #[],.func (.func f6) #[] #[]] 170)) (own_lt ho2)
     have hr3:=rd_row (size:=6) (n:=1) (l:=[.func (.func f1) #[] #[],.func (.func f2) #[] #[],.func (.func f3) #[] #[],.func (.func f4) #[] #[],.func (.func f5) #[] #[],.func (.func f6) #[] #[]]) (heap_alloc_new w3 (.cells #[.func (.func f1) #[] #[],.func (.func f2) #[] #[],.func (.func f3) #[] #[],.func (.func f4) #[] #[],.func (.func f5) #[] #[],.func (.func f6) #[] #[]] 170)) rfl
     have h1c:∀ u∈([.func (.func f1) #[] #[],.func (.func f2) #[] #[],.func (.func f3) #[] #[],.func (.func f4) #[] #[],.func (.func f5) #[] #[],.func (.func f6) #[] #[]]:List Value),u.oneCell'=true:=by
      intro u hu
      simp only [List.mem_cons,List.not_mem_nil,or_false] at hu
      rcases hu with rfl | rfl | rfl | rfl | rfl | rfl <;> rfl
     clear ho hown hp2 ho2
     go_wp2_with fail
     refine (OF _).mono ?_
     rintro e w4 ⟨rfl,rfl⟩
     go_wp2_with (at_builtin; (refine wpList_app rfl _ _ 162 rfl w.heap.size 170 i0 (.agg #[.nilFunc,.nilFunc,.nilFunc,.nilFunc,.nilFunc,.nilFunc]) 6 48 Tryz.underlying162 hi hz0 hz1 hz2 rfl (by decide) (.slice A n c) n _ rfl ho3 _ _ 1 1 _ rfl hr3 h1c hm1 hm2 hb3.size ?_); intro v' w5 hown' hst; obtain ⟨A',c',rfl,_⟩:=own_form hown')
     go_roundw
     case rel=>
      have hps:psL (partsN k i ++ [i])=psL (partsN k i) ++ [.func (.func f1) #[] #[],.func (.func f2) #[] #[],.func (.func f3) #[] #[],.func (.func f4) #[] #[],.func (.func f5) #[] #[],.func (.func f6) #[] #[]]:=by
       rw [psL_append,show psL [i]=partL i by simp [psL],HPL.out]
      exact ⟨i+1,n+1,c',A',rfl,by go_num,by omega,by omega,Lib_hid (by rw [HN.out,List.length_append,← hn.out]; rfl),by rw [HN.out,hps]; exact hown',hb3.trans (hst.below hb3.size fun g hg=>own_ge ho3 g hg)⟩
     case measure=>simp [intOf]; omega
    | false=>
     have HN:Hid (partsN k (i+1)=partsN k i):=partsN_no ho
     rw [ho] at OF
     clear ho hown hp2
     go_wp2_with fail
     refine (OF _).mono ?_
     rintro e w4 ⟨rfl,rfl⟩
     clear d0 d1 d2 d3 d4 d5
     go_wp2
     go_roundw
     case rel=>exact ⟨i+1,n,c,A,rfl,by go_num,by omega,by omega,Lib_hid (by rw [HN.out]; exact hn.out),by rw [HN.out]; exact ho2,hb2⟩
     case measure=>simp [intOf]; omega
  · obtain rfl:i=6:=by omega
    go_wp2
    go_ret
    exact PE.out A n c _ hn.out hown hbw
def nameL (k:Int):List UInt8:=
 if k=1 then [98,101,103,105,110] else if k=2 then [114,101,97,100] else if k=3 then [119,114,105,116,101] else if k=4 then [100,101,108,101,116,101] else
 if k=5 then [112,114,101,100] else if k=6 then [99,111,109,109,105,116] else if k=7 then [97,98,111,114,116] else []
def verL (w n:Nat):List UInt8:=Lib.decDigits w ++ [46] ++ Lib.decDigits n
def En.tell (e:En):List UInt8:=Lib.join [Lib.decDigits e.x,verL e.w e.n,Lib.decDigits (if e.m then 1 else 0)] [58]
def Rc.wordsP (r:Rc) (i:Nat):List (List UInt8):=
 if i=0 then [Lib.decDigits r.t] else if i=1 then [Lib.decDigits r.x] else if i=2 then [verL r.w r.n] else if i=3 then [Lib.decDigits r.v] else if i=4 then [r.p.text] else r.es.map En.tell
def Rc.wordsN (r:Rc) (l:List Nat):List (List UInt8):=l.flatMap r.wordsP
def Rc.tell (r:Rc):List UInt8:=Lib.join (nameL r.kind :: r.wordsN (partsN r.kind 6)) [32]
def Rc.text (r:Rc):List UInt8:=if r.rightB then r.tell else []
theorem join_flat (a:List UInt8) (l:List (List UInt8)) (sep:List UInt8):Lib.join (a :: l) sep=a ++ l.flatMap (sep ++ ·):=by
 rw [Lib.join_cons]; simp [Lib.joinTail,List.flatMap]
theorem partsN_of (k:Int):partsN k 6=if k=2 then [0,1,2] else if k=3 then [0,1,3] else if k=4 then [0,1] else if k=5 then [0,4,5] else [0]:=by
 have e:partsN k 6=[0,1,2,3,4,5].filter fun j=>ofB j k:=rfl
 rw [e]
 by_cases h2:k=2
 · subst h2; rfl
 by_cases h3:k=3
 · subst h3; rfl
 by_cases h4:k=4
 · subst h4; rfl
 by_cases h5:k=5
 · subst h5; rfl
 simp [ofB,h2,h3,h4,h5]
section
variable {w:World} {lo hi:Nat}
theorem dec_len {x:Nat} (h:(x:Int)≤18446744073709551615):(Lib.decDigits x).length≤20:=by rw [Lib.decDigits_length]; exact Lib.nDigits_le20 x (by omega)
theorem verL_len {a b:Nat} (ha:(a:Int)≤18446744073709551615) (hb:(b:Int)≤18446744073709551615):(verL a b).length≤41:=by
 have:=dec_len ha
 have:=dec_len hb
 simp only [verL,List.length_append,List.length_cons,List.length_nil]
 omega
theorem En.tell_len {e:En} (h:e.ok):e.tell.length≤83:=by
 obtain ⟨h1,h2,h3⟩:=h
 have:=dec_len h1
 have:=verL_len h2 h3
 have:=dec_len (x:=if e.m then 1 else 0) (by split <;> omega)
 simp only [En.tell,join_flat,List.flatMap_cons,List.flatMap_nil,List.length_append,List.length_cons,List.length_nil]
 omega
end
mutual
def T.okN:T→Prop
 | .node _ a b ps=>a<18446744073709551616∧b<18446744073709551616∧ps.length<18446744073709551616∧T.okL ps
def T.okL:List T→Prop
 | []=>True
 | p :: ps=>p.okN∧T.okL ps
end
theorem okL_iff:∀ ps:List T,T.okL ps↔∀ p∈ps,p.okN
 | []=>by simp [T.okL]
 | p :: ps=>by simp [T.okL,okL_iff ps]
theorem all_mem:∀ {ps:List T},T.allL ps=true→∀ p∈ps,p.allB=true
 | [],_,p,hp=>by simp at hp
 | x :: ps,h,p,hp=>by
  rw [T.allL,Bool.and_eq_true] at h
  rcases List.mem_cons.1 hp with rfl | hp
  · exact h.1
  · exact all_mem h.2 p hp
theorem depth_mem:∀ {ps:List T} {d:Nat},T.depthL ps≤d→∀ p∈ps,p.depth≤d
 | [],_,_,p,hp=>by simp at hp
 | x :: ps,d,h,p,hp=>by
  rw [T.depthL] at h
  rcases List.mem_cons.1 hp with rfl | hp
  · omega
  · exact depth_mem (ps:=ps) (by omega) p hp
theorem fits_kind {k:Int} {a b n:Nat} (h:fitsB k a b n=true):k=1∨k=2∨k=3∨k=4∨k=5∨k=6∨k=7:=by
 unfold fitsB at h
 split at h; omega
 split at h; omega
 split at h; omega
 split at h; omega
 split at h; omega
 cases h
end Go.Proofs.YtinmoknbgnngcaaGreatDoor
