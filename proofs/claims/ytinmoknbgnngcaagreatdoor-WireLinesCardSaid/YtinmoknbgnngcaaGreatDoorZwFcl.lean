/-
  Layer 5: Parse, the program's. (Out of gen_vyx.py.)
-/
import Derived.Test.YtinmoknbgnngcaaGreatDoorZwWzc
import Derived.Test.YtinmoknbgnngcaaGreatDoorZwVyb
import Derived.Test.YtinmoknbgnngcaaGreatDoorZwFpt
import Derived.Test.YtinmoknbgnngcaaGreatDoorZwCmb
namespace Go.Proofs.YtinmoknbgnngcaaGreatDoor
open Go Go.RowKit
set_option linter.unusedVariables false
def ansP (k:Nat) (l:List Nat):Rc×Nat:=if 1≤k∧k≤7 then (match payB k l with | some r=>(r,0) | none=>(Rc.zero 0,5)) else (Rc.zero 0,4)
def ParEnd (o:Rc×Nat) (m:Nat) (w:World) (e:Ending) (w':World):Prop:=
 ∃ r:Rv,e=.returned (.tuple #[r.val,.int .i64 (o.2:Int)])∧r.abs=o.1∧RLies w' w.heap.size w'.heap.size r∧SpR w.heap.size r w'∧Below w.heap.size w w'∧4 * r.es.length≤m+4
theorem spr_zero (w:World) (lo:Nat) (k:Int) (h:lo≤w.heap.size):SpR lo ⟨k,0,0,0,0,0,.node 0 0 0 none 0 [],none,0,[]⟩ w:=
 ⟨lo,w,Nat.le_refl _,h,Nat.le_refl _,zero_shp _ _ _,zero_shp _ _ _,World.ownsRow_nil _ _ _ _,fun k hk=>by cases hk⟩
theorem par_ret {Q:Ending→World→Prop} {W:World} {h0:Nat} {z:Int} {x0 x1 x2 x3 x4 x5 x6 x7 x8 x9 x10:Value} (HR:W.heap[h0]? = some (.cells #[x0,x1,x2,x3,x4,x5,x6,x7,x8,x9,x10] 68 (0,0)))
 (HF:Q (.returned (.tuple #[.agg #[x0,x1,x2,x3,x4,x5,x6,x7,x8,x9,x10],.int .i64 z])) W)
 (tmps:Array Value) (h2:tmps.getD 2 undef=.pointer (some ⟨h0,0,none⟩)) (h3:tmps.getD 3 undef=.int .i64 z):bodyPost Tryz.prog Tryz.f54 Q .ret {tmps:=tmps,defers:=[]} W:=by
 rw [Array.getD_eq_getD_getElem?] at h2 h3
 obtain ⟨d0,d1,d2,d3,d4,d5,d6,d7,d8,d9,d10⟩:=rec_cells HR
 exact bodyPost_ret (v:=.tuple #[.agg #[x0,x1,x2,x3,x4,x5,x6,x7,x8,x9,x10],.int .i64 z]) (by simp [results,Tryz.results54,go_sem,h2,h3,d0,d1,d2,d3,d4,d5,d6,d7,d8,d9,d10]) rfl HF
set_option maxRecDepth 100000 in
set_option maxHeartbeats 6400000 in
theorem parse5_any (B:Nat) (k:Nat) (A:Option Addr) (n c:Nat) (l:List Nat) (w:World) (hk8:k<256) (hr:Rd w B 1 A n (bs l)) (hb8:∀ x∈l,x<256) (hn:n≤100000) (hB:B≤w.heap.size) :
 Calls Tryz.prog 54 #[.agg #[.int .u8 (k:Int),.slice A n c]] w (ParEnd (ansP k l) l.length w):=by
 have hf0:=heap_alloc_new w (.cells #[.int .u8 (k:Int),.slice A n c] 92)
 have hb0:=below_new w (.cells #[.int .u8 (k:Int),.slice A n c] 92)
 have hs0:(w.alloc (.cells #[.int .u8 (k:Int),.slice A n c] 92)).heap.size=w.heap.size+1:=by simp
 have hw1:=heap_alloc_new (w.alloc (.cells #[.int .u8 (k:Int),.slice A n c] 92)) (.cells #[.int .i64 0,.int .u64 0,.int .u64 0,.int .u64 0,.int .u64 0,.int .u64 0,.int .i64 0,.int .u64 0,.int .u64 0,.slice none 0 0,.slice none 0 0] 68)
 have hb1n:=below_new (w.alloc (.cells #[.int .u8 (k:Int),.slice A n c] 92)) (.cells #[.int .i64 0,.int .u64 0,.int .u64 0,.int .u64 0,.int .u64 0,.int .u64 0,.int .i64 0,.int .u64 0,.int .u64 0,.slice none 0 0,.slice none 0 0] 68)
 have hs1:((w.alloc (.cells #[.int .u8 (k:Int),.slice A n c] 92)).alloc (.cells #[.int .i64 0,.int .u64 0,.int .u64 0,.int .u64 0,.int .u64 0,.int .u64 0,.int .i64 0,.int .u64 0,.int .u64 0,.slice none 0 0,.slice none 0 0] 68)).heap.size=w.heap.size+1+1:=by simp
 have hf1:=(hb1n.block _ (by rw [hs0]; omega)).trans hf0
 have hb1:Below w.heap.size w _:=hb0.trans (hb1n.mono (by rw [hs0]; omega))
 rw [hs0] at hw1
 clear hf0 hb0 hb1n hs0
 obtain ⟨w1,hw⟩:∃ w1,w1=(w.alloc (.cells #[.int .u8 (k:Int),.slice A n c] 92)).alloc (.cells #[.int .i64 0,.int .u64 0,.int .u64 0,.int .u64 0,.int .u64 0,.int .u64 0,.int .i64 0,.int .u64 0,.int .u64 0,.slice none 0 0,.slice none 0 0] 68):=⟨_,rfl⟩
 rw [← hw] at hw1 hb1 hs1 hf1
 have HLB:Hid (ansP k l=if 1≤k∧k≤7 then (match payB k l with | some r=>(r,0) | none=>(Rc.zero 0,5)) else (Rc.zero 0,4)):=rfl
 have hKN:Rc.knownB (k:Nat)=decide (1≤k∧k≤7):=by unfold Rc.knownB; rw [Bool.eq_iff_iff]; simp; omega
 have HRD:Hid (∀ W,Below w.heap.size w W→Rd W B 1 A n (bs l)):=fun W hW=>hr.below (hW.mono hB)
 have BADE:Hid (∀ z:Nat,ansP k l=(Rc.zero 0,z)→∀ W,Below w.heap.size w W→W.heap[w.heap.size+1]? = some (.cells #[.int .i64 0,.int .u64 0,.int .u64 0,.int .u64 0,.int .u64 0,.int .u64 0,.int .i64 0,.int .u64 0,.int .u64 0,.slice none 0 0,.slice none 0 0] 68 (0,0))→
  ParEnd (ansP k l) l.length w (.returned (.tuple #[.agg #[.int .i64 0,.int .u64 0,.int .u64 0,.int .u64 0,.int .u64 0,.int .u64 0,.int .i64 0,.int .u64 0,.int .u64 0,.slice none 0 0,.slice none 0 0],.int .i64 (z:Int)])) (put11 W (w.heap.size+1) (.int .i64 0) (.int .u64 0) (.int .u64 0) (.int .u64 0) (.int .u64 0) (.int .u64 0) (.int .i64 0) (.int .u64 0) (.int .u64 0) (.slice none 0 0) (.slice none 0 0))∧
  (put11 W (w.heap.size+1) (.int .i64 0) (.int .u64 0) (.int .u64 0) (.int .u64 0) (.int .u64 0) (.int .u64 0) (.int .i64 0) (.int .u64 0) (.int .u64 0) (.slice none 0 0) (.slice none 0 0)).heap[w.heap.size+1]? = some (.cells #[.int .i64 0,.int .u64 0,.int .u64 0,.int .u64 0,.int .u64 0,.int .u64 0,.int .i64 0,.int .u64 0,.int .u64 0,.slice none 0 0,.slice none 0 0] 68 (0,0))):=fun z hn W h1 h2=>by
  refine ⟨?_,put11_row _ _ _ _ _ _ _ _ _ _ _ h2⟩
  rw [hn]
  have hh:=h1.trans ((put11_grow (g:=w.heap.size+1) (.int .i64 0) (.int .u64 0) (.int .u64 0) (.int .u64 0) (.int .u64 0) (.int .u64 0) (.int .i64 0) (.int .u64 0) (.int .u64 0) (.slice none 0 0) (.slice none 0 0) W (w.heap.size+1)).below (B:=w.heap.size) h1.size (by omega) (by omega))
  exact ⟨⟨0,0,0,0,0,0,.node 0 0 0 none 0 [],none,0,[]⟩,rfl,abs_zero 0,rlies_zero _ _ _ 0 (by omega),spr_zero _ _ _ hh.size,hh,by simp⟩
 subst hw
 go_enter Tryz.func54,Tryz.ntmps54
 go_upto_region 1 with (fail)
 generalize (w.alloc (.cells #[.int .u8 (k:Int),.slice A n c] 92)).alloc (.cells #[.int .i64 0,.int .u64 0,.int .u64 0,.int .u64 0,.int .u64 0,.int .u64 0,.int .i64 0,.int .u64 0,.int .u64 0,.slice none 0 0,.slice none 0 0] 68)=w1 at *
 have c0:w1.cell? ⟨w.heap.size,0,none⟩=some (.int .u8 (k:Int)):=cell_of_row w1 _ 0 _ _ _ hf1
 have ha4:=heap_alloc_new w1 (.cells #[.int .i64 (k:Int),.int .u64 0,.int .u64 0,.int .u64 0,.int .u64 0,.int .u64 0,.int .i64 0,.int .u64 0,.int .u64 0,.slice none 0 0,.slice none 0 0] 68)
 have hb4:=below_new w1 (.cells #[.int .i64 (k:Int),.int .u64 0,.int .u64 0,.int .u64 0,.int .u64 0,.int .u64 0,.int .i64 0,.int .u64 0,.int .u64 0,.slice none 0 0,.slice none 0 0] 68)
 have hw4:=(hb4.block _ (lt_of_block hw1)).trans hw1
 have hf4:=(hb4.block _ (lt_of_block hf1)).trans hf1
 have hb4':=hb1.trans (hb4.mono hb1.size)
 have hs4:(w1.alloc (.cells #[.int .i64 (k:Int),.int .u64 0,.int .u64 0,.int .u64 0,.int .u64 0,.int .u64 0,.int .i64 0,.int .u64 0,.int .u64 0,.slice none 0 0,.slice none 0 0] 68)).heap.size=w1.heap.size+1:=by simp
 clear hw1 hf1 hb4 hb1
 go_upto_region 2 with (fail)
 generalize w1.alloc (.cells #[.int .i64 (k:Int),.int .u64 0,.int .u64 0,.int .u64 0,.int .u64 0,.int .u64 0,.int .i64 0,.int .u64 0,.int .u64 0,.slice none 0 0,.slice none 0 0] 68)=w4 at *
 rw [hs1] at ha4 hs4
 clear hs1 c0
 have c0:=cell_of_row w4 _ 0 _ _ _ ha4
 simp at c0
 go_wp2_with fail
 refine (known_any k _).mono ?_
 rintro e w5 ⟨rfl,rfl⟩
 rw [hKN]
 by_cases hk0:1≤k∧k≤7
 rotate_left
 · have HN:Hid (ansP k l=(Rc.zero 0,4)):=Lib_hid (by rw [HLB.out,if_neg hk0])
   obtain ⟨HX,HY⟩:=BADE.out 4 HN.out w5 hb4' hw4
   have HXX:=Lib_hid HX
   have HYY:=Lib_hid HY
   obtain ⟨e0,e1,e2,e3,e4,e5,e6,e7,e8,e9,e10⟩:=rec_cells hw4
   have y:=fun i=>frozen_of_row w5 (w.heap.size+1) i _ _ hw4
   have y0:=y 0
   have y1:=y 1
   have y2:=y 2
   have y3:=y 3
   have y4:=y 4
   have y5:=y 5
   have y6:=y 6
   have y7:=y 7
   have y8:=y 8
   have y9:=y 9
   have y10:=y 10
   clear HX HY BADE HLB y hw4 ha4 HRD hr hf4 hb4'
   rw [decide_eq_false hk0]
   go_wp2
   show bodyPost _ _ _ _ _ (put11 w5 (w.heap.size+1) (.int .i64 0) (.int .u64 0) (.int .u64 0) (.int .u64 0) (.int .u64 0) (.int .u64 0) (.int .i64 0) (.int .u64 0) (.int .u64 0) (.slice none 0 0) (.slice none 0 0))
   generalize put11 w5 (w.heap.size+1) (.int .i64 0) (.int .u64 0) (.int .u64 0) (.int .u64 0) (.int .u64 0) (.int .u64 0) (.int .i64 0) (.int .u64 0) (.int .u64 0) (.slice none 0 0) (.slice none 0 0)=W4 at *
   exact par_ret HYY.out HXX.out _ rfl rfl
 · rw [decide_eq_true hk0]
   have hlb:ansP k l=match payB k l with | some r=>(r,0) | none=>(Rc.zero 0,5):=by rw [HLB.out,if_pos hk0]
   have HLB2:=Lib_hid hlb
   have f1:w5.cell? ⟨w.heap.size,1,none⟩=some (.slice A n c):=cell_of_row w5 _ 1 _ _ _ hf4
   have RC:=read5_any B A n c l w5 (HRD.out _ hb4') hb8 hn (Nat.le_trans hB hb4'.size)
   clear HLB hKN hlb c0 HRD hr hf4
   go_wp2_with fail
   refine RC.mono ?_
   rintro e w6 ⟨h,A5,c5,rfl,hh,hrr,hb5,hsep⟩
   have hg6:=heap_alloc_new w6 (.cells #[.pointer (some ⟨h,0,none⟩),.bool false] 208)
   have hb6:=below_new w6 (.cells #[.pointer (some ⟨h,0,none⟩),.bool false] 208)
   have ha5:=(hb5.block _ (lt_of_block ha4)).trans ha4
   have hw5:=(hb5.block _ (lt_of_block hw4)).trans hw4
   have ha6:=(hb6.block _ (lt_of_block ha5)).trans ha5
   have hw6:=(hb6.block _ (lt_of_block hw5)).trans hw5
   have hr6:=hrr.kept hb6
   have hhl:=hrr.lt
   have hb5':=hb4'.trans (hb5.mono hb4'.size)
   have hs5:=hb5'.size
   have hb6':=hb5'.trans (hb6.mono hs5)
   have hs6:(w6.alloc (.cells #[.pointer (some ⟨h,0,none⟩),.bool false] 208)).heap.size=w6.heap.size+1:=by simp
   have hlt4:=lt_of_block ha4
   have hb5z:=hb5.size
   clear RC hrr hb5 hb5' hb6 ha5 hw5 ha4 hw4 hb4' f1
   go_upto_region 5 with (fail)
   generalize w6.alloc (.cells #[.pointer (some ⟨h,0,none⟩),.bool false] 208)=w7 at *
   generalize w6.heap.size=g at *
   have c0:w7.cell? ⟨w.heap.size+1+1,0,none⟩=some (.int .i64 (k:Int)):=cell_of_row w7 _ 0 _ _ _ ha6
   go_wp2_with fail
   refine (partsof_any (k:Int) _).mono ?_
   rintro e w8 ⟨Ap,cp,rfl,hop,hb8'⟩
   have hT8:Hid (TkS w7.heap.size (w.heap.size+1+1) g h A5 l.length c5 l ⟨k,0,0,0,0,0,.node 0 0 0 none 0 [],none,0,[]⟩ 0 0 false w8):=
    ⟨(hb8'.block _ (lt_of_block ha6)).trans ha6,⟨(hb8'.block _ (lt_of_block hg6)).trans hg6,hr6.kept hb8',hhl⟩,rlies_zero _ _ _ _ (by omega),by omega,by omega,by omega,by omega,fun ad e hn=>by have:=hsep ad e hn; omega,hb8'.size,spr_zero _ _ _ hb8'.size,by simp⟩
   have hw8:=(hb8'.block _ (lt_of_block hw6)).trans hw6
   have hb8w:=hb6'.trans (hb8'.mono hb6'.size)
   have hs8:=hb8'.size
   have HPL:Hid (∀ q,q∈partsN (k:Int) 6→q<6):=fun q hq=>partsN_lt hq
   have hpl:=partsN_le (k:Int) 6
   have HPAY:Hid (payB k l=(goT l (Rc.zero (k:Int)) 0 (partsN (k:Int) 6)).bind fun x=>if x.2=l.length then some x.1 else none):=rfl
   clear hb6' hg6 ha6 hw6 hb8' c0 hr6 hsep
   have HX:Hid (∀ W,Grow3 w8 W (w.heap.size+1+1) g h→W.heap[w.heap.size+1]? = some (.cells #[.int .i64 0,.int .u64 0,.int .u64 0,.int .u64 0,.int .u64 0,.int .u64 0,.int .i64 0,.int .u64 0,.int .u64 0,.slice none 0 0,.slice none 0 0] 68 (0,0))∧Below w.heap.size w W∧
    W.ownsRow w7.heap.size 170 6 (.slice Ap (partsN (k:Int) 6).length cp) (partsN (k:Int) 6).length (psL (partsN (k:Int) 6))):=fun W hG=>
    ⟨(hG.block _ (by omega) (by omega) (by omega) (by omega)).trans hw8,hb8w.trans (hG.below hb8w.size (by omega) (by omega) (by omega)),own_keep hop fun j hj=>hG.block j (own_lt hop j hj) (by have:=own_ge hop j hj; omega) (by have:=own_ge hop j hj; omega) (by have:=own_ge hop j hj; omega)⟩
   have RD:Hid (∀ (q:Nat),q<6→∀ (r:Rv) (ac ee:Nat) (bad:Bool) (W:World),TkS w7.heap.size (w.heap.size+1+1) g h A5 l.length c5 l r ac ee bad W→Calls Tryz.prog (mtakeF q) #[.pointer (some ⟨w.heap.size+1+1,0,none⟩),.pointer (some ⟨g,0,none⟩)] W (TakEnd q w7.heap.size (w.heap.size+1+1) g h A5 l.length c5 l r ac ee bad W)):=fun q hq r ac ee bad W hR=>
    take6_any q hq hR
   generalize hpp:partsN (k:Int) 6=pl at *
   clear hw8 hop
   go_wp2
   go_loopw [25] (fun z wr=>∃ (i:Nat) (r:Rv) (ac ee:Nat) (bad:Bool),z=.int .i64 i∧i≤pl.length∧Hid (TkS w7.heap.size (w.heap.size+1+1) g h A5 l.length c5 l r ac ee bad wr)∧Hid (Grow3 w8 wr (w.heap.size+1+1) g h)∧
    Hid (Took (goT l (Rc.zero (k:Int)) 0 (pl.take i)) 0 false r.abs ac ee bad)) (fun z _=>pl.length - (intOf z).toNat)
   case atStart=>exact ⟨0,_,0,0,false,rfl,Nat.zero_le _,hT8,Grow3.refl _ _ _ _,⟨fun hx=>hx,fun hx=>.inl ⟨by rw [abs_zero]; rfl,hx⟩⟩⟩
   case round=>
    clear hT8
    obtain ⟨i,r,ac,ee,bad,rfl,hi1,hR,hG,hI⟩:=hrel
    obtain ⟨hbx,hbw,hown⟩:=HX.out _ hG.out
    by_cases hlt:i<pl.length
    · obtain ⟨b,off,q,rfl,hq,d0,d1,d2,d3,d4,d5⟩:=ps_nth (Rd.own hown) hlt
      have hq6:=HPL.out q (List.mem_of_getElem? hq)
      have hcp:=call_take hq6
      have HTK:Hid (pl.take (i+1)=pl.take i ++ [q]):=take_one hq
      have hb5:=below_new wr (.cells #[.func (.func (mofF q)) #[] #[],.func (.func (memptyF q)) #[] #[],.func (.func (mputF q)) #[] #[],.func (.func (mtakeF q)) #[] #[],.func (.func (mtellF q)) #[] #[],.func (.func (mreadF q)) #[] #[]] 170)
      have hp5:=heap_alloc_new wr (.cells #[.func (.func (mofF q)) #[] #[],.func (.func (memptyF q)) #[] #[],.func (.func (mputF q)) #[] #[],.func (.func (mtakeF q)) #[] #[],.func (.func (mtellF q)) #[] #[],.func (.func (mreadF q)) #[] #[]] 170)
      have hR5:=hR.out.kept hb5
      have hG5:=hG.out.trans (Grow3.ofB hb5)
      have CP:=RD.out q hq6 r ac ee bad _ hR5
      clear hR hG hbx hbw hown hq6 hb5 hq
      generalize mofF q=f1 at *
      generalize memptyF q=f2 at *
      generalize mputF q=f3 at *
      generalize mtakeF q=f4 at *
      generalize mtellF q=f5 at *
      generalize mreadF q=f6 at *
      go_upto_region 8 with (fail)
      generalize wr.alloc (.cells #[.func (.func f1) #[] #[],.func (.func f2) #[] #[],.func (.func f3) #[] #[],.func (.func f4) #[] #[],.func (.func f5) #[] #[],.func (.func f6) #[] #[]] 170)=w9 at *
      clear d0 d1 d2 d3 d4 d5
      have d3:w9.cell? ⟨wr.heap.size,3,none⟩=some (.func (.func f4) #[] #[]):=cell_of_row w9 _ 3 _ _ _ hp5
      go_wp2_with fail
      refine CP.mono ?_
      rintro e w10 ⟨rfl,hG9,r',ac',ee',bad',hR',hk',ht'⟩
      have HI2:Hid (Took (goT l (Rc.zero (k:Int)) 0 (pl.take (i+1))) 0 false r'.abs ac' ee' bad'):=by
       unfold Hid
       rw [HTK.out,goT_snoc]
       exact Took.bind (f:=fun x:Rc×Nat=>x.1.takeP l x.2 q) hI.out ht'
      have HG2:=Lib_hid (hG5.trans hG9)
      have HR2:=Lib_hid hR'
      clear CP d3 hG9 hR' ht' hI hR5 hG5 hp5
      go_wp2
      go_roundw
      case rel=>exact ⟨i+1,r',ac',ee',bad',by go_num,by omega,HR2,HG2,HI2⟩
      case measure=>simp [intOf]; omega
    · obtain rfl:i=pl.length:=by omega
      rw [List.take_length] at hI
      have hT:=hR.out
      have GD:=pgood_any hT.pl
      obtain ⟨c0,-,-,-⟩:=hT.pl.cells
      by_cases hg:GoodB ee bad
      · rw [show decide (GoodB ee bad)=true from decide_eq_true hg] at GD
        have hgo:goT l (Rc.zero (k:Int)) 0 pl=some (r.abs,ac):=by
         rcases hI.out.2 ⟨rfl,rfl⟩ with ⟨e1,_⟩ | ⟨_,e2⟩
         · exact e1
         · exact absurd hg e2
        have LF:=left_any h A5 l.length c5 ac ee l wr hT.pl.rd
        have hpl2:=hT.pl.rd.place
        by_cases hend:ac=l.length
        · have HN:Hid (ansP k l=(r.abs,0)):=by unfold Hid; rw [HLB2.out,HPAY.out,hgo]; simp [hend]
          have FIN:Hid (∀ W,Below wr.heap.size wr W→ParEnd (ansP k l) l.length w (.returned (.tuple #[r.val,.int .i64 0])) (put11 W (w.heap.size+1) (.int .i64 r.kind) (.int .u64 (r.t:Int)) (.int .u64 (r.x:Int)) (.int .u64 (r.w:Int)) (.int .u64 (r.n:Int)) (.int .u64 (r.v:Int)) (.int .i64 r.p.kind) (.int .u64 (r.p.a:Int)) (.int .u64 (r.p.b:Int)) r.p.sl r.sl)∧W.heap[w.heap.size+1+1]? = some (.cells r.arr 68 (0,0))∧W.heap[w.heap.size+1]? = some (.cells #[.int .i64 0,.int .u64 0,.int .u64 0,.int .u64 0,.int .u64 0,.int .u64 0,.int .i64 0,.int .u64 0,.int .u64 0,.slice none 0 0,.slice none 0 0] 68 (0,0))):=fun W hW=>by
           have hT2:=hT.kept hW
           have hbW:=hbw.trans (hW.mono hbw.size)
           have hGG:=put11_grow (.int .i64 r.kind) (.int .u64 (r.t:Int)) (.int .u64 (r.x:Int)) (.int .u64 (r.w:Int)) (.int .u64 (r.n:Int)) (.int .u64 (r.v:Int)) (.int .i64 r.p.kind) (.int .u64 (r.p.a:Int)) (.int .u64 (r.p.b:Int)) r.p.sl r.sl W (g:=w.heap.size+1) (w.heap.size+1)
           have hal:=hT2.al
           have hbk:∀ k,w7.heap.size≤k→k<W.heap.size→(put11 W (w.heap.size+1) (.int .i64 r.kind) (.int .u64 (r.t:Int)) (.int .u64 (r.x:Int)) (.int .u64 (r.w:Int)) (.int .u64 (r.n:Int)) (.int .u64 (r.v:Int)) (.int .i64 r.p.kind) (.int .u64 (r.p.a:Int)) (.int .u64 (r.p.b:Int)) r.p.sl r.sl).heap[k]? = W.heap[k]?:=fun k k1 k2=>hGG.block k k2 (by omega) (by omega)
           refine ⟨?_,hT2.box,(hW.block _ (lt_of_block hbx)).trans hbx⟩
           rw [HN.out]
           exact ⟨r,rfl,rfl,(hT2.lies.stay hGG.size hbk).more (by omega) (Nat.le_refl _),(hT2.sp.stay hGG.size hbk).more (by omega),hbW.trans (hGG.below (B:=w.heap.size) hbW.size (by omega) (by omega)),hT2.few⟩
          clear HN hgo hI BADE HX hR hG hown HLB2 RD hT HPAY hbw hg
          have hle:((l.length:Int) - ac)=0:=by omega
          rw [hle] at LF
          go_upto_region 12 with (first | (go_at_call 90; refine GD.mono ?_; rintro en wx ⟨rfl,rfl⟩) | (go_at_call 91; refine LF.mono ?_; rintro en wy ⟨rfl,qq,rfl⟩))
          obtain ⟨HF,hax,hbx2⟩:=FIN.out (wx.drewN qq) (below_drew_ (Below.refl _ _))
          generalize wx.drewN qq=wz at *
          obtain ⟨k',t,x,wn,nn,v,p,A,c,es⟩:=r
          simp only [Rv.arr,Rv.val,Rv.sl,V.sl] at hax HF
          have HB2:Hid ((put11 wz (w.heap.size+1) (.int .i64 k') (.int .u64 (t:Int)) (.int .u64 (x:Int)) (.int .u64 (wn:Int)) (.int .u64 (nn:Int)) (.int .u64 (v:Int)) (.int .i64 p.kind) (.int .u64 (p.a:Int)) (.int .u64 (p.b:Int)) (.slice p.addr p.parts.length p.cap) (.slice A es.length c)).heap[w.heap.size+1]? = some (.cells #[.int .i64 k',.int .u64 (t:Int),.int .u64 (x:Int),.int .u64 (wn:Int),.int .u64 (nn:Int),.int .u64 (v:Int),.int .i64 p.kind,.int .u64 (p.a:Int),.int .u64 (p.b:Int),.slice p.addr p.parts.length p.cap,.slice A es.length c] 68 (0,0))):=put11_row _ _ _ _ _ _ _ _ _ _ _ hbx2
          have HFF:=Lib_hid HF
          obtain ⟨d0,d1,d2,d3,d4,d5,d6,d7,d8,d9,d10⟩:=rec_cells hax
          obtain ⟨e0,e1,e2,e3,e4,e5,e6,e7,e8,e9,e10⟩:=rec_cells hbx2
          have y:=fun i=>frozen_of_row wz (w.heap.size+1) i _ _ hbx2
          have y0:=y 0
          have y1:=y 1
          have y2:=y 2
          have y3:=y 3
          have y4:=y 4
          have y5:=y 5
          have y6:=y 6
          have y7:=y 7
          have y8:=y 8
          have y9:=y 9
          have y10:=y 10
          clear y hbx hbx2 hax FIN HF GD LF
          generalize p.addr=pA at *
          generalize p.parts.length=pn at *
          generalize p.cap=pc at *
          generalize p.kind=pk at *
          generalize (p.a:Int)=pa at *
          generalize (p.b:Int)=pb at *
          generalize es.length=en at *
          go_wp2
          show bodyPost _ _ _ _ _ (put11 wz (w.heap.size+1) (.int .i64 k') (.int .u64 (t:Int)) (.int .u64 (x:Int)) (.int .u64 (wn:Int)) (.int .u64 (nn:Int)) (.int .u64 (v:Int)) (.int .i64 pk) (.int .u64 pa) (.int .u64 pb) (.slice pA pn pc) (.slice A en c))
          generalize put11 wz (w.heap.size+1) (.int .i64 k') (.int .u64 (t:Int)) (.int .u64 (x:Int)) (.int .u64 (wn:Int)) (.int .u64 (nn:Int)) (.int .u64 (v:Int)) (.int .i64 pk) (.int .u64 pa) (.int .u64 pb) (.slice pA pn pc) (.slice A en c)=W4 at *
          exact par_ret HB2.out HFF.out _ rfl rfl
        · have HN:Hid (ansP k l=(Rc.zero 0,5)):=by unfold Hid; rw [HLB2.out,HPAY.out,hgo]; simp [hend]
          have hgt:(0:Int)<(l.length:Int) - ac:=by omega
          generalize (l.length:Int) - ac=lf at *
          have FIN:Hid (∀ W,Below wr.heap.size wr W→W.heap[w.heap.size+1]? = some (.cells #[.int .i64 0,.int .u64 0,.int .u64 0,.int .u64 0,.int .u64 0,.int .u64 0,.int .i64 0,.int .u64 0,.int .u64 0,.slice none 0 0,.slice none 0 0] 68 (0,0))∧Below w.heap.size w W):=fun W hW=>⟨(hW.block _ (lt_of_block hbx)).trans hbx,hbw.trans (hW.mono hbw.size)⟩
          clear hgo hI HX hR hG hown HLB2 RD hT HPAY hbw hg hbx
          go_upto_region 11 with (first | (go_at_call 90; refine GD.mono ?_; rintro en wx ⟨rfl,rfl⟩) | (go_at_call 91; refine LF.mono ?_; rintro en wy ⟨rfl,qq,rfl⟩))
          obtain ⟨hbx,hbw⟩:=FIN.out (wx.drewN qq) (below_drew_ (Below.refl _ _))
          generalize wx.drewN qq=wz at *
          obtain ⟨HX2,HY2⟩:=BADE.out 5 HN.out wz hbw hbx
          have HXX:=Lib_hid HX2
          have HYY:=Lib_hid HY2
          obtain ⟨e0,e1,e2,e3,e4,e5,e6,e7,e8,e9,e10⟩:=rec_cells hbx
          have y:=fun i=>frozen_of_row wz (w.heap.size+1) i _ _ hbx
          have y0:=y 0
          have y1:=y 1
          have y2:=y 2
          have y3:=y 3
          have y4:=y 4
          have y5:=y 5
          have y6:=y 6
          have y7:=y 7
          have y8:=y 8
          have y9:=y 9
          have y10:=y 10
          clear HX2 HY2 BADE HN y hbx hbw FIN GD LF
          go_wp2
          show bodyPost _ _ _ _ _ (put11 wz (w.heap.size+1) (.int .i64 0) (.int .u64 0) (.int .u64 0) (.int .u64 0) (.int .u64 0) (.int .u64 0) (.int .i64 0) (.int .u64 0) (.int .u64 0) (.slice none 0 0) (.slice none 0 0))
          generalize put11 wz (w.heap.size+1) (.int .i64 0) (.int .u64 0) (.int .u64 0) (.int .u64 0) (.int .u64 0) (.int .u64 0) (.int .i64 0) (.int .u64 0) (.int .u64 0) (.slice none 0 0) (.slice none 0 0)=W4 at *
          exact par_ret HYY.out HXX.out _ rfl rfl
      · rw [show decide (GoodB ee bad)=false from decide_eq_false hg] at GD
        have hgo:goT l (Rc.zero (k:Int)) 0 pl=none:=by
         rcases hI.out.2 ⟨rfl,rfl⟩ with ⟨_,e1⟩ | ⟨e2,_⟩
         · exact absurd e1 hg
         · exact e2
        have HN:Hid (ansP k l=(Rc.zero 0,5)):=by unfold Hid; rw [HLB2.out,HPAY.out,hgo]; rfl
        obtain ⟨HX2,HY2⟩:=BADE.out 5 HN.out wr hbw hbx
        have HXX:=Lib_hid HX2
        have HYY:=Lib_hid HY2
        obtain ⟨e0,e1,e2,e3,e4,e5,e6,e7,e8,e9,e10⟩:=rec_cells hbx
        have y:=fun i=>frozen_of_row wr (w.heap.size+1) i _ _ hbx
        have y0:=y 0
        have y1:=y 1
        have y2:=y 2
        have y3:=y 3
        have y4:=y 4
        have y5:=y 5
        have y6:=y 6
        have y7:=y 7
        have y8:=y 8
        have y9:=y 9
        have y10:=y 10
        clear HX2 HY2 BADE HX hR hG hown HLB2 RD HN hI y hbx hbw hT hgo
        go_wp2_with (go_at_call 90; refine GD.mono ?_; rintro en wx ⟨rfl,rfl⟩)
        show bodyPost _ _ _ _ _ (put11 _ (w.heap.size+1) (.int .i64 0) (.int .u64 0) (.int .u64 0) (.int .u64 0) (.int .u64 0) (.int .u64 0) (.int .i64 0) (.int .u64 0) (.int .u64 0) (.slice none 0 0) (.slice none 0 0))
        generalize put11 _ (w.heap.size+1) (.int .i64 0) (.int .u64 0) (.int .u64 0) (.int .u64 0) (.int .u64 0) (.int .u64 0) (.int .i64 0) (.int .u64 0) (.int .u64 0) (.slice none 0 0) (.slice none 0 0)=W4 at *
        exact par_ret HYY.out HXX.out _ rfl rfl
end Go.Proofs.YtinmoknbgnngcaaGreatDoor
namespace Go.Proofs.YtinmoknbgnngcaaGreatDoor
open Go Go.RowKit
theorem scan_err:∀ (k i v:Nat) (r:List Nat) (e:Nat),scan k i v r=.err e→e=4∨e=10:=by
 intro k
 induction k with
 | zero=>intro i v r e hh; simp [scan] at hh; omega
 | succ k ih=>
  intro i v r e hh
  cases r with
  | nil=>simp [scan] at hh; omega
  | cons c r=>
   simp only [scan] at hh
   split at hh
   · exact ih _ _ _ _ hh
   · split at hh
     · cases hh
     · simp at hh; omega
theorem getS_form {l:List Nat} {a x y z:Nat} (hb:∀ x∈l,x<256) (ha:a≤l.length) (h:getS l (a:Int)=(x,y,z)) :
 (z=0∧a+1≤y∧y≤l.length∧enc x=(l.drop a).take (y - a)∧x<18446744073709551616)∨((z=4∨z=10)∧x=0∧y=0):=by
 unfold getS at h
 rw [if_neg (by omega),Int.toNat_natCast] at h
 cases hg:got (l.drop a) with
 | num v k=>
  rw [hg] at h
  simp only [ans,Prod.mk.injEq] at h
  obtain ⟨rfl,rfl,rfl⟩:=h
  obtain ⟨h1,h2,h3⟩:=got_put (fun x hx=>hb x (List.mem_of_mem_drop hx)) hg
  rw [List.length_drop] at h1
  have hp:=enc_pos v
  rw [h2,List.length_take,List.length_drop] at hp
  exact .inl ⟨rfl,by omega,by omega,by rw [h2]; congr 1; omega,h3⟩
 | err e=>
  rw [hg] at h
  simp only [ans,Prod.mk.injEq] at h
  obtain ⟨rfl,rfl,rfl⟩:=h
  exact .inr ⟨scan_err _ _ _ _ _ hg,rfl,rfl⟩
inductive FG where
 | bad (r:Nat)
 | good (k:Nat) (p:List Nat) (nx:Nat)
def frN (l:List Nat) (a:Nat):FG:=
 if (getS l ((a+1:Nat):Int)).2.2=10 then .bad 2
 else if (getS l ((a+1:Nat):Int)).2.2≠0∨l.length<(getS l ((a+1:Nat):Int)).2.1+4+(getS l ((a+1:Nat):Int)).1 then .bad 1
 else if eqB ((l.drop ((getS l ((a+1:Nat):Int)).2.1+(getS l ((a+1:Nat):Int)).1)).take 4) (le4 (crcN (frB (l.getD a 0) ((l.drop (getS l ((a+1:Nat):Int)).2.1).take (getS l ((a+1:Nat):Int)).1))))=true then
  .good (l.getD a 0) ((l.drop (getS l ((a+1:Nat):Int)).2.1).take (getS l ((a+1:Nat):Int)).1) ((getS l ((a+1:Nat):Int)).2.1+(getS l ((a+1:Nat):Int)).1+4)
 else .bad 3
def frG (l:List Nat) (a:Int):FG:=if a<0∨(l.length:Int)≤a then .bad 1 else frN l a.toNat
theorem frG_out {l:List Nat} {a:Int} (h:a<0∨(l.length:Int)≤a):frG l a=.bad 1:=by unfold frG; rw [if_pos h]
theorem frG_in {l:List Nat} {a:Nat} (h:a<l.length):frG l (a:Int)=frN l a:=by unfold frG; rw [if_neg (by omega),Int.toNat_natCast]
section
variable {l:List Nat} {a x y z:Nat}
theorem frN_len (h:getS l ((a+1:Nat):Int)=(x,y,10)):frN l a=.bad 2:=by unfold frN; rw [h,if_pos rfl]
theorem frN_short (h:getS l ((a+1:Nat):Int)=(x,y,z)) (h1:z≠10) (h2:z≠0∨l.length<y+4+x):frN l a=.bad 1:=by unfold frN; rw [h,if_neg h1,if_pos h2]
theorem frN_bad (h:getS l ((a+1:Nat):Int)=(x,y,0)) (h2:y+4+x≤l.length) (h3:eqB ((l.drop (y+x)).take 4) (le4 (crcN (frB (l.getD a 0) ((l.drop y).take x))))=false):frN l a=.bad 3:=by
 unfold frN; rw [h,if_neg (by simp),if_neg (by simp; omega)]; simp only; rw [h3]; rfl
theorem frN_good (h:getS l ((a+1:Nat):Int)=(x,y,0)) (h2:y+4+x≤l.length) (h3:eqB ((l.drop (y+x)).take 4) (le4 (crcN (frB (l.getD a 0) ((l.drop y).take x))))=true):frN l a=.good (l.getD a 0) ((l.drop y).take x) (y+x+4):=by
 unfold frN; rw [h,if_neg (by simp),if_neg (by simp; omega)]; simp only; rw [h3]; rfl
end
theorem fr_head {l:List Nat} {a x y:Nat} (hb:∀ x∈l,x<256) (ha:a<l.length) (h:getS l ((a+1:Nat):Int)=(x,y,0)) (h2:y+4+x≤l.length) :
 (l.drop a).take (y+x - a)=frB (l.getD a 0) ((l.drop y).take x)∧a+2≤y∧((l.drop y).take x).length=x∧x<18446744073709551616:=by
 rcases getS_form hb (by omega) h with ⟨_,h3,h4,h5,h6⟩ | ⟨h3,_⟩
 · have hlen:((l.drop y).take x).length=x:=by rw [List.length_take,List.length_drop]; omega
   refine ⟨?_,by omega,hlen,h6⟩
   unfold frB
   rw [hlen,h5]
   have e1:l.drop a=l.getD a 0 :: l.drop (a+1):=by
    rw [List.getD_eq_getElem?_getD,List.getElem?_eq_getElem ha]
    exact List.drop_eq_getElem_cons ha
   have e2:l.drop y=(l.drop (a+1)).drop (y - (a+1)):=by rw [List.drop_drop]; congr 1; omega
   rw [e1,e2,show y+x - a=(y - (a+1)+x)+1 by omega,List.take_succ_cons,List.take_add]
 · omega
theorem fr_all {l:List Nat} {a x y:Nat} (hb:∀ x∈l,x<256) (ha:a<l.length) (h:getS l ((a+1:Nat):Int)=(x,y,0)) (h2:y+4+x≤l.length) :
 (l.drop a).take (y+x+4 - a)=frB (l.getD a 0) ((l.drop y).take x) ++ (l.drop (y+x)).take 4:=by
 obtain ⟨h3,h4,_⟩:=fr_head hb ha h h2
 rw [← h3,show y+x+4 - a=(y+x - a)+4 by omega,List.take_add,List.drop_drop,show a+(y+x - a)=y+x by omega]
theorem frN_stands {l:List Nat} {a k nx:Nat} {p:List Nat} (hb:∀ x∈l,x<256) (ha:a<l.length) (h:frN l a=.good k p nx) :
 nx=a+(frS k p).length∧nx≤l.length∧(l.drop a).take (nx - a)=frS k p∧k<256∧(∀ x∈p,x<256):=by
 obtain ⟨⟨x,y,z⟩,hx⟩:∃ q,getS l ((a+1:Nat):Int)=q:=⟨_,rfl⟩
 by_cases hz:z=10
 · subst hz; rw [frN_len hx] at h; cases h
 by_cases h2:z≠0∨l.length<y+4+x
 · rw [frN_short hx hz h2] at h; cases h
 obtain rfl:z=0:=by omega
 have h2':y+4+x≤l.length:=by omega
 cases he:eqB ((l.drop (y+x)).take 4) (le4 (crcN (frB (l.getD a 0) ((l.drop y).take x)))) with
 | false=>rw [frN_bad hx h2' he] at h; cases h
 | true=>
  rw [frN_good hx h2' he] at h
  injection h with h3 h4 h5
  have hA:=fr_all hb ha hx h2'
  obtain ⟨_,hy,hlen,_⟩:=fr_head hb ha hx h2'
  have he':(l.drop (y+x)).take 4=le4 (crcN (frB (l.getD a 0) ((l.drop y).take x))):=by unfold eqB at he; simpa using he
  rw [he',h3,h4,h5] at hA
  have hk:k<256:=by
   rw [← h3,List.getD_eq_getElem?_getD,List.getElem?_eq_getElem ha]
   exact hb _ (List.getElem_mem ha)
  refine ⟨?_,by omega,hA,hk,fun u hu=>?_⟩
  · have:=congrArg List.length hA
    rw [List.length_take,List.length_drop] at this
    change min (nx - a) (l.length - a)=(frS k p).length at this
    omega
  · rw [← h4] at hu
    exact hb u (List.mem_of_mem_drop (List.mem_of_mem_take hu))
end Go.Proofs.YtinmoknbgnngcaaGreatDoor
namespace Go.Proofs.YtinmoknbgnngcaaGreatDoor
open Go Go.RowKit
set_option linter.unusedVariables false
set_option maxRecDepth 100000 in
theorem bclone_any (B:Nat) (A:Option Addr) (n c:Nat) (l:List Nat) (w:World) (h:Rd w B 1 A n (bs l)) (hn:n≤140737488355300) :
 Calls Tryz.prog 52 #[.slice A n c] w (Made 5 l w):=by
 have hcnt:=h.count
 have hnil:∀ wx,(binOp .eql 22 (.slice A n c) (.slice none 0 0)).run Tryz.prog wx=.ok (.bool A.isNone) wx:=fun wx=>Lib.run_eql_slice_nil wx 22 5 A n c 0 0 Tryz.underlying22
 cases A with
 | none=>
  have h0:=rd_none h rfl
  subst h0
  obtain rfl:l=[]:=List.eq_nil_of_length_eq_zero hcnt
  go_enter Tryz.func52,Tryz.ntmps52
  go_wp2
  go_ret
  exact ⟨none,0,rfl,own_none _ _ _,Below.refl _ _⟩
 | some ad=>
  obtain ⟨i0,hi,hz0,hz1,hz2⟩:=info_parts Tryz.info5
  have hm1:0+n≤maxLen:=by unfold maxLen; omega
  have hm2:(0+n) * 1≤140737488355328:=by omega
  have hon:(w.alloc (.cells #[] 5)).ownsRow w.heap.size 5 1 (.slice (some ⟨w.heap.size,0,none⟩) 0 0) 0 []:=World.ownsRow_lit w #[] 0 (Nat.le_refl _) (by decide) rfl
  have h2:Rd (w.alloc (.cells #[] 5)) (w.heap.size+1) 1 (some ad) n (bs l):=by
   refine ⟨h.len,fun hn=>?_⟩
   obtain ⟨ad',e,hb,hc⟩:=h.lies hn
   have hlt:ad'.block<w.heap.size:=by
    have:=World.block_lt_of_cell? w _ (hc 0 ((bs l)[0]'(by have:=h.len; omega)) (List.getElem?_eq_getElem _))
    rwa [add_block] at this
   exact ⟨ad',e,by omega,fun j u hu=>(World.cell?_alloc_lt w _ _ (by rw [add_block]; exact hlt)).trans (hc j u hu)⟩
  have hsz:w.heap.size≤(w.alloc (.cells #[] 5)).heap.size:=by simp
  clear h
  go_enter Tryz.func52,Tryz.ntmps52
  go_wp2_with (at_builtin; (refine wpList_app rfl _ _ 22 rfl w.heap.size 5 i0 (.int .u8 0) 1 1 Tryz.underlying22 hi hz0 hz1 hz2 rfl (by decide) _ 0 [] rfl hon (w.heap.size+1) (some ad) n c (bs l) rfl h2 (bs_one _) hm1 hm2 hsz ?_); intro v' w1 hown' hst; simp only [Nat.zero_add,List.nil_append] at hown'; obtain ⟨A2,c2,rfl,_⟩:=own_form hown')
  go_ret
  rw [made_iff]
  exact ⟨A2,_,c2,rfl,hown',((Below.refl _ _).alloc (Nat.le_refl _) _).trans (hst.below hsz (fun k hk=>by have:w.heap.size=k:=(by injection hk); omega))⟩
end Go.Proofs.YtinmoknbgnngcaaGreatDoor
