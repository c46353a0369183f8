/-
  The contract of the program's teller.tell: what it tells yield.
-/
import Derived.Test.YtinmoknbgnngcaaGreatDoorZwFsp
import Derived.RangeFuncNested
import Derived.RangeFuncBound
import Derived.RangeFuncCalls
import Derived.RangeFuncLeaves
import Derived.Shelf.Abstract
import Derived.OwnWalkIn
import Derived.TacticsInMore
import Derived.LoopNIn
import Derived.LoopIn
namespace Go.Proofs.YtinmoknbgnngcaaGreatDoor
open Go Go.RowKit Go.Shelf
set_option linter.unusedVariables false
structure Ev where
 k:Nat
 p:List Nat
 A:Option Addr
 c:Nat
 f:Nat
 t:Nat
 r:Nat
def Ev.val (x:Ev):Value:=.agg #[.int .u8 (x.k:Int),.slice x.A x.p.length x.c,.int .i64 (x.f:Int),.int .i64 (x.t:Int)]
def Ev.enc (x:Ev):Array Value:=#[x.val,.int .i64 (x.r:Int)]
def Ev.abs (x:Ev):Nat×List Nat×Nat×Nat:=(x.k,x.p,x.f,x.t)
def Ev.bad (e r:Nat):Ev:=⟨0,[],none,0,e,0,r⟩
def Goods (xs:List Ev):Prop:=∀ x∈xs,x.r=0
def Part (l:List Nat) (xs:List Ev):Prop:=
 (Goods xs∧∃ a,At l (xs.map Ev.abs) a)∨∃ gs e r,r≠0∧xs=gs ++ [Ev.bad e r]∧Goods gs∧splitS l=(gs.map Ev.abs,e,r)
def Full (l:List Nat) (xs:List Ev):Prop:=
 (Goods xs∧splitS l=(xs.map Ev.abs,l.length,0))∨∃ gs e r,r≠0∧xs=gs ++ [Ev.bad e r]∧Goods gs∧splitS l=(gs.map Ev.abs,e,r)
def OwnX (x:Ev) (W0 W:World):Prop:=x.r=0→W.ownsRow W0.heap.size 5 1 (.slice x.A x.p.length x.c) x.p.length (bs x.p)∧x.k<256∧∀ y∈x.p,y<256
def KeepX (A:Option Addr) (g:Nat) (W W':World):Prop:=W.heap.size≤W'.heap.size∧∀ k,k<W.heap.size→(k=1∨(∃ ad,A=some ad∧k=ad.block)∨k=g)→W'.heap[k]? = W.heap[k]?
def leftOf (g n:Nat) (w:World):Nat:=match w.cell? ⟨g,1,none⟩ with
 | some (.int _ a)=>n - a.toNat
 | _=>0
structure Tlr (w:World) (g:Nat) (A:Option Addr) (n c:Nat) (l:List Nat) (a:Nat):Prop where
 blk:w.heap[g]? = some (.cells #[.slice A n c,.int .i64 (a:Int)] 143 (0,0))
 rd:Rd w g 1 A n (bs l)
 tab:Tab w
theorem Tlr.keep {w w':World} {g n c a:Nat} {A:Option Addr} {l:List Nat} (h:Tlr w g A n c l a) (hk:KeepX A g w w'):Tlr w' g A n c l a:=by
 have hg:=(Array.getElem?_eq_some_iff.1 h.blk).1
 refine ⟨(hk.2 g hg (.inr (.inr rfl))).trans h.blk,⟨h.rd.len,fun hn=>?_⟩,⟨Nat.lt_of_lt_of_le h.tab.1 hk.1,fun k hk2=>(World.cell?_of_block (hk.2 1 h.tab.1 (.inl rfl))).trans (h.tab.2 k hk2)⟩⟩
 obtain ⟨ad,e,h1,h2⟩:=h.rd.lies hn
 exact ⟨ad,e,h1,fun j u hu=>(World.cell?_of_block (by rw [add_block]; exact hk.2 _ (by omega) (.inr (.inl ⟨ad,e,rfl⟩)))).trans (h2 j u hu)⟩
theorem grown_of_below {w w':World} (hb:Below w.heap.size w w') (row:Option Nat):w.grownBy w' row:=⟨hb.os,hb.tape,hb.output,hb.size,fun i hi _=>hb.block i hi⟩
theorem fr_grown {g:Nat} {w w1 w':World} {v:Value} (h1:Below w.heap.size w w1) (h2:Below w.heap.size (w1.setCell ⟨g,1,none⟩ v) w'):w.grownBy w' (some g):=by
 have hg:=grown_set w1 g 1 v
 have hs1:=h1.size
 exact ⟨h2.os.trans (hg.os.trans h1.os),h2.tape.trans (hg.tape.trans h1.tape),h2.output.trans (hg.output.trans h1.output),by have:=h2.size; have:=hg.size; omega,fun i hi hne=>(h2.block i hi).trans ((hg.block i (by omega) hne).trans (h1.block i hi))⟩
set_option maxRecDepth 100000 in
set_option maxHeartbeats 2000000 in
theorem tell_any (m L:Nat) (A:Option Addr) (n c:Nat) (l:List Nat) (W:World) (J Jx:List Ev→World→Prop) (hT:Tab W) (hr:Rd W W.heap.size 1 A n (bs l)) (hb8:∀ x∈l,x<256) (hnc:n≤c∧c≤9223372036854775807) (hn:n≤1000000000)
 (hJ:∀ s X Y,J s X→X.grownBy Y (some W.heap.size)→J s Y)
 (hY:∀ pre x W0 W1,J pre W0→W0.grownBy W1 (some W.heap.size)→W.heap.size<W0.heap.size→OwnX x W0 W1→Part l (pre ++ [x])→YieldAt Fence.wide m Tryz.prog L x.enc W1 fun e W'=>
  (e=.returned (.bool true)∧J (pre ++ [x]) W'∧KeepX A W.heap.size W1 W')∨(e=.returned (.bool false)∧Jx (pre ++ [x]) W'))
 (h0:J [] W) :
 CallsIn Fence.wide (m+1) Tryz.prog 53 #[.agg #[.slice A n c,.int .i64 0],.func (.yield L) #[] #[]] W fun e W'=>(∃ v,e=.returned v)∧((∃ xs,Full l xs∧J xs W')∨(∃ pre,Part l pre∧Jx pre W')):=by
 have hln:l.length=n:=hr.count
 have hh:=heap_alloc_new W (.cells #[.slice A n c,.int .i64 0] 143)
 have hS0:Tlr (W.alloc (.cells #[.slice A n c,.int .i64 0] 143)) W.heap.size A n c l 0:=⟨hh,hr.below (below_new _ _),hT.below (below_new _ _) hT.1⟩
 have hJ0:J [] (W.alloc (.cells #[.slice A n c,.int .i64 0] 143)):=hJ _ _ _ h0 (World.grownBy_alloc W _ _)
 refine callsIn_of_wp Tryz.func53 rfl trivial ?_ rfl
 simp only [Tryz.ntmps53,List.size_toArray,List.length_cons,List.length_nil,Nat.reduceAdd,Nat.reduceSub,Array.replicate_succ,Array.replicate_zero,List.push_toArray,List.append_toArray,List.nil_append,List.cons_append]
 gi_wp2
 gi_loopw [4] (fun _ wr=>∃ (pre:List Ev) (a:Nat),Tlr wr W.heap.size A n c l a∧J pre wr∧Goods pre∧At l (pre.map Ev.abs) a) (fun _ wr=>leftOf W.heap.size n wr)
 case atStart=>exact ⟨[],0,hS0,hJ0,by simp [Goods],At.zero l⟩
 case round=>
  obtain ⟨pre,a,hS,hJs,hG,hA⟩:=hrel
  have hgl:=(Array.getElem?_eq_some_iff.1 hS.blk).1
  have c0:=cell_of_row wr W.heap.size 0 _ _ _ hS.blk
  have c1:=cell_of_row wr W.heap.size 1 _ _ _ hS.blk
  have f1:=frozen_of_row wr W.heap.size 1 _ _ hS.blk
  have hal:=hA.1
  by_cases hlt:a<n
  · have FR:=frame_any W.heap.size W.heap.size A n c l (a:Int) wr hS.tab c0 c1 f1 hS.rd hb8 hnc hn (by omega) (Nat.le_refl _)
    rw [frG_in (by omega)] at FR
    cases hfr:frN l a with
    | bad r=>
     rw [hfr] at FR
     have hrr:=frN_rule hfr
     have hS9:=hA.bad (by omega) hfr
     have hP:Part l (pre ++ [Ev.bad a r]):=.inr ⟨pre,a,r,by omega,rfl,hG,hS9⟩
     have hF:Full l (pre ++ [Ev.bad a r]):=.inr ⟨pre,a,r,by omega,rfl,hG,hS9⟩
     have hr0:((r:Int) != 0)=true:=by simp; omega
     have HFR:=Lib_hid FR
     have HRN:Hid (r≠0):=by unfold Hid; omega
     have HP:=Lib_hid hP
     have HF:=Lib_hid hF
     have HS:=Lib_hid hS
     have HA:=Lib_hid hA
     have HG:=Lib_hid hG
     clear FR hP hF hS hA hG hS9 hfr hrr
     gi_wp2
     refine ⟨trivial,?_⟩
     refine (callsIn_wide.2 HFR.out).mono ?_
     rintro e w1 ⟨rfl,hb1⟩
     have hb2:=hb1.alloc hb1.size (.cells #[.int .u8 0,.slice none 0 0] 92)
     obtain ⟨fn,tmps,assign,body,hy,hR⟩:=hY pre (Ev.bad a r) wr _ hJs (grown_of_below hb2 _) hgl (fun e=>absurd e HRN.out) HP.out
     simp only [Ev.enc,Ev.val,Ev.bad,List.length_nil,show ((0:Nat):Int)=0 from rfl] at hy
     gi_wp2
     refine hR.mono ?_
     rintro e W' (⟨rfl,hJ',hk⟩ | ⟨rfl,hJx'⟩)
     · gi_wp2
       exact bodyPost_ret (v:=.tuple #[]) (by simp [results,Tryz.results53,go_sem]) rfl ⟨⟨_,rfl⟩,.inl ⟨_,HF.out,hJ'⟩⟩
     · gi_wp2
       exact bodyPost_ret (v:=.tuple #[]) (by simp [results,Tryz.results53,go_sem]) rfl ⟨⟨_,rfl⟩,.inr ⟨_,HP.out,hJx'⟩⟩
    | good k p nx=>
     rw [hfr] at FR
     obtain ⟨hst,hnx⟩:=hA.step hb8 (by omega) hfr
     obtain ⟨hnxe,hnl,_,hk8,hp8⟩:=frN_stands hb8 (by omega) hfr
     clear hnxe
     have HFR:=Lib_hid FR
     have HK8:=Lib_hid hk8
     have HP8:=Lib_hid hp8
     have HST:=Lib_hid hst
     have HS:=Lib_hid hS
     have HG:=Lib_hid hG
     clear FR hS hA hG hst hk8 hp8 hfr
     gi_wp2
     refine ⟨trivial,?_⟩
     refine (callsIn_wide.2 HFR.out).mono ?_
     rintro e w1 ⟨A1,c1',rfl,ho1,wm,hb4,hb5⟩
     have hgr:=fr_grown hb4 hb5
     have hblk:w1.heap[W.heap.size]? = some (.cells #[.slice A n c,.int .i64 (nx:Int)] 143 (0,0)):=
      (hb5.block W.heap.size hgl).trans (Joins.block_setCell (i:=1) ((hb4.block W.heap.size hgl).trans HS.out.blk) _)
     have hsz1:=hgr.size
     have hS1:Tlr (w1.alloc (.cells #[.int .u8 (k:Int),.slice A1 p.length c1'] 92)) W.heap.size A n c l nx:=by
      refine ⟨(heap_alloc_old w1 _ (by omega)).trans hblk,?_,?_⟩
      · exact ((HS.out.rd.keep fun q hq=>(World.cell?_of_block (hgr.block q.block (by omega) (fun e=>by injection e with e; omega))))).alloc (by omega) _
      · exact (show Tab w1 from ⟨by have:=HS.out.tab.1; omega,fun j hj=>(World.cell?_of_block (hgr.block 1 HS.out.tab.1 (fun e=>by injection e with e; have:=hT.1; omega))).trans (HS.out.tab.2 j hj)⟩).below (below_new w1 _) (by have:=HS.out.tab.1; omega)
     have q1:=cell_of_row w1 W.heap.size 1 _ _ _ hblk
     have hgl1:W.heap.size<w1.heap.size:=by omega
     obtain ⟨fn,tmps,assign,body,hy,hR⟩:=hY pre ⟨k,p,A1,c1',a,nx,0⟩ wr (w1.alloc (.cells #[.int .u8 (k:Int),.slice A1 p.length c1'] 92)) hJs (hgr.trans (World.grownBy_alloc w1 _ _)) hgl
      (fun _=>⟨own_below ho1 (below_new w1 _) (own_lt ho1),HK8.out,HP8.out⟩) (.inl ⟨by intro x hx; rcases List.mem_append.1 hx with hx | hx; exact HG.out x hx; simp at hx; subst hx; rfl,nx,by rw [List.map_append]; exact HST.out⟩)
     simp only [Ev.enc,Ev.val,show ((0:Nat):Int)=0 from rfl] at hy
     have HS1:=Lib_hid hS1
     have HBLK:=Lib_hid hblk
     clear hS1 hblk hb4 hb5 ho1
     gi_wp2
     refine hR.mono ?_
     rintro e W' (⟨rfl,hJ',hk⟩ | ⟨rfl,hJx'⟩)
     · have hS2:=HS1.out.keep hk
       gi_wp2
       go_roundw
       case rel=>exact ⟨pre ++ [⟨k,p,A1,c1',a,nx,0⟩],nx,hS2,hJ',by intro x hx; rcases List.mem_append.1 hx with hx | hx; exact HG.out x hx; simp at hx; subst hx; rfl,by rw [List.map_append]; exact HST.out⟩
       case measure=>
        have e1:=cell_of_row W' W.heap.size 1 _ _ _ hS2.blk
        have e2:=cell_of_row wr W.heap.size 1 _ _ _ HS.out.blk
        simp only [leftOf,e1,e2]
        simp
        omega
     · gi_wp2
       exact bodyPost_ret (v:=.tuple #[]) (by simp [results,Tryz.results53,go_sem]) rfl ⟨⟨_,rfl⟩,.inr ⟨_,.inl ⟨by intro x hx; rcases List.mem_append.1 hx with hx | hx; exact HG.out x hx; simp at hx; subst hx; rfl,nx,by rw [List.map_append]; exact HST.out⟩,hJx'⟩⟩
  · obtain rfl:a=n:=by omega
    gi_wp2
    go_end0
    subst hln
    exact ⟨⟨_,rfl⟩,.inl ⟨pre,.inl ⟨hG,hA.fin⟩,hJs⟩⟩
def KeepD (A:Option Addr) (H:Nat) (X Y:World):Prop:=
 X.heap.size≤Y.heap.size∧∀ k,k<X.heap.size→(k=1∨(∃ ad,A=some ad∧k=ad.block)∨(H≤k∧k<H+3))→Y.heap[k]? = X.heap[k]?
theorem KeepD.refl (A:Option Addr) (H:Nat) (X:World):KeepD A H X X:=⟨Nat.le_refl _,fun _ _ _=>rfl⟩
theorem KeepD.trans {A:Option Addr} {H:Nat} {X Y Z:World} (h:KeepD A H X Y) (k:KeepD A H Y Z):KeepD A H X Z:=
 ⟨Nat.le_trans h.1 k.1,fun j hj hx=>(k.2 j (Nat.lt_of_lt_of_le hj h.1) hx).trans (h.2 j hj hx)⟩
def roundEnd (I:List Ev→World→Prop) (Ix:Code→List Ev→World→Prop) (A:Option Addr) (H:Nat) (xs:List Ev) (W:World):Exit→Act→World→Prop
 | .normal,_,W'=>KeepD A H W W'∧I xs W'
 | .ret,_,W'=>KeepD A H W W'∧Ix .ret xs W'
 | .exit id,_,W'=>KeepD A H W W'∧Ix (.exit id) xs W'
 | _,_,_=>False
theorem putObj_grown (W:World) (j:Nat) (o:Obj):W.grownBy (W.putObj j o) (some j):=grownBy_putObj' W j o
theorem range_tell {N m n c:Nat} {A:Option Addr} {l:List Nat} {g:Operand} {ps:Array Tmp} {assign body:Code} {Q:Exit→Act→World→Prop} {a:Act} {w:World}
 (hg:a.eval g=.func (.func 53) #[.agg #[.slice A n c,.int .i64 0]] #[]) (hps:ps.size=2)
 (hT:Tab w) (hr:Rd w w.heap.size 1 A n (bs l)) (hA:∀ ad,A=some ad→ad.block<w.heap.size) (hb8:∀ x∈l,x<256) (hnc:n≤c∧c≤9223372036854775807) (hn:n≤1000000000)
 (I:List Ev→World→Prop) (Ix:Code→List Ev→World→Prop)
 (hI:∀ s X Y r,I s X→w.heap.size≤r→r<w.heap.size+3→X.grownBy Y (some r)→I s Y) (hIx:∀ cc s X Y r,Ix cc s X→w.heap.size≤r→r<w.heap.size+3→X.grownBy Y (some r)→Ix cc s Y)
 (h0:I [] w)
 (hround:∀ pre x W0 W,I pre W0→W0.grownBy W (some (w.heap.size+2))→w.heap.size+2<W0.heap.size→OwnX x W0 W→Part l (pre ++ [x])→
  assign.wpIn (Fence.wide.inRound (w.heap.size+1)) m Tryz.prog (Exit.then (fun a₁ w₁=>KeepD A w.heap.size W w₁∧∀ w₂,w₁.grownBy w₂ (some (w.heap.size+1))→body.wpIn (Fence.wide.inRound (w.heap.size+1)) m Tryz.prog (roundEnd I Ix A w.heap.size (pre ++ [x]) w₂) a₁ w₂) (fun _ _ _=>False))
   {tmps:=(ps.zip x.enc).foldl (fun t (p,v)=>t.setIfInBounds p v) a.tmps,defers:=[]} W)
 (hdone:∀ xs W,Full l xs→I xs W→W.heap[w.heap.size]? = some (.deferred (some []))→Q .normal {a with defers:={target:=.collected w.heap.size,args:=#[]} :: a.defers} W)
 (hstop:∀ cc pre W,Part l pre→Ix cc pre W→W.heap[w.heap.size]? = some (.deferred (some []))→cc.wpIn Fence.wide N Tryz.prog Q {a with defers:={target:=.collected w.heap.size,args:=#[]} :: a.defers} W) :
 (Code.rangeFunc g ps assign body).wpIn Fence.wide N Tryz.prog Q a w:=by
 refine wpIn_rangeFunc fun fn hfn=>?_
 let rec':LoopState→Option Code→Loop:=fun st pe=>{state:=st,pending:=pe,fn,tmps:=a.tmps,params:=ps,assign,body,defers:=w.heap.size}
 let W1:World:=(w.alloc (.deferred (some []))).alloc (.loop (rec' .ready none))
 have hs1:W1.heap.size=w.heap.size+2:=by simp [W1]
 have hL:W1.heap[w.heap.size+1]? = some (.loop (rec' .ready none)):=by
  have:=heap_alloc_new (w.alloc (.deferred (some []))) (.loop (rec' .ready none))
  rwa [World.size_alloc] at this
 have hD:W1.heap[w.heap.size]? = some (.deferred (some [])):=(heap_alloc_old _ _ (by simp)).trans (heap_alloc_new w _)
 have hb1:Below w.heap.size w W1:=((Below.refl _ w).alloc (Nat.le_refl _) _).alloc (by simp) _
 have hI1:I [] W1:=hI _ _ _ (w.heap.size+1) (hI _ _ _ w.heap.size h0 (Nat.le_refl _) (by omega) (World.grownBy_alloc w _ _)) (by omega) (by omega) (World.grownBy_alloc _ _ _)
 refine ⟨w.heap.size+1,[{target:=.collected w.heap.size,args:=#[]}],W1,{target:=.fn (.func 53) #[],args:=#[.agg #[.slice A n c,.int .i64 0],.func (.yield (w.heap.size+1)) #[] #[]]},W1,53,
  #[.agg #[.slice A n c,.int .i64 0],.func (.yield (w.heap.size+1)) #[] #[]],W1,run_enterLoop_outer _ _ _ _ _,?_,fun _ _=>trivial,?_,(fun h=>by cases h),?_⟩
 · simp only [resolve,hg]
   simp [go_sem]
 · simp [invoke,go_sem]
 · refine (callsIn_wide.2 (callsIn_wide.1 (tell_any m (w.heap.size+1) A n c l W1
    (fun pre X=>I pre X∧X.heap[w.heap.size+1]? = some (.loop (rec' .ready none))∧X.heap[w.heap.size]? = some (.deferred (some [])))
    (fun pre X=>∃ cc,Ix cc pre X∧X.heap[w.heap.size+1]? = some (.loop (rec' .done (some cc)))∧X.heap[w.heap.size]? = some (.deferred (some [])))
    (hT.below hb1 hT.1) ((hr.below hb1).more (by omega)) hb8 hnc hn ?_ ?_ ⟨hI1,hL,hD⟩))).mono ?_
   · rintro s X Y ⟨h1,h2,h3⟩ hgr
     rw [hs1] at hgr
     exact ⟨hI _ _ _ _ h1 (by omega) (by omega) hgr,(hgr.block _ (Array.getElem?_eq_some_iff.1 h2).1 (fun e=>by injection e with e; omega)).trans h2,(hgr.block _ (Array.getElem?_eq_some_iff.1 h3).1 (fun e=>by injection e with e; omega)).trans h3⟩
   · rintro pre x W0 W ⟨hi,hl0,hd0⟩ hgr hlt hox hpt
     rw [hs1] at hgr hlt
     have hgs:=hgr.size
     have hl0':=(Array.getElem?_eq_some_iff.1 hl0).1
     have hl:=(hgr.block _ hl0' (fun e=>by injection e with e; omega)).trans hl0
     have hd:=(hgr.block _ (Array.getElem?_eq_some_iff.1 hd0).1 (fun e=>by injection e with e; omega)).trans hd0
     refine ⟨fn,_,assign,body,run_yield hl (by show x.enc.size=ps.size; rw [hps]; rfl),roundIn_of_wpIn hfn (wpIn_mono (hround pre x W0 W hi hgr hlt hox hpt) ?_)⟩
     rintro e a1 w1 hq
     cases e with
     | normal=>
      obtain ⟨hk1,hbody⟩:=hq
      have hl1:=(hk1.2 _ (by omega) (.inr (.inr ⟨by omega,by omega⟩))).trans hl
      have hd1:=(hk1.2 _ (by omega) (.inr (.inr ⟨by omega,by omega⟩))).trans hd
      have hl1':=(Array.getElem?_eq_some_iff.1 hl1).1
      refine ⟨_,run_beginRound hl1 rfl,?_⟩
      have hg2:=putObj_grown w1 (w.heap.size+1) (.loop {rec' .ready none with state:=.busy})
      have hl2:(w1.putObj (w.heap.size+1) (.loop {rec' .ready none with state:=.busy})).heap[w.heap.size+1]? = some (.loop {rec' .ready none with state:=.busy}):=World.putObj_heap_same hl1'
      have hd2:=(hg2.block _ (Array.getElem?_eq_some_iff.1 hd1).1 (fun e=>by injection e with e; omega)).trans hd1
      refine wpIn_mono (hbody _ hg2) ?_
      have fin:∀ (jump:Option Code) (W3:World),KeepD A w.heap.size (w1.putObj (w.heap.size+1) (.loop {rec' .ready none with state:=.busy})) W3→
       (Instr.endRound (w.heap.size+1) jump).run Tryz.prog W3=.ok (.bool jump.isNone) (W3.putObj (w.heap.size+1) (.loop (rec' (if jump.isNone then .ready else .done) jump)))∧W3.grownBy (W3.putObj (w.heap.size+1) (.loop (rec' (if jump.isNone then .ready else .done) jump))) (some (w.heap.size+1))∧
       (W3.putObj (w.heap.size+1) (.loop (rec' (if jump.isNone then .ready else .done) jump))).heap[w.heap.size+1]? = some (.loop (rec' (if jump.isNone then .ready else .done) jump))∧
       (W3.putObj (w.heap.size+1) (.loop (rec' (if jump.isNone then .ready else .done) jump))).heap[w.heap.size]? = some (.deferred (some [])):=by
       intro jump W3 hk3
       have hl3:=(hk3.2 _ (Array.getElem?_eq_some_iff.1 hl2).1 (.inr (.inr ⟨by omega,by omega⟩))).trans hl2
       have hd3:=(hk3.2 _ (Array.getElem?_eq_some_iff.1 hd2).1 (.inr (.inr ⟨by omega,by omega⟩))).trans hd2
       have hg3:=putObj_grown W3 (w.heap.size+1) (.loop (rec' (if jump.isNone then .ready else .done) jump))
       exact ⟨run_endRound jump hl3,hg3,World.putObj_heap_same (Array.getElem?_eq_some_iff.1 hl3).1,(hg3.block _ (Array.getElem?_eq_some_iff.1 hd3).1 (fun e=>by injection e with e; omega)).trans hd3⟩
      rintro e a3 W3 hp
      cases e with
      | normal=>
       obtain ⟨hk3,hi3⟩:=hp
       obtain ⟨h1,h2,h3,h4⟩:=fin none W3 hk3
       refine ⟨_,_,h1,.inl ⟨rfl,⟨hI _ _ _ _ hi3 (by omega) (by omega) h2,h3,h4⟩,?_⟩⟩
       rw [hs1]
       have hsz:=hk1.1
       have hsz3:w1.heap.size≤W3.heap.size:=Nat.le_trans hg2.size hk3.1
       have hsz4:=h2.size
       refine ⟨by omega,fun k hk hx=>?_⟩
       have hne:k≠w.heap.size+1:=by
        rcases hx with rfl | ⟨ad,e,rfl⟩ | rfl
        · have:=hT.1; omega
        · have:=hA ad e; omega
        · omega
       have hx':k=1∨(∃ ad,A=some ad∧k=ad.block)∨(w.heap.size≤k∧k<w.heap.size+3):=by
        rcases hx with h | h | h
        · exact .inl h
        · exact .inr (.inl h)
        · exact .inr (.inr ⟨by omega,by omega⟩)
       exact (h2.block k (by omega) (fun e=>by injection e with e; omega)).trans ((hk3.2 k (Nat.lt_of_lt_of_le (by omega:k<w1.heap.size) hg2.size) hx').trans ((hg2.block k (by omega) (fun e=>by injection e with e; omega)).trans (hk1.2 k hk hx')))
      | ret=>
       obtain ⟨hk3,hi3⟩:=hp
       obtain ⟨h1,h2,h3,h4⟩:=fin (some .ret) W3 hk3
       exact ⟨_,_,h1,.inr ⟨rfl,.ret,hIx _ _ _ _ _ hi3 (by omega) (by omega) h2,h3,h4⟩⟩
      | exit id=>
       obtain ⟨hk3,hi3⟩:=hp
       obtain ⟨h1,h2,h3,h4⟩:=fin (some (.exit id)) W3 hk3
       exact ⟨_,_,h1,.inr ⟨rfl,.exit id,hIx _ _ _ _ _ hi3 (by omega) (by omega) h2,h3,h4⟩⟩
      | goto t=>exact hp.elim
      | panic ch=>exact hp.elim
      | outgrown=>exact hp.elim
     | exit id=>exact hq.elim
     | goto t=>exact hq.elim
     | ret=>exact hq.elim
     | panic ch=>exact hq.elim
     | outgrown=>exact hq.elim
   · rintro e W2 ⟨⟨v,rfl⟩,(⟨xs,hF,hi,hl,hd⟩ | ⟨pre,hP,cc,hi,hl,hd⟩)⟩
     · have h2:=putObj_grown W2 (w.heap.size+1) (.loop {rec' .ready none with state:=.exhausted})
       exact ⟨none,_,run_endLoop hl (by simp [rec']),hdone xs _ hF (hI _ _ _ _ hi (by omega) (by omega) h2) ((h2.block _ (Array.getElem?_eq_some_iff.1 hd).1 (fun e=>by injection e with e; omega)).trans hd)⟩
     · have h2:=putObj_grown W2 (w.heap.size+1) (.loop {rec' .done (some cc) with state:=.exhausted})
       exact ⟨some cc,_,run_endLoop hl (by simp [rec']),hstop cc pre _ hP (hIx _ _ _ _ _ hi (by omega) (by omega) h2) ((h2.block _ (Array.getElem?_eq_some_iff.1 hd).1 (fun e=>by injection e with e; omega)).trans hd)⟩
end Go.Proofs.YtinmoknbgnngcaaGreatDoor
