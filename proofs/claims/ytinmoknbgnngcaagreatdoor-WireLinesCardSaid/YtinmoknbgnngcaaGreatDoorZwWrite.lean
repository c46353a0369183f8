/-
  Layer 6: strings.Lines: what it hands back; a range over it, for whatever body.
-/
import Derived.Test.YtinmoknbgnngcaaGreatDoorZwWza
import Derived.Test.YtinmoknbgnngcaaGreatDoorZwShf
import Derived.Test.YtinmoknbgnngcaaGreatDoorZwTqj
import Derived.RangeFuncNested
import Derived.RangeFuncBound
import Derived.RangeFuncCalls
import Derived.RangeFuncLeaves
import Derived.Shelf.Abstract
import Derived.OwnWalkIn
import Derived.TacticsInMore
import Derived.LoopNIn
import Derived.LoopIn
import Derived.Test.YtinmoknbgnngcaaGreatDoorZwBse
import Derived.Test.YtinmoknbgnngcaaGreatDoorZwTqc
import Derived.Handy
namespace Go.Proofs.YtinmoknbgnngcaaGreatDoor
open Go Go.RowKit Go.Shelf
set_option linter.unusedVariables false
theorem grown_setL (w:World) (g i:Nat) (x:Value):w.grownBy (w.setCell ⟨g,i,none⟩ x) (some g):=⟨rfl,rfl,rfl,by simp,fun k _ hne=>Below.heap_setCell w ⟨g,i,none⟩ x k (fun e=>hne (by rw [e]))⟩
theorem slines_any (s:List UInt8) (w:World):Calls Tryz.prog 47 #[.string ⟨s.toArray⟩] w fun e w'=>
 e=.returned (.func (.func 77) #[] #[.pointer (some ⟨w.heap.size,0,none⟩)])∧w'=w.alloc (.cells #[.string ⟨s.toArray⟩] 9):=by
 go_enter Tryz.func47,Tryz.ntmps47
 go_wp2
 go_ret
 exact ⟨rfl,rfl⟩
def leftS (b:Nat) (w:World):Nat:=match w.cell? ⟨b,0,none⟩ with
 | some (.string s)=>s.size
 | _=>0
theorem leftS_eq {b:Nat} {w:World} {t:List UInt8} (h:w.heap[b]? = some (.cells #[.string ⟨t.toArray⟩] 9 (0,0))):leftS b w=t.length:=by
 unfold leftS
 rw [show w.cell? ⟨b,0,none⟩=some (.string ⟨t.toArray⟩) from cell_of_row w b 0 _ _ _ h]
 rfl
set_option maxRecDepth 100000 in
set_option maxHeartbeats 1600000 in
theorem lines_iter (m L b:Nat) (s:List UInt8) (W:World) (J Jx:List UInt8→World→Prop) (hs:s.length≤1000000)
 (hR:∀ t X,J t X→X.heap[b]? = some (.cells #[.string ⟨t.toArray⟩] 9 (0,0)))
 (hY:∀ t X X',J t X→t≠[]→t.length≤s.length→X.grownBy X' (some b)→X'.heap[b]? = some (.cells #[.string ⟨(behind 10 t).toArray⟩] 9 (0,0))→YieldAt Fence.wide m Tryz.prog L #[.string ⟨(pieceL t).toArray⟩] X' fun e W'=>
  (e=.returned (.bool true)∧J (behind 10 t) W')∨(e=.returned (.bool false)∧Jx t W'))
 (h0:J s W) :
 CallsIn Fence.wide (m+1) Tryz.prog 77 #[.func (.yield L) #[] #[],.pointer (some ⟨b,0,none⟩)] W fun e W'=>(∃ v,e=.returned v)∧(J [] W'∨∃ t,t≠[]∧Jx t W'):=by
 refine callsIn_of_wp Tryz.func77 rfl trivial ?_ rfl
 simp only [Tryz.ntmps77,List.size_toArray,List.length_cons,List.length_nil,Nat.reduceAdd,Nat.reduceSub,Array.replicate_succ,Array.replicate_zero,List.push_toArray,List.append_toArray,List.nil_append,List.cons_append]
 gi_wp2
 gi_loopw [3,4] (fun _ _ wr=>∃ t,J t wr∧Hid (t.length≤s.length)) (fun _ _ wr=>leftS b wr)
 case atStart=>exact ⟨s,h0,Nat.le_refl _⟩
 case round=>
  clear h0
  obtain ⟨t,hJ,hts⟩:=hrel
  have hbx:=hR t wr hJ
  have hml:=leftS_eq hbx
  have c0:wr.cell? ⟨b,0,none⟩=some (.string ⟨t.toArray⟩):=cell_of_row wr b 0 _ _ _ hbx
  have f0:=frozen_of_row wr b 0 _ _ hbx
  by_cases ht:t=[]
  · subst ht
    have q0:¬ (0:Int)<(([]:List UInt8).length:Int):=by simp
    clear hbx hml
    gi_wp2
    go_end0
    exact ⟨⟨_,rfl⟩,.inl hJ⟩
  · have hpos:=List.length_pos_iff.2 ht
    have q0:(0:Int)<(t.length:Int):=by omega
    have hbl:=behind_lt (c:=10) ht
    have HBL:=Lib_hid hbl
    have HML:=Lib_hid hml
    have IX:∀ X,Calls Tryz.prog 78 #[.string ⟨t.toArray⟩,.int .u8 10] X fun e w'=>e=.returned (.int .i64 (Lib.indexByte t 10))∧w'=X:=fun X=>Tryz.strings_IndexByte ⟨t.toArray⟩ 10 X
    by_cases hm:(10:UInt8)∈t
    · obtain ⟨p1,p2,p3⟩:=piece_in hm
      have hix:Lib.indexByte t 10=((ahead 10 t).length:Int):=by rw [index_ahead,if_pos hm]
      rw [hix] at IX
      generalize (ahead 10 t).length=k at *
      have hst:=sl_take t (k+1) p1
      have hsd:=sl_drop t (k+1) p1
      rw [p2] at hst
      rw [p3] at hsd
      have hwk:IntKind.i64.wrap ((k:Int)+1)=(k:Int)+1:=by have:=hts.out; rw [show (k:Int)+1=((k+1:Nat):Int) by omega]; exact IntWalk.i64_in _ (by omega)
      have hst1:=hst
      have hsd1:=hsd
      rw [show ((k+1:Nat):Int)=(k:Int)+1 by omega] at hst hsd
      have hk0:(0:Int)≤(k:Int):=by omega
      have HG:Hid (wr.grownBy ((wr.setCell ⟨b,0,none⟩ (.string ⟨(behind 10 t).toArray⟩))).drew (some b)):=by
       have hg:=grown_setL wr b 0 (.string ⟨(behind 10 t).toArray⟩)
       exact ⟨hg.os,hg.tape,hg.output,hg.size,hg.block⟩
      have HB:Hid ((wr.setCell ⟨b,0,none⟩ (.string ⟨(behind 10 t).toArray⟩)).drew.heap[b]? = some (.cells #[.string ⟨(behind 10 t).toArray⟩] 9 (0,0))):=Joins.block_setCell hbx _
      obtain ⟨fn,tm,asg,bd,hy,hR2⟩:=hY t wr _ hJ ht hts.out HG.out HB.out
      have HR2:=Lib_hid hR2
      clear hix p1 p2 p3 hbl hml hbx hm hR2 HG HB
      gi_wp2
      refine ⟨trivial,(callsIn_wide.2 (IX wr)).mono ?_⟩
      rintro e w1 ⟨rfl,rfl⟩
      gi_wp2
      gi_region
      all_goals
       gi_wp2
       refine HR2.out.mono ?_
       rintro e W' (⟨rfl,hJ'⟩ | ⟨rfl,hJx'⟩)
       · gi_wp2
         go_roundw
         case rel=>exact ⟨_,hJ',Lib_hid (by have:=HBL.out; have:=hts.out; omega)⟩
         case measure=>rw [leftS_eq (hR _ _ hJ'),HML.out]; exact HBL.out
       · gi_wp2
         exact bodyPost_ret (v:=.tuple #[]) (by simp [results,Tryz.results77,go_sem]) rfl ⟨⟨_,rfl⟩,.inr ⟨t,ht,hJx'⟩⟩
    · obtain ⟨p1,p2,p3⟩:=piece_out hm
      have hix:Lib.indexByte t 10 = -1:=by rw [index_ahead,if_neg hm]
      rw [hix] at IX
      have HG:Hid (wr.grownBy (wr.setCell ⟨b,0,none⟩ (.string ⟨#[]⟩)) (some b)):=grown_setL wr b 0 _
      have HB:Hid ((wr.setCell ⟨b,0,none⟩ (.string ⟨#[]⟩)).heap[b]? = some (.cells #[.string ⟨(behind 10 t).toArray⟩] 9 (0,0))):=by
       unfold Hid
       rw [p2]
       exact Joins.block_setCell hbx _
      obtain ⟨fn,tm,asg,bd,hy,hR2⟩:=hY t wr _ hJ ht hts.out HG.out HB.out
      have HR2:=Lib_hid hR2
      rw [p1] at hy
      clear hix p1 p2 p3 hbl hml hbx hm hR2 HG HB
      gi_wp2
      refine ⟨trivial,(callsIn_wide.2 (IX wr)).mono ?_⟩
      rintro e w1 ⟨rfl,rfl⟩
      gi_wp2
      refine HR2.out.mono ?_
      rintro e W' (⟨rfl,hJ'⟩ | ⟨rfl,hJx'⟩)
      · gi_wp2
        go_roundw
        case rel=>exact ⟨_,hJ',Lib_hid (by have:=HBL.out; have:=hts.out; omega)⟩
        case measure=>rw [leftS_eq (hR _ _ hJ'),HML.out]; exact HBL.out
      · gi_wp2
        exact bodyPost_ret (v:=.tuple #[]) (by simp [results,Tryz.results77,go_sem]) rfl ⟨⟨_,rfl⟩,.inr ⟨t,ht,hJx'⟩⟩
def KeepL (H:Nat) (X Y:World):Prop:=X.heap.size≤Y.heap.size∧∀ k,k<X.heap.size→(k=H∨k=H+1)→Y.heap[k]? = X.heap[k]?
theorem KeepL.refl (H:Nat) (X:World):KeepL H X X:=⟨Nat.le_refl _,fun _ _ _=>rfl⟩
theorem KeepL.trans {H:Nat} {X Y Z:World} (h:KeepL H X Y) (k:KeepL H Y Z):KeepL H X Z:=
 ⟨Nat.le_trans h.1 k.1,fun j hj hx=>(k.2 j (Nat.lt_of_lt_of_le hj h.1) hx).trans (h.2 j hj hx)⟩
def roundEndL (I:List UInt8→World→Prop) (Ix:Code→List UInt8→World→Prop) (H:Nat) (t:List UInt8) (W:World):Exit→Act→World→Prop
 | .normal,_,W'=>KeepL H W W'∧I (behind 10 t) W'
 | .ret,_,W'=>KeepL H W W'∧Ix .ret t W'
 | .exit id,_,W'=>KeepL H W W'∧Ix (.exit id) t W'
 | _,_,_=>False
theorem putObj_grownL (W:World) (j:Nat) (o:Obj):W.grownBy (W.putObj j o) (some j):=grownBy_putObj' W j o
set_option maxRecDepth 100000 in
theorem range_lines {N m b:Nat} {s:List UInt8} {g:Operand} {ps:Array Tmp} {assign body:Code} {Q:Exit→Act→World→Prop} {a:Act} {w:World}
 (hg:a.eval g=.func (.func 77) #[] #[.pointer (some ⟨b,0,none⟩)]) (hps:ps.size=1) (hs:s.length≤1000000) (hb:b<w.heap.size)
 (I:List UInt8→World→Prop) (Ix:Code→List UInt8→World→Prop)
 (hR:∀ t X,I t X→X.heap[b]? = some (.cells #[.string ⟨t.toArray⟩] 9 (0,0)))
 (hI:∀ t X Y r,I t X→w.heap.size≤r→r<w.heap.size+2→X.grownBy Y (some r)→I t Y) (hIx:∀ cc t X Y r,Ix cc t X→w.heap.size≤r→r<w.heap.size+2→X.grownBy Y (some r)→Ix cc t Y)
 (h0:I s w)
 (hround:∀ t W0 W,I t W0→t≠[]→t.length≤s.length→W0.grownBy W (some b)→W.heap[b]? = some (.cells #[.string ⟨(behind 10 t).toArray⟩] 9 (0,0))→w.heap.size+1<W0.heap.size→
  assign.wpIn (Fence.wide.inRound (w.heap.size+1)) m Tryz.prog (Exit.then (fun a₁ w₁=>KeepL w.heap.size W w₁∧∀ w₂,w₁.grownBy w₂ (some (w.heap.size+1))→body.wpIn (Fence.wide.inRound (w.heap.size+1)) m Tryz.prog (roundEndL I Ix w.heap.size t w₂) a₁ w₂) (fun _ _ _=>False))
   {tmps:=(ps.zip #[.string ⟨(pieceL t).toArray⟩]).foldl (fun t (p,v)=>t.setIfInBounds p v) a.tmps,defers:=[]} W)
 (hdone:∀ W,I [] W→W.heap[w.heap.size]? = some (.deferred (some []))→Q .normal {a with defers:={target:=.collected w.heap.size,args:=#[]} :: a.defers} W)
 (hstop:∀ cc t W,t≠[]→Ix cc t W→W.heap[w.heap.size]? = some (.deferred (some []))→cc.wpIn Fence.wide N Tryz.prog Q {a with defers:={target:=.collected w.heap.size,args:=#[]} :: a.defers} W) :
 (Code.rangeFunc g ps assign body).wpIn Fence.wide N Tryz.prog Q a w:=by
 refine wpIn_rangeFunc fun fn hfn=>?_
 let rec':LoopState→Option Code→Loop:=fun st pe=>{state:=st,pending:=pe,fn,tmps:=a.tmps,params:=ps,assign,body,defers:=w.heap.size}
 let W1:World:=(w.alloc (.deferred (some []))).alloc (.loop (rec' .ready none))
 have hs1:W1.heap.size=w.heap.size+2:=by simp [W1]
 have hL:W1.heap[w.heap.size+1]? = some (.loop (rec' .ready none)):=by
  have:=heap_alloc_new (w.alloc (.deferred (some []))) (.loop (rec' .ready none))
  rwa [World.size_alloc] at this
 have hD:W1.heap[w.heap.size]? = some (.deferred (some [])):=(heap_alloc_old _ _ (by simp)).trans (heap_alloc_new w _)
 have hI1:I s W1:=hI _ _ _ (w.heap.size+1) (hI _ _ _ w.heap.size h0 (Nat.le_refl _) (by omega) (World.grownBy_alloc w _ _)) (by omega) (by omega) (World.grownBy_alloc _ _ _)
 refine ⟨w.heap.size+1,[{target:=.collected w.heap.size,args:=#[]}],W1,{target:=.fn (.func 77) #[.pointer (some ⟨b,0,none⟩)],args:=#[.func (.yield (w.heap.size+1)) #[] #[]]},W1,77,
  #[.func (.yield (w.heap.size+1)) #[] #[],.pointer (some ⟨b,0,none⟩)],W1,run_enterLoop_outer _ _ _ _ _,?_,fun _ _=>trivial,?_,(fun h=>by cases h),?_⟩
 · simp only [resolve,hg]
   simp [go_sem]
 · simp [invoke,go_sem]
 · refine (callsIn_wide.2 (callsIn_wide.1 (lines_iter m (w.heap.size+1) b s W1
    (fun t X=>I t X∧X.heap[w.heap.size+1]? = some (.loop (rec' .ready none))∧X.heap[w.heap.size]? = some (.deferred (some [])))
    (fun t X=>∃ cc,Ix cc t X∧X.heap[w.heap.size+1]? = some (.loop (rec' .done (some cc)))∧X.heap[w.heap.size]? = some (.deferred (some [])))
    hs (fun t X h=>hR t X h.1) ?_ ⟨hI1,hL,hD⟩))).mono ?_
   · rintro t W0 W ⟨hi,hl0,hd0⟩ ht hts hgr hbx
     have hl0':=(Array.getElem?_eq_some_iff.1 hl0).1
     have hgs:=hgr.size
     have hl:=(hgr.block _ hl0' (fun e=>by injection e with e; omega)).trans hl0
     have hd:=(hgr.block _ (Array.getElem?_eq_some_iff.1 hd0).1 (fun e=>by injection e with e; omega)).trans hd0
     refine ⟨fn,_,assign,body,run_yield hl (by show 1=ps.size; rw [hps]),roundIn_of_wpIn hfn (wpIn_mono (hround t W0 W hi ht hts hgr hbx hl0') ?_)⟩
     rintro e a1 w1 hq
     cases e with
     | normal=>
      obtain ⟨hk1,hbody⟩:=hq
      have hl1:=(hk1.2 _ (by omega) (.inr rfl)).trans hl
      have hd1:=(hk1.2 _ (by omega) (.inl rfl)).trans hd
      have hl1':=(Array.getElem?_eq_some_iff.1 hl1).1
      refine ⟨_,run_beginRound hl1 rfl,?_⟩
      have hg2:=putObj_grownL w1 (w.heap.size+1) (.loop {rec' .ready none with state:=.busy})
      have hl2:(w1.putObj (w.heap.size+1) (.loop {rec' .ready none with state:=.busy})).heap[w.heap.size+1]? = some (.loop {rec' .ready none with state:=.busy}):=World.putObj_heap_same hl1'
      have hd2:=(hg2.block _ (Array.getElem?_eq_some_iff.1 hd1).1 (fun e=>by injection e with e; omega)).trans hd1
      refine wpIn_mono (hbody _ hg2) ?_
      have fin:∀ (jump:Option Code) (W3:World),KeepL w.heap.size (w1.putObj (w.heap.size+1) (.loop {rec' .ready none with state:=.busy})) W3→
       (Instr.endRound (w.heap.size+1) jump).run Tryz.prog W3=.ok (.bool jump.isNone) (W3.putObj (w.heap.size+1) (.loop (rec' (if jump.isNone then .ready else .done) jump)))∧W3.grownBy (W3.putObj (w.heap.size+1) (.loop (rec' (if jump.isNone then .ready else .done) jump))) (some (w.heap.size+1))∧
       (W3.putObj (w.heap.size+1) (.loop (rec' (if jump.isNone then .ready else .done) jump))).heap[w.heap.size+1]? = some (.loop (rec' (if jump.isNone then .ready else .done) jump))∧
       (W3.putObj (w.heap.size+1) (.loop (rec' (if jump.isNone then .ready else .done) jump))).heap[w.heap.size]? = some (.deferred (some [])):=by
       intro jump W3 hk3
       have hl3:=(hk3.2 _ (Array.getElem?_eq_some_iff.1 hl2).1 (.inr rfl)).trans hl2
       have hd3:=(hk3.2 _ (Array.getElem?_eq_some_iff.1 hd2).1 (.inl rfl)).trans hd2
       have hg3:=putObj_grownL W3 (w.heap.size+1) (.loop (rec' (if jump.isNone then .ready else .done) jump))
       exact ⟨run_endRound jump hl3,hg3,World.putObj_heap_same (Array.getElem?_eq_some_iff.1 hl3).1,(hg3.block _ (Array.getElem?_eq_some_iff.1 hd3).1 (fun e=>by injection e with e; omega)).trans hd3⟩
      rintro e a3 W3 hp
      cases e with
      | normal=>
       obtain ⟨hk3,hi3⟩:=hp
       obtain ⟨h1,h2,h3,h4⟩:=fin none W3 hk3
       exact ⟨_,_,h1,.inl ⟨rfl,hI _ _ _ _ hi3 (by omega) (by omega) h2,h3,h4⟩⟩
      | ret=>
       obtain ⟨hk3,hi3⟩:=hp
       obtain ⟨h1,h2,h3,h4⟩:=fin (some .ret) W3 hk3
       exact ⟨_,_,h1,.inr ⟨rfl,.ret,hIx _ _ _ _ _ hi3 (by omega) (by omega) h2,h3,h4⟩⟩
      | exit id=>
       obtain ⟨hk3,hi3⟩:=hp
       obtain ⟨h1,h2,h3,h4⟩:=fin (some (.exit id)) W3 hk3
       exact ⟨_,_,h1,.inr ⟨rfl,.exit id,hIx _ _ _ _ _ hi3 (by omega) (by omega) h2,h3,h4⟩⟩
      | goto t=>exact hp.elim
      | panic ch=>exact hp.elim
      | outgrown=>exact hp.elim
     | exit id=>exact hq.elim
     | goto t=>exact hq.elim
     | ret=>exact hq.elim
     | panic ch=>exact hq.elim
     | outgrown=>exact hq.elim
   · rintro e W2 ⟨⟨v,rfl⟩,(⟨hi,hl,hd⟩ | ⟨t,ht,cc,hi,hl,hd⟩)⟩
     · have h2:=putObj_grownL W2 (w.heap.size+1) (.loop {rec' .ready none with state:=.exhausted})
       exact ⟨none,_,run_endLoop hl (by simp [rec']),hdone _ (hI _ _ _ _ hi (by omega) (by omega) h2) ((h2.block _ (Array.getElem?_eq_some_iff.1 hd).1 (fun e=>by injection e with e; omega)).trans hd)⟩
     · have h2:=putObj_grownL W2 (w.heap.size+1) (.loop {rec' .done (some cc) with state:=.exhausted})
       exact ⟨some cc,_,run_endLoop hl (by simp [rec']),hstop cc t _ ht (hIx _ _ _ _ _ hi (by omega) (by omega) h2) ((h2.block _ (Array.getElem?_eq_some_iff.1 hd).1 (fun e=>by injection e with e; omega)).trans hd)⟩
end Go.Proofs.YtinmoknbgnngcaaGreatDoor
namespace Go.Proofs.YtinmoknbgnngcaaGreatDoor
open Go Go.RowKit
set_option linter.unusedVariables false
def us (l:List Nat):List Value:=l.map fun (n:Nat)=>Value.int .u64 (n:Int)
theorem us_length (l:List Nat):(us l).length=l.length:=by simp [us]
theorem own_empty (w:World) (t:TypeId):(w.alloc (.cells #[] t)).ownsRow w.heap.size t 1 (.slice (some ⟨w.heap.size,0,none⟩) 0 0) 0 []:=
 World.ownsRow_lit w #[] 0 (Nat.le_refl _) (by decide) rfl
set_option maxRecDepth 100000 in
theorem clone_any (B:Nat) (A:Option Addr) (n c:Nat) (l:List Nat) (w:World) (h:Rd w B 1 A n (bs l)) (hn:n≤140737488355300) (hB:B≤w.heap.size) :
 Calls Tryz.prog 100 #[.slice A n c] w (Made 5 l w):=by
 have hc:=h.count
 subst hc
 obtain ⟨i0,hi,hz0,hz1,hz2⟩:=info_parts Tryz.info5
 have hm1:0+l.length≤maxLen:=by unfold maxLen; omega
 have hm2:(0+l.length) * 1≤140737488355328:=by omega
 have hs1:w.heap.size≤(w.alloc (.cells #[] 5)).heap.size:=by simp
 have hO:=own_empty w 5
 have hr:=h.alloc hB (.cells #[] 5)
 rcases A with _ | ad
 · have hl:l.length=0:=by
    rcases Nat.eq_zero_or_pos l.length with h0 | h0
    · exact h0
    · obtain ⟨ad,hA,_⟩:=h.lies h0; cases hA
   have hl0:l=[]:=List.eq_nil_of_length_eq_zero hl
   subst hl0
   have heq:∀ wx:World,(binOp .eql 22 (.slice none 0 c) (.slice none 0 0)).run Tryz.prog wx=.ok (.bool true) wx:=fun wx=>Lib.run_eql_slice_nil wx _ _ _ _ _ _ _ Tryz.underlying22
   go_enter Tryz.func100,Tryz.ntmps100
   go_wp2
   go_ret
   exact ⟨none,0,rfl,own_none _ _ _,Below.refl _ _⟩
 · have heq:∀ wx:World,(binOp .eql 22 (.slice (some ad) l.length c) (.slice none 0 0)).run Tryz.prog wx=.ok (.bool false) wx:=fun wx=>Lib.run_eql_slice_nil wx _ _ _ _ _ _ _ Tryz.underlying22
   go_enter Tryz.func100,Tryz.ntmps100
   go_wp2_with (at_builtin; (refine wpList_app rfl _ _ 22 rfl w.heap.size 5 i0 (.int .u8 0) 1 1 Tryz.underlying22 hi hz0 hz1 hz2 rfl (by decide) (.slice (some ⟨w.heap.size,0,none⟩) 0 0) 0 [] rfl hO B (some ad) l.length c (bs l) rfl hr (bs_one _) hm1 hm2 hs1 ?_); intro v' w1 hown' hst; simp only [Nat.zero_add,List.nil_append] at hown'; obtain ⟨A2,c2,rfl,_⟩:=own_form hown')
   go_ret
   refine ⟨A2,c2,rfl,hown',((Below.refl _ _).alloc (Nat.le_refl _) _).trans (hst.below hs1 (fun k hk=>?_))⟩
   have:w.heap.size=k:=by injection hk
   omega
structure Wr (T E:TypeId) (w:World) (g:Nat) (A:Option Addr) (n c:Nat) (ys:List Nat):Prop where
 blk:w.heap[g]? = some (.cells #[.slice A n c] T (0,0))
 own:w.ownsRow (g+1) E 1 (.slice A n c) n (bs ys)
structure WStp (w w':World) (g:Nat) (v v':Value):Prop where
 os:w'.os=w.os
 tape:w'.tape=w.tape
 output:w'.output=w.output
 size:w.heap.size≤w'.heap.size
 block:∀ k,k<w.heap.size→k≠g→some k≠v.ownBlock→w'.heap[k]? = w.heap[k]?
 row:v'.ownBlock=v.ownBlock∨∃ k,v'.ownBlock=some k∧w.heap.size≤k
theorem WStp.refl (w:World) (g:Nat) (v:Value):WStp w w g v v:=⟨rfl,rfl,rfl,Nat.le_refl _,fun _ _ _ _=>rfl,.inl rfl⟩
theorem WStp.of {w w':World} {v v':Value} (g:Nat) (h:Stp w w' v v'):WStp w w' g v v':=⟨h.grow.os,h.grow.tape,h.grow.output,h.grow.size,fun k hk _ hv=>h.grow.block k hk hv,h.row⟩
theorem WStp.store (w:World) (g o:Nat) (u v:Value):WStp w (w.setCell ⟨g,o,none⟩ u) g v v:=⟨rfl,rfl,rfl,by simp,fun k _ hg _=>Below.heap_setCell w _ _ _ hg,.inl rfl⟩
theorem WStp.trans {a b c:World} {g:Nat} {u v x:Value} (h:WStp a b g u v) (k:WStp b c g v x):WStp a c g u x:=by
 refine ⟨k.os.trans h.os,k.tape.trans h.tape,k.output.trans h.output,Nat.le_trans h.size k.size,fun i hi hg hne=>?_,?_⟩
 · refine (k.block i (Nat.lt_of_lt_of_le hi h.size) hg ?_).trans (h.block i hi hg hne)
   rcases h.row with e | ⟨j,e,hj⟩
   · rw [e]; exact hne
   · rw [e]; intro e2; have:i=j:=by injection e2
     omega
 · have:=h.size
   rcases k.row with e | ⟨j,e,hj⟩
   · rw [e]; rcases h.row with e1 | ⟨j,e1,hj⟩
     · exact .inl e1
     · exact .inr ⟨j,e1,hj⟩
   · exact .inr ⟨j,e,by omega⟩
theorem WStp.below {w w':World} {g:Nat} {v v':Value} (h:WStp w w' g v v') {B:Nat} (hB:B≤w.heap.size) (hg:B≤g) (hv:∀ k,v.ownBlock=some k→B≤k):Below B w w':=
 ⟨h.os,h.tape,h.output,h.size,fun k hk=>h.block k (by omega) (by omega) (fun e=>by have:=hv k e.symm; omega)⟩
def Away (g:Nat) (v:Value) (A:Option Addr) (n:Nat):Prop:=0<n→∀ ad,A=some ad→ad.block≠g∧some ad.block≠v.ownBlock
theorem Rd.wstp {w w':World} {B size n g:Nat} {A:Option Addr} {xs:List Value} {v v':Value} (h:Rd w B size A n xs) (hB:B≤w.heap.size) (ha:Away g v A n) (hs:WStp w w' g v v'):Rd w' B size A n xs:=
 ⟨h.len,fun hn=>by
  obtain ⟨ad,e,hb,hc⟩:=h.lies hn
  have:=ha hn ad e
  exact ⟨ad,e,hb,fun j u hu=>(World.cell?_of_block (by rw [add_block]; exact hs.block _ (by omega) this.1 this.2)).trans (hc j u hu)⟩⟩
theorem Away.wstp {w w':World} {B size n g:Nat} {A:Option Addr} {xs:List Value} {v v':Value} (ha:Away g v A n) (h:Rd w B size A n xs) (hB:B≤w.heap.size) (hs:WStp w w' g v v'):Away g v' A n:=fun hn ad e=>by
 have h1:=ha hn ad e
 refine ⟨h1.1,?_⟩
 obtain ⟨ad',e',hb,_⟩:=h.lies hn
 obtain rfl:ad=ad':=by rw [e] at e'; injection e'
 rcases hs.row with e2 | ⟨k,e2,hk⟩
 · rw [e2]; exact h1.2
 · rw [e2]; intro e3; have:ad.block=k:=by injection e3
   omega
theorem Wr.lt {T E:TypeId} {w:World} {g n c:Nat} {A:Option Addr} {ys:List Nat} (h:Wr T E w g A n c ys):g<w.heap.size:=lt_of_block h.blk
theorem Wr.stored {T E:TypeId} {w w1:World} {g n c n' c':Nat} {A A':Option Addr} {ys zs:List Nat} (h:Wr T E w g A n c ys) (hs:Stp w w1 (.slice A n c) (.slice A' n' c')) (ho:w1.ownsRow (g+1) E 1 (.slice A' n' c') n' (bs zs)) :
 Wr T E (w1.setCell ⟨g,0,none⟩ (.slice A' n' c')) g A' n' c' zs∧WStp w (w1.setCell ⟨g,0,none⟩ (.slice A' n' c')) g (.slice A n c) (.slice A' n' c'):=by
 have hb:w1.heap[g]? = some (.cells #[.slice A n c] T (0,0)):=(hs.grow.block g h.lt (fun e=>by have:=own_ge h.own g e.symm; omega)).trans h.blk
 exact ⟨⟨one_setCell hb,ownsRow_setCell_below ho (by simp) _⟩,(WStp.of g hs).trans (WStp.store _ _ _ _ _)⟩
theorem Wr.kept {T E:TypeId} {w w1:World} {g n c:Nat} {A:Option Addr} {ys:List Nat} (h:Wr T E w g A n c ys) (hb:Below w.heap.size w w1):Wr T E w1 g A n c ys:=
 ⟨(hb.block g h.lt).trans h.blk,own_below h.own hb (own_lt h.own)⟩
def WPost (T E:TypeId) (g:Nat) (v:Value) (ys:List Nat) (w:World) (e:Ending) (w':World):Prop:=
 ∃ A n c,e=.returned (.int .i64 0)∧Wr T E w' g A n c ys∧WStp w w' g v (.slice A n c)
set_option maxRecDepth 100000 in
theorem wraw_any (g:Nat) (A:Option Addr) (n c:Nat) (ys:List Nat) (w:World) (h:Wr 161 5 w g A n c ys) (hn:n≤100000)
 (B:Nat) (bA:Option Addr) (bn bc:Nat) (l:List Nat) (hl:Rd w B 1 bA bn (bs l)) (hbn:bn≤100000) :
 Calls Tryz.prog 209 #[.pointer (some ⟨g,0,none⟩),.slice bA bn bc] w (WPost 161 5 g (.slice A n c) (ys ++ l) w):=by
 have hc:=cell_of_one h.blk
 have hg:=h.lt
 obtain ⟨i0,hi,hz0,hz1,hz2⟩:=info_parts Tryz.info5
 have hm1:n+bn≤maxLen:=by unfold maxLen; omega
 have hm2:(n+bn) * 1≤140737488355328:=by omega
 have ho:=h.own
 go_enter Tryz.func209,Tryz.ntmps209
 go_wp2_with (at_builtin; (refine wpList_app rfl _ _ 22 rfl (g+1) 5 i0 (.int .u8 0) 1 1 Tryz.underlying22 hi hz0 hz1 hz2 rfl (by decide) (.slice A n c) n (bs ys) rfl ho B bA bn bc (bs l) rfl hl (bs_one _) hm1 hm2 hg ?_); intro v' w1 hown' hst; rw [← bs_append] at hown'; obtain ⟨A2,c2,rfl,_⟩:=own_form hown'; have hw:=h.stored hst hown'; have hb1:=(hst.grow.block g hg (fun e=>by have:=own_ge ho g e.symm; omega)).trans h.blk; have hf1:=free_of_one hb1; have hc1:=cell_of_one hb1)
 go_ret
 exact ⟨A2,_,c2,rfl,hw.1,hw.2⟩
set_option maxRecDepth 100000 in
theorem wtext_any (g:Nat) (A:Option Addr) (n c:Nat) (ys:List Nat) (w:World) (h:Wr 161 5 w g A n c ys) (hn:n≤100000)
 (B:Nat) (bA:Option Addr) (bn bc:Nat) (l:List Nat) (hl:Rd w B 1 bA bn (bs l)) (hbn:bn≤100000) (hB:B≤w.heap.size) (ha:Away g (.slice A n c) bA bn) :
 Calls Tryz.prog 173 #[.pointer (some ⟨g,0,none⟩),.slice bA bn bc] w (WPost 161 5 g (.slice A n c) (ys ++ enc bn ++ l) w):=by
 have hc:=cell_of_one h.blk
 have hg:=h.lt
 obtain ⟨i0,hi,hz0,hz1,hz2⟩:=info_parts Tryz.info5
 have ho:=h.own
 have ht:=enc_ten (v:=bn) (by omega)
 have hyl:(bs ys).length=n:=by have:=ho.1; omega
 have S:=stand_any (g+1) A n c (bs ys) bn w (by omega) ho hg (by omega)
 go_enter Tryz.func173,Tryz.ntmps173
 go_wp2_with fail
 refine S.mono ?_
 rintro e w1 ⟨A1,n1,c1,rfl,ho1,hs1⟩
 rw [← bs_append] at ho1
 have hn1:n1=n+(enc bn).length:=by have:=ho1.1; rw [bs_length,List.length_append] at this; rw [bs_length] at hyl; omega
 have hm1:n1+bn≤maxLen:=by unfold maxLen; omega
 have hm2:(n1+bn) * 1≤140737488355328:=by omega
 have hl1:=hl.wstp hB ha (WStp.of g hs1)
 have hg1:g+1≤w1.heap.size:=by have:=hs1.grow.size; omega
 clear hn1 S
 go_wp2_with (at_builtin; (refine wpList_app rfl _ _ 22 rfl (g+1) 5 i0 (.int .u8 0) 1 1 Tryz.underlying22 hi hz0 hz1 hz2 rfl (by decide) (.slice A1 n1 c1) n1 (bs (ys ++ enc bn)) rfl ho1 B bA bn bc (bs l) rfl hl1 (bs_one _) hm1 hm2 hg1 ?_); intro v' w2 hown' hst; rw [← bs_append] at hown'; obtain ⟨A2,c2,rfl,_⟩:=own_form hown'; have hw:=h.stored (hs1.trans hst) hown'; have hb1:=((hs1.trans hst).grow.block g hg (fun e=>by have:=own_ge ho g e.symm; omega)).trans h.blk; have hf1:=free_of_one hb1; have hc1:=cell_of_one hb1)
 go_ret
 exact ⟨A2,_,c2,rfl,hw.1,hw.2⟩
theorem wbytes_any (g:Nat) (A:Option Addr) (n c:Nat) (ys:List Nat) (w:World) (h:Wr 161 5 w g A n c ys) (hn:n≤100000) :
 Calls Tryz.prog 69 #[.pointer (some ⟨g,0,none⟩)] w (Made 5 ys w):=by
 have hc:=cell_of_one h.blk
 have C:=clone_any w.heap.size A n c ys w (Rd.own h.own) (by omega) (Nat.le_refl _)
 go_enter Tryz.func69,Tryz.ntmps69
 go_wp2_with (go_at_call 100; refine C.mono ?_; rintro e w1 ⟨A1,c1,rfl,ho1,hb1⟩)
 go_ret
 exact ⟨A1,c1,rfl,ho1,hb1⟩
def encs (l:List Nat):List Nat:=l.flatMap enc
theorem encs_snoc (l:List Nat) (x:Nat):encs (l ++ [x])=encs l ++ enc x:=by simp [encs]
theorem encs_le (l:List Nat) (h:∀ x∈l,(x:Int)≤18446744073709551615):(encs l).length≤10 * l.length:=by
 induction l with
 | nil=>simp [encs]
 | cons x l ih=>
  have h1:=ih (fun y hy=>h y (List.mem_cons_of_mem _ hy))
  have h2:=enc_ten (v:=x) (by have:=h x (List.mem_cons_self ..); omega)
  simp only [encs,List.flatMap_cons,List.length_append,List.length_cons] at *
  omega
theorem Rd.num {w:World} {B n:Nat} {A:Option Addr} {l:List Nat} (h:Rd w B 1 A n (us l)) {k:Nat} (hk:k<n):∃ ad x,A=some ad∧l[k]? = some x∧w.cell? (ad.add k)=some (.int .u64 ((x:Nat):Int)):=by
 obtain ⟨ad,e,hb,hc⟩:=h.lies (by omega)
 have hl:k<l.length:=by have:=h.len; rw [us_length] at this; omega
 exact ⟨ad,l[k],e,List.getElem?_eq_getElem hl,hc k _ (by simp [us,List.getElem?_eq_getElem hl])⟩
set_option maxRecDepth 100000 in
set_option maxHeartbeats 800000 in
theorem wnumber_any (g:Nat) (A:Option Addr) (n c:Nat) (ys:List Nat) (w:World) (h:Wr 161 5 w g A n c ys) (hn:n≤100000)
 (B:Nat) (lA:Option Addr) (ln lc:Nat) (l:List Nat) (hl:Rd w B 1 lA ln (us l)) (h64:∀ x∈l,(x:Int)≤18446744073709551615) (hln:ln≤100000) (hB:B≤w.heap.size) (ha:Away g (.slice A n c) lA ln) :
 Calls Tryz.prog 139 #[.pointer (some ⟨g,0,none⟩),.slice lA ln lc] w (WPost 161 5 g (.slice A n c) (ys ++ encs l) w):=by
 have hll:l.length=ln:=by have:=hl.len; rw [us_length] at this; omega
 have hyl:ys.length=n:=by have:=h.own.1; rw [bs_length] at this; omega
 have HLL:=Lib_hid hll
 have HYL:=Lib_hid hyl
 have H64:=Lib_hid h64
 clear hll hyl h64
 go_enter Tryz.func139,Tryz.ntmps139
 go_wp2
 go_loopw [11] (fun i wr=>∃ (k:Nat) (A':Option Addr) (n' c':Nat),i=.int .i64 k∧k≤ln∧Wr 161 5 wr g A' n' c' (ys ++ encs (l.take k))∧WStp w wr g (.slice A n c) (.slice A' n' c')) (fun i _=>ln - (intOf i).toNat)
 case atStart=>exact ⟨0,A,n,c,rfl,Nat.zero_le _,by simpa [encs] using h,WStp.refl _ _ _⟩
 case round=>
  obtain ⟨k,A',n',c',rfl,hk,hw,hs⟩:=hrel
  by_cases hlt:k<ln
  · obtain ⟨ad,x,rfl,hx,hcell⟩:=(hl.wstp hB ha hs).num hlt
    have hc:=cell_of_one hw.blk
    have hg:=hw.lt
    have hx64:=H64.out x (List.mem_of_getElem? hx)
    have hn':n'≤1100000:=by
     have h1:=hw.own.1
     rw [bs_length,List.length_append] at h1
     have h2:=encs_le (l.take k) (fun y hy=>H64.out y (List.mem_of_mem_take hy))
     rw [List.length_take] at h2
     have:=HYL.out
     omega
    have S:=stand_any (g+1) A' n' c' (bs (ys ++ encs (l.take k))) x wr hx64 hw.own hg (by omega)
    have htk:Hid (l.take (k+1)=l.take k ++ [x]):=by unfold Hid; rw [List.take_add_one,hx]; rfl
    clear hx
    go_wp2_with (go_at_call 125; refine S.mono ?_; rintro e w1 ⟨A1,n1,c1,rfl,ho1,hs1⟩; rw [← bs_append] at ho1; have hst:=hw.stored hs1 ho1; have hb1:=(hs1.grow.block g hg (fun e=>by have:=own_ge hw.own g e.symm; omega)).trans hw.blk; have hf1:=free_of_one hb1; have hc1:=cell_of_one hb1)
    go_roundw
    case rel=>exact ⟨k+1,A1,n1,c1,by go_num,by omega,by rw [htk.out,encs_snoc,← List.append_assoc]; exact hst.1,hs.trans hst.2⟩
    case measure=>simp [intOf]; omega
  · obtain rfl:k=ln:=by omega
    go_wp2
    go_ret
    rw [List.take_of_length_le (by have:=HLL.out; omega)] at hw
    exact ⟨A',n',c',rfl,hw,hs⟩
end Go.Proofs.YtinmoknbgnngcaaGreatDoor
