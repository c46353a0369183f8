/-
  Layer 5: the program's words: entries.
-/
import Derived.Test.YtinmoknbgnngcaaGreatDoorZwVlp
namespace Go.Proofs.YtinmoknbgnngcaaGreatDoor
open Go Go.RowKit
set_option linter.unusedVariables false
theorem Tryz.infoEn:(Tryz.prog.info? 125).map (fun i=>(i.zero,i.size,i.bytes))=some (some (.agg #[.int .u64 0,.int .u64 0,.int .u64 0,.bool false]),4,32):=by kernel_rfl
def EnsEnd5 (s:List UInt8) (bad:Bool) (g:Nat) (w:World) (e:Ending) (w':World):Prop:=
 w.grownBy w' (some g)∧∃ (A:Option Addr) (c:Nat) (es:List En) (s':List UInt8) (bad':Bool),e=.returned (.slice A es.length c)∧(∀ x∈es,x.ok)∧w'.ownsRow w.heap.size 125 4 (.slice A es.length c) es.length (enCells es)∧
  w'.heap[g]? = some (WdC s' bad')∧es.length+s'.length≤s.length∧(bad=true→bad'=true)∧(bad=false→(ensW s.length s=some es∧s'=[]∧bad'=false)∨(ensW s.length s=none∧bad'=true))
theorem leftW_lt {l:List UInt8} (h:l≠[]):(leftW l).length<l.length:=by
 obtain ⟨_,h2⟩:=leftW_blank l
 have h3:=congrArg List.length h2
 rw [List.length_append] at h3
 cases l with
 | nil=>exact absurd rfl h
 | cons b l=>
  by_cases e:b=32
  · subst e
    rw [restW_eq] at h3
    simp only [List.length_cons]
    omega
  · have hr:restW (b :: l)=b :: l:=by
     unfold restW Lib.trimPrefix
     rw [pre_one,if_neg]
     simp; exact fun h=>e h.symm
    have hw:0<(wordW (b :: l)).length:=by
     unfold wordW
     rw [hr,ahead_cons,if_neg e]
     simp
    rw [hr] at h3
    omega
structure EnsI (s:List UInt8) (bad:Bool) (es:List En) (s':List UInt8) (bad':Bool):Prop where
 len:es.length+s'.length≤s.length
 ok:∀ x∈es,x.ok
 bd:bad=true→bad'=true
 rd:bad=false→(bad'=false∧∃ f,s'.length≤f∧ensW s.length s=(ensW f s').map (es ++ ·))∨(bad'=true∧ensW s.length s=none)
section
variable {s s':List UInt8} {bad bad':Bool} {es:List En}
theorem EnsI.zero (s:List UInt8) (bad:Bool):EnsI s bad [] s bad:=⟨by simp,by simp,fun h=>h,fun h=>.inl ⟨h,s.length,Nat.le_refl _,by simp⟩⟩
theorem EnsI.step (h:EnsI s bad es s' false) (hne:s'≠[]) (e:En) (he:e.ok) (b2:Bool) (hc:(enW (wordW s')=some e∧b2=false)∨(enW (wordW s')=none∧b2=true)):EnsI s bad (es ++ [e]) (leftW s') b2:=by
 have hlt:=leftW_lt hne
 refine ⟨by have:=h.len; simp; omega,fun x hx=>?_,fun hb=>(by have:=h.bd hb; cases this),fun hb=>?_⟩
 · rcases List.mem_append.1 hx with hx | hx
   · exact h.ok x hx
   · obtain rfl:x=e:=by simpa using hx
     exact he
 · rcases h.rd hb with ⟨_,f,hf,e1⟩ | ⟨h0,_⟩
   · obtain ⟨f',rfl⟩:∃ f',f=f'+1:=⟨f - 1,by omega⟩
     have hu:ensW (f'+1) s'=match enW (wordW s') with | some e=>(ensW f' (leftW s')).map (e :: ·) | none=>none:=by
      conv=>lhs; unfold ensW
      rw [if_neg hne]
      cases enW (wordW s') <;> rfl
     rcases hc with ⟨h1,rfl⟩ | ⟨h1,rfl⟩
     · refine .inl ⟨rfl,f',by omega,?_⟩
       rw [e1,hu,h1]
       simp only
       cases ensW f' (leftW s') with
       | none=>rfl
       | some l=>simp
     · refine .inr ⟨rfl,?_⟩
       rw [e1,hu,h1]
       rfl
   · cases h0
theorem EnsI.fin (h:EnsI s bad es s' bad') (hs:s'=[]∨bad'=true):(bad=true→bad'=true)∧(bad=false→(ensW s.length s=some es∧s'=[]∧bad'=false)∨(ensW s.length s=none∧bad'=true)):=by
 refine ⟨h.bd,fun hb=>?_⟩
 rcases h.rd hb with ⟨h0,f,hf,e1⟩ | ⟨h0,h1⟩
 · rcases hs with rfl | h2
   · refine .inl ⟨?_,rfl,h0⟩
     rw [e1]
     have:ensW f []=some []:=by cases f <;> rfl
     rw [this]
     simp
   · rw [h0] at h2; cases h2
 · exact .inr ⟨h1,h0⟩
end
def lenAt (g:Nat) (W:World):Nat:=match W.heap[g]? with
 | some (.cells cs _ _)=>match cs[0]? with
  | some (Value.string b)=>b.size
  | _=>0
 | _=>0
theorem lenAt_eq {g:Nat} {W:World} {s:List UInt8} {bad:Bool} (h:W.heap[g]? = some (WdC s bad)):lenAt g W=s.length:=by
 unfold lenAt WdC at *
 rw [h]
 simp [ByteArray.size]
set_option maxRecDepth 100000 in
set_option maxHeartbeats 3200000 in
theorem entries5_any (B g:Nat) (s:List UInt8) (bad:Bool) (w:World) (hg:w.heap[g]? = some (WdC s bad)) (hE:EnvM B w) (hB:B≤g) (hl:s.length≤1000000) :
 Calls Tryz.prog 190 #[.pointer (some ⟨g,0,none⟩)] w (EnsEnd5 s bad g w):=by
 have hgl:=(Array.getElem?_eq_some_iff.1 hg).1
 obtain ⟨i0,hi,hz0,hz1,hz2⟩:=info_parts Tryz.infoEn
 have NX:Hid (∀ (W:World) (l:List UInt8) (bad':Bool),w.grownBy W (some g)→W.heap[g]? = some (WdC l bad')→l.length≤1000000→Calls Tryz.prog 146 #[.pointer (some ⟨g,0,none⟩)] W fun e w'=>e=.returned (.string ⟨(wordW l).toArray⟩)∧w'.heap[g]? = some (WdC (leftW l) bad')∧W.grownBy w' (some g)):=fun W l bad' h1 h2 h3=>
  next_any B g l bad' W h2 (hE.under (B':=B) ((Below.refl B w).grown h1 (by omega) (fun k hk=>by injection hk with hk; omega)) (Nat.le_refl _)) h3
 have EN:Hid (∀ (W:World) (x l:List UInt8) (bad':Bool),w.grownBy W (some g)→W.heap[g]? = some (WdC l bad')→x.length≤1000000→Calls Tryz.prog 212 #[.pointer (some ⟨g,0,none⟩),.string ⟨x.toArray⟩] W (EntEnd5 x l bad' g W)):=fun W x l bad' h1 h2 h3=>
  entry5_any B g x l bad' W h2 (hE.under (B':=B) ((Below.refl B w).grown h1 (by omega) (fun k hk=>by injection hk with hk; omega)) (Nat.le_refl _)) hB h3
 have FIN:Hid (∀ (W:World) (A:Option Addr) (n c:Nat) (es:List En) (s':List UInt8) (bad':Bool),n=es.length→EnsI s bad es s' bad'→(s'=[]∨bad'=true)→W.ownsRow w.heap.size 125 4 (.slice A n c) n (enCells es)→W.heap[g]? = some (WdC s' bad')→w.grownBy W (some g)→EnsEnd5 s bad g w (.returned (.slice A n c)) W):=fun W A n c es s' bad' h1 h2 h3 h4 h5 h6=>by
  subst h1
  obtain ⟨k1,k2⟩:=h2.fin h3
  exact ⟨h6,A,c,es,s',bad',rfl,h2.ok,h4,h5,h2.len,k1,k2⟩
 go_enter Tryz.func190,Tryz.ntmps190
 go_wp2
 go_loopw [3] (fun v wr=>∃ (n c:Nat) (A:Option Addr) (es:List En) (s':List UInt8) (bad':Bool),v=.slice A n c∧Hid (n=es.length)∧Hid (EnsI s bad es s' bad')∧wr.ownsRow w.heap.size 125 4 (.slice A n c) n (enCells es)∧wr.heap[g]? = some (WdC s' bad')∧w.grownBy wr (some g)) (fun _ wr=>lenAt g wr)
 case atStart=>exact ⟨0,0,none,[],s,bad,rfl,rfl,EnsI.zero s bad,World.ownsRow_nil _ _ _ _,hg,grow_refl _ _⟩
 case round=>
  obtain ⟨n,c,A,es,s',bad',rfl,hn,hI,hown,hgr,hgw⟩:=hrel
  have c0:wr.cell? ⟨g,0,none⟩=some (.string ⟨s'.toArray⟩):=cell_of_row wr g 0 _ _ _ hgr
  have c1:wr.cell? ⟨g,1,none⟩=some (.bool bad'):=cell_of_row wr g 1 _ _ _ hgr
  have HLEN:=lenAt_eq hgr
  have hil:=hI.out.len
  by_cases hs:s'=[]
  · have hq:(s' == [])=true:=by simp [hs]
    have HF:=Lib_hid (FIN.out wr A n c es s' bad' hn.out hI.out (.inl hs) hown hgr hgw)
    clear NX EN FIN hown hgr hI hgw
    subst hs
    go_wp2
    go_ret
    exact HF.out
  · have hq:(s' == [])=false:=by simp [hs]
    have hq2:(s' != [])=true:=by simp [hs]
    cases bad' with
    | true=>
     have HF:=Lib_hid (FIN.out wr A n c es s' true hn.out hI.out (.inr rfl) hown hgr hgw)
     clear NX EN FIN hown hgr hI hgw
     go_wp2
     go_ret
     exact HF.out
    | false=>
     have hwl:=Nat.le_trans (wordW_len s') (restW_len s')
     have hlt:=leftW_lt hs
     have NX1:=NX.out wr s' false hgw hgr (by omega)
     have HST:Hid (∀ (e:En) (b2:Bool),e.ok→((enW (wordW s')=some e∧b2=false)∨(enW (wordW s')=none∧b2=true))→EnsI s bad (es ++ [e]) (leftW s') b2):=fun e b2 he hc=>hI.out.step hs e he b2 hc
     have hm1:n+1≤maxLen:=by have:=hn.out; unfold maxLen; omega
     have hm2:(n+1) * 32≤140737488355328:=by have:=hn.out; omega
     have HEN:Hid (∀ (W:World) ,w.grownBy W (some g)→W.heap[g]? = some (WdC (leftW s') false)→Calls Tryz.prog 212 #[.pointer (some ⟨g,0,none⟩),.string ⟨(wordW s').toArray⟩] W (EntEnd5 (wordW s') (leftW s') false g W)):=fun W h1 h2=>EN.out W (wordW s') (leftW s') false h1 h2 (by omega)
     clear NX EN FIN hI hwl hs hgr
     generalize wordW s'=wd at *
     generalize leftW s'=lf at *
     go_wp2_with fail
     refine NX1.mono ?_
     rintro e w1 ⟨rfl,hx1,hg1⟩
     have EN1:=HEN.out w1 (hgw.trans hg1) hx1
     clear HEN NX1 c0 c1
     go_wp2_with fail
     refine EN1.mono ?_
     rintro e w2 ⟨hg2,en,rfl,hok,hc⟩
     obtain ⟨b2,hx2,hcc⟩:∃ b2,w2.heap[g]? = some (WdC lf b2)∧((enW wd=some en∧b2=false)∨(enW wd=none∧b2=true)):=by
      rcases hc with ⟨h1,h2⟩ | ⟨h1,h2⟩
      · exact ⟨false,h2,.inl ⟨h1,rfl⟩⟩
      · exact ⟨true,h2,.inr ⟨h1,rfl⟩⟩
     have HI2:=Lib_hid (HST.out en b2 hok hcc)
     have hgw2:=hgw.trans (hg1.trans hg2)
     have hs2:=hgw2.size
     have ho2:w2.ownsRow w.heap.size 125 4 (.slice A n c) n (enCells es):=own_keep hown fun k hk=>(hg1.trans hg2).block k (own_lt hown k hk) (fun e=>by injection e with e; have:=own_ge hown k hk; omega)
     have hec:enCells (es ++ [en])=enCells es ++ en.cells:=by rw [enCells_append]; simp [enCells]
     have HEC:=Lib_hid hec
     clear hc hcc hok EN1 HST hg2 hg1 hx1 hown hec
     obtain ⟨ex,ea,eb,em⟩:=en
     simp only [En.val]
     have ho3:=own_below ho2 (below_new w2 (.cells #[.int .u64 (ex:Int),.int .u64 (ea:Int),.int .u64 (eb:Int),.bool em] 125)) (own_lt ho2)
     have hr3:=rd_row (size:=4) (n:=1) (l:=[.int .u64 (ex:Int),.int .u64 (ea:Int),.int .u64 (eb:Int),.bool em]) (heap_alloc_new w2 (.cells #[.int .u64 (ex:Int),.int .u64 (ea:Int),.int .u64 (eb:Int),.bool em] 125)) rfl
     have hx3:=(heap_alloc_old w2 (.cells #[.int .u64 (ex:Int),.int .u64 (ea:Int),.int .u64 (eb:Int),.bool em] 125) (lt_of_block hx2)).trans hx2
     have hgw3:w.grownBy (w2.alloc (.cells #[.int .u64 (ex:Int),.int .u64 (ea:Int),.int .u64 (eb:Int),.bool em] 125)) (some g):=hgw2.trans (grow_below (below_new w2 _) _)
     have hs3:=hgw3.size
     have h1c:∀ u∈([.int .u64 (ex:Int),.int .u64 (ea:Int),.int .u64 (eb:Int),.bool em]:List Value),u.oneCell'=true:=by
      intro u hu
      simp only [List.mem_cons,List.not_mem_nil,or_false] at hu
      rcases hu with rfl | rfl | rfl | rfl <;> rfl
     clear hgw2 ho2 hx2
     go_wp2_with (at_builtin; (refine wpList_app rfl _ _ 66 rfl w.heap.size 125 i0 (.agg #[.int .u64 0,.int .u64 0,.int .u64 0,.bool false]) 4 32 Tryz.underlying66 hi hz0 hz1 hz2 rfl (by decide) (.slice A n c) n _ rfl ho3 _ _ 1 1 _ rfl hr3 h1c hm1 hm2 hs3 ?_); intro v' w5 hown' hst; obtain ⟨A',c',rfl,_⟩:=own_form hown')
     go_roundw
     case rel=>
      refine ⟨n+1,c',A',es ++ [⟨ex,ea,eb,em⟩],lf,b2,rfl,Lib_hid (by rw [List.length_append,← hn.out]; rfl),HI2,by rw [HEC.out]; exact hown',(hst.grow.block g (by omega) (fun e=>by have:=own_ge ho3 g e.symm; omega)).trans hx3,?_⟩
      exact ⟨hst.grow.os.trans hgw3.os,hst.grow.tape.trans hgw3.tape,hst.grow.output.trans hgw3.output,Nat.le_trans hgw3.size hst.grow.size,fun k hk hne=>(hst.grow.block k (by omega) (fun e=>by have:=own_ge ho3 k e.symm; omega)).trans (hgw3.block k hk hne)⟩
     case measure=>
      have h5:w5.heap[g]? = some (WdC lf b2):=(hst.grow.block g (by omega) (fun e=>by have:=own_ge ho3 g e.symm; omega)).trans hx3
      rw [lenAt_eq h5,HLEN]
      exact hlt
end Go.Proofs.YtinmoknbgnngcaaGreatDoor
