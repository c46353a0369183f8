/-
  Layer 4: the program's reader.node.
-/
import Derived.Test.YtinmoknbgnngcaaGreatDoorZwTnq
import Derived.Test.YtinmoknbgnngcaaGreatDoorZwTex
namespace Go.Proofs.YtinmoknbgnngcaaGreatDoor
open Go Go.RowKit
set_option linter.unusedVariables false
theorem grown_aside {w W:World} {g p i:Nat} (h:w.grownBy W (some g)) (hp:w.heap.size≤p) (v:Value):w.grownBy (W.setCell ⟨p,i,none⟩ v) (some g):=
 ⟨h.os,h.tape,h.output,by have:=h.size; simpa [World.setCell] using this,fun j hj hne=>(Below.heap_setCell W ⟨p,i,none⟩ v j (by show j≠p; omega)).trans (h.block j hj hne)⟩
theorem grown_put4 {w W:World} {g p:Nat} (h:w.grownBy W (some g)) (hp:w.heap.size≤p) (a b c d:Value):w.grownBy (put4 W p a b c d) (some g):=
 grown_aside (grown_aside (grown_aside (grown_aside h hp a) hp b) hp c) hp d
theorem node_ret {Q:Ending→World→Prop} {W:World} {h0:Nat} {x0 x1 x2 x3:Value} (HR2:W.heap[h0]? = some (.cells #[x0,x1,x2,x3] 65 (0,0))) (HF2:Q (.returned (.agg #[x0,x1,x2,x3])) W)
 (tmps:Array Value) (h4:tmps.getD 4 undef=.pointer (some ⟨h0,0,none⟩)):bodyPost Tryz.prog Tryz.f223 Q .ret {tmps:=tmps,defers:=[]} W:=by
 rw [Array.getD_eq_getD_getElem?] at h4
 have d0:=cell_of_row W _ 0 _ _ _ HR2
 have d1:=cell_of_row W _ 1 _ _ _ HR2
 have d2:=cell_of_row W _ 2 _ _ _ HR2
 have d3:=cell_of_row W _ 3 _ _ _ HR2
 simp at d0 d1 d2 d3
 exact bodyPost_ret (v:=.agg #[x0,x1,x2,x3]) (by simp [results,Tryz.results223,go_sem,h4,d0,d1,d2,d3]) rfl HF2
set_option maxRecDepth 100000 in
set_option maxHeartbeats 6400000 in
theorem pnode_any (d:Nat):d≤8→NodeOK d:=by
 induction d using Nat.strongRecOn with
 | _ d IHd=>
 intro hd m s bad B g w hg hE hB hl hm hm2
 have hgl:=(Array.getElem?_eq_some_iff.1 hg).1
 obtain ⟨w1,hw1⟩:∃ w1,w1=w.alloc (.cells #[.int .i64 0,.int .u64 0,.int .u64 0,.slice none 0 0] 65):=⟨_,rfl⟩
 have q1:=heap_alloc_new w (.cells #[.int .i64 0,.int .u64 0,.int .u64 0,.slice none 0 0] 65)
 have b1:=below_new w (.cells #[.int .i64 0,.int .u64 0,.int .u64 0,.slice none 0 0] 65)
 have s1:w1.heap.size=w.heap.size+1:=by rw [hw1]; simp
 rw [← hw1] at q1 b1
 have hg1:=(b1.block g hgl).trans hg
 have KR:=pkind_any m s bad g w1 hg1
 have hgr1:=grow_below b1 (some g)
 obtain ⟨kd,r,hks⟩:∃ kd r,kindS s=(kd,r):=⟨_,_,rfl⟩
 have hkl:=kindS_le s
 rw [hks] at hkl
 have HKS:=Lib_hid hks
 have HE:Hid (∀ W,w.grownBy W (some g)→Env B W):=fun W h=>hE.keep fun k hk=>h.block k (by omega) (fun e=>by injection e with e; omega)
 have HIH:Hid (∀ d',d'<d→NodeOK d'):=fun d' h=>IHd d' h (by omega)
 obtain ⟨dp,hdp⟩:∃ dp,dp=9 - d:=⟨_,rfl⟩
 have HDP:=Lib_hid hdp
 have hdp9:dp≤9:=by omega
 have HBAD:Hid (∀ (W:World) (m':Nat),W.heap[g]? = some (RdrC (m':Int) r bad)→W.heap[w.heap.size]? = some (.cells #[.int .i64 0,.int .u64 0,.int .u64 0,.slice none 0 0] 65 (0,0))→w.grownBy W (some g)→m'≤m+1→(bad=false→∀ t q,rdS d s=some (t,q)→32<m+t.count)→
  NdEnd d m s bad g w (.returned (.agg #[.int .i64 0,.int .u64 0,.int .u64 0,.slice none 0 0])) (put4 (W.setCell ⟨g,2,none⟩ (.bool true)) w.heap.size (.int .i64 0) (.int .u64 0) (.int .u64 0) (.slice none 0 0))∧
  (put4 (W.setCell ⟨g,2,none⟩ (.bool true)) w.heap.size (.int .i64 0) (.int .u64 0) (.int .u64 0) (.slice none 0 0)).heap[w.heap.size]? = some (.cells #[.int .i64 0,.int .u64 0,.int .u64 0,.slice none 0 0] 65 (0,0))):=by
  intro W m' h1 h2 h3 h4 h5
  have hbx:(W.setCell ⟨g,2,none⟩ (.bool true)).heap[g]? = some (RdrC (m':Int) r true):=Joins.block_setCell (i:=2) h1 _
  have hz:(W.setCell ⟨g,2,none⟩ (.bool true)).heap[w.heap.size]? = _:=(Below.heap_setCell W ⟨g,2,none⟩ _ w.heap.size (by show w.heap.size≠g; omega)).trans h2
  refine ⟨⟨0,0,0,0,0,m',none,r,true,rfl,grown_put4 (h3.trans (grow_set W g 2 _)) (Nat.le_refl _) _ _ _ _,(put4_else _ (by omega) _ _ _ _).trans hbx,NdR.none0 hkl.2.1 h4 hm h5⟩,put4_row hz _ _ _ _⟩
 have hgN:(∀ t q,kd=0→rdS d s=some (t,q)→32<m+t.count):=by
  intro t q h0 h
  cases d with
  | zero=>cases h
  | succ d=>
   have:rdS (d+1) s=none:=by
    show (if (kindS s).1=0 then none else _)=_
    rw [hks,if_pos h0]
   rw [this] at h; cases h
 have HGN:=Lib_hid hgN
 rw [← hdp]
 subst hw1
 clear hg1 b1 hE IHd hks hdp hgN
 go_enter Tryz.func223,Tryz.ntmps223
 go_wp2_with fail
 refine KR.mono ?_
 rintro e w2 ⟨rfl,hgr2,hg2⟩
 rw [HKS.out] at hg2 ⊢
 have hgrA:=hgr1.trans hgr2
 have q2:=(hgr2.block w.heap.size (by omega) (fun e=>by injection e with e; omega)).trans q1
 have s2:w.heap.size+1≤w2.heap.size:=by have:=hgr2.size; omega
 clear KR q1 hgr1 hgr2 s1
 obtain ⟨w3,hw3⟩:∃ w3,w3=w2.alloc (.cells #[.int .i64 (kd:Int),.int .u64 0,.int .u64 0,.slice none 0 0] 65):=⟨_,rfl⟩
 have q33:=heap_alloc_new w2 (.cells #[.int .i64 (kd:Int),.int .u64 0,.int .u64 0,.slice none 0 0] 65)
 have b3:=below_new w2 (.cells #[.int .i64 (kd:Int),.int .u64 0,.int .u64 0,.slice none 0 0] 65)
 rw [← hw3] at q33 b3
 have s3:w3.heap.size=w2.heap.size+1:=by rw [hw3]; simp
 have KO:=kindof_any (kd:Int) w3
 have hg3:=(b3.block g (Array.getElem?_eq_some_iff.1 hg2).1).trans hg2
 have q23:=(b3.block w.heap.size (by omega)).trans q2
 have hgrB:=hgrA.trans (grow_below b3 (some g))
 have c0:=cell_of_row w3 _ 0 _ _ _ q33
 simp at c0
 subst hw3
 clear hg2 q2 b3 hgrA
 by_cases hk0:kd=0
 · subst hk0
   clear KO
   have KO:Calls Tryz.prog 191 #[.int .i64 0] (w2.alloc (.cells #[.int .i64 0,.int .u64 0,.int .u64 0,.slice none 0 0] 65)) fun e w'=>e=.returned (.tuple #[.agg #[.string ⟨#[]⟩,.int .i64 0,.nilFunc,.nilFunc,.nilFunc],.bool false])∧Below (w2.alloc (.cells #[.int .i64 0,.int .u64 0,.int .u64 0,.slice none 0 0] 65)).heap.size (w2.alloc (.cells #[.int .i64 0,.int .u64 0,.int .u64 0,.slice none 0 0] 65)) w':=by
    have:=kindof_any 0 (w2.alloc (.cells #[.int .i64 0,.int .u64 0,.int .u64 0,.slice none 0 0] 65))
    rw [show kindAt 0=.agg #[.string ⟨#[]⟩,.int .i64 0,.nilFunc,.nilFunc,.nilFunc] by simp [kindAt,isKind],show isKind 0=false by decide] at this
    exact this
   simp only [Int.natCast_zero] at hg3 q23 hgrB q33
   go_wp2_with fail
   refine KO.mono ?_
   rintro e w4 ⟨rfl,hb4⟩
   have hg4:=(hb4.block g (Array.getElem?_eq_some_iff.1 hg3).1).trans hg3
   have q24:=(hb4.block w.heap.size (Array.getElem?_eq_some_iff.1 q23).1).trans q23
   have hgr4:=hgrB.trans (grow_below hb4 (some g))
   have b5:=below_new w4 (.cells #[.string ⟨#[]⟩,.int .i64 0,.nilFunc,.nilFunc,.nilFunc] 268)
   have hg5:=(b5.block g (Array.getElem?_eq_some_iff.1 hg4).1).trans hg4
   have q25:=(b5.block w.heap.size (Array.getElem?_eq_some_iff.1 q24).1).trans q24
   have hgr5:=hgr4.trans (grow_below b5 (some g))
   clear KO hb4 hg3 q23 hgrB q33 c0 hg4 q24 hgr4 b5
   go_upto_region 3 with (fail)
   generalize w4.alloc (.cells #[.string ⟨#[]⟩,.int .i64 0,.nilFunc,.nilFunc,.nilFunc] 268)=w5 at *
   have c2:=cell_of_row w5 _ 2 _ _ _ hg5
   have z2:=frozen_of_row w5 g 2 _ _ hg5
   have hqz:(w5.setCell ⟨g,2,none⟩ (.bool true)).heap[w.heap.size]? = _:=(Below.heap_setCell w5 ⟨g,2,none⟩ _ w.heap.size (by show w.heap.size≠g; omega)).trans q25
   have e0:=cell_of_row _ _ 0 _ _ _ hqz
   have e1:=cell_of_row _ _ 1 _ _ _ hqz
   have e2:=cell_of_row _ _ 2 _ _ _ hqz
   have e3:=cell_of_row _ _ 3 _ _ _ hqz
   have y0:=frozen_of_row _ w.heap.size 0 _ _ hqz
   have y1:=frozen_of_row _ w.heap.size 1 _ _ hqz
   have y2:=frozen_of_row _ w.heap.size 2 _ _ hqz
   have y3:=frozen_of_row _ w.heap.size 3 _ _ hqz
   simp at c2 e0 e1 e2 e3
   have HX:=Lib_hid (HBAD.out w5 m hg5 q25 hgr5 (by omega) (fun _ t q h=>HGN.out t q (by trivial) h))
   clear HBAD hg5 q25 hqz
   go_wp2_with fail
   show bodyPost _ _ _ _ _ (put4 (w5.setCell ⟨g,2,none⟩ (.bool true)) w.heap.size (.int .i64 0) (.int .u64 0) (.int .u64 0) (.slice none 0 0))
   have HX2:=HX.out
   clear HX e0 e1 e2 e3 y0 y1 y2 y3 c2 z2
   generalize put4 (w5.setCell ⟨g,2,none⟩ (.bool true)) w.heap.size (.int .i64 0) (.int .u64 0) (.int .u64 0) (.slice none 0 0)=W2 at *
   exact node_ret HX2.2 HX2.1 _ rfl
 · have hk:1≤(kd:Int)∧(kd:Int)≤7:=by omega
   have hcn:=call_num hk
   have NA:=Lib_hid (fun g wx=>nums_any (kd:Int) hk g wx)
   rw [kindAt_eq hk,show isKind (kd:Int)=true by unfold isKind; simp; omega] at KO
   have HPN:Hid (partN (kd:Int)=if kd=5 then 1 else if 6≤kd then 2 else 0):=by
    unfold partN Hid
    have:kd=1∨kd=2∨kd=3∨kd=4∨kd=5∨kd=6∨kd=7:=by omega
    rcases this with rfl | rfl | rfl | rfl | rfl | rfl | rfl <;> decide
   generalize partN (kd:Int)=pn at *
   generalize wordA (kd:Int)=wd at *
   generalize numF (kd:Int)=f1 at *
   generalize fitF (kd:Int)=f2 at *
   generalize askF (kd:Int)=f3 at *
   have HK:=Lib_hid (And.intro hk0 hkl)
   clear hk hk0
   go_wp2_with fail
   refine KO.mono ?_
   rintro e w4 ⟨rfl,hb4⟩
   have hg4:=(hb4.block g (Array.getElem?_eq_some_iff.1 hg3).1).trans hg3
   have q24:=(hb4.block w.heap.size (Array.getElem?_eq_some_iff.1 q23).1).trans q23
   have p4:=(hb4.block w2.heap.size (Array.getElem?_eq_some_iff.1 q33).1).trans q33
   have hgr4:=hgrB.trans (grow_below hb4 (some g))
   have b5:=below_new w4 (.cells #[.string ⟨wd⟩,.int .i64 (pn:Nat),.func (.func f1) #[] #[],.func (.func f2) #[] #[],.func (.func f3) #[] #[]] 268)
   have k5:=heap_alloc_new w4 (.cells #[.string ⟨wd⟩,.int .i64 (pn:Nat),.func (.func f1) #[] #[],.func (.func f2) #[] #[],.func (.func f3) #[] #[]] 268)
   have hg5:=(b5.block g (Array.getElem?_eq_some_iff.1 hg4).1).trans hg4
   have q25:=(b5.block w.heap.size (Array.getElem?_eq_some_iff.1 q24).1).trans q24
   have p5:=(b5.block w2.heap.size (Array.getElem?_eq_some_iff.1 p4).1).trans p4
   have hgr5:=hgr4.trans (grow_below b5 (some g))
   have s4:w2.heap.size<w4.heap.size:=(Array.getElem?_eq_some_iff.1 p4).1
   clear KO hb4 hg3 q23 hgrB q33 c0 hg4 q24 hgr4 b5 p4 s3
   go_upto_region 3 with (fail)
   generalize w4.alloc (.cells #[.string ⟨wd⟩,.int .i64 (pn:Nat),.func (.func f1) #[] #[],.func (.func f2) #[] #[],.func (.func f3) #[] #[]] 268)=w5 at *
   have EN:=enter_any g 0 m dp w5 (cell_of_row w5 _ 0 _ _ _ hg5) (frozen_of_row w5 g 0 _ _ hg5) (by omega) (by omega)
   go_wp2_with fail
   refine EN.mono ?_
   rintro e w6 ⟨rfl,hw6⟩
   have hg6:w6.heap[g]? = some (RdrC ((m+1:Nat):Int) r bad):=by rw [← hw6]; exact Joins.block_setCell (i:=0) hg5 _
   have hgr56:w5.grownBy w6 (some g):=by rw [← hw6]; exact grow_set w5 g 0 _
   have hk6:∀ i o,i≠g→w5.heap[i]? = some o→w6.heap[i]? = some o:=fun i o hne h=>(hgr56.block i (Array.getElem?_eq_some_iff.1 h).1 (fun e=>by injection e with e; omega)).trans h
   have q26:=hk6 _ _ (by omega) q25
   have p6:=hk6 _ _ (by omega) p5
   have k6:=hk6 _ _ (by omega) k5
   have hgr6:=hgr5.trans hgr56
   clear EN hw6 hg5 q25 p5 k5 hk6 hgr5 hgr56
   by_cases hen:dp≤8∧m+1≤32
   · have hE1:decide (dp≤8∧m+1≤32)=true:=by simp [hen]
     rw [hE1]
     clear hE1
     obtain ⟨hd8,hm32⟩:=hen
     obtain ⟨d',rfl⟩:∃ d',d=d'+1:=⟨d - 1,by have:=HDP.out; omega⟩
     have hdp1:((9 - d':Nat):Int)=(dp:Int)+1:=by have:=HDP.out; omega
     have d2:=cell_of_row w6 _ 2 _ _ _ k6
     simp at d2
     clear HBAD HGN
     go_wp2_with fail
     refine (NA.out w2.heap.size w6).mono ?_
     rintro e w7 ⟨AN,rfl,hb7,hptr⟩
     have s67:=hb7.size
     have s6:w4.heap.size<w6.heap.size:=(Array.getElem?_eq_some_iff.1 k6).1
     have hg7:=(hb7.block g (Array.getElem?_eq_some_iff.1 hg6).1).trans hg6
     have q27:=(hb7.block w.heap.size (Array.getElem?_eq_some_iff.1 q26).1).trans q26
     have p7:=(hb7.block w2.heap.size (Array.getElem?_eq_some_iff.1 p6).1).trans p6
     have k7:=(hb7.block w4.heap.size (Array.getElem?_eq_some_iff.1 k6).1).trans k6
     have hgr7:=hgr6.trans (grow_below hb7 (some g))
     have HP:=Lib_hid hptr
     have HQ7:=Lib_hid (And.intro q27 k7)
     have HN2:=Lib_hid (numN_le (kd:Int))
     obtain ⟨N,hN⟩:∃ N,N=numN (kd:Int):=⟨_,rfl⟩
     have HNN:=Lib_hid hN
     rw [← hN] at HP HN2 ⊢
     clear hg6 q26 p6 k6 hgr6 hb7 hptr d2 q27 k7 hN
     go_wp2
     go_loopw [37] (fun z W=>∃ (j a b:Nat) (ss:List UInt8) (bb:Bool),z=.int .i64 j∧j≤N∧W.heap[g]? = some (RdrC ((m+1:Nat):Int) ss bb)∧W.heap[w2.heap.size]? = some (.cells #[.int .i64 (kd:Int),.int .u64 (a:Int),.int .u64 (b:Int),.slice none 0 0] 65 (0,0))∧w.grownBy W (some g)∧Hid (NmI r bad j a b ss bb)∧
      Hid (∀ i,w.heap.size≤i→i<w7.heap.size→i≠w2.heap.size→W.heap[i]? = w7.heap[i]?)∧w7.heap.size≤W.heap.size) (fun z _=>N - (intOf z).toNat)
     case atStart=>exact ⟨0,0,0,r,bad,rfl,Nat.zero_le _,hg7,p7,hgr7,Lib_hid (NmI.zero r bad),Lib_hid (fun _ _ _ _=>rfl),Nat.le_refl _⟩
     case round=>
      clear hg7 p7 hgr7
      obtain ⟨j,a,b,ss,bb,rfl,hj,hgW,pW,hgrW,hI,hkp,hsW⟩:=hrel
      rename World=>W
      have hlss:ss.length≤1000000:=by have:=hI.out.len; omega
      by_cases hlt:j<N
      · obtain ⟨pb,rfl,hp1,hp2,hp3⟩:=HP.out j hlt
        have d0:=(World.cell?_of_block (a:=⟨pb,j,none⟩) (hkp.out pb (by omega) hp2 (by omega))).trans hp3
        have hj2:j=0∨j=1:=by have:=HN2.out; omega
        clear hp3
        rcases hj2 with rfl | rfl
        · have NB:=pnumber_any ((m+1:Nat):Int) ss bb B g W hgW (HE.out W hgrW) hB hlss
          go_wp2_with fail
          refine NB.mono ?_
          rintro e w8 hne
          obtain ⟨hgr8,v,s2,b2,rfl,hg8,hR⟩:W.grownBy w8 (some g)∧∃ v s2 b2,e=.returned (.int .u64 ((v:Nat):Int))∧w8.heap[g]? = some (RdrC ((m+1:Nat):Int) s2 b2)∧NumR ss bb v s2 b2:=by
           obtain ⟨h1,⟨v,r',h2,h3,h4⟩ | ⟨h2,h3,h4⟩⟩:=hne
           · exact ⟨h1,v,r',bb,h3,h4,.inl ⟨h2,rfl⟩⟩
           · exact ⟨h1,0,ss,true,h3,h4,.inr ⟨h2,rfl,rfl,rfl⟩⟩
          have p8:=(hgr8.block w2.heap.size (by omega) (fun e=>by injection e with e; omega)).trans pW
          have c1:=cell_of_row w8 _ 1 _ _ _ p8
          have z1:=frozen_of_row w8 w2.heap.size 1 _ _ p8
          simp at c1
          have HX:=Lib_hid (And.intro (hI.out.one hR) (And.intro (Joins.block_setCell (i:=1) p8 (.int .u64 (v:Int))) (And.intro ((Below.heap_setCell w8 ⟨w2.heap.size,1,none⟩ (.int .u64 (v:Int)) g (by show g≠w2.heap.size; omega)).trans hg8) (And.intro (grown_aside (i:=1) (hgrW.trans hgr8) (by omega:w.heap.size≤w2.heap.size) (.int .u64 (v:Int)))
           (show (∀ i,w.heap.size≤i→i<w7.heap.size→i≠w2.heap.size→(w8.setCell ⟨w2.heap.size,1,none⟩ (.int .u64 (v:Int))).heap[i]? = w7.heap[i]?)∧w7.heap.size≤(w8.setCell ⟨w2.heap.size,1,none⟩ (.int .u64 (v:Int))).heap.size from
            ⟨fun i h1 h2 h3=>(Below.heap_setCell w8 ⟨w2.heap.size,1,none⟩ _ i h3).trans ((hgr8.block i (by omega) (fun e=>by injection e with e; omega)).trans (hkp.out i h1 h2 h3)),by have:=hgr8.size; simp [World.setCell]; omega⟩)))))
          clear NB hne hgW pW hgrW hI hkp hgr8 hg8 p8 hR d0
          go_wp2_with fail
          go_roundw
          case rel=>exact ⟨1,v,b,s2,b2,by go_num,by omega,HX.out.2.2.1,HX.out.2.1,HX.out.2.2.2.1,Lib_hid HX.out.1,Lib_hid HX.out.2.2.2.2.1,HX.out.2.2.2.2.2⟩
          case measure=>simp [intOf]; omega
        · have MU:=must_any ((m+1:Nat):Int) ss [61] bb g W hgW
          go_wp2_with fail
          refine MU.mono ?_
          rintro e w9 ⟨rfl,hgr9,hg9⟩
          have hgr9W:=hgrW.trans hgr9
          have htl:=trim_le ss [61]
          have NB:=pnumber_any ((m+1:Nat):Int) (Lib.trimPrefix ss [61]) (bb || !Lib.hasPrefix ss [61]) B g w9 hg9 (HE.out w9 hgr9W) hB (by omega)
          have d09:=(World.cell?_of_block (a:=⟨pb,1,none⟩) (hgr9.block pb (by omega) (fun e=>by injection e with e; omega))).trans d0
          have p9:=(hgr9.block w2.heap.size (by omega) (fun e=>by injection e with e; omega)).trans pW
          have s9:=hgr9.size
          clear MU d0
          go_wp2_with fail
          refine NB.mono ?_
          rintro e w8 hne
          obtain ⟨hgr8,v,s2,b2,rfl,hg8,hR⟩:w9.grownBy w8 (some g)∧∃ v s2 b2,e=.returned (.int .u64 ((v:Nat):Int))∧w8.heap[g]? = some (RdrC ((m+1:Nat):Int) s2 b2)∧NumR (Lib.trimPrefix ss [61]) (bb || !Lib.hasPrefix ss [61]) v s2 b2:=by
           obtain ⟨h1,⟨v,r',h2,h3,h4⟩ | ⟨h2,h3,h4⟩⟩:=hne
           · exact ⟨h1,v,r',_,h3,h4,.inl ⟨h2,rfl⟩⟩
           · exact ⟨h1,0,_,true,h3,h4,.inr ⟨h2,rfl,rfl,rfl⟩⟩
          have p8:=(hgr8.block w2.heap.size (by omega) (fun e=>by injection e with e; omega)).trans p9
          have c1:=cell_of_row w8 _ 2 _ _ _ p8
          have z1:=frozen_of_row w8 w2.heap.size 2 _ _ p8
          simp at c1
          have HX:=Lib_hid (And.intro (hI.out.two hR) (And.intro (Joins.block_setCell (i:=2) p8 (.int .u64 (v:Int))) (And.intro ((Below.heap_setCell w8 ⟨w2.heap.size,2,none⟩ (.int .u64 (v:Int)) g (by show g≠w2.heap.size; omega)).trans hg8) (And.intro (grown_aside (i:=2) (hgr9W.trans hgr8) (by omega:w.heap.size≤w2.heap.size) (.int .u64 (v:Int)))
           (show (∀ i,w.heap.size≤i→i<w7.heap.size→i≠w2.heap.size→(w8.setCell ⟨w2.heap.size,2,none⟩ (.int .u64 (v:Int))).heap[i]? = w7.heap[i]?)∧w7.heap.size≤(w8.setCell ⟨w2.heap.size,2,none⟩ (.int .u64 (v:Int))).heap.size from
            ⟨fun i h1 h2 h3=>(Below.heap_setCell w8 ⟨w2.heap.size,2,none⟩ _ i h3).trans (((hgr9.trans hgr8).block i (by omega) (fun e=>by injection e with e; omega)).trans (hkp.out i h1 h2 h3)),by have:=hgr8.size; simp [World.setCell]; omega⟩)))))
          clear NB hne hgW pW hgrW hI hkp hgr8 hg8 p8 hR d09 hgr9 hg9 hgr9W p9
          go_wp2_with fail
          go_roundw
          case rel=>exact ⟨2,a,v,s2,b2,by go_num,by omega,HX.out.2.2.1,HX.out.2.1,HX.out.2.2.2.1,Lib_hid HX.out.1,Lib_hid HX.out.2.2.2.2.1,HX.out.2.2.2.2.2⟩
          case measure=>simp [intOf]; omega
      · obtain rfl:j=N:=by omega
        have q2W:=(hkp.out w.heap.size (Nat.le_refl _) (by omega) (by omega)).trans HQ7.out.1
        have kW:=(hkp.out w4.heap.size (by omega) (by omega) (by omega)).trans HQ7.out.2
        have k1:=cell_of_row W _ 1 _ _ _ kW
        simp at k1
        have HI:=hI
        rw [HNN.out] at HI
        have h64:=Lib_hid (And.intro hI.out.a64 hI.out.b64)
        have hcase:(1≤kd∧kd≤4)∨kd=5∨6≤kd:=by have:=HK.out.1; omega
        have hk7:=HK.out.2.1
        clear hI hkp kW
        rcases hcase with ⟨hk1,hk4⟩ | hk5 | hk6
        · have hpn:pn=0:=by rw [HPN.out,if_neg (by omega),if_neg (by omega)]
          subst hpn
          have hpE:=pW
          have hqE:=q2W
          have hgE:=hgW
          have hgrE:=hgrW
          have HPT:=Lib_hid (PtI.none (d:=d') (B2:=W.heap.size) HKS.out hk1 hk4 hm32 HI.out W)
          clear pW q2W hgW hgrW HI
          have e0:=cell_of_row W _ 0 _ _ _ hpE
          have e1:=cell_of_row W _ 1 _ _ _ hpE
          have e2:=cell_of_row W _ 2 _ _ _ hpE
          have e3:=cell_of_row W _ 3 _ _ _ hpE
          have f0:=cell_of_row W _ 0 _ _ _ hqE
          have f1:=cell_of_row W _ 1 _ _ _ hqE
          have f2:=cell_of_row W _ 2 _ _ _ hqE
          have f3:=cell_of_row W _ 3 _ _ _ hqE
          have y0:=frozen_of_row W w.heap.size 0 _ _ hqE
          have y1:=frozen_of_row W w.heap.size 1 _ _ hqE
          have y2:=frozen_of_row W w.heap.size 2 _ _ hqE
          have y3:=frozen_of_row W w.heap.size 3 _ _ hqE
          simp at e0 e1 e2 e3 f0 f1 f2 f3
          have HX:Hid (NdEnd (d'+1) m s bad g w (.returned (.agg #[.int .i64 (kd:Int),.int .u64 (a:Int),.int .u64 (b:Int),.slice none 0 0])) (put4 W w.heap.size (.int .i64 (kd:Int)) (.int .u64 (a:Int)) (.int .u64 (b:Int)) (.slice none 0 0))∧
           (put4 W w.heap.size (.int .i64 (kd:Int)) (.int .u64 (a:Int)) (.int .u64 (b:Int)) (.slice none 0 0)).heap[w.heap.size]? = some (.cells #[.int .i64 (kd:Int),.int .u64 (a:Int),.int .u64 (b:Int),.slice none 0 0] 65 (0,0))):=
           ⟨⟨kd,a,b,0,0,(m+1),none,ss,bb,rfl,grown_put4 hgrE (Nat.le_refl _) _ _ _ _,(put4_else _ (by omega) _ _ _ _).trans hgE,HPT.out.fin hk7 h64.out.1 h64.out.2 (by omega) (by rw [put4_size]; exact Nat.le_refl _) (fun i h1 _=>put4_else _ (by omega) _ _ _ _)⟩,put4_row hqE _ _ _ _⟩
          clear hpE hqE hgE hgrE
          go_wp2_with fail
          show bodyPost _ _ _ _ _ (put4 W w.heap.size (.int .i64 (kd:Int)) (.int .u64 (a:Int)) (.int .u64 (b:Int)) (.slice none 0 0))
          have HX2:=HX.out
          clear HX e0 e1 e2 e3 f0 f1 f2 f3 y0 y1 y2 y3
          generalize put4 W w.heap.size (.int .i64 (kd:Int)) (.int .u64 (a:Int)) (.int .u64 (b:Int)) (.slice none 0 0)=W2 at *
          exact node_ret HX2.2 HX2.1 _ rfl
        · have hpn:pn=1:=by rw [HPN.out,if_pos hk5]
          subst hpn
          have ND:=HIH.out d' (by omega) (m+1) ss bb B g W hgW (HE.out W hgrW) hB hlss (fun _=>hm32) (by omega)
          rw [hdp1] at ND
          have HK5:=Lib_hid hk5
          clear hk5
          go_wp2_with fail
          refine ND.mono ?_
          rintro e w8 ⟨k2,a2,b2,n2,c2,m',A2,s',bad',rfl,hgr8,hg8,hR⟩
          have p8:=(hgr8.block w2.heap.size (by omega) (fun e=>by injection e with e; omega)).trans pW
          have q28:=(hgr8.block w.heap.size (by omega) (fun e=>by injection e with e; omega)).trans q2W
          have s8:=hgr8.size
          have HPT:=Lib_hid (PtI.one (B2:=W.heap.size) HKS.out HK5.out hm32 HI.out rfl hgr8 hR)
          have b9:=below_new w8 (.cells #[.int .i64 k2,.int .u64 (a2:Int),.int .u64 (b2:Int),.slice A2 n2 c2] 65)
          have p9:=(b9.block _ (by omega)).trans p8
          have q29:=(b9.block _ (by omega)).trans q28
          have hg9:=(b9.block g (by omega)).trans hg8
          have hgr9:=(hgrW.trans hgr8).trans (grow_below b9 (some g))
          have c3:=cell_of_row _ _ 3 _ _ _ p9
          have z3:=frozen_of_row _ w2.heap.size 3 _ _ p9
          simp at c3
          have s9:=b9.size
          clear ND hR p8 q28 hg8 hgr8 HI pW q2W hgW hgrW b9
          go_upto_region 18 with (fail)
          generalize w8.alloc (.cells #[.int .i64 k2,.int .u64 (a2:Int),.int .u64 (b2:Int),.slice A2 n2 c2] 65)=w9 at *
          have hpE:=Joins.block_setCell (i:=3) p9 (.slice (some ⟨w8.heap.size,0,none⟩) 1 1)
          have hqE:=(Below.heap_setCell w9 ⟨w2.heap.size,3,none⟩ (.slice (some ⟨w8.heap.size,0,none⟩) 1 1) w.heap.size (by show w.heap.size≠w2.heap.size; omega)).trans q29
          have hgE:=(Below.heap_setCell w9 ⟨w2.heap.size,3,none⟩ (.slice (some ⟨w8.heap.size,0,none⟩) 1 1) g (by show g≠w2.heap.size; omega)).trans hg9
          have hgrE:=grown_aside (i:=3) hgr9 (by omega:w.heap.size≤w2.heap.size) (.slice (some ⟨w8.heap.size,0,none⟩) 1 1)
          have HKK:Hid (∀ i,W.heap.size≤i→(w9.setCell ⟨w2.heap.size,3,none⟩ (.slice (some ⟨w8.heap.size,0,none⟩) 1 1)).heap[i]? = w9.heap[i]?):=fun i h1=>Below.heap_setCell w9 ⟨w2.heap.size,3,none⟩ _ i (by show i≠w2.heap.size; omega)
          have HSS:Hid ((w9.setCell ⟨w2.heap.size,3,none⟩ (.slice (some ⟨w8.heap.size,0,none⟩) 1 1)).heap.size=w9.heap.size):=by unfold Hid; simp [World.setCell]
          clear p9 q29 hg9 hgr9 c3 z3
          generalize w9.setCell ⟨w2.heap.size,3,none⟩ (.slice (some ⟨w8.heap.size,0,none⟩) 1 1)=wE at *
          have hpE:wE.heap[w2.heap.size]? = some (.cells #[.int .i64 (kd:Int),.int .u64 (a:Int),.int .u64 (b:Int),.slice (some ⟨w8.heap.size,0,none⟩) 1 1] 65 (0,0)):=hpE
          have e0:=cell_of_row wE _ 0 _ _ _ hpE
          have e1:=cell_of_row wE _ 1 _ _ _ hpE
          have e2:=cell_of_row wE _ 2 _ _ _ hpE
          have e3:=cell_of_row wE _ 3 _ _ _ hpE
          have f0:=cell_of_row wE _ 0 _ _ _ hqE
          have f1:=cell_of_row wE _ 1 _ _ _ hqE
          have f2:=cell_of_row wE _ 2 _ _ _ hqE
          have f3:=cell_of_row wE _ 3 _ _ _ hqE
          have y0:=frozen_of_row wE w.heap.size 0 _ _ hqE
          have y1:=frozen_of_row wE w.heap.size 1 _ _ hqE
          have y2:=frozen_of_row wE w.heap.size 2 _ _ hqE
          have y3:=frozen_of_row wE w.heap.size 3 _ _ hqE
          simp at e0 e1 e2 e3 f0 f1 f2 f3
          have HX:Hid (NdEnd (d'+1) m s bad g w (.returned (.agg #[.int .i64 (kd:Int),.int .u64 (a:Int),.int .u64 (b:Int),.slice (some ⟨w8.heap.size,0,none⟩) 1 1])) (put4 wE w.heap.size (.int .i64 (kd:Int)) (.int .u64 (a:Int)) (.int .u64 (b:Int)) (.slice (some ⟨w8.heap.size,0,none⟩) 1 1))∧
           (put4 wE w.heap.size (.int .i64 (kd:Int)) (.int .u64 (a:Int)) (.int .u64 (b:Int)) (.slice (some ⟨w8.heap.size,0,none⟩) 1 1)).heap[w.heap.size]? = some (.cells #[.int .i64 (kd:Int),.int .u64 (a:Int),.int .u64 (b:Int),.slice (some ⟨w8.heap.size,0,none⟩) 1 1] 65 (0,0))):=
           ⟨⟨kd,a,b,1,1,m',(some ⟨w8.heap.size,0,none⟩),s',bad',rfl,grown_put4 hgrE (Nat.le_refl _) _ _ _ _,(put4_else _ (by omega) _ _ _ _).trans hgE,HPT.out.fin hk7 h64.out.1 h64.out.2 (by omega) (by rw [put4_size,HSS.out]; exact Nat.le_refl _) (fun i h1 _=>(put4_else _ (by omega) _ _ _ _).trans (HKK.out i h1))⟩,put4_row hqE _ _ _ _⟩
          clear hpE hqE hgE hgrE
          go_wp2_with fail
          show bodyPost _ _ _ _ _ (put4 wE w.heap.size (.int .i64 (kd:Int)) (.int .u64 (a:Int)) (.int .u64 (b:Int)) (.slice (some ⟨w8.heap.size,0,none⟩) 1 1))
          have HX2:=HX.out
          clear HX e0 e1 e2 e3 f0 f1 f2 f3 y0 y1 y2 y3
          generalize put4 wE w.heap.size (.int .i64 (kd:Int)) (.int .u64 (a:Int)) (.int .u64 (b:Int)) (.slice (some ⟨w8.heap.size,0,none⟩) 1 1)=W2 at *
          exact node_ret HX2.2 HX2.1 _ rfl
        · have hpn:pn=2:=by rw [HPN.out,if_neg (by omega),if_pos hk6]
          subst hpn
          have LS:=plist_any d' (by omega) (HIH.out d' (by omega)) (m+1) ss bb B g W hgW (HE.out W hgrW) hB hlss (fun _=>hm32) (by omega)
          rw [hdp1] at LS
          go_wp2_with fail
          refine LS.mono ?_
          rintro e w9 ⟨n,c,m',A,s',bad',rfl,hgr8,hg9,hR⟩
          have p9:=(hgr8.block w2.heap.size (by omega) (fun e=>by injection e with e; omega)).trans pW
          have q29:=(hgr8.block w.heap.size (by omega) (fun e=>by injection e with e; omega)).trans q2W
          have s8:=hgr8.size
          have HPT:=Lib_hid (PtI.list (B2:=W.heap.size) HKS.out hk6 hm32 HI.out rfl hR)
          have hgr9:=hgrW.trans hgr8
          have c3:=cell_of_row _ _ 3 _ _ _ p9
          have z3:=frozen_of_row _ w2.heap.size 3 _ _ p9
          simp at c3
          clear LS hR hgr8 HI pW q2W hgW hgrW
          go_upto_region 18 with (fail)
          have hpE:=Joins.block_setCell (i:=3) p9 (.slice A n c)
          have hqE:=(Below.heap_setCell w9 ⟨w2.heap.size,3,none⟩ (.slice A n c) w.heap.size (by show w.heap.size≠w2.heap.size; omega)).trans q29
          have hgE:=(Below.heap_setCell w9 ⟨w2.heap.size,3,none⟩ (.slice A n c) g (by show g≠w2.heap.size; omega)).trans hg9
          have hgrE:=grown_aside (i:=3) hgr9 (by omega:w.heap.size≤w2.heap.size) (.slice A n c)
          have HKK:Hid (∀ i,W.heap.size≤i→(w9.setCell ⟨w2.heap.size,3,none⟩ (.slice A n c)).heap[i]? = w9.heap[i]?):=fun i h1=>Below.heap_setCell w9 ⟨w2.heap.size,3,none⟩ _ i (by show i≠w2.heap.size; omega)
          have HSS:Hid ((w9.setCell ⟨w2.heap.size,3,none⟩ (.slice A n c)).heap.size=w9.heap.size):=by unfold Hid; simp [World.setCell]
          clear p9 q29 hg9 hgr9 c3 z3
          generalize w9.setCell ⟨w2.heap.size,3,none⟩ (.slice A n c)=wE at *
          have hpE:wE.heap[w2.heap.size]? = some (.cells #[.int .i64 (kd:Int),.int .u64 (a:Int),.int .u64 (b:Int),.slice A n c] 65 (0,0)):=hpE
          have e0:=cell_of_row wE _ 0 _ _ _ hpE
          have e1:=cell_of_row wE _ 1 _ _ _ hpE
          have e2:=cell_of_row wE _ 2 _ _ _ hpE
          have e3:=cell_of_row wE _ 3 _ _ _ hpE
          have f0:=cell_of_row wE _ 0 _ _ _ hqE
          have f1:=cell_of_row wE _ 1 _ _ _ hqE
          have f2:=cell_of_row wE _ 2 _ _ _ hqE
          have f3:=cell_of_row wE _ 3 _ _ _ hqE
          have y0:=frozen_of_row wE w.heap.size 0 _ _ hqE
          have y1:=frozen_of_row wE w.heap.size 1 _ _ hqE
          have y2:=frozen_of_row wE w.heap.size 2 _ _ hqE
          have y3:=frozen_of_row wE w.heap.size 3 _ _ hqE
          simp at e0 e1 e2 e3 f0 f1 f2 f3
          have HX:Hid (NdEnd (d'+1) m s bad g w (.returned (.agg #[.int .i64 (kd:Int),.int .u64 (a:Int),.int .u64 (b:Int),.slice A n c])) (put4 wE w.heap.size (.int .i64 (kd:Int)) (.int .u64 (a:Int)) (.int .u64 (b:Int)) (.slice A n c))∧
           (put4 wE w.heap.size (.int .i64 (kd:Int)) (.int .u64 (a:Int)) (.int .u64 (b:Int)) (.slice A n c)).heap[w.heap.size]? = some (.cells #[.int .i64 (kd:Int),.int .u64 (a:Int),.int .u64 (b:Int),.slice A n c] 65 (0,0))):=
           ⟨⟨kd,a,b,n,c,m',A,s',bad',rfl,grown_put4 hgrE (Nat.le_refl _) _ _ _ _,(put4_else _ (by omega) _ _ _ _).trans hgE,HPT.out.fin hk7 h64.out.1 h64.out.2 (by omega) (by rw [put4_size,HSS.out]; exact Nat.le_refl _) (fun i h1 _=>(put4_else _ (by omega) _ _ _ _).trans (HKK.out i h1))⟩,put4_row hqE _ _ _ _⟩
          clear hpE hqE hgE hgrE
          go_wp2_with fail
          show bodyPost _ _ _ _ _ (put4 wE w.heap.size (.int .i64 (kd:Int)) (.int .u64 (a:Int)) (.int .u64 (b:Int)) (.slice A n c))
          have HX2:=HX.out
          clear HX e0 e1 e2 e3 f0 f1 f2 f3 y0 y1 y2 y3
          generalize put4 wE w.heap.size (.int .i64 (kd:Int)) (.int .u64 (a:Int)) (.int .u64 (b:Int)) (.slice A n c)=W2 at *
          exact node_ret HX2.2 HX2.1 _ rfl
   · have hE1:decide (dp≤8∧m+1≤32)=false:=by simp only [decide_eq_false_iff_not]; exact hen
     rw [hE1]
     have hno:bad=false→∀ t q,rdS d s=some (t,q)→32<m+t.count:=by
      intro hb t q h
      have:=hm hb
      have:=HDP.out
      have hcp:=count_pos t
      by_cases h8:dp≤8
      · have:¬ m+1≤32:=fun h=>hen ⟨h8,h⟩
        omega
      · have hd0:d=0:=by omega
        subst hd0
        cases h
     clear hE1 hen
     have c2:=cell_of_row w6 _ 2 _ _ _ hg6
     have z2:=frozen_of_row w6 g 2 _ _ hg6
     have hqz:(w6.setCell ⟨g,2,none⟩ (.bool true)).heap[w.heap.size]? = _:=(Below.heap_setCell w6 ⟨g,2,none⟩ _ w.heap.size (by show w.heap.size≠g; omega)).trans q26
     have e0:=cell_of_row _ _ 0 _ _ _ hqz
     have e1:=cell_of_row _ _ 1 _ _ _ hqz
     have e2:=cell_of_row _ _ 2 _ _ _ hqz
     have e3:=cell_of_row _ _ 3 _ _ _ hqz
     have y0:=frozen_of_row _ w.heap.size 0 _ _ hqz
     have y1:=frozen_of_row _ w.heap.size 1 _ _ hqz
     have y2:=frozen_of_row _ w.heap.size 2 _ _ hqz
     have y3:=frozen_of_row _ w.heap.size 3 _ _ hqz
     simp at c2 e0 e1 e2 e3
     have HX:=Lib_hid (HBAD.out w6 (m+1) hg6 q26 hgr6 (by omega) hno)
     clear HBAD hg6 q26 hqz
     go_wp2_with fail
     show bodyPost _ _ _ _ _ (put4 (w6.setCell ⟨g,2,none⟩ (.bool true)) w.heap.size (.int .i64 0) (.int .u64 0) (.int .u64 0) (.slice none 0 0))
     have HX2:=HX.out
     clear HX e0 e1 e2 e3 y0 y1 y2 y3 c2 z2
     generalize put4 (w6.setCell ⟨g,2,none⟩ (.bool true)) w.heap.size (.int .i64 0) (.int .u64 0) (.int .u64 0) (.slice none 0 0)=W2 at *
     exact node_ret HX2.2 HX2.1 _ rfl
end Go.Proofs.YtinmoknbgnngcaaGreatDoor
