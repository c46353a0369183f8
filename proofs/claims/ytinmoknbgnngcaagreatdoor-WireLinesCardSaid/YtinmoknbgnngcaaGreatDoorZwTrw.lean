/-
  Layer 4: Right, the program's.
-/
import Derived.Test.YtinmoknbgnngcaaGreatDoorZwTcf
import Derived.Test.YtinmoknbgnngcaaGreatDoorZwTft
import Derived.Laws.OwnMore
import Derived.Lib.SmallJoins
namespace Go.Proofs.YtinmoknbgnngcaaGreatDoor
open Go Go.RowKit
set_option linter.unusedVariables false
theorem grow_set (w:World) (g i:Nat) (v:Value):w.grownBy (w.setCell ⟨g,i,none⟩ v) (some g):=
 ⟨rfl,rfl,rfl,by simp [World.setCell],fun k hk hne=>Below.heap_setCell w ⟨g,i,none⟩ v k (fun e=>hne (by rw [e]))⟩
theorem grow_below {w w':World} (hb:Below w.heap.size w w') (row:Option Nat):w.grownBy w' row:=⟨hb.os,hb.tape,hb.output,hb.size,fun i hi _=>hb.block i hi⟩
theorem grow_refl (w:World) (row:Option Nat):w.grownBy w row:=⟨rfl,rfl,rfl,Nat.le_refl _,fun _ _ _=>rfl⟩
def rrB (t:T) (deep nodes:Nat):Bool:=t.allB && decide (deep+t.depth≤9) && decide (nodes+t.count≤32)
set_option maxRecDepth 100000 in
theorem enter_any (g off n:Nat) (deep:Nat) (w:World) (hc:w.cell? ⟨g,off,none⟩=some (.int .i64 (n:Int))) (hf:w.frozen? ⟨g,off,none⟩=false) (hn:n≤1000) (hd:deep≤1000) :
 Calls Tryz.prog 192 #[.pointer (some ⟨g,off,none⟩),.int .i64 (deep:Int)] w fun e w'=>e=.returned (.bool (decide (deep≤8∧n+1≤32)))∧w.setCell ⟨g,off,none⟩ (.int .i64 ((n+1:Nat):Int))=w':=by
 by_cases h8:deep≤8
 · have q8:decide ((deep:Int)≤8)=true:=by simp; omega
   by_cases h32:n+1≤32
   · have q32:decide ((n:Int)+1≤32)=true:=by simp; omega
     have HF:Hid (decide (deep≤8∧n+1≤32)=true):=by unfold Hid; simp; omega
     have HV:Hid (((n+1:Nat):Int)=(n:Int)+1):=by unfold Hid; omega
     clear h8 h32
     go_enter Tryz.func192,Tryz.ntmps192
     go_wp2
     go_ret
     exact ⟨ret_b HF.out.symm,by rw [HV.out]⟩
   · have q32:decide ((n:Int)+1≤32)=false:=by simp; omega
     have HF:Hid (decide (deep≤8∧n+1≤32)=false):=by unfold Hid; simp; omega
     have HV:Hid (((n+1:Nat):Int)=(n:Int)+1):=by unfold Hid; omega
     clear h8 h32
     go_enter Tryz.func192,Tryz.ntmps192
     go_wp2
     go_ret
     exact ⟨ret_b HF.out.symm,by rw [HV.out]⟩
 · have q8:decide ((deep:Int)≤8)=false:=by simp; omega
   have HF:Hid (decide (deep≤8∧n+1≤32)=false):=by unfold Hid; simp; omega
   have HV:Hid (((n+1:Nat):Int)=(n:Int)+1):=by unfold Hid; omega
   clear h8
   go_enter Tryz.func192,Tryz.ntmps192
   go_wp2
   go_ret
   exact ⟨ret_b HF.out.symm,by rw [HV.out]⟩
theorem depthL_le {ps:List V} {i:Nat} {p:V} (h:ps[i]? = some p):p.abs.depth≤T.depthL (V.absL ps):=by
 have h2:=List.take_append_drop (i+1) ps
 have:T.depthL (V.absL ps)=max (T.depthL (V.absL (ps.take (i+1)))) (T.depthL (V.absL (ps.drop (i+1)))):=by
  conv=>lhs; rw [← h2]
  rw [absL_map,List.map_append,depthL_append,← absL_map,← absL_map]
 rw [depthL_take h] at this
 omega
def RrEnd (t:T) (deep nodes g:Nat) (w:World) (e:Ending) (w':World):Prop:=
 ∃ m:Nat,w'.heap[g]? = some (.cells #[.int .i64 (m:Int)] 238 (0,0))∧w.grownBy w' (some g)∧e=.returned (.bool (rrB t deep nodes))∧(rrB t deep nodes=true→m=nodes+t.count)
set_option maxRecDepth 100000 in
set_option maxHeartbeats 1600000 in
theorem pright_rec:∀ (v:V) (deep nodes:Nat) (w:World) (lo hi g:Nat),Lies w lo hi v→hi≤g→w.heap[g]? = some (.cells #[.int .i64 (nodes:Int)] 238 (0,0))→nodes≤32→deep≤9→
 Calls Tryz.prog 124 #[.pointer (some ⟨g,0,none⟩),v.val,.int .i64 (deep:Int)] w (RrEnd v.abs deep nodes g w):=by
 refine V.ind fun k a b A c ps ih deep nodes w lo hi g hL hhg hrb hn hd=>?_
 obtain ⟨hlen,hcap',-,-,-⟩:=hL.caps
 have hgl:=(Array.getElem?_eq_some_iff.1 hrb).1
 have HL:Hid (∀ W,w.grownBy W (some g)→Lies W lo hi (V.node k a b A c ps)):=fun W hW=>hL.keep fun p _ hp=>World.cell?_of_block (hW.block p.block (by omega) (fun e=>by injection e with e; omega))
 have IH:Hid (∀ p∈ps,∀ (dp nd:Nat) (W:World),Lies W lo hi p→W.heap[g]? = some (.cells #[.int .i64 (nd:Int)] 238 (0,0))→nd≤32→dp≤9→Calls Tryz.prog 124 #[.pointer (some ⟨g,0,none⟩),p.val,.int .i64 (dp:Int)] W (RrEnd p.abs dp nd g W)):=fun p hp dp nd W h2 h3 h4 h5=>ih p hp dp nd W lo hi g h2 hhg h3 h4 h5
 obtain ⟨tt,htt⟩:∃ tt,tt=(V.node k a b A c ps).abs:=⟨_,rfl⟩
 have HTT:Hid (tt.allB=(T.allL (V.absL ps) && fitsB k a b ps.length)∧tt.depth=T.depthL (V.absL ps)+1∧tt.count=1+T.countL (V.absL ps)):=by rw [htt]; exact ⟨V.all_node ..,V.depth_node ..,V.count_node ..⟩
 rw [← htt]
 have hbx:=heap_alloc_new w (.cells #[.int .i64 k,.int .u64 (a:Int),.int .u64 (b:Int),.slice A ps.length c] 65)
 have hb0:=below_new w (.cells #[.int .i64 k,.int .u64 (a:Int),.int .u64 (b:Int),.slice A ps.length c] 65)
 have KD:=kindof_any k (w.alloc (.cells #[.int .i64 k,.int .u64 (a:Int),.int .u64 (b:Int),.slice A ps.length c] 65))
 clear ih hL htt
 simp only [V.val,V.kind,V.a,V.b,V.sl,V.addr,V.parts,V.cap]
 by_cases hk:1≤k∧k≤7
 · have HFT:=Lib_hid (fun wx=>fits_any k hk a b ps.length c A wx)
   have hcf:=call_fit hk
   rw [kindAt_eq hk,show isKind k=true by unfold isKind; simp; omega] at KD
   generalize wordA k=wd at *
   generalize partN k=pn at *
   generalize numF k=f1 at *
   generalize fitF k=f2 at *
   generalize askF k=f3 at *
   obtain ⟨ft,hft⟩:∃ ft,ft=fitsB k a b ps.length:=⟨_,rfl⟩
   rw [← hft] at HFT HTT
   clear hk hft
   go_enter Tryz.func124,Tryz.ntmps124
   go_wp2_with fail
   refine KD.mono ?_
   rintro e w1 ⟨rfl,hb1⟩
   have hbw:=hb0.trans (hb1.mono hb0.size)
   have hx1:=(hb1.block w.heap.size (by simp)).trans hbx
   have hg1:=(hbw.block g hgl).trans hrb
   have hsz1:w.heap.size<w1.heap.size:=by have:=hb1.size; simp at this; omega
   have hb2:=hbw.alloc hbw.size (.cells #[.string ⟨wd⟩,.int .i64 (pn:Nat),.func (.func f1) #[] #[],.func (.func f2) #[] #[],.func (.func f3) #[] #[]] 268)
   have hx2:=(heap_alloc_old w1 (.cells #[.string ⟨wd⟩,.int .i64 (pn:Nat),.func (.func f1) #[] #[],.func (.func f2) #[] #[],.func (.func f3) #[] #[]] 268) hsz1).trans hx1
   have hg2:=(hb2.block g hgl).trans hrb
   have hk2:=heap_alloc_new w1 (.cells #[.string ⟨wd⟩,.int .i64 (pn:Nat),.func (.func f1) #[] #[],.func (.func f2) #[] #[],.func (.func f3) #[] #[]] 268)
   have hsz2:(w1.alloc (.cells #[.string ⟨wd⟩,.int .i64 (pn:Nat),.func (.func f1) #[] #[],.func (.func f2) #[] #[],.func (.func f3) #[] #[]] 268)).heap.size=w1.heap.size+1:=by simp
   clear KD hb1 hb0 hbx hx1 hg1 hbw
   go_upto_region 2 with (fail)
   generalize w1.alloc (.cells #[.string ⟨wd⟩,.int .i64 (pn:Nat),.func (.func f1) #[] #[],.func (.func f2) #[] #[],.func (.func f3) #[] #[]] 268)=w2 at *
   have EN:=enter_any g 0 nodes deep w2 (cell_of_row w2 _ 0 _ _ _ hg2) (frozen_of_row w2 _ 0 _ _ hg2) (by omega) (by omega)
   go_wp2_with fail
   refine EN.mono ?_
   rintro e w3 ⟨rfl,hw3⟩
   have hg3:w3.heap[g]? = some (.cells #[.int .i64 ((nodes+1:Nat):Int)] 238 (0,0)):=by rw [← hw3]; exact Joins.block_setCell hg2 _
   have hgr3:w2.grownBy w3 (some g):=by rw [← hw3]; exact grow_set w2 g 0 _
   have hx3:=(hgr3.block w.heap.size (by omega) (fun e=>by injection e with e; omega)).trans hx2
   have hk3:=(hgr3.block w1.heap.size (by omega) (fun e=>by injection e with e; omega)).trans hk2
   have hgw3:w.grownBy w3 (some g):=(grow_below hb2 (some g)).trans hgr3
   clear EN hw3 hg2 hgr3 hx2 hk2 hb2
   by_cases hen:deep≤8∧nodes+1≤32
   · have HE:Hid (decide (deep≤8∧nodes+1≤32)=true):=Lib_hid (by simpa using hen)
     rw [HE.out]
     obtain ⟨hd8,hn32⟩:=hen
     have c0:=cell_of_row w3 _ 0 _ _ _ hx3
     have c1:=cell_of_row w3 _ 1 _ _ _ hx3
     have c2:=cell_of_row w3 _ 2 _ _ _ hx3
     have c3:=cell_of_row w3 _ 3 _ _ _ hx3
     have d3:=cell_of_row w3 _ 3 _ _ _ hk3
     have FT:=HFT.out w3
     cases ft with
     | false=>
      have HF:Hid (rrB tt deep nodes=false):=by unfold rrB Hid; rw [HTT.out.1]; simp
      go_wp2_with fail
      refine FT.mono ?_
      rintro e w4 ⟨rfl,hb4⟩
      have hg4:=(hb4.block g (Array.getElem?_eq_some_iff.1 hg3).1).trans hg3
      have hgw4:=hgw3.trans (grow_below hb4 (some g))
      clear FT c0 c1 c2 c3 d3
      go_wp2
      go_ret
      exact ⟨nodes+1,hg4,hgw4,ret_b HF.out.symm,fun h=>by rw [HF.out] at h; cases h⟩
     | true=>
      go_wp2_with fail
      refine FT.mono ?_
      rintro e w4 ⟨rfl,hb4⟩
      have hg4:=(hb4.block g (Array.getElem?_eq_some_iff.1 hg3).1).trans hg3
      have hgw4:=hgw3.trans (grow_below hb4 (some g))
      have hx4:=(hb4.block w.heap.size (Array.getElem?_eq_some_iff.1 hx3).1).trans hx3
      have c3:=cell_of_row w4 _ 3 _ _ _ hx4
      clear FT c0 c1 c2 d3 hx3 hk3 hg3 hgw3 hb4
      go_wp2
      go_loopw [35] (fun x W=>∃ (i m:Nat),x=.int .i64 i∧i≤ps.length∧W.heap[g]? = some (.cells #[.int .i64 (m:Int)] 238 (0,0))∧m≤32∧Hid (m=nodes+1+T.countL (V.absL (ps.take i))∧T.allL (V.absL (ps.take i))=true∧deep+1+T.depthL (V.absL (ps.take i))≤9)∧w.grownBy W (some g)) (fun x _=>ps.length - (intOf x).toNat)
      case atStart=>exact ⟨0,nodes+1,rfl,Nat.zero_le _,hg4,hn32,Lib_hid (by simp [V.absL,T.countL,T.allL,T.depthL]; omega),hgw4⟩
      case round=>
       clear hg4 hgw4 hx4 c3
       obtain ⟨i,m,rfl,hi1,hgm,hm32,hme,hgW⟩:=hrel
       rename World=>W
       by_cases hlt:i<ps.length
       · obtain ⟨bb,off,p,rfl,hbB,hlo,hp,hpl,d0,d1,d2,d3⟩:=(HL.out W hgW).nth hlt
         have hgmL:=(Array.getElem?_eq_some_iff.1 hgm).1
         have hpl':Lies (W.alloc (.cells #[.int .i64 p.kind,.int .u64 (p.a:Int),.int .u64 (p.b:Int),p.sl] 65)) lo hi p:=hpl.keep fun q _ hq=>World.cell?_alloc_lt W _ q (by omega)
         have CH:=IH.out p (List.mem_of_getElem? hp) (deep+1) m (W.alloc (.cells #[.int .i64 p.kind,.int .u64 (p.a:Int),.int .u64 (p.b:Int),p.sl] 65)) hpl' ((heap_alloc_old W _ hgmL).trans hgm) hm32 (by omega)
         have HN:Hid ((rrB p.abs (deep+1) m=true→m+p.abs.count≤32∧m+p.abs.count=nodes+1+T.countL (V.absL (ps.take (i+1)))∧T.allL (V.absL (ps.take (i+1)))=true∧deep+1+T.depthL (V.absL (ps.take (i+1)))≤9)∧(rrB p.abs (deep+1) m=false→rrB tt deep nodes=false)):=by
          obtain ⟨h1,h2,h3⟩:=hme.out
          obtain ⟨t1,t2,t3⟩:=HTT.out
          have hcl:=count_le hp
          have hdl:=depthL_le hp
          refine ⟨fun h=>?_,fun h=>?_⟩
          · simp only [rrB,Bool.and_eq_true,decide_eq_true_eq] at h
            obtain ⟨⟨g1,g2⟩,g3⟩:=h
            rw [countL_take hp,allL_take hp,depthL_take hp,h2,g1]
            exact ⟨g3,by omega,rfl,by omega⟩
          · by_cases ha:p.abs.allB=true
            · have:¬ (deep+1+p.abs.depth≤9∧m+p.abs.count≤32):=by
               intro ⟨g2,g3⟩
               rw [rrB,ha,decide_eq_true g2,decide_eq_true g3] at h
               cases h
              unfold rrB
              by_cases q1:deep+tt.depth≤9
              · have:¬ (nodes+tt.count≤32):=by omega
                rw [decide_eq_false this]; simp
              · rw [decide_eq_false q1]; simp
            · have ha':p.abs.allB=false:=by simpa using ha
              unfold rrB
              rw [t1,allL_bad hp ha']; simp
         have hgA:=hgW.trans (grow_below (below_new W (.cells #[.int .i64 p.kind,.int .u64 (p.a:Int),.int .u64 (p.b:Int),p.sl] 65)) (some g))
         rw [show ((deep+1:Nat):Int)=(deep:Int)+1 by omega] at CH
         cases hr:rrB p.abs (deep+1) m with
         | true=>
          rw [hr] at HN
          have HR:=Lib_hid hr
          obtain ⟨cn,hcn⟩:∃ cn,cn=p.abs.count:=⟨_,rfl⟩
          rw [← hcn] at HN
          have HCN:=Lib_hid hcn
          obtain ⟨pab,hpab⟩:∃ pab,pab=p.abs:=⟨_,rfl⟩
          rw [← hpab] at CH HR HCN
          cases p with
          | node pk pa pb pA pc pps=>
          simp only [V.val,V.kind,V.a,V.b,V.sl,V.addr,V.parts,V.cap] at CH d0 d1 d2 d3 hgA
          clear hp hpl hpl' hme hr hcn hpab hgm
          go_wp2_with fail
          refine CH.mono ?_
          rintro e w5 ⟨m',hg5,hgr5,he,hm'⟩
          rw [HR.out] at he hm'
          subst he
          have hm5:=hm' rfl
          rw [← HCN.out] at hm5
          obtain ⟨n1,n2,n3,n4⟩:=HN.out.1 (by simp)
          have hgW5:=hgA.trans hgr5
          have HM:=Lib_hid (show m'=nodes+1+T.countL (V.absL (ps.take (i+1)))∧T.allL (V.absL (ps.take (i+1)))=true∧deep+1+T.depthL (V.absL (ps.take (i+1)))≤9 from ⟨hm5.trans n2,n3,n4⟩)
          have hm32':m'≤32:=by omega
          clear CH hm' hm5 n2 n3 n4 hgr5 hgA d0 d1 d2 d3
          go_wp2
          go_roundw
          case rel=>exact ⟨i+1,m',by go_num,by omega,hg5,hm32',HM,hgW5⟩
          case measure=>simp [intOf]; omega
         | false=>
          rw [hr] at HN
          have HR:=Lib_hid hr
          have HF:=Lib_hid (HN.out.2 rfl)
          obtain ⟨pab,hpab⟩:∃ pab,pab=p.abs:=⟨_,rfl⟩
          rw [← hpab] at CH HR
          clear HN
          cases p with
          | node pk pa pb pA pc pps=>
          simp only [V.val,V.kind,V.a,V.b,V.sl,V.addr,V.parts,V.cap] at CH d0 d1 d2 d3 hgA
          clear hp hpl hpl' hme hr hpab hgm
          go_wp2_with fail
          refine CH.mono ?_
          rintro e w5 ⟨m',hg5,hgr5,he,hm'⟩
          rw [HR.out] at he
          subst he
          have hgW5:=hgA.trans hgr5
          clear CH hm' hgr5 hgA d0 d1 d2 d3
          go_wp2
          go_ret
          exact ⟨m',hg5,hgW5,ret_b HF.out.symm,fun h=>by rw [HF.out] at h; cases h⟩
       · obtain rfl:i=ps.length:=by omega
         have HF:Hid (rrB tt deep nodes=true∧m=nodes+tt.count):=by
          obtain ⟨h1,h2,h3⟩:=hme.out
          obtain ⟨t1,t2,t3⟩:=HTT.out
          rw [List.take_length] at h1 h2 h3
          refine ⟨?_,by omega⟩
          unfold rrB
          rw [t1,h2,decide_eq_true (by omega),decide_eq_true (by omega)]; rfl
         clear hme
         go_wp2
         go_ret
         exact ⟨m,hgm,hgW,ret_b HF.out.1.symm,fun _=>HF.out.2⟩
   · have HE:Hid (decide (deep≤8∧nodes+1≤32)=false):=Lib_hid (by simpa using hen)
     rw [HE.out]
     have HF:Hid (rrB tt deep nodes=false):=by
      obtain ⟨t1,t2,t3⟩:=HTT.out
      unfold rrB Hid
      by_cases q1:deep+tt.depth≤9
      · have:¬ (nodes+tt.count≤32):=by omega
        rw [decide_eq_false this]; simp
      · rw [decide_eq_false q1]; simp
     clear hen
     go_wp2
     go_ret
     exact ⟨nodes+1,hg3,hgw3,ret_b HF.out.symm,fun h=>by rw [HF.out] at h; cases h⟩
 · have HF:Hid (rrB tt deep nodes=false):=by unfold rrB Hid; rw [HTT.out.1,fits_no hk]; simp
   have HK:Hid (kindAt k=.agg #[.string ⟨#[]⟩,.int .i64 0,.nilFunc,.nilFunc,.nilFunc]):=by unfold kindAt isKind Hid; rw [decide_eq_false hk]; rfl
   rw [HK.out,show isKind k=false by unfold isKind; exact decide_eq_false hk] at KD
   clear hk
   go_enter Tryz.func124,Tryz.ntmps124
   go_wp2_with fail
   refine KD.mono ?_
   rintro e w1 ⟨rfl,hb1⟩
   have hbw:=hb0.trans (hb1.mono hb0.size)
   have hb2:=hbw.alloc hbw.size (.cells #[.string ⟨#[]⟩,.int .i64 0,.nilFunc,.nilFunc,.nilFunc] 268)
   have hg2:=(hb2.block g hgl).trans hrb
   clear KD hb1 hb0 hbx hbw
   go_wp2
   go_ret
   exact ⟨nodes,hg2,grow_below hb2 _,ret_b HF.out.symm,fun h=>by rw [HF.out] at h; cases h⟩
theorem rrB_right (t:T):rrB t 1 0=t.rightB:=by
 unfold rrB T.rightB
 congr 1
 · congr 1
   rw [decide_eq_decide]; omega
 · rw [decide_eq_decide]; omega
set_option maxRecDepth 100000 in
set_option maxHeartbeats 800000 in
theorem pright_any (v:V) (w:World) (lo hi:Nat) (hL:Lies w lo hi v) (hhi:hi≤w.heap.size) :
 Calls Tryz.prog 99 #[v.val] w fun e w'=>e=.returned (.bool v.abs.rightB)∧Below w.heap.size w w':=by
 obtain ⟨t,ht⟩:∃ t,t=v.abs:=⟨_,rfl⟩
 have RR:Hid (∀ W g,Below w.heap.size w W→w.heap.size≤g→W.heap[g]? = some (.cells #[.int .i64 0] 238 (0,0))→Calls Tryz.prog 124 #[.pointer (some ⟨g,0,none⟩),v.val,.int .i64 1] W (RrEnd t 1 0 g W)):=fun W g hW hg hgb=>by
  have:=pright_rec v 1 0 W lo hi g (hL.under (hW.mono hhi)) (by omega) hgb (by omega) (by omega)
  rw [← ht] at this
  exact this
 have HRT:=Lib_hid (rrB_right t)
 rw [← ht]
 clear hL ht
 cases v with
 | node k a b A c ps=>
 simp only [V.val,V.kind,V.a,V.b,V.sl,V.addr,V.parts,V.cap] at RR ⊢
 have hb0:=below_new w (.cells #[.int .i64 k,.int .u64 (a:Int),.int .u64 (b:Int),.slice A ps.length c] 65)
 have hb1:=hb0.alloc hb0.size (.cells #[.int .i64 0] 238)
 have hg:=heap_alloc_new (w.alloc (.cells #[.int .i64 k,.int .u64 (a:Int),.int .u64 (b:Int),.slice A ps.length c] 65)) (.cells #[.int .i64 0] 238)
 have R1:=RR.out _ _ hb1 (by simp) hg
 simp only [World.size_alloc] at R1
 clear hg hb0
 go_enter Tryz.func99,Tryz.ntmps99
 go_wp2_with fail
 refine R1.mono ?_
 rintro e w1 ⟨m,hgm,hgr,rfl,-⟩
 have hbw:=hb1.grown hgr hb1.size (fun j hj=>by injection hj with hj; omega)
 clear R1 hgm hgr
 go_wp2
 go_ret
 exact ⟨ret_b HRT.out,hbw⟩
inductive Shp (E:TypeId) (w:World) (lo:Nat):V→Prop
 | mk (k:Int) (a b:Nat) (A:Option Addr) (c:Nat) (ps:List V):(0<ps.length→∃ (g:Nat) (arr:Array Value),A=some ⟨g,0,none⟩∧lo≤g∧w.heap[g]? = some (.cells arr E (0,0))∧
  ∀ (i:Nat) (p:V),ps[i]? = some p→(∃ z,arr[i * 4]? = some (.int .i64 z))∧(∃ z,arr[i * 4+1]? = some (.int .u64 z))∧(∃ z,arr[i * 4+2]? = some (.int .u64 z))∧arr[i * 4+3]? = some p.sl)→
  (∀ p,p∈ps→Shp E w lo p)→Shp E w lo (.node k a b A c ps)
section
variable {E:TypeId} {w w':World} {lo lo':Nat} {v:V}
theorem Shp.keep (h:Shp E w lo v) (hk:∀ g,lo≤g→g<w.heap.size→w'.heap[g]? = w.heap[g]?):Shp E w' lo v:=by
 induction h with
 | mk k a b A c ps h1 _ ih=>
  refine .mk k a b A c ps (fun hn=>?_) ih
  obtain ⟨g,arr,e,hg,hb,hc⟩:=h1 hn
  exact ⟨g,arr,e,hg,(hk g hg (Array.getElem?_eq_some_iff.1 hb).1).trans hb,hc⟩
theorem Shp.under (h:Shp E w lo v) (hb:Below w.heap.size w w'):Shp E w' lo v:=h.keep fun g _ hg=>hb.block g hg
theorem Shp.more (h:Shp E w lo v) (hl:lo'≤lo):Shp E w lo' v:=by
 induction h with
 | mk k a b A c ps h1 _ ih=>
  refine .mk k a b A c ps (fun hn=>?_) ih
  obtain ⟨g,arr,e,hg,hb,hc⟩:=h1 hn
  exact ⟨g,arr,e,Nat.le_trans hl hg,hb,hc⟩
theorem Shp.aside (h:Shp E w lo v) {g i:Nat} (hg:g<lo) (x:Value):Shp E (w.setCell ⟨g,i,none⟩ x) lo v:=
 h.keep fun k hk _=>Below.heap_setCell w ⟨g,i,none⟩ x k (by show k≠g; omega)
theorem Shp.over (h:Shp E w lo v) {g i:Nat} {x:Value} (hx:(∃ j,i=j * 4∧∃ z,x=.int .i64 z)∨(∃ j,i=j * 4+1∧∃ z,x=.int .u64 z)):Shp E (w.setCell ⟨g,i,none⟩ x) lo v:=by
 induction h with
 | mk k a b A c ps h1 _ ih=>
  refine .mk k a b A c ps (fun hn=>?_) ih
  obtain ⟨g',arr,e,hg,hb,hc⟩:=h1 hn
  by_cases hgg:g'=g
  · subst hgg
    refine ⟨g',arr.setIfInBounds i x,e,hg,Joins.block_setCell hb x,fun j p hp=>?_⟩
    obtain ⟨⟨z0,c0⟩,⟨z1,c1⟩,⟨z2,c2⟩,c3⟩:=hc j p hp
    have key:∀ m u,arr[m]? = some u→i≠m→(arr.setIfInBounds i x)[m]? = some u:=fun m u hm hne=>by
     rw [Array.getElem?_setIfInBounds,if_neg hne]; exact hm
    have same:∀ u,arr[i]? = some u→(arr.setIfInBounds i x)[i]? = some x:=fun u hu=>by
     rw [Array.getElem?_setIfInBounds,if_pos rfl,if_pos (Array.getElem?_eq_some_iff.1 hu).1]
    refine ⟨?_,?_,?_,?_⟩
    · by_cases h0:i=j * 4
      · subst h0
        rcases hx with ⟨j',_,z,rfl⟩ | ⟨j',hj,_⟩
        · exact ⟨z,same _ c0⟩
        · omega
      · exact ⟨z0,key _ _ c0 h0⟩
    · by_cases h0:i=j * 4+1
      · subst h0
        rcases hx with ⟨j',hj,_⟩ | ⟨j',_,z,rfl⟩
        · omega
        · exact ⟨z,same _ c1⟩
      · exact ⟨z1,key _ _ c1 h0⟩
    · exact ⟨z2,key _ _ c2 (by rcases hx with ⟨j',hj,_⟩ | ⟨j',hj,_⟩ <;> omega)⟩
    · exact key _ _ c3 (by rcases hx with ⟨j',hj,_⟩ | ⟨j',hj,_⟩ <;> omega)
  · exact ⟨g',arr,e,hg,(Below.heap_setCell w ⟨g,i,none⟩ x g' hgg).trans hb,hc⟩
theorem Shp.own {A:Option Addr} {c base:Nat} {us:List V} (k:Int) (a b:Nat) (h:w.ownsRow base E 4 (.slice A us.length c) us.length (vCells us)) (hb:lo≤base) (hu:∀ u∈us,Shp E w lo u):Shp E w lo (.node k a b A c us):=by
 refine .mk k a b A c us (fun hn=>?_) hu
 rcases h.2 with ⟨h0,_⟩ | ⟨g,cap,cur,hv,hbg,hh,_⟩
 · exfalso
   injection h0 with _ h0
   omega
 · have hA:A=some ⟨g,0,none⟩:=by injection hv
   have hcap:c=cap:=by injection hv
   subst hA hcap
   refine ⟨g,cur,rfl,Nat.le_trans hb hbg,hh,fun i p hp=>?_⟩
   have hi:=(List.getElem?_eq_some_iff.1 hp).1
   have hc:∀ j u,j<4→p.cells[j]? = some u→cur[i * 4+j]? = some u:=fun j u hj hu=>by
    have:=h.cellAt (g:=g) (i * 4+j) (by omega)
    rw [vCells_get us i j p hp hj,hu] at this
    simpa [World.cell?,hh] using this
   exact ⟨⟨_,hc 0 _ (by omega) rfl⟩,⟨_,hc 1 _ (by omega) rfl⟩,⟨_,hc 2 _ (by omega) rfl⟩,hc 3 _ (by omega) rfl⟩
theorem Shp.part {p:V} (h:Shp E w lo v) (hp:p∈v.parts):Shp E w lo p:=by
 cases h with
 | mk k a b A c ps h1 h2=>exact h2 p hp
theorem Shp.nth {k:Int} {a b c i:Nat} {A:Option Addr} {ps:List V} {p:V} (h:Shp E w lo (.node k a b A c ps)) (hp:ps[i]? = some p):∃ g,A=some ⟨g,0,none⟩∧lo≤g∧g<w.heap.size∧Shp E w lo p∧(∀ j,w.frozen? ⟨g,j,none⟩=false)∧
 (∃ z,w.cell? ⟨g,i * 4,none⟩=some (.int .i64 z))∧(∃ z,w.cell? ⟨g,i * 4+1,none⟩=some (.int .u64 z))∧(∃ z,w.cell? ⟨g,i * 4+2,none⟩=some (.int .u64 z))∧w.cell? ⟨g,i * 4+3,none⟩=some p.sl:=by
 cases h with
 | mk k a b A c ps h1 h2=>
  obtain ⟨g,arr,e,hg,hb,hc⟩:=h1 (by have:=(List.getElem?_eq_some_iff.1 hp).1; omega)
  obtain ⟨⟨z0,c0⟩,⟨z1,c1⟩,⟨z2,c2⟩,c3⟩:=hc i p hp
  have key:∀ m u,arr[m]? = some u→w.cell? ⟨g,m,none⟩=some u:=fun m u hm=>by simp [World.cell?,hb,hm]
  exact ⟨g,e,hg,(Array.getElem?_eq_some_iff.1 hb).1,h2 p (List.mem_of_getElem? hp),fun j=>by simp [World.frozen?,hb],⟨z0,key _ _ c0⟩,⟨z1,key _ _ c1⟩,⟨z2,key _ _ c2⟩,key _ _ c3⟩
end
theorem Shp.keepL {E:TypeId} {w w':World} {lo hi:Nat}:∀ u:V,Lies w lo hi u→Shp E w lo u→(∀ g,lo≤g→g<hi→w'.heap[g]? = w.heap[g]?)→Shp E w' lo u:=by
 refine V.ind fun k a b A c ps ih hL hS hk=>?_
 have hrd:=hL.top.2.2.2.2.2
 have hps:∀ p∈ps,Shp E w' lo p:=fun p hp=>ih p hp (hL.part hp) (hS.part hp) hk
 cases hS with
 | mk k a b A c ps h1 h2=>
  refine .mk k a b A c ps (fun hn=>?_) hps
  obtain ⟨g,arr,e,hg,hb,hc⟩:=h1 hn
  obtain ⟨ad,e2,hlt,_⟩:=hrd.lies hn
  have e3:A=some ad:=e2
  rw [e] at e3
  injection e3 with e3
  subst e3
  exact ⟨g,arr,e,hg,(hk g hg hlt).trans hb,hc⟩
theorem below_like4 {B:Nat} {a b b':World} (h:Below B a b) (e1:b'.os=b.os) (e2:b'.tape=b.tape) (e3:b'.output=b.output) (e4:b'.heap=b.heap):Below B a b':=
 ⟨e1.trans h.os,e2.trans h.tape,e3.trans h.output,by rw [e4]; exact h.size,fun i hi=>by rw [e4]; exact h.block i hi⟩
structure TRow (E:TypeId) (B:Nat) (v:Value) (us:List V) (w:World):Prop where
 own:w.ownsRow B E 4 v us.length (vCells us)
 el:∀ u∈us,∃ lo hi,B≤lo∧hi≤w.heap.size∧Lies w lo hi u∧Shp E w lo u∧∀ g,v.ownBlock=some g→g<lo∨hi≤g
section
variable {E:TypeId} {B:Nat} {v:Value} {us:List V} {w:World}
theorem TRow.nil (E:TypeId) (B:Nat) (w:World):TRow E B (.slice none 0 0) [] w:=⟨World.ownsRow_nil _ _ _ _,by simp⟩
theorem TRow.keep {w':World} (h:TRow E B v us w) (hs:w.heap.size≤w'.heap.size) (hk:∀ g,B≤g→g<w.heap.size→w'.heap[g]? = w.heap[g]?):TRow E B v us w':=by
 refine ⟨own_keep h.own fun k hk'=>hk k (own_ge h.own k hk') (own_lt h.own k hk'),fun u hu=>?_⟩
 obtain ⟨lo,hi,h1,h2,h3,h4,h5⟩:=h.el u hu
 exact ⟨lo,hi,h1,Nat.le_trans h2 hs,h3.keep fun p hp hp2=>World.cell?_of_block (hk _ (Nat.le_trans h1 hp) (Nat.lt_of_lt_of_le hp2 h2)),Shp.keepL u h3 h4 fun g hg hg2=>hk g (Nat.le_trans h1 hg) (Nat.lt_of_lt_of_le hg2 h2),h5⟩
theorem TRow.under {w':World} (h:TRow E B v us w) (hb:Below w.heap.size w w'):TRow E B v us w':=h.keep hb.size fun g _ hg=>hb.block g hg
theorem TRow.push {w2 w3 w4:World} {v':Value} {u:V} (h:TRow E B v us w) (hB:B≤w.heap.size) (hb:Below w.heap.size w w2) (hL:Lies w2 w.heap.size w2.heap.size u) (hS:Shp E w2 w.heap.size u)
 (hb3:Below w2.heap.size w2 w3) (hst:Stp w3 w4 v v') (ho:w4.ownsRow B E 4 v' (us.length+1) (vCells us ++ vCells [u])):TRow E B v' (us ++ [u]) w4:=by
 have hlt:=own_lt h.own
 have hs2:=hb.size
 have hs3:=hb3.size
 have hs4:=hst.grow.size
 have hrow:∀ lo hi,(∀ g,v.ownBlock=some g→g<lo∨hi≤g)→hi≤w3.heap.size→∀ g,v'.ownBlock=some g→g<lo∨hi≤g:=by
  intro lo hi hv hh g hg
  rcases hst.row with e | ⟨k,e,hk⟩
  · exact hv g (e ▸ hg)
  · rw [e] at hg; injection hg with hg; omega
 have hkeep:∀ lo hi,(∀ g,v.ownBlock=some g→g<lo∨hi≤g)→hi≤w3.heap.size→∀ g,lo≤g→g<hi→w4.heap[g]? = w3.heap[g]?:=by
  intro lo hi hv hh g h1 h2
  refine hst.grow.block g (by omega) fun e=>?_
  rcases hv g e.symm with h | h <;> omega
 refine ⟨by rw [List.length_append,vCells_append]; exact ho,fun x hx=>?_⟩
 rcases List.mem_append.1 hx with hx | hx
 · obtain ⟨lo,hi,h1,h2,h3,h4,h5⟩:=h.el x hx
   have hk:∀ g,lo≤g→g<hi→w4.heap[g]? = w.heap[g]?:=fun g g1 g2=>(hkeep lo hi h5 (by omega) g g1 g2).trans ((hb3.block g (by omega)).trans (hb.block g (by omega)))
   exact ⟨lo,hi,h1,by omega,h3.keep fun p hp hp2=>World.cell?_of_block (hk _ hp hp2),Shp.keepL x h3 h4 hk,hrow lo hi h5 (by omega)⟩
 · obtain rfl:x=u:=by simpa using hx
   have hv:∀ g,v.ownBlock=some g→g<w.heap.size∨w2.heap.size≤g:=fun g hg=>.inl (hlt g hg)
   have hk:∀ g,w.heap.size≤g→g<w2.heap.size→w4.heap[g]? = w2.heap[g]?:=fun g g1 g2=>(hkeep _ _ hv (by omega) g g1 g2).trans (hb3.block g (by omega))
   exact ⟨w.heap.size,w2.heap.size,hB,by omega,hL.keep fun p hp hp2=>World.cell?_of_block (hk _ hp hp2),Shp.keepL x hL hS hk,hrow _ _ hv (by omega)⟩
theorem TRow.tree {A:Option Addr} {n c:Nat} {k:Int} {a b:Nat} (h:TRow E B (.slice A n c) us w) (hk : -9223372036854775808≤k∧k≤9223372036854775807) (ha:a<18446744073709551616) (hb:b<18446744073709551616) :
 n=us.length∧Lies w B w.heap.size (.node k a b A c us)∧Shp E w B (.node k a b A c us):=by
 have hn:n=us.length:=by
  obtain ⟨A2,c2,e,_⟩:=own_form h.own
  injection e
 subst hn
 refine ⟨rfl,.mk k a b A c us hk ha hb (Rd.own h.own) (own_cap h.own) (fun ad e hn=>?_) fun p hp=>?_,Shp.own k a b h.own (Nat.le_refl _) fun u hu=>?_⟩
 · subst e
   obtain ⟨g,cap,hv,_,_⟩:=h.own.form hn
   have e:ad=⟨g,0,none⟩:=by injection hv with e; injection e
   subst e
   exact own_ge h.own g rfl
 · obtain ⟨lo,hi,h1,h2,h3,_⟩:=h.el p hp
   exact h3.more h1 h2
 · obtain ⟨lo,hi,h1,h2,_,h4,_⟩:=h.el u hu
   exact h4.more h1
end
def MadeT (E:TypeId) (t:T) (w:World) (e:Ending) (w':World):Prop:=
 ∃ u:V,e=.returned u.val∧u.abs=t∧Lies w' w.heap.size w'.heap.size u∧Shp E w' w.heap.size u∧Below w.heap.size w w'
end Go.Proofs.YtinmoknbgnngcaaGreatDoor
