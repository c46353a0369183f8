/-
  Layer 4: Same, the document's.
-/
import Derived.Test.YtinmoknbgnngcaaGreatDoorZwTrw
import Derived.Deep.QuietTactic
import Derived.BigQuiet
import Derived.Deep.RegionHeld3
namespace Go.Proofs.YtinmoknbgnngcaaGreatDoor
open Go Go.RowKit
set_option linter.unusedVariables false
mutual
def T.sameB:T→T→Bool
 | .node k a b ps,.node k' a' b' qs=>decide (k=k'∧a=a'∧b=b') && T.sameL ps qs
def T.sameL:List T→List T→Bool
 | [],[]=>true
 | p :: ps,q :: qs=>p.sameB q && T.sameL ps qs
 | _,_=>false
end
theorem sameL_iff:∀ (ps qs:List T),(∀ p∈ps,∀ q,p.sameB q=true↔p=q)→(T.sameL ps qs=true↔ps=qs)
 | [],[],_=>by simp [T.sameL]
 | [],q :: qs,_=>by simp [T.sameL]
 | p :: ps,[],_=>by simp [T.sameL]
 | p :: ps,q :: qs,h=>by
  rw [T.sameL,Bool.and_eq_true,h p (by simp),sameL_iff ps qs fun x hx=>h x (by simp [hx])]
  simp
theorem sameB_iff:∀ (t s:T),t.sameB s=true↔t=s:=by
 refine T.ind fun k a b ps ih s=>?_
 cases s with
 | node k' a' b' qs=>
  rw [T.sameB,Bool.and_eq_true,decide_eq_true_iff,sameL_iff ps qs ih]
  simp [T.node.injEq,and_assoc]
theorem sameB_ne {t s:T} (h:t≠s):t.sameB s=false:=by
 cases hs:t.sameB s with
 | false=>rfl
 | true=>exact absurd ((sameB_iff t s).1 hs) h
theorem sameB_self (t:T):t.sameB t=true:=(sameB_iff t t).2 rfl
theorem V.abs_node (k:Int) (a b:Nat) (A:Option Addr) (c:Nat) (ps:List V):(V.node k a b A c ps).abs=.node k a b (V.absL ps):=by rw [V.abs]
theorem absL_ne {ps qs:List V} {i:Nat} {p q:V} (hp:ps[i]? = some p) (hq:qs[i]? = some q) (h:p.abs≠q.abs):V.absL ps≠V.absL qs:=by
 intro e
 have:=congrArg (fun l:List T=>l[i]?) e
 simp only [absL_map,List.getElem?_map,hp,hq,Option.map_some,Option.some.injEq] at this
 exact h this
set_option maxRecDepth 100000 in
set_option maxHeartbeats 1600000 in
theorem rsame_any:∀ (v u:V) (w:World) (lo hi lo' hi':Nat),Lies w lo hi v→hi≤w.heap.size→Lies w lo' hi' u→hi'≤w.heap.size→
 Calls Tryz.prog 42 #[v.val,u.val] w fun e w'=>e=.returned (.bool (v.abs.sameB u.abs))∧Below w.heap.size w w':=by
 refine V.ind fun k a b A c ps ih u w lo hi lo' hi' hL hhi hL' hhi'=>?_
 cases u with
 | node k' a' b' A' c' qs=>
 obtain ⟨hlen,hcap',-,-,-⟩:=hL.caps
 obtain ⟨hlen2,hcap2,-,-,-⟩:=hL'.caps
 have HL:Hid (∀ W,Below w.heap.size w W→Lies W lo hi (V.node k a b A c ps)∧Lies W lo' hi' (V.node k' a' b' A' c' qs)):=fun W hW=>⟨hL.under (hW.mono hhi),hL'.under (hW.mono hhi')⟩
 have IH:Hid (∀ p∈ps,∀ (u:V) (W:World),Lies W lo hi p→hi≤W.heap.size→Lies W lo' hi' u→hi'≤W.heap.size→Calls Tryz.prog 42 #[p.val,u.val] W fun e w'=>e=.returned (.bool (p.abs.sameB u.abs))∧Below W.heap.size W w'):=fun p hp u W h2 h3 h4 h5=>ih p hp u W lo hi lo' hi' h2 h3 h4 h5
 have hb1:=below_new w (.cells #[.int .i64 k,.int .u64 (a:Int),.int .u64 (b:Int),.slice A ps.length c] 57)
 have hbA:=hb1.alloc hb1.size (.cells #[.int .i64 k',.int .u64 (a':Int),.int .u64 (b':Int),.slice A' qs.length c'] 57)
 have hx1:=(heap_alloc_old (w.alloc (.cells #[.int .i64 k,.int .u64 (a:Int),.int .u64 (b:Int),.slice A ps.length c] 57)) (.cells #[.int .i64 k',.int .u64 (a':Int),.int .u64 (b':Int),.slice A' qs.length c'] 57) (by simp:w.heap.size<_)).trans (heap_alloc_new w (.cells #[.int .i64 k,.int .u64 (a:Int),.int .u64 (b:Int),.slice A ps.length c] 57))
 have hx2:=heap_alloc_new (w.alloc (.cells #[.int .i64 k,.int .u64 (a:Int),.int .u64 (b:Int),.slice A ps.length c] 57)) (.cells #[.int .i64 k',.int .u64 (a':Int),.int .u64 (b':Int),.slice A' qs.length c'] 57)
 simp only [World.size_alloc] at hx2
 have HE:Hid ((V.node k a b A c ps).abs=.node k a b (V.absL ps)∧(V.node k' a' b' A' c' qs).abs=.node k' a' b' (V.absL qs)):=⟨V.abs_node ..,V.abs_node ..⟩
 obtain ⟨r,hr⟩:∃ r,r=(V.node k a b A c ps).abs.sameB (V.node k' a' b' A' c' qs).abs:=⟨_,rfl⟩
 rw [← hr]
 have HR:Hid ((k=k'∧a=a'∧b=b'∧V.absL ps=V.absL qs→r=true)∧(¬ (k=k'∧a=a'∧b=b'∧V.absL ps=V.absL qs)→r=false)):=by
  rw [HE.out.1,HE.out.2] at hr
  refine ⟨fun ⟨h1,h2,h3,h4⟩=>?_,fun h=>?_⟩
  · rw [hr,h1,h2,h3,h4,sameB_self]
  · rw [hr]; exact sameB_ne fun e=>h (by injection e with e1 e2 e3 e4; exact ⟨e1,e2,e3,e4⟩)
 clear ih hL hL' hr hb1
 simp only [V.val,V.kind,V.a,V.b,V.sl,V.addr,V.parts,V.cap]
 by_cases hkk:k=k'
 · by_cases haa:a=a'
   · by_cases hbb:b=b'
     · by_cases hll:ps.length=qs.length
       · have q1:(k != k')=false:=by simp [hkk]
         have q2:((a:Int) != (a':Int))=false:=by simp [haa]
         have q3:((b:Int) != (b':Int))=false:=by simp [hbb]
         have q4:((ps.length:Int) != (qs.length:Int))=false:=by simp [hll]
         have HQ:=Lib_hid (And.intro hkk (And.intro haa (And.intro hbb hll)))
         clear hkk haa hbb hll
         go_enter Tryz.func42,Tryz.ntmps42
         go_wp2
         go_loopw [5] (fun z wr=>∃ i:Nat,z=.int .i64 i∧i≤ps.length∧Hid (V.absL (ps.take i)=V.absL (qs.take i))∧wr.heap[w.heap.size]? = some (.cells #[.int .i64 k,.int .u64 (a:Int),.int .u64 (b:Int),.slice A ps.length c] 57 (0,0))∧wr.heap[w.heap.size+1]? = some (.cells #[.int .i64 k',.int .u64 (a':Int),.int .u64 (b':Int),.slice A' qs.length c'] 57 (0,0))∧Below w.heap.size w wr) (fun z _=>ps.length - (intOf z).toNat)
         case atStart=>exact ⟨0,rfl,Nat.zero_le _,Lib_hid (by simp [V.absL]),hx1,hx2,hbA⟩
         case round=>
          clear hx1 hx2 hbA q1 q2 q3 q4
          obtain ⟨i,rfl,hi1,hme,hx1,hx2,hbw⟩:=hrel
          have hgl:=(Array.getElem?_eq_some_iff.1 hx2).1
          have c3:wr.cell? ⟨w.heap.size,3,none⟩=some (.slice A ps.length c):=cell_of_row wr _ 3 _ _ _ hx1
          by_cases hlt:i<ps.length
          · have hlt2:i<qs.length:=by have:=HQ.out.2.2.2; omega
            obtain ⟨bb,off,p,rfl,hbB,hlo,hp,hpl,d0,d1,d2,d3⟩:=(HL.out wr hbw).1.nth hlt
            obtain ⟨bb',off',q,rfl,hbB',hlo',hq,hql,f0,f1,f2,f3⟩:=(HL.out wr hbw).2.nth hlt2
            have CHH:Hid (∀ W,Below wr.heap.size wr W→Calls Tryz.prog 42 #[p.val,q.val] W fun e w'=>e=.returned (.bool (p.abs.sameB q.abs))∧Below W.heap.size W w'):=fun W hW=>IH.out p (List.mem_of_getElem? hp) q W (hpl.under (hW.mono (by omega))) (by have:=hW.size; omega) (hql.under (hW.mono (by omega))) (by have:=hW.size; omega)
            have HPQ:=Lib_hid (And.intro hp hq)
            obtain ⟨sr,hsr⟩:∃ sr,sr=p.abs.sameB q.abs:=⟨_,rfl⟩
            rw [← hsr] at CHH
            have HN:Hid ((sr=true→V.absL (ps.take (i+1))=V.absL (qs.take (i+1)))∧(sr=false→r=false)):=by
             refine ⟨fun h=>?_,fun h=>?_⟩
             · have:p.abs=q.abs:=(sameB_iff _ _).1 (hsr.symm.trans h)
               rw [absL_take hp,absL_take hq,hme.out,this]
             · refine HR.out.2 fun ⟨_,_,_,h4⟩=>absL_ne hp hq (fun e=>?_) h4
               rw [e,sameB_self] at hsr
               rw [hsr] at h; cases h
            have S0:Hid (∀ W:World,Below wr.heap.size wr W→W.cell? ⟨w.heap.size,3,none⟩=some (.slice (some ⟨bb,off,none⟩) ps.length c)∧W.cell? ⟨w.heap.size+1,3,none⟩=some (.slice (some ⟨bb',off',none⟩) qs.length c')∧
             W.cell? ⟨bb,off+i * 4,none⟩=some (.int .i64 p.kind)∧W.cell? ⟨bb,off+i * 4+1,none⟩=some (.int .u64 (p.a:Int))∧W.cell? ⟨bb,off+i * 4+2,none⟩=some (.int .u64 (p.b:Int))∧W.cell? ⟨bb,off+i * 4+3,none⟩=some p.sl∧
             W.cell? ⟨bb',off'+i * 4,none⟩=some (.int .i64 q.kind)∧W.cell? ⟨bb',off'+i * 4+1,none⟩=some (.int .u64 (q.a:Int))∧W.cell? ⟨bb',off'+i * 4+2,none⟩=some (.int .u64 (q.b:Int))∧W.cell? ⟨bb',off'+i * 4+3,none⟩=some q.sl):=fun W hW=>
             ⟨(hW.cell (p:=⟨w.heap.size,3,none⟩) (by show w.heap.size<_; omega)).trans c3,(hW.cell (p:=⟨w.heap.size+1,3,none⟩) hgl).trans (cell_of_row wr _ 3 _ _ _ hx2),
               (hW.cell (p:=⟨bb,off+i * 4,none⟩) (by show bb<_; omega)).trans d0,(hW.cell (p:=⟨bb,off+i * 4+1,none⟩) (by show bb<_; omega)).trans d1,(hW.cell (p:=⟨bb,off+i * 4+2,none⟩) (by show bb<_; omega)).trans d2,(hW.cell (p:=⟨bb,off+i * 4+3,none⟩) (by show bb<_; omega)).trans d3,
               (hW.cell (p:=⟨bb',off'+i * 4,none⟩) (by show bb'<_; omega)).trans f0,(hW.cell (p:=⟨bb',off'+i * 4+1,none⟩) (by show bb'<_; omega)).trans f1,(hW.cell (p:=⟨bb',off'+i * 4+2,none⟩) (by show bb'<_; omega)).trans f2,(hW.cell (p:=⟨bb',off'+i * 4+3,none⟩) (by show bb'<_; omega)).trans f3⟩
            cases p with
            | node pk pa pb pA pc pps=>
            cases q with
            | node qk qa qb qA qc qqs=>
            simp only [V.val,V.kind,V.a,V.b,V.sl,V.addr,V.parts,V.cap] at CHH S0 d0 d1 d2 d3 f0 f1 f2 f3
            have c4:wr.cell? ⟨w.heap.size+1,3,none⟩=some (.slice (some ⟨bb',off',none⟩) qs.length c'):=cell_of_row wr _ 3 _ _ _ hx2
            have HX:=Lib_hid (And.intro hx1 hx2)
            clear hsr hp hq hpl hql hme hx1 hx2
            go_wp2_with fail
            go_region_held3 (fun W=>W.cell? ⟨w.heap.size,3,none⟩=some (.slice (some ⟨bb,off,none⟩) ps.length c)∧W.cell? ⟨w.heap.size+1,3,none⟩=some (.slice (some ⟨bb',off',none⟩) qs.length c')∧
             W.cell? ⟨bb,off+i * 4,none⟩=some (.int .i64 pk)∧W.cell? ⟨bb,off+i * 4+1,none⟩=some (.int .u64 (pa:Int))∧W.cell? ⟨bb,off+i * 4+2,none⟩=some (.int .u64 (pb:Int))∧W.cell? ⟨bb,off+i * 4+3,none⟩=some (.slice pA pps.length pc)∧
             W.cell? ⟨bb',off'+i * 4,none⟩=some (.int .i64 qk)∧W.cell? ⟨bb',off'+i * 4+1,none⟩=some (.int .u64 (qa:Int))∧W.cell? ⟨bb',off'+i * 4+2,none⟩=some (.int .u64 (qb:Int))∧W.cell? ⟨bb',off'+i * 4+3,none⟩=some (.slice qA qqs.length qc))
             (first | exact S0.out _ ⟨rfl,rfl,rfl,Nat.le_refl _,fun _ _=>rfl⟩ | exact S0.out _ hbs)
             ((go_at_call 42; ((with_reducible refine (CHH.out wr.drew ⟨rfl,rfl,rfl,Nat.le_refl _,fun _ _=>rfl⟩).mono ?_); rintro e ws ⟨rfl,hs'⟩; have hbs:Below wr.heap.size wr ws:=⟨hs'.os,hs'.tape,hs'.output,hs'.size,hs'.block⟩)))
            all_goals
             have hbws:=hbw.trans (hbs.mono hbw.size)
             have hx1':=(hbs.block w.heap.size (by omega)).trans HX.out.1
             have hx2':=(hbs.block (w.heap.size+1) hgl).trans HX.out.2
             clear d0 d1 d2 d3 f0 f1 f2 f3 c3 c4
             cases sr with
             | true=>
              have HM:=Lib_hid (HN.out.1 (by simp))
              go_wp2
              go_roundw
              case rel=>exact ⟨i+1,by go_num,by omega,HM,hx1',hx2',hbws⟩
              case measure=>simp [intOf]; omega
             | false=>
              have HM:=Lib_hid (HN.out.2 (by simp))
              go_wp2
              go_ret
              exact ⟨ret_b HM.out.symm,hbws⟩
          · obtain rfl:i=ps.length:=by omega
            have HM:Hid (r=true):=by
             have h:=hme.out
             rw [List.take_length,HQ.out.2.2.2,List.take_length] at h
             exact HR.out.1 ⟨HQ.out.1,HQ.out.2.1,HQ.out.2.2.1,h⟩
            clear hme hx1 hx2
            go_wp2
            go_ret
            exact ⟨ret_b HM.out.symm,hbw⟩
       · have HM:=Lib_hid (HR.out.2 fun ⟨_,_,_,h4⟩=>hll (by have:=congrArg List.length h4; rwa [absL_length,absL_length] at this))
         have q1:(k != k')=false:=by simp [hkk]
         have q2:((a:Int) != (a':Int))=false:=by simp [haa]
         have q3:((b:Int) != (b':Int))=false:=by simp [hbb]
         have q4:((ps.length:Int) != (qs.length:Int))=true:=by simp; omega
         clear hkk haa hbb hll hx1 hx2
         go_enter Tryz.func42,Tryz.ntmps42
         go_wp2
         go_ret
         exact ⟨ret_b HM.out.symm,hbA⟩
     · have HM:=Lib_hid (HR.out.2 fun ⟨_,_,h3,_⟩=>hbb h3)
       have q1:(k != k')=false:=by simp [hkk]
       have q2:((a:Int) != (a':Int))=false:=by simp [haa]
       have q3:((b:Int) != (b':Int))=true:=by simp; omega
       clear hkk haa hbb hx1 hx2
       go_enter Tryz.func42,Tryz.ntmps42
       go_wp2
       go_ret
       exact ⟨ret_b HM.out.symm,hbA⟩
   · have HM:=Lib_hid (HR.out.2 fun ⟨_,h2,_⟩=>haa h2)
     have q1:(k != k')=false:=by simp [hkk]
     have q2:((a:Int) != (a':Int))=true:=by simp; omega
     clear hkk haa hx1 hx2
     go_enter Tryz.func42,Tryz.ntmps42
     go_wp2
     go_ret
     exact ⟨ret_b HM.out.symm,hbA⟩
 · have HM:=Lib_hid (HR.out.2 fun ⟨h1,_⟩=>hkk h1)
   have q1:(k != k')=true:=by simp [hkk]
   clear hkk hx1 hx2
   go_enter Tryz.func42,Tryz.ntmps42
   go_wp2
   go_ret
   exact ⟨ret_b HM.out.symm,hbA⟩
def SameC (lo hi lo' hi':Nat) (ps:List V):Prop:=∀ p∈ps,∀ (u:V) (W:World),Lies W lo hi p→hi≤W.heap.size→Lies W lo' hi' u→hi'≤W.heap.size→Calls Tryz.prog 171 #[p.val,u.val] W fun e w'=>e=.returned (.bool (p.abs.sameB u.abs))∧Below W.heap.size W w'
set_option maxRecDepth 100000 in
set_option maxHeartbeats 1600000 in
theorem eqf_any (k k':Int) (a b a' b' c c' lo hi lo' hi':Nat) (A A':Option Addr) (ps qs:List V) (w:World) (hL:Lies w lo hi (.node k a b A c ps)) (hhi:hi≤w.heap.size) (hL':Lies w lo' hi' (.node k' a' b' A' c' qs)) (hhi':hi'≤w.heap.size) (hC:SameC lo hi lo' hi' ps) :
 Calls Tryz.prog 203 #[.slice A ps.length c,.slice A' qs.length c',.func (.func 171) #[] #[]] w fun e w'=>∃ r,e=.returned (.bool r)∧(r=true↔V.absL ps=V.absL qs)∧Below w.heap.size w w':=by
 obtain ⟨hlen,hcap',-,-,-⟩:=hL.caps
 obtain ⟨hlen2,hcap2,-,-,-⟩:=hL'.caps
 have HL:Hid (∀ W,Below w.heap.size w W→Lies W lo hi (V.node k a b A c ps)∧Lies W lo' hi' (V.node k' a' b' A' c' qs)):=fun W hW=>⟨hL.under (hW.mono hhi),hL'.under (hW.mono hhi')⟩
 have IH:=Lib_hid hC
 clear hL hL' hC
 by_cases hll:ps.length=qs.length
 · have q4:((ps.length:Int) != (qs.length:Int))=false:=by simp [hll]
   have HQ:=Lib_hid hll
   clear hll
   go_enter Tryz.func203,Tryz.ntmps203
   go_wp2
   go_loopw [17] (fun z wr=>∃ i:Nat,z=.int .i64 i∧i≤ps.length∧Hid (V.absL (ps.take i)=V.absL (qs.take i))∧Below w.heap.size w wr) (fun z _=>ps.length - (intOf z).toNat)
   case atStart=>exact ⟨0,rfl,Nat.zero_le _,Lib_hid (by simp [V.absL]),Below.refl _ _⟩
   case round=>
    clear q4
    obtain ⟨i,rfl,hi1,hme,hbw⟩:=hrel
    by_cases hlt:i<ps.length
    · have hlt2:i<qs.length:=by have:=HQ.out; omega
      obtain ⟨bb,off,p,rfl,hbB,hlo,hp,hpl,d0,d1,d2,d3⟩:=(HL.out wr hbw).1.nth hlt
      obtain ⟨bb',off',q,rfl,hbB',hlo',hq,hql,f0,f1,f2,f3⟩:=(HL.out wr hbw).2.nth hlt2
      have hszw:=hbw.size
      have hbl:bb'<wr.heap.size:=by omega
      have hb1:=below_new wr (.cells #[.int .i64 p.kind,.int .u64 (p.a:Int),.int .u64 (p.b:Int),p.sl] 65)
      have hb2:=hb1.alloc hb1.size (.cells #[.int .i64 q.kind,.int .u64 (q.a:Int),.int .u64 (q.b:Int),q.sl] 65)
      have CH:=IH.out p (List.mem_of_getElem? hp) q ((wr.alloc (.cells #[.int .i64 p.kind,.int .u64 (p.a:Int),.int .u64 (p.b:Int),p.sl] 65)).alloc (.cells #[.int .i64 q.kind,.int .u64 (q.a:Int),.int .u64 (q.b:Int),q.sl] 65)) (hpl.under (hb2.mono (by omega))) (by simp; omega) (hql.under (hb2.mono (by omega))) (by simp; omega)
      have hbA:=hbw.trans (hb2.mono hbw.size)
      obtain ⟨sr,hsr⟩:∃ sr,sr=p.abs.sameB q.abs:=⟨_,rfl⟩
      rw [← hsr] at CH
      have HN:Hid ((sr=true→V.absL (ps.take (i+1))=V.absL (qs.take (i+1)))∧(sr=false→¬ V.absL ps=V.absL qs)):=by
       refine ⟨fun h=>?_,fun h=>?_⟩
       · have:p.abs=q.abs:=(sameB_iff _ _).1 (hsr.symm.trans h)
         rw [absL_take hp,absL_take hq,hme.out,this]
       · refine absL_ne hp hq (fun e=>?_)
         rw [e,sameB_self] at hsr
         rw [hsr] at h; cases h
      cases p with
      | node pk pa pb pA pc pps=>
      cases q with
      | node qk qa qb qA qc qqs=>
      simp only [V.val,V.kind,V.a,V.b,V.sl,V.addr,V.parts,V.cap] at CH d0 d1 d2 d3 f0 f1 f2 f3 hbA
      clear hsr hp hq hpl hql hme hb1 hb2
      go_wp2_with fail
      refine CH.mono ?_
      rintro e ws ⟨rfl,hbs⟩
      have hbws:=hbA.trans (hbs.mono hbA.size)
      clear CH hbs hbA d0 d1 d2 d3 f0 f1 f2 f3
      cases sr with
      | true=>
       have HM:=Lib_hid (HN.out.1 (by simp))
       go_wp2
       go_roundw
       case rel=>exact ⟨i+1,by go_num,by omega,HM,hbws⟩
       case measure=>simp [intOf]; omega
      | false=>
       have HM:=Lib_hid (HN.out.2 (by simp))
       have PF:Hid (∀ W,Below w.heap.size w W→∃ r,Ending.returned (.bool false)=.returned (.bool r)∧(r=true↔V.absL ps=V.absL qs)∧Below w.heap.size w W):=fun W hW=>⟨false,rfl,⟨(fun h=>by cases h),fun h=>absurd h HM.out⟩,hW⟩
       go_wp2
       go_ret
       exact PF.out _ hbws
    · obtain rfl:i=ps.length:=by omega
      have HM:Hid (V.absL ps=V.absL qs):=by
       have h:=hme.out
       rw [List.take_length,HQ.out,List.take_length] at h
       exact h
      have PF:Hid (∀ W,Below w.heap.size w W→∃ r,Ending.returned (.bool true)=.returned (.bool r)∧(r=true↔V.absL ps=V.absL qs)∧Below w.heap.size w W):=fun W hW=>⟨true,rfl,⟨fun _=>HM.out,fun _=>rfl⟩,hW⟩
      clear hme
      go_wp2
      go_ret
      exact PF.out _ hbw
 · have q4:((ps.length:Int) != (qs.length:Int))=true:=by simp; omega
   have PF:Hid (∀ W,Below w.heap.size w W→∃ r,Ending.returned (.bool false)=.returned (.bool r)∧(r=true↔V.absL ps=V.absL qs)∧Below w.heap.size w W):=fun W hW=>⟨false,rfl,⟨(fun h=>by cases h),fun h=>absurd (by have:=congrArg List.length h; rwa [absL_length,absL_length] at this) hll⟩,hW⟩
   clear hll
   go_enter Tryz.func203,Tryz.ntmps203
   go_wp2
   go_ret
   exact PF.out _ (Below.refl _ _)
set_option maxRecDepth 100000 in
set_option maxHeartbeats 1600000 in
theorem psame_any:∀ (v u:V) (w:World) (lo hi lo' hi':Nat),Lies w lo hi v→hi≤w.heap.size→Lies w lo' hi' u→hi'≤w.heap.size→
 Calls Tryz.prog 171 #[v.val,u.val] w fun e w'=>e=.returned (.bool (v.abs.sameB u.abs))∧Below w.heap.size w w':=by
 refine V.ind fun k a b A c ps ih u w lo hi lo' hi' hL hhi hL' hhi'=>?_
 cases u with
 | node k' a' b' A' c' qs=>
 have hb1:=below_new w (.cells #[.int .i64 k,.int .u64 (a:Int),.int .u64 (b:Int),.slice A ps.length c] 65)
 have hbA:=hb1.alloc hb1.size (.cells #[.int .i64 k',.int .u64 (a':Int),.int .u64 (b':Int),.slice A' qs.length c'] 65)
 have EF:=eqf_any k k' a b a' b' c c' lo hi lo' hi' A A' ps qs ((w.alloc (.cells #[.int .i64 k,.int .u64 (a:Int),.int .u64 (b:Int),.slice A ps.length c] 65)).alloc (.cells #[.int .i64 k',.int .u64 (a':Int),.int .u64 (b':Int),.slice A' qs.length c'] 65)) (hL.under (hbA.mono hhi)) (by simp; omega) (hL'.under (hbA.mono hhi')) (by simp; omega) (fun p hp u W h2 h3 h4 h5=>ih p hp u W lo hi lo' hi' h2 h3 h4 h5)
 have HE:Hid ((V.node k a b A c ps).abs=.node k a b (V.absL ps)∧(V.node k' a' b' A' c' qs).abs=.node k' a' b' (V.absL qs)):=⟨V.abs_node ..,V.abs_node ..⟩
 obtain ⟨r,hr⟩:∃ r,r=(V.node k a b A c ps).abs.sameB (V.node k' a' b' A' c' qs).abs:=⟨_,rfl⟩
 rw [← hr]
 have HR:Hid ((k=k'∧a=a'∧b=b'∧V.absL ps=V.absL qs→r=true)∧(¬ (k=k'∧a=a'∧b=b'∧V.absL ps=V.absL qs)→r=false)):=by
  rw [HE.out.1,HE.out.2] at hr
  refine ⟨fun ⟨h1,h2,h3,h4⟩=>?_,fun h=>?_⟩
  · rw [hr,h1,h2,h3,h4,sameB_self]
  · rw [hr]; exact sameB_ne fun e=>h (by injection e with e1 e2 e3 e4; exact ⟨e1,e2,e3,e4⟩)
 clear ih hL hL' hr hb1
 simp only [V.val,V.kind,V.a,V.b,V.sl,V.addr,V.parts,V.cap]
 by_cases hkk:k=k'
 · by_cases haa:a=a'
   · by_cases hbb:b=b'
     · have q1:(k == k')=true:=by simp [hkk]
       have q2:((a:Int) == (a':Int))=true:=by simp [haa]
       have q3:((b:Int) == (b':Int))=true:=by simp [hbb]
       have HQ:=Lib_hid (And.intro hkk (And.intro haa hbb))
       clear hkk haa hbb
       go_enter Tryz.func171,Tryz.ntmps171
       go_wp2_with fail
       refine EF.mono ?_
       rintro e w1 ⟨s,rfl,hs,hb2⟩
       have hbw:=hbA.trans (hb2.mono hbA.size)
       have HM:Hid (s=r):=by
        cases s with
        | true=>exact (HR.out.1 ⟨HQ.out.1,HQ.out.2.1,HQ.out.2.2,hs.1 rfl⟩).symm
        | false=>exact (HR.out.2 fun ⟨_,_,_,h4⟩=>by have:=hs.2 h4; cases this).symm
       clear EF hs hb2 hbA
       go_wp2
       go_ret
       exact ⟨ret_b HM.out,hbw⟩
     · have HM:=Lib_hid (HR.out.2 fun ⟨_,_,h3,_⟩=>hbb h3)
       have q1:(k == k')=true:=by simp [hkk]
       have q2:((a:Int) == (a':Int))=true:=by simp [haa]
       have q3:((b:Int) == (b':Int))=false:=by simp; omega
       clear hkk haa hbb EF
       go_enter Tryz.func171,Tryz.ntmps171
       go_wp2
       go_ret
       exact ⟨ret_b HM.out.symm,hbA⟩
   · have HM:=Lib_hid (HR.out.2 fun ⟨_,h2,_⟩=>haa h2)
     have q1:(k == k')=true:=by simp [hkk]
     have q2:((a:Int) == (a':Int))=false:=by simp; omega
     clear hkk haa EF
     go_enter Tryz.func171,Tryz.ntmps171
     go_wp2
     go_ret
     exact ⟨ret_b HM.out.symm,hbA⟩
 · have HM:=Lib_hid (HR.out.2 fun ⟨h1,_⟩=>hkk h1)
   have q1:(k == k')=false:=by simp [hkk]
   clear hkk EF
   go_enter Tryz.func171,Tryz.ntmps171
   go_wp2
   go_ret
   exact ⟨ret_b HM.out.symm,hbA⟩
structure En where
 x:Nat
 w:Nat
 n:Nat
 m:Bool
deriving DecidableEq
def En.cells (e:En):List Value:=[.int .u64 (e.x:Int),.int .u64 (e.w:Int),.int .u64 (e.n:Int),.bool e.m]
def En.val (e:En):Value:=.agg #[.int .u64 (e.x:Int),.int .u64 (e.w:Int),.int .u64 (e.n:Int),.bool e.m]
def enCells (l:List En):List Value:=l.flatMap En.cells
def En.ok (e:En):Prop:=(e.x:Int)≤18446744073709551615∧(e.w:Int)≤18446744073709551615∧(e.n:Int)≤18446744073709551615
theorem enCells_append (xs ys:List En):enCells (xs ++ ys)=enCells xs ++ enCells ys:=by simp [enCells]
theorem enCells_get:∀ (l:List En) (i j:Nat) (x:En),l[i]? = some x→j<4→(enCells l)[i * 4+j]? = x.cells[j]?:=by
 intro l
 induction l with
 | nil=>intro i j x h; simp at h
 | cons y l ih=>
  intro i j x h hj
  show (y.cells ++ enCells l)[i * 4+j]? = _
  have hy:y.cells.length=4:=rfl
  cases i with
  | zero=>
   simp only [List.getElem?_cons_zero,Option.some.injEq] at h
   subst h
   rw [List.getElem?_append_left (by omega)]
   simp
  | succ i=>
   rw [List.getElem?_append_right (by omega),hy,show (i+1) * 4+j - 4=i * 4+j by omega]
   exact ih i j x (by simpa using h) hj
structure Rc where
 kind:Int
 t:Nat
 x:Nat
 w:Nat
 n:Nat
 v:Nat
 p:T
 es:List En
structure Rv where
 kind:Int
 t:Nat
 x:Nat
 w:Nat
 n:Nat
 v:Nat
 p:V
 A:Option Addr
 c:Nat
 es:List En
def Rv.abs (r:Rv):Rc:=⟨r.kind,r.t,r.x,r.w,r.n,r.v,r.p.abs,r.es⟩
def Rv.sl (r:Rv):Value:=.slice r.A r.es.length r.c
def Rv.arr (r:Rv):Array Value:=#[.int .i64 r.kind,.int .u64 (r.t:Int),.int .u64 (r.x:Int),.int .u64 (r.w:Int),.int .u64 (r.n:Int),.int .u64 (r.v:Int),.int .i64 r.p.kind,.int .u64 (r.p.a:Int),.int .u64 (r.p.b:Int),r.p.sl,r.sl]
def Rv.val (r:Rv):Value:=.agg r.arr
structure RLies (w:World) (lo hi:Nat) (r:Rv):Prop where
 kind : -9223372036854775808≤r.kind∧r.kind≤9223372036854775807
 t:(r.t:Int)≤18446744073709551615
 x:(r.x:Int)≤18446744073709551615
 wn:(r.w:Int)≤18446744073709551615
 n:(r.n:Int)≤18446744073709551615
 v:(r.v:Int)≤18446744073709551615
 p:Lies w lo hi r.p
 es:Rd w hi 4 r.A r.es.length (enCells r.es)
 cap:r.es.length≤r.c∧r.c≤9223372036854775807
 ok:∀ e∈r.es,e.ok
 lo:∀ ad,r.A=some ad→0<r.es.length→lo≤ad.block
theorem RLies.under {w w':World} {lo hi:Nat} {r:Rv} (h:RLies w lo hi r) (hb:Below hi w w'):RLies w' lo hi r:=
 ⟨h.kind,h.t,h.x,h.wn,h.n,h.v,h.p.under hb,h.es.below hb,h.cap,h.ok,h.lo⟩
theorem RLies.more {w:World} {lo hi lo' hi':Nat} {r:Rv} (h:RLies w lo hi r) (h1:lo'≤lo) (h2:hi≤hi'):RLies w lo' hi' r:=
 ⟨h.kind,h.t,h.x,h.wn,h.n,h.v,h.p.more h1 h2,h.es.more h2,h.cap,h.ok,fun ad e hn=>Nat.le_trans h1 (h.lo ad e hn)⟩
theorem RLies.keep {w w':World} {lo hi:Nat} {r:Rv} (h:RLies w lo hi r) (hk:∀ p:Addr,lo≤p.block→p.block<hi→w'.cell? p=w.cell? p):RLies w' lo hi r:=by
 refine ⟨h.kind,h.t,h.x,h.wn,h.n,h.v,h.p.keep hk,⟨h.es.len,fun hn=>?_⟩,h.cap,h.ok,h.lo⟩
 obtain ⟨ad,e,hb,hc⟩:=h.es.lies hn
 exact ⟨ad,e,hb,fun j u hu=>(hk _ (by rw [add_block]; exact h.lo ad e hn) (by rw [add_block]; exact hb)).trans (hc j u hu)⟩
theorem RLies.len {w:World} {lo hi:Nat} {r:Rv} (h:RLies w lo hi r):(r.es.length:Int)≤9223372036854775807:=by have:=h.cap; omega
theorem RLies.nth {w:World} {lo hi:Nat} {r:Rv} (h:RLies w lo hi r) {i:Nat} (hi':i<r.es.length) :
 ∃ (b off:Nat) (e:En),r.A=some ⟨b,off,none⟩∧b<hi∧r.es[i]? = some e∧e.ok∧w.cell? ⟨b,off+i * 4,none⟩=some (.int .u64 (e.x:Int))∧w.cell? ⟨b,off+i * 4+1,none⟩=some (.int .u64 (e.w:Int))∧w.cell? ⟨b,off+i * 4+2,none⟩=some (.int .u64 (e.n:Int))∧w.cell? ⟨b,off+i * 4+3,none⟩=some (.bool e.m):=by
 have hx:r.es[i]? = some (r.es[i]):=List.getElem?_eq_getElem hi'
 obtain ⟨ad,e,hb,hc⟩:=h.es.lies (by omega)
 obtain ⟨bb,off,spot⟩:=ad
 have h0:r.es[0]? = some (r.es[0]'(by omega)):=List.getElem?_eq_getElem (by omega)
 have hspot:spot=none:=World.cell?_spot (a:=⟨bb,off,spot⟩) (hc 0 _ (enCells_get r.es 0 0 _ h0 (by omega)))
 subst hspot
 have hc4:∀ j u,j<4→(En.cells (r.es[i]'hi'))[j]? = some u→w.cell? ⟨bb,off+i * 4+j,none⟩=some u:=by
  intro j u hj hu
  have:=hc (i * 4+j) u ((enCells_get r.es i j _ hx hj).trans hu)
  rw [show (⟨bb,off,none⟩:Addr).add (i * 4+j)=⟨bb,off+(i * 4+j),none⟩ by unfold Addr.add; split <;> simp_all,← Nat.add_assoc] at this
  exact this
 exact ⟨bb,off,_,e,hb,hx,h.ok _ (List.getElem_mem hi'),hc4 0 _ (by omega) rfl,hc4 1 _ (by omega) rfl,hc4 2 _ (by omega) rfl,hc4 3 _ (by omega) rfl⟩
def ofB (i:Nat) (k:Int):Bool:=if i=0 then true else if i=1 then decide (k=2∨k=3∨k=4) else if i=2 then decide (k=2) else if i=3 then decide (k=3) else decide (k=5)
namespace Rc
def emptyB (r:Rc) (i:Nat):Bool:=if i=0 then decide (r.t=0) else if i=1 then decide (r.x=0) else if i=2 then decide (r.w=0∧r.n=0) else if i=3 then decide (r.v=0) else if i=4 then r.p.sameB (.node 0 0 0 []) else decide (r.es=[])
def knownB (k:Int):Bool:=decide (1≤k∧k≤7)
def bareB (r:Rc) (i:Nat):Bool:=ofB i r.kind || r.emptyB i
end Rc
end Go.Proofs.YtinmoknbgnngcaaGreatDoor
namespace Go.Proofs.YtinmoknbgnngcaaGreatDoor
open Go Go.RowKit
set_option linter.unusedVariables false
def mofF (i:Nat):FuncId:=if i=0 then 136 else if i=1 then 147 else if i=2 then 153 else if i=3 then 163 else if i=4 then 169 else 181
def memptyF (i:Nat):FuncId:=if i=0 then 137 else if i=1 then 148 else if i=2 then 154 else if i=3 then 164 else if i=4 then 170 else 182
def mputF (i:Nat):FuncId:=if i=0 then 138 else if i=1 then 149 else if i=2 then 156 else if i=3 then 165 else if i=4 then 172 else 183
def mtakeF (i:Nat):FuncId:=if i=0 then 140 else if i=1 then 150 else if i=2 then 157 else if i=3 then 166 else if i=4 then 175 else 185
def mtellF (i:Nat):FuncId:=if i=0 then 142 else if i=1 then 151 else if i=2 then 159 else if i=3 then 167 else if i=4 then 177 else 187
def mreadF (i:Nat):FuncId:=if i=0 then 144 else if i=1 then 152 else if i=2 then 161 else if i=3 then 168 else if i=4 then 179 else 189
def partL (i:Nat):List Value:=[.func (.func (mofF i)) #[] #[],.func (.func (memptyF i)) #[] #[],.func (.func (mputF i)) #[] #[],.func (.func (mtakeF i)) #[] #[],.func (.func (mtellF i)) #[] #[],.func (.func (mreadF i)) #[] #[]]
def partV (i:Nat):Value:=.agg (partL i).toArray
theorem partT_any (w:World):Calls Tryz.prog 118 #[] w fun e w'=>e=.returned (partV 0)∧Below w.heap.size w w':=by
 have hsz:(Tryz.prog.info? 170).map (·.size)=some 6:=by kernel_rfl
 go_enter Tryz.func118,Tryz.ntmps118
 go_wp2
 exact bodyPost_ret (results_cell_row (p:=0) (ty:=170) rfl _ _ w.heap.size 170 (partL 0).toArray (0,0) _ rfl (heap_alloc_new w _) Tryz.underlying170 rfl hsz) rfl ⟨rfl,below_new w _⟩
theorem partX_any (w:World):Calls Tryz.prog 119 #[] w fun e w'=>e=.returned (partV 1)∧Below w.heap.size w w':=by
 have hsz:(Tryz.prog.info? 170).map (·.size)=some 6:=by kernel_rfl
 go_enter Tryz.func119,Tryz.ntmps119
 go_wp2
 exact bodyPost_ret (results_cell_row (p:=0) (ty:=170) rfl _ _ w.heap.size 170 (partL 1).toArray (0,0) _ rfl (heap_alloc_new w _) Tryz.underlying170 rfl hsz) rfl ⟨rfl,below_new w _⟩
theorem partV_any (w:World):Calls Tryz.prog 120 #[] w fun e w'=>e=.returned (partV 2)∧Below w.heap.size w w':=by
 have hsz:(Tryz.prog.info? 170).map (·.size)=some 6:=by kernel_rfl
 go_enter Tryz.func120,Tryz.ntmps120
 go_wp2
 exact bodyPost_ret (results_cell_row (p:=0) (ty:=170) rfl _ _ w.heap.size 170 (partL 2).toArray (0,0) _ rfl (heap_alloc_new w _) Tryz.underlying170 rfl hsz) rfl ⟨rfl,below_new w _⟩
theorem partValue_any (w:World):Calls Tryz.prog 121 #[] w fun e w'=>e=.returned (partV 3)∧Below w.heap.size w w':=by
 have hsz:(Tryz.prog.info? 170).map (·.size)=some 6:=by kernel_rfl
 go_enter Tryz.func121,Tryz.ntmps121
 go_wp2
 exact bodyPost_ret (results_cell_row (p:=0) (ty:=170) rfl _ _ w.heap.size 170 (partL 3).toArray (0,0) _ rfl (heap_alloc_new w _) Tryz.underlying170 rfl hsz) rfl ⟨rfl,below_new w _⟩
theorem partP_any (w:World):Calls Tryz.prog 122 #[] w fun e w'=>e=.returned (partV 4)∧Below w.heap.size w w':=by
 have hsz:(Tryz.prog.info? 170).map (·.size)=some 6:=by kernel_rfl
 go_enter Tryz.func122,Tryz.ntmps122
 go_wp2
 exact bodyPost_ret (results_cell_row (p:=0) (ty:=170) rfl _ _ w.heap.size 170 (partL 4).toArray (0,0) _ rfl (heap_alloc_new w _) Tryz.underlying170 rfl hsz) rfl ⟨rfl,below_new w _⟩
theorem partEntries_any (w:World):Calls Tryz.prog 123 #[] w fun e w'=>e=.returned (partV 5)∧Below w.heap.size w w':=by
 have hsz:(Tryz.prog.info? 170).map (·.size)=some 6:=by kernel_rfl
 go_enter Tryz.func123,Tryz.ntmps123
 go_wp2
 exact bodyPost_ret (results_cell_row (p:=0) (ty:=170) rfl _ _ w.heap.size 170 (partL 5).toArray (0,0) _ rfl (heap_alloc_new w _) Tryz.underlying170 rfl hsz) rfl ⟨rfl,below_new w _⟩
theorem ofT_any (k:Int) (w:World):Calls Tryz.prog 136 #[.int .i64 k] w fun e w'=>e=.returned (.bool (ofB 0 k))∧w'=w:=by
 go_enter Tryz.func136,Tryz.ntmps136
 go_wp2
 go_ret
 exact ⟨rfl,rfl⟩
theorem ofX_any (k:Int) (w:World):Calls Tryz.prog 147 #[.int .i64 k] w fun e w'=>e=.returned (.bool (ofB 1 k))∧w'=w:=by
 go_enter Tryz.func147,Tryz.ntmps147
 go_wp2
 · subst_vars
   go_ret
   exact ⟨rfl,rfl⟩
 · subst_vars
   go_ret
   exact ⟨rfl,rfl⟩
 · go_ret
   exact ⟨ret_b (by rw [Bool.eq_iff_iff]; simp [ofB,or_assoc]),rfl⟩
theorem ofV_any (k:Int) (w:World):Calls Tryz.prog 153 #[.int .i64 k] w fun e w'=>e=.returned (.bool (ofB 2 k))∧w'=w:=by
 go_enter Tryz.func153,Tryz.ntmps153
 go_wp2
 go_ret
 exact ⟨ret_b (by rw [Bool.eq_iff_iff]; simp [ofB]),rfl⟩
theorem ofValue_any (k:Int) (w:World):Calls Tryz.prog 163 #[.int .i64 k] w fun e w'=>e=.returned (.bool (ofB 3 k))∧w'=w:=by
 go_enter Tryz.func163,Tryz.ntmps163
 go_wp2
 go_ret
 exact ⟨ret_b (by rw [Bool.eq_iff_iff]; simp [ofB]),rfl⟩
theorem ofP_any (k:Int) (w:World):Calls Tryz.prog 169 #[.int .i64 k] w fun e w'=>e=.returned (.bool (ofB 4 k))∧w'=w:=by
 go_enter Tryz.func169,Tryz.ntmps169
 go_wp2
 go_ret
 exact ⟨ret_b (by rw [Bool.eq_iff_iff]; simp [ofB]),rfl⟩
theorem ofEntries_any (k:Int) (w:World):Calls Tryz.prog 181 #[.int .i64 k] w fun e w'=>e=.returned (.bool (ofB 5 k))∧w'=w:=by
 go_enter Tryz.func181,Tryz.ntmps181
 go_wp2
 go_ret
 exact ⟨ret_b (by rw [Bool.eq_iff_iff]; simp [ofB]),rfl⟩
theorem below_row {B:Nat} {w w':World} (h:Below B w w') {g:Nat} (hg:B≤g) (cs:Array Value):Below B w (w'.setRow g cs):=by
 refine ⟨h.os,h.tape,h.output,by simpa [World.setRow] using h.size,fun k hk=>?_⟩
 refine Eq.trans ?_ (h.block k hk)
 simp only [World.setRow,Array.getElem?_modify]
 rw [if_neg (by omega)]
def partsA:Array Value:=((List.range 6).flatMap partL).toArray
def partsZ:Array Value:=(List.replicate 36 Value.nilFunc).toArray
theorem partsA_one:(partsA.all fun x=>x.oneCell')=true:=by kernel_rfl
set_option maxRecDepth 100000 in
set_option maxHeartbeats 1600000 in
theorem parts_any (w:World):Calls Tryz.prog 98 #[] w fun e w'=>e=.returned (.agg partsA)∧Below w.heap.size w w':=by
 have hsz:(Tryz.prog.info? 216).map (·.size)=some 36:=by kernel_rfl
 have h0:=heap_alloc_new w (.cells partsZ 216)
 have b0:=below_new w (.cells partsZ 216)
 go_enter Tryz.func98,Tryz.ntmps98
 go_wp2_with fail
 refine (partT_any _).mono ?_
 rintro e w1 ⟨rfl,hb1⟩
 have hg1:=(hb1.block w.heap.size (by simp)).trans h0
 have hs1:w.heap.size<w1.heap.size:=lt_of_block hg1
 replace hb1:=b0.trans (hb1.mono b0.size)
 go_wp2_with fail
 refine (partX_any _).mono ?_
 rintro e w2 ⟨rfl,hb2⟩
 have hg2:=(hb2.block _ (lt_of_block hg1)).trans hg1
 replace hb2:=hb1.trans (hb2.mono hb1.size)
 go_wp2_with fail
 refine (partV_any _).mono ?_
 rintro e w3 ⟨rfl,hb3⟩
 have hg3:=(hb3.block _ (lt_of_block hg2)).trans hg2
 replace hb3:=hb2.trans (hb3.mono hb2.size)
 go_wp2_with fail
 refine (partValue_any _).mono ?_
 rintro e w4 ⟨rfl,hb4⟩
 have hg4:=(hb4.block _ (lt_of_block hg3)).trans hg3
 replace hb4:=hb3.trans (hb4.mono hb3.size)
 go_wp2_with fail
 refine (partP_any _).mono ?_
 rintro e w5 ⟨rfl,hb5⟩
 have hg5:=(hb5.block _ (lt_of_block hg4)).trans hg4
 replace hb5:=hb4.trans (hb5.mono hb4.size)
 go_wp2_with fail
 refine (partEntries_any _).mono ?_
 rintro e w6 ⟨rfl,hb6⟩
 have hg6:=(hb6.block _ (lt_of_block hg5)).trans hg5
 replace hb6:=hb5.trans (hb6.mono hb5.size)
 clear hb1 hb2 hb3 hb4 hb5 hg1 hg2 hg3 hg4 hg5 h0 b0
 rename_i K hK
 show K _ _
 refine hK _ _ ?_
 refine wpList_buildTo rfl 216 _ rfl (some 7) rfl partsA (by kernel_rfl) ?_
 refine wpList_store_rowTo rfl 216 (.tmp 0) (.tmp 7) rfl rfl w.heap.size partsA rfl rfl 216 partsZ hg6 hsz rfl partsA_one ?_
 go_wp2
 exact bodyPost_ret (results_cell_row (p:=0) (ty:=216) rfl _ _ w.heap.size 216 partsA (0,0) _ rfl (setRow_heap _ _ partsZ partsA _ _ hg6) Tryz.underlying216 rfl hsz) rfl ⟨rfl,below_row hb6 (Nat.le_refl _) _⟩
end Go.Proofs.YtinmoknbgnngcaaGreatDoor
