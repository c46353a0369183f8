/-
  Layer 4: the program's reader: how node and list end; the steps between.
-/
import Derived.Test.YtinmoknbgnngcaaGreatDoorZwTex
import Derived.Test.YtinmoknbgnngcaaGreatDoorZwVmk
import Derived.Test.YtinmoknbgnngcaaGreatDoorZwTrw
namespace Go.Proofs.YtinmoknbgnngcaaGreatDoor
open Go Go.RowKit
set_option linter.unusedVariables false
structure NdR (d m:Nat) (s:List UInt8) (bad:Bool) (w w':World) (k:Int) (a b n c m':Nat) (A:Option Addr) (s':List UInt8) (bad':Bool):Prop where
 len:s'.length≤s.length
 bd:bad=true→bad'=true∧m'≤m+d+1
 ok:bad=false→m'≤34+d∧((∃ t us,rdS d s=some (t,s')∧m+t.count≤32∧bad'=false∧m'=m+t.count∧(V.node k a b A c us).abs=t∧us.length=n∧Lies w' w.heap.size w'.heap.size (.node k a b A c us)∧Shp 65 w' w.heap.size (.node k a b A c us))∨
  ((∀ t r,rdS d s=some (t,r)→32<m+t.count)∧bad'=true))
def NdEnd (d m:Nat) (s:List UInt8) (bad:Bool) (g:Nat) (w:World) (e:Ending) (w':World):Prop:=
 ∃ (k:Int) (a b n c m':Nat) (A:Option Addr) (s':List UInt8) (bad':Bool),e=.returned (.agg #[.int .i64 k,.int .u64 (a:Int),.int .u64 (b:Int),.slice A n c])∧w.grownBy w' (some g)∧w'.heap[g]? = some (RdrC (m':Int) s' bad')∧NdR d m s bad w w' k a b n c m' A s' bad'
def NodeOK (d:Nat):Prop:=∀ (m:Nat) (s:List UInt8) (bad:Bool) (B g:Nat) (w:World),w.heap[g]? = some (RdrC (m:Int) s bad)→Env B w→B≤g→s.length≤1000000→(bad=false→m≤32)→m≤100→
 Calls Tryz.prog 223 #[.pointer (some ⟨g,0,none⟩),.int .i64 ((9 - d:Nat):Int)] w (NdEnd d m s bad g w)
structure LsR (d m:Nat) (s:List UInt8) (bad:Bool) (w w':World) (v:Value) (m':Nat) (s':List UInt8) (bad':Bool):Prop where
 len:s'.length≤s.length
 bd:bad=true→bad'=true∧m'≤m+d+1
 ok:bad=false→m'≤34+d∧((∃ us,listS (rdS d) s=some (V.absL us,s')∧m+T.countL (V.absL us)≤32∧bad'=false∧m'=m+T.countL (V.absL us)∧TRow 65 w.heap.size v us w')∨
  ((∀ ts r,listS (rdS d) s=some (ts,r)→32<m+T.countL ts)∧bad'=true))
def LsEnd (d m:Nat) (s:List UInt8) (bad:Bool) (g:Nat) (w:World) (e:Ending) (w':World):Prop:=
 ∃ (n c m':Nat) (A:Option Addr) (s':List UInt8) (bad':Bool),e=.returned (.slice A n c)∧w.grownBy w' (some g)∧w'.heap[g]? = some (RdrC (m':Int) s' bad')∧LsR d m s bad w w' (.slice A n c) m' s' bad'
structure LsI (d m:Nat) (s:List UInt8) (bad:Bool) (w W:World) (v:Value) (mm:Nat) (ss:List UInt8) (bb:Bool):Prop where
 len:ss.length≤s.length
 bd:bad=true→bb=true∧mm≤m+d+1
 ok:bad=false→mm≤34+d∧((∃ us,TRow 65 w.heap.size v us W∧bb=false∧mm=m+T.countL (V.absL us)∧mm≤32∧listS (rdS d) s=(moreS (rdS d) (ss.length+1) ss).map fun x=>(V.absL us ++ x.1,x.2))∨
  ((∀ ts r,listS (rdS d) s=some (ts,r)→32<m+T.countL ts)∧bb=true))
theorem new_raw (w:World) (E:TypeId) (x0 x1 x2 x3:Value):Rd (w.alloc (.cells #[x0,x1,x2,x3] E)) (w.heap.size+1) 4 (some ⟨w.heap.size,0,none⟩) 1 [x0,x1,x2,x3]:=by
 refine ⟨rfl,fun _=>⟨_,rfl,by simp,fun j x hx=>?_⟩⟩
 have hr:=heap_alloc_new w (.cells #[x0,x1,x2,x3] E)
 have e:(⟨w.heap.size,0,none⟩:Addr).add j=⟨w.heap.size,j,none⟩:=by unfold Addr.add; split <;> simp_all
 rw [e,cell_of_row _ _ j _ _ _ hr,← hx]
 simp
section
variable {d m:Nat} {s:List UInt8} {bad:Bool}
theorem LsI.start {w w1 w2:World} {k:Int} {a b n c m' g:Nat} {A:Option Addr} {s':List UInt8} {bad':Bool} (hm:bad=false→m≤32) (hw1:w.heap.size≤w1.heap.size) (hgr:w1.grownBy w2 (some g))
 (h41:Lib.hasPrefix (Lib.trimPrefix s [40]) [41]=false) (h:NdR d m (Lib.trimPrefix s [40]) (bad || !Lib.hasPrefix s [40]) w1 w2 k a b n c m' A s' bad') :
 LsI d m s bad w (w2.alloc (.cells #[.int .i64 k,.int .u64 (a:Int),.int .u64 (b:Int),.slice A n c] 65)) (.slice (some ⟨w2.heap.size,0,none⟩) 1 1) m' s' bad':=by
 refine ⟨Nat.le_trans h.len (trim_le _ _),fun hb=>h.bd (by rw [hb]; rfl),fun hb=>?_⟩
 have hm:=hm hb
 cases h40:Lib.hasPrefix s [40] with
 | false=>
  obtain ⟨h1,h2⟩:=h.bd (by rw [hb,h40]; rfl)
  refine ⟨by omega,.inr ⟨fun ts r hl=>?_,h1⟩⟩
  unfold listS at hl
  rw [h40] at hl
  cases hl
 | true=>
  obtain ⟨h1,h2⟩:=h.ok (by rw [hb,h40]; rfl)
  have hu:listS (rdS d) s=(rdS d (Lib.trimPrefix s [40])).bind fun (t,r')=>(moreS (rdS d) (r'.length+1) r').map fun (ts,r2)=>(t :: ts,r2):=by
   unfold listS
   rw [if_pos h40,if_neg (by rw [h41]; simp)]
  refine ⟨h1,?_⟩
  rcases h2 with ⟨t,us,e1,e2,e3,e4,e5,e6,hL,hS⟩ | ⟨hno,hbad⟩
  · subst e6
    refine .inl ⟨[.node k a b A c us],⟨?_,?_⟩,e3,?_,by omega,?_⟩
    · have:=World.ownsRow_lit (base:=w.heap.size) (e:=65) (size:=4) w2 #[.int .i64 k,.int .u64 (a:Int),.int .u64 (b:Int),.slice A us.length c] 1 (by have:=hgr.size; omega) (by decide) rfl
      exact this
    · intro u hu
      obtain rfl:u=.node k a b A c us:=by simpa using hu
      have hb2:=below_new w2 (.cells #[.int .i64 k,.int .u64 (a:Int),.int .u64 (b:Int),.slice A us.length c] 65)
      exact ⟨w1.heap.size,w2.heap.size,hw1,hb2.size,hL.under (hb2.mono (Nat.le_refl _)),hS.under hb2,fun g' hg'=>.inr (by have e:w2.heap.size=g':=Option.some.inj hg'; omega)⟩
    · rw [e4,← e5]; simp [V.absL,T.countL]
    · rw [hu,e1]
      simp only [Option.bind_some]
      congr 1
      funext x
      simp [V.absL,e5]
  · refine .inr ⟨fun ts r hl=>?_,hbad⟩
    rw [hu] at hl
    obtain ⟨⟨t,r'⟩,h3,h4⟩:=Option.bind_eq_some_iff.1 hl
    obtain ⟨⟨ts',r2⟩,h5,he⟩:=Option.map_eq_some_iff.1 h4
    injection he with e1 e2
    subst e1
    have:=hno _ _ h3
    rw [T.countL]
    omega
theorem LsI.step {w W W1 w2 w4:World} {v v':Value} {mm:Nat} {ss:List UInt8} {k:Int} {a b n c m' g:Nat} {A:Option Addr} {s':List UInt8} {bad':Bool} (h:LsI d m s bad w W v mm ss false)
 (hww:w.heap.size≤W.heap.size) (hg:g<w.heap.size) (hgr1:W.grownBy W1 (some g)) (hgr2:W1.grownBy w2 (some g)) (h44:Lib.hasPrefix ss [44]=true) (hn:NdR d mm (Lib.trimPrefix ss [44]) false W1 w2 k a b n c m' A s' bad')
 (hst:Stp (w2.alloc (.cells #[.int .i64 k,.int .u64 (a:Int),.int .u64 (b:Int),.slice A n c] 65)) w4 v v')
 (ho:∀ us,TRow 65 w.heap.size v us W→w4.ownsRow w.heap.size 65 4 v' (us.length+1) (vCells us ++ [.int .i64 k,.int .u64 (a:Int),.int .u64 (b:Int),.slice A n c])) :
 LsI d m s bad w w4 v' m' s' bad':=by
 have hbf:bad=false:=by
  cases hb:bad with
  | false=>rfl
  | true=>have:=(h.bd hb).1; cases this
 refine ⟨Nat.le_trans (Nat.le_trans hn.len (trim_le _ _)) h.len,(fun hb=>by rw [hbf] at hb; cases hb),fun hb=>?_⟩
 obtain ⟨h1,h2⟩:=h.ok hb
 obtain ⟨n1,n2⟩:=hn.ok rfl
 refine ⟨n1,?_⟩
 rcases h2 with ⟨us,hT,-,hmm,h32,hspec⟩ | ⟨-,hx⟩
 · have hu:moreS (rdS d) (ss.length+1) ss=(rdS d (Lib.trimPrefix ss [44])).bind fun (t,r')=>(moreS (rdS d) ss.length r').map fun (ts,r2)=>(t :: ts,r2):=by
    conv=>lhs; unfold moreS
    rw [if_pos h44]
   have hlt:=trim_lt h44
   rcases n2 with ⟨t,us2,e1,e2,e3,e4,e5,e6,hL,hS⟩ | ⟨hno,hbad⟩
   · subst e6
     have hT1:TRow 65 w.heap.size v us W1:=hT.keep hgr1.size fun k hk1 hk2=>hgr1.block k hk2 (fun e=>by injection e with e; omega)
     refine .inl ⟨us ++ [.node k a b A c us2],?_,e3,?_,by omega,?_⟩
     · have hk2:∀ k,w.heap.size≤k→k<W1.heap.size→w2.heap[k]? = W1.heap[k]?:=fun k hk1 hk2=>hgr2.block k hk2 (fun e=>by injection e with e; omega)
       have hs2:=hgr2.size
       have hs1:=hgr1.size
       have hT2:TRow 65 w.heap.size v us w2:=hT1.keep hs2 hk2
       have hb3:=below_new w2 (.cells #[.int .i64 k,.int .u64 (a:Int),.int .u64 (b:Int),.slice A us2.length c] 65)
       have hlt1:=own_lt hT1.own
       have hs4:=hst.grow.size
       have hrow:∀ lo hi,(∀ g,v.ownBlock=some g→g<lo∨hi≤g)→hi≤w2.heap.size→∀ g,v'.ownBlock=some g→g<lo∨hi≤g:=by
        intro lo hi hv hh g' hg'
        rcases hst.row with e | ⟨q,e,hq⟩
        · exact hv g' (e ▸ hg')
        · rw [e] at hg'; injection hg' with hg'; have:=hb3.size; omega
       have hkeep:∀ lo hi,(∀ g,v.ownBlock=some g→g<lo∨hi≤g)→hi≤w2.heap.size→∀ g,lo≤g→g<hi→w4.heap[g]? = w2.heap[g]?:=by
        intro lo hi hv hh g' q1 q2
        refine (hst.grow.block g' (by have:=hb3.size; omega) fun e=>?_).trans (hb3.block g' (by omega))
        rcases hv g' e.symm with h | h <;> omega
       refine ⟨by rw [List.length_append,vCells_append]; exact ho us hT,fun x hx=>?_⟩
       rcases List.mem_append.1 hx with hx | hx
       · obtain ⟨lo,hi,q1,q2,q3,q4,q5⟩:=hT2.el x hx
         have hk:=hkeep lo hi q5 q2
         exact ⟨lo,hi,q1,by have:=hb3.size; omega,q3.keep fun p hp hp2=>World.cell?_of_block (hk _ hp hp2),Shp.keepL x q3 q4 hk,hrow lo hi q5 q2⟩
       · obtain rfl:x=.node k a b A c us2:=by simpa using hx
         have hv:∀ g,v.ownBlock=some g→g<W1.heap.size∨w2.heap.size≤g:=fun g hg=>.inl (hlt1 g hg)
         have hk:=hkeep _ _ hv (Nat.le_refl _)
         exact ⟨W1.heap.size,w2.heap.size,by omega,by have:=hb3.size; omega,hL.keep fun p hp hp2=>World.cell?_of_block (hk _ hp hp2),Shp.keepL _ hL hS hk,hrow _ _ hv (Nat.le_refl _)⟩
     · rw [e4,hmm,show V.absL (us ++ [.node k a b A c us2])=V.absL us ++ [t] by rw [absL_map,List.map_append,← absL_map,List.map_cons,List.map_nil,e5],countL_append]
       simp [T.countL]
       omega
     · rw [hspec,hu,e1]
       simp only [Option.bind_some]
       have hl:=rdS_len d _ _ _ e1
       rw [moreS_fuel (rdS_len d) ss.length (s'.length+1) s' (by omega) (Nat.le_refl _)]
       cases moreS (rdS d) (s'.length+1) s' with
       | none=>rfl
       | some x=>simp [absL_map,e5]
   · refine .inr ⟨fun ts r hl=>?_,hbad⟩
     rw [hspec,hu] at hl
     obtain ⟨⟨ts1,r1⟩,hl,he⟩:=Option.map_eq_some_iff.1 hl
     obtain ⟨⟨t,r'⟩,h3,h4⟩:=Option.bind_eq_some_iff.1 hl
     obtain ⟨⟨ts',r2⟩,h5,he2⟩:=Option.map_eq_some_iff.1 h4
     injection he with e1 e2
     injection he2 with e3 e4
     subst e1 e3
     have:=hno _ _ h3
     simp only [countL_append,T.countL]
     omega
 · cases hx
theorem LsI.done {w W w':World} {v:Value} {mm g:Nat} {ss:List UInt8} {bb:Bool} (h:LsI d m s bad w W v mm ss bb) (hg:g<w.heap.size) (hgr:W.grownBy w' (some g)) (hww:w.heap.size≤W.heap.size) (h44:bb=false→Lib.hasPrefix ss [44]=false) :
 LsR d m s bad w w' v mm (Lib.trimPrefix ss [41]) (bb || !Lib.hasPrefix ss [41]):=by
 refine ⟨Nat.le_trans (trim_le _ _) h.len,fun hb=>⟨by rw [(h.bd hb).1]; rfl,(h.bd hb).2⟩,fun hb=>?_⟩
 obtain ⟨h1,h2⟩:=h.ok hb
 refine ⟨h1,?_⟩
 rcases h2 with ⟨us,hT,rfl,hmm,h32,hspec⟩ | ⟨hno,rfl⟩
 · have hu:moreS (rdS d) (ss.length+1) ss=if Lib.hasPrefix ss [41] then some ([],Lib.trimPrefix ss [41]) else none:=by
    conv=>lhs; unfold moreS
    rw [if_neg (by rw [h44 rfl]; simp)]
   rw [hu] at hspec
   cases h41:Lib.hasPrefix ss [41] with
   | true=>
    rw [h41,if_pos rfl] at hspec
    exact .inl ⟨us,by rw [hspec]; simp,by omega,rfl,hmm,hT.keep hgr.size fun k hk1 hk2=>hgr.block k hk2 (fun e=>by injection e with e; omega)⟩
   | false=>
    rw [h41,if_neg (by simp)] at hspec
    exact .inr ⟨(fun ts r hl=>by rw [hspec] at hl; cases hl),rfl⟩
 · exact .inr ⟨hno,rfl⟩
theorem LsR.empty {w w':World} (hm:bad=false→m≤32) (h41:Lib.hasPrefix (Lib.trimPrefix s [40]) [41]=true) :
 LsR d m s bad w w' (.slice none 0 0) m (Lib.trimPrefix (Lib.trimPrefix s [40]) [41]) (bad || !Lib.hasPrefix s [40]):=by
 refine ⟨Nat.le_trans (trim_le _ _) (trim_le _ _),fun hb=>⟨by rw [hb]; rfl,by omega⟩,fun hb=>?_⟩
 have hm:=hm hb
 refine ⟨by omega,?_⟩
 cases h40:Lib.hasPrefix s [40] with
 | true=>exact .inl ⟨[],by unfold listS; rw [if_pos h40,if_pos h41]; rfl,by simp [V.absL,T.countL]; omega,by rw [hb]; rfl,by simp [V.absL,T.countL],TRow.nil _ _ _⟩
 | false=>exact .inr ⟨(fun ts r hl=>by unfold listS at hl; rw [h40] at hl; cases hl),by simp⟩
end
theorem Tryz.infoE:(Tryz.prog.info? 65).map (fun i=>(i.zero,i.size,i.bytes))=some (some (.agg #[.int .i64 0,.int .u64 0,.int .u64 0,.slice none 0 0]),4,48):=by kernel_rfl
theorem Lies.stored {w:World} {lo hi g i:Nat} {v:V} (h:Lies w lo hi v) (hg:g<lo) (x:Value):Lies (w.setCell ⟨g,i,none⟩ x) lo hi v:=
 h.keep fun p hlo _=>World.cell?_of_block (Below.heap_setCell w ⟨g,i,none⟩ x p.block (by show p.block≠g; omega))
theorem own_uniq {w:World} {b n c:Nat} {E:TypeId} {A:Option Addr} {xs ys:List Value} (h1:w.ownsRow b E 4 (.slice A n c) n xs) (h2:w.ownsRow b E 4 (.slice A n c) n ys):xs=ys:=by
 rcases Nat.eq_zero_or_pos n with h0 | h0
 · subst h0
   have e1:xs=[]:=List.eq_nil_of_length_eq_zero (by have:=h1.1; omega)
   have e2:ys=[]:=List.eq_nil_of_length_eq_zero (by have:=h2.1; omega)
   rw [e1,e2]
 · obtain ⟨g,cap,hv,_,_⟩:=h1.form h0
   have hA:A=some ⟨g,0,none⟩:=by injection hv
   subst hA
   apply List.ext_getElem?
   intro i
   rcases Nat.lt_or_ge i (n * 4) with hi | hi
   · rw [← h1.cellAt i hi,← h2.cellAt i hi]
   · rw [List.getElem?_eq_none (by have:=h1.1; omega),List.getElem?_eq_none (by have:=h2.1; omega)]
def leftLen (g:Nat) (W:World):Nat:=match W.heap[g]? with
 | some (.cells cs _ _)=>match cs[1]? with
  | some (Value.string b)=>b.size
  | _=>0
 | _=>0
theorem leftLen_eq {g:Nat} {W:World} {m:Int} {s:List UInt8} {bad:Bool} (h:W.heap[g]? = some (RdrC m s bad)):leftLen g W=s.length:=by
 unfold leftLen
 rw [h]
 simp [RdrC,ByteArray.size]
set_option maxRecDepth 100000 in
set_option maxHeartbeats 3200000 in
theorem plist_any (d:Nat) (hd:d≤8) (IH:NodeOK d) (m:Nat) (s:List UInt8) (bad:Bool) (B g:Nat) (w:World) (hg:w.heap[g]? = some (RdrC (m:Int) s bad)) (hE:Env B w) (hB:B≤g) (hl:s.length≤1000000) (hm:bad=false→m≤32) (hm2:m≤90) :
 Calls Tryz.prog 254 #[.pointer (some ⟨g,0,none⟩),.int .i64 ((9 - d:Nat):Int)] w (LsEnd d m s bad g w):=by
 have hgl:=(Array.getElem?_eq_some_iff.1 hg).1
 have MU:=must_any m s [40] bad g w hg
 obtain ⟨i0,hi0,hz0,hz1,hz2⟩:=info_parts Tryz.infoE
 have HE:Hid (∀ W,w.grownBy W (some g)→Env B W):=fun W h=>hE.keep fun k hk=>h.block k (by omega) (fun e=>by injection e with e; omega)
 have HIH:=Lib_hid IH
 have HEND:Hid (∀ (n c m':Nat) (A:Option Addr) (s':List UInt8) (bad':Bool) (w':World),w.grownBy w' (some g)→w'.heap[g]? = some (RdrC (m':Int) s' bad')→LsR d m s bad w w' (.slice A n c) m' s' bad'→LsEnd d m s bad g w (.returned (.slice A n c)) w'):=fun n c m' A s' bad' w' h1 h2 h3=>⟨n,c,m',A,s',bad',rfl,h1,h2,h3⟩
 clear IH hE
 generalize hdeep:((9 - d:Nat):Int)=deep at *
 go_enter Tryz.func254,Tryz.ntmps254
 go_wp2_with fail
 refine MU.mono ?_
 rintro e w1 ⟨rfl,hgr1,hg1⟩
 have MK:=mark_any m (Lib.trimPrefix s [40]) [41] (bad || !Lib.hasPrefix s [40]) g w1 hg1
 clear MU
 go_wp2_with fail
 refine MK.mono ?_
 rintro e w2 ⟨rfl,hgr2,hg2⟩
 have hgr12:=hgr1.trans hgr2
 clear MK
 cases h41:Lib.hasPrefix (Lib.trimPrefix s [40]) [41] with
 | true=>
  have HX:=Lib_hid (HEND.out 0 0 m none _ _ w2 hgr12 hg2 (LsR.empty hm h41))
  go_wp2_with fail
  go_ret
  exact HX.out
 | false=>
  rw [trim_no h41] at hg2
  have htl:=trim_le s [40]
  have ND:=HIH.out m (Lib.trimPrefix s [40]) (bad || !Lib.hasPrefix s [40]) B g w2 hg2 (HE.out w2 hgr12) hB (by omega) (fun hb=>hm (by cases hbb:bad with | false=>rfl | true=>rw [hbb] at hb; cases hb)) (by omega)
  rw [hdeep] at ND
  have hs12:=hgr12.size
  have H41:=Lib_hid h41
  clear hg1 h41
  go_wp2_with fail
  refine ND.mono ?_
  rintro e w3 ⟨k,a,b,n,c,m',A,s',bad',rfl,hgr3,hg3,hR⟩
  have HI:=Lib_hid (LsI.start hm hs12 hgr3 H41.out hR)
  have hgr13:=hgr12.trans hgr3
  have hnew:=below_new w3 (.cells #[.int .i64 k,.int .u64 (a:Int),.int .u64 (b:Int),.slice A n c] 65)
  have hg4:=(hnew.block g (Array.getElem?_eq_some_iff.1 hg3).1).trans hg3
  have hgr4:=hgr13.trans (grow_below hnew (some g))
  have hm':m'≤100:=by
   cases hbb:bad with
   | true=>have:=(hR.bd (by rw [hbb]; rfl)).2; omega
   | false=>
    cases h40:Lib.hasPrefix s [40] with
    | true=>have:=(hR.ok (by rw [hbb,h40]; rfl)).1; omega
    | false=>have:=(hR.bd (by rw [hbb,h40]; rfl)).2; have:=hm hbb; omega
  clear ND hR hnew hg3 hgr3 hgr13
  go_wp2
  go_loopw [5] (fun v W=>∃ (A:Option Addr) (n c mm:Nat) (ss:List UInt8) (bb:Bool),v=.slice A n c∧mm≤100∧W.heap[g]? = some (RdrC (mm:Int) ss bb)∧w.grownBy W (some g)∧Hid (LsI d m s bad w W (.slice A n c) mm ss bb)) (fun _ W=>leftLen g W)
  case atStart=>exact ⟨_,_,_,m',s',bad',rfl,hm',hg4,hgr4,HI⟩
  case round=>
   clear hg4 hgr4 HI hm'
   obtain ⟨A',n',c',mm,ss,bb,rfl,hmm,hgW,hgrW,HI⟩:=hrel
   rename World=>W
   have hsW:=hgrW.size
   have c2:=cell_of_row W _ 2 _ _ _ hgW
   simp at c2
   have HLL:Hid (leftLen g W=ss.length):=leftLen_eq hgW
   cases bb with
   | true=>
    have MU:=must_any mm ss [41] true g W hgW
    go_wp2_with fail
    refine MU.mono ?_
    rintro e w5 ⟨rfl,hgr5,hg5⟩
    have HX:=Lib_hid (HEND.out n' c' mm A' _ _ w5 (hgrW.trans hgr5) hg5 (HI.out.done hgl hgr5 hsW (fun h=>by cases h)))
    clear MU hg5 hgr5
    go_wp2_with fail
    go_ret
    exact HX.out
   | false=>
    have MK:=mark_any mm ss [44] false g W hgW
    go_wp2_with fail
    refine MK.mono ?_
    rintro e w5 ⟨rfl,hgr5,hg5⟩
    clear MK
    cases h44:Lib.hasPrefix ss [44] with
    | false=>
     rw [trim_no h44] at hg5
     have MU:=must_any mm ss [41] false g w5 hg5
     have H44:=Lib_hid h44
     clear h44
     go_wp2_with fail
     refine MU.mono ?_
     rintro e w6 ⟨rfl,hgr6,hg6⟩
     have HX:=Lib_hid (HEND.out n' c' mm A' _ _ w6 ((hgrW.trans hgr5).trans hgr6) hg6 (HI.out.done hgl (hgr5.trans hgr6) hsW (fun _=>H44.out)))
     clear MU hg6 hgr6 hg5 hgr5
     go_wp2_with fail
     go_ret
     exact HX.out
    | true=>
     have hbf:bad=false:=by
      cases hb:bad with
      | false=>rfl
      | true=>have:=(HI.out.bd hb).1; cases this
     obtain ⟨hm34,hus⟩:=HI.out.ok hbf
     obtain ⟨us,hT,-,hmu,h32,hspec⟩:∃ us,TRow 65 w.heap.size (.slice A' n' c') us W∧false=false∧mm=m+T.countL (V.absL us)∧mm≤32∧listS (rdS d) s=(moreS (rdS d) (ss.length+1) ss).map fun x=>(V.absL us ++ x.1,x.2):=by
      rcases hus with h | ⟨-,h⟩
      · exact h
      · cases h
     have hgr15:=hgrW.trans hgr5
     have hsl:=trim_lt h44
     have hls:ss.length≤s.length:=HI.out.len
     have ND:=HIH.out mm (Lib.trimPrefix ss [44]) false B g w5 hg5 (HE.out w5 hgr15) hB (by omega) (fun _=>h32) (by omega)
     rw [hdeep] at ND
     have hun:us.length=n':=by
      obtain ⟨A2,c2,e,_⟩:=own_form hT.own
      injection e with _ e
      exact e.symm
     have hn32:n'≤32:=by have:=length_le_countL (V.absL us); rw [absL_length] at this; omega
     have hm1:n'+1≤maxLen:=by unfold maxLen; omega
     have hm2:(n'+1) * 48≤140737488355328:=by omega
     have H44:=Lib_hid h44
     have HT:=Lib_hid hT
     have HUN:=Lib_hid hun
     have HBF:=Lib_hid hbf
     clear h44 hT hus hspec hmu hm34 hun hbf
     go_wp2_with fail
     refine ND.mono ?_
     rintro e w6 ⟨k,a,b,n,c,m',A,s',bad',rfl,hgr6,hg6,hR⟩
     have hgr16:=hgr15.trans hgr6
     have hs56:=hgr5.size
     have hs66:=hgr6.size
     have hown6:w6.ownsRow w.heap.size 65 4 (.slice A' n' c') n' (vCells us):=by
      have h1:=HT.out.own
      rw [HUN.out] at h1
      exact own_keep h1 fun j hj=>((hgr5.trans hgr6).block j (own_lt h1 j hj) (fun e=>by injection e with e; have:=own_ge h1 j hj; omega))
     have hnew:=below_new w6 (.cells #[.int .i64 k,.int .u64 (a:Int),.int .u64 (b:Int),.slice A n c] 65)
     have hRd:=new_raw w6 65 (.int .i64 k) (.int .u64 (a:Int)) (.int .u64 (b:Int)) (.slice A n c)
     have hone:∀ u∈[Value.int .i64 k,.int .u64 (a:Int),.int .u64 (b:Int),.slice A n c],u.oneCell'=true:=by
      intro u hu
      simp only [List.mem_cons,List.not_mem_nil,or_false] at hu
      rcases hu with rfl | rfl | rfl | rfl <;> rfl
     have HNW:=Lib_hid hnew
     have HG6:=Lib_hid hg6
     clear ND hg5 hgW c2
     go_wp2_with (at_builtin; (refine wpList_app rfl _ _ 63 rfl w.heap.size 65 i0 (.agg #[.int .i64 0,.int .u64 0,.int .u64 0,.slice none 0 0]) 4 48 Tryz.underlying63 hi0 hz0 hz1 hz2 rfl (by decide) (.slice A' n' c') n' (vCells us) rfl (own_below hown6 hnew (own_lt hown6)) (w6.heap.size+1) (some ⟨w6.heap.size,0,none⟩) 1 1 _ rfl hRd hone hm1 hm2 (by simp; omega) ?_); intro v7 w7 ho7 hs7; obtain ⟨A7,c7,rfl,_⟩:=own_form ho7)
     have hg7:w7.heap[g]? = some (RdrC (m':Int) s' bad'):=by
      have h1:=own_ge hown6
      have hnb:=HNW.out.size
      refine (hs7.grow.block g (by omega) (fun e=>?_)).trans ((HNW.out.block g (by omega)).trans HG6.out)
      have:=h1 g e.symm
      omega
     have hgr7:w.grownBy w7 (some g):=by
      have h1:=own_ge hown6
      refine ⟨hs7.grow.os.trans ((HNW.out.os).trans hgr16.os),hs7.grow.tape.trans ((HNW.out.tape).trans hgr16.tape),hs7.grow.output.trans ((HNW.out.output).trans hgr16.output),by have:=hs7.grow.size; have:=HNW.out.size; have:=hgr16.size; omega,fun i hi hne=>?_⟩
      have:=hgr16.size
      have hnb:=HNW.out.size
      refine (hs7.grow.block i (by omega) (fun e=>?_)).trans ((HNW.out.block i (by omega)).trans (hgr16.block i hi hne))
      have:=h1 i e.symm
      omega
     have hst:=HI.out.step hsW hgl hgr5 hgr6 H44.out hR hs7 (fun us' hT'=>by
      have e1:us'.length=n':=by
       obtain ⟨A2,c2,e,_⟩:=own_form hT'.own
       injection e with _ e
       exact e.symm
      have e2:vCells us'=vCells us:=by
       have h1:=hT'.own
       have h2:=HT.out.own
       rw [e1] at h1
       rw [HUN.out] at h2
       exact own_uniq h1 h2
      rw [e1,e2]
      exact ho7)
     have HI7:=Lib_hid hst
     have hmm7:m'≤100:=by have:=(hR.ok rfl).1; omega
     have HL7:Hid (leftLen g w7<leftLen g W):=by
      unfold Hid
      rw [HLL.out,leftLen_eq hg7]
      have:=hR.len
      omega
     clear hst hR ho7 hs7 hRd hown6 hgr16 hgr6 hgr5
     go_wp2
     go_roundw
     case rel=>exact ⟨A7,_,c7,m',s',bad',rfl,hmm7,hg7,hgr7,HI7⟩
     case measure=>exact HL7.out
structure NmI (r:List UInt8) (bad:Bool) (j a b:Nat) (ss:List UInt8) (bb:Bool):Prop where
 len:ss.length≤r.length
 bd:bad=true→bb=true
 ok:bad=false→(∃ vs,numsS j r=some (vs,ss)∧bb=false∧a=vs.getD 0 0∧b=vs.getD 1 0)∨(numsS j r=none∧bb=true)
 a64:a<18446744073709551616
 b64:b<18446744073709551616
def NumR (ss:List UInt8) (bb:Bool) (v:Nat) (s2:List UInt8) (b2:Bool):Prop:=(numS ss=some (v,s2)∧b2=bb)∨(numS ss=none∧v=0∧s2=ss∧b2=true)
section
variable {r ss s2:List UInt8} {bad bb b2:Bool} {a b v:Nat}
theorem NmI.zero (r:List UInt8) (bad:Bool):NmI r bad 0 0 0 r bad:=⟨Nat.le_refl _,fun h=>h,fun h=>.inl ⟨[],rfl,h,rfl,rfl⟩,by omega,by omega⟩
theorem NumR.lt (h:NumR ss bb v s2 b2):v<18446744073709551616∧s2.length≤ss.length:=by
 rcases h with ⟨h,_⟩ | ⟨_,rfl,rfl,_⟩
 · exact numS_lt h
 · exact ⟨by omega,Nat.le_refl _⟩
theorem NmI.one (h:NmI r bad 0 a b ss bb) (hn:NumR ss bb v s2 b2):NmI r bad 1 v b s2 b2:=by
 obtain ⟨l1,l2⟩:=hn.lt
 refine ⟨Nat.le_trans l2 h.len,fun hb=>?_,fun hb=>?_,l1,h.b64⟩
 · rcases hn with ⟨_,e⟩ | ⟨_,_,_,e⟩
   · rw [e]; exact h.bd hb
   · exact e
 · rcases h.ok hb with ⟨vs,e1,e2,e3,e4⟩ | ⟨e1,e2⟩
   · have hu:numsS 1 r=(numS ss).map fun x=>(vs ++ [x.1],x.2):=by
      show ((numsS 0 r).bind _)=_
      rw [e1]
      rfl
     have hv:vs=[]:=by
      unfold numsS at e1
      injection e1 with e1
      injection e1 with e1 _
      exact e1.symm
     rcases hn with ⟨e,eb⟩ | ⟨e,_,_,eb⟩
     · exact .inl ⟨vs ++ [v],by rw [hu,e]; rfl,by rw [eb,e2],by rw [hv]; rfl,by rw [e4,hv]; rfl⟩
     · exact .inr ⟨by rw [hu,e]; rfl,eb⟩
   · cases e1
theorem NmI.two (h:NmI r bad 1 a b ss bb) (hn:NumR (Lib.trimPrefix ss [61]) (bb || !Lib.hasPrefix ss [61]) v s2 b2):NmI r bad 2 a v s2 b2:=by
 obtain ⟨l1,l2⟩:=hn.lt
 refine ⟨Nat.le_trans l2 (Nat.le_trans (trim_le _ _) h.len),fun hb=>?_,fun hb=>?_,h.a64,l1⟩
 · rcases hn with ⟨_,e⟩ | ⟨_,_,_,e⟩
   · rw [e,h.bd hb]; rfl
   · exact e
 · rcases h.ok hb with ⟨vs,e1,e2,e3,e4⟩ | ⟨e1,e2⟩
   · have hu:numsS 2 r=if Lib.hasPrefix ss [61] then (numS (Lib.trimPrefix ss [61])).map fun x=>(vs ++ [x.1],x.2) else none:=by
      show ((numsS 1 r).bind _)=_
      rw [e1]
      rfl
     have hv:=(numsS_len 1 r vs ss e1).1
     obtain ⟨x,rfl⟩:∃ x,vs=[x]:=by
      match vs,hv with
      | [x],_=>exact ⟨x,rfl⟩
     cases h61:Lib.hasPrefix ss [61] with
     | false=>
      refine .inr ⟨by rw [hu,h61]; rfl,?_⟩
      rcases hn with ⟨_,e⟩ | ⟨_,_,_,e⟩
      · rw [e,h61]; simp
      · exact e
     | true=>
      rw [h61,if_pos rfl] at hu
      rcases hn with ⟨e,eb⟩ | ⟨e,_,_,eb⟩
      · exact .inl ⟨[x] ++ [v],by rw [hu,e]; rfl,by rw [eb,e2,h61]; rfl,by rw [e3]; rfl,rfl⟩
      · exact .inr ⟨by rw [hu,e]; rfl,eb⟩
   · refine .inr ⟨?_,?_⟩
     · show ((numsS 1 r).bind _)=_
       rw [e1]; rfl
     · rcases hn with ⟨_,e⟩ | ⟨_,_,_,e⟩
       · rw [e,e2]; rfl
       · exact e
end
theorem rdS_succ {d kd:Nat} {s r:List UInt8} (h:kindS s=(kd,r)) (h0:kd≠0):rdS (d+1) s=(numsS (numN kd) r).bind fun x=>(partsS (rdS d) kd x.2).map fun y=>(.node kd (x.1.getD 0 0) (x.1.getD 1 0) y.1,y.2):=by
 show (if (kindS s).1=0 then none else _)=_
 rw [h,if_neg h0]
structure PtI (d m:Nat) (s:List UInt8) (bad:Bool) (B2 kd a b:Nat) (W:World) (v:Value) (m':Nat) (s':List UInt8) (bad':Bool):Prop where
 len:s'.length≤s.length
 bd:bad=true→bad'=true∧m'≤m+(d+1)+1
 ok:bad=false→m'≤34+(d+1)∧((∃ us,rdS (d+1) s=some (.node kd a b (V.absL us),s')∧m+1+T.countL (V.absL us)≤32∧bad'=false∧m'=m+1+T.countL (V.absL us)∧TRow 65 B2 v us W)∨
  ((∀ t r,rdS (d+1) s=some (t,r)→32<m+t.count)∧bad'=true))
section
variable {d m B2 kd a b:Nat} {s r ss:List UInt8} {bad bb:Bool}
theorem PtI.none (hk:kindS s=(kd,r)) (h1:1≤kd) (h4:kd≤4) (hm:m+1≤32) (h:NmI r bad (numN kd) a b ss bb) (W:World):PtI d m s bad B2 kd a b W (.slice none 0 0) (m+1) ss bb:=by
 have hr:=(kindS_le s).2.1
 rw [hk] at hr
 refine ⟨Nat.le_trans h.len hr,fun hb=>⟨h.bd hb,by omega⟩,fun hb=>⟨by omega,?_⟩⟩
 have hu:=rdS_succ (d:=d) hk (by omega)
 rcases h.ok hb with ⟨vs,e1,e2,e3,e4⟩ | ⟨e1,e2⟩
 · refine .inl ⟨[],?_,by simp [V.absL,T.countL]; omega,e2,by simp [V.absL,T.countL],TRow.nil _ _ _⟩
   rw [hu,e1,Option.bind_some]
   have:partsS (rdS d) kd ss=some ([],ss):=by unfold partsS; rw [if_neg (by omega),if_neg (by omega)]
   simp only [this,Option.map_some,V.absL,e3,e4]
 · refine .inr ⟨fun t q hq=>?_,e2⟩
   rw [hu,e1] at hq
   cases hq
theorem PtI.one {w8 w9:World} {k2:Int} {a2 b2 n2 c2 m' g:Nat} {A2:Option Addr} {s':List UInt8} {bad':Bool} (hk:kindS s=(kd,r)) (h5:kd=5) (hm:m+1≤32) (h:NmI r bad (numN kd) a b ss bb)
 (hB:w8.heap.size=B2) (hgr:w8.grownBy w9 (some g)) (hn:NdR d (m+1) ss bb w8 w9 k2 a2 b2 n2 c2 m' A2 s' bad') :
 PtI d m s bad B2 kd a b (w9.alloc (.cells #[.int .i64 k2,.int .u64 (a2:Int),.int .u64 (b2:Int),.slice A2 n2 c2] 65)) (.slice (some ⟨w9.heap.size,0,Option.none⟩) 1 1) m' s' bad':=by
 have hr:=(kindS_le s).2.1
 rw [hk] at hr
 refine ⟨Nat.le_trans hn.len (Nat.le_trans h.len hr),fun hb=>?_,fun hb=>?_⟩
 · obtain ⟨q1,q2⟩:=hn.bd (h.bd hb)
   exact ⟨q1,by omega⟩
 have hu:=rdS_succ (d:=d) hk (by omega)
 rcases h.ok hb with ⟨vs,e1,e2,e3,e4⟩ | ⟨e1,e2⟩
 · obtain ⟨q1,q2⟩:=hn.ok e2
   refine ⟨by omega,?_⟩
   rw [e1,Option.bind_some] at hu
   have hp:partsS (rdS d) kd ss=(rdS d ss).map fun x=>([x.1],x.2):=by unfold partsS; rw [if_pos h5]
   simp only [hp] at hu
   rcases q2 with ⟨t,us,p1,p2,p3,p4,p5,p6,hL,hS⟩ | ⟨hno,hbad⟩
   · subst p6
     refine .inl ⟨[.node k2 a2 b2 A2 c2 us],?_,?_,p3,?_,?_,?_⟩
     · rw [hu,p1]; simp [V.absL,p5,e3,e4]
     · simp [V.absL,T.countL,p5]; omega
     · simp [V.absL,T.countL,p5]; omega
     · have:=World.ownsRow_lit (base:=w9.heap.size) (e:=65) (size:=4) w9 #[.int .i64 k2,.int .u64 (a2:Int),.int .u64 (b2:Int),.slice A2 us.length c2] 1 (Nat.le_refl _) (by decide) rfl
       exact own_base this fun j hj=>by have e:w9.heap.size=j:=Option.some.inj hj; have:=hgr.size; omega
     · intro u hu'
       obtain rfl:u=.node k2 a2 b2 A2 c2 us:=by simpa using hu'
       have hb2:=below_new w9 (.cells #[.int .i64 k2,.int .u64 (a2:Int),.int .u64 (b2:Int),.slice A2 us.length c2] 65)
       exact ⟨w8.heap.size,w9.heap.size,by omega,hb2.size,hL.under (hb2.mono (Nat.le_refl _)),hS.under hb2,fun g' hg'=>.inr (by have e:w9.heap.size=g':=Option.some.inj hg'; omega)⟩
   · refine .inr ⟨fun t q hq=>?_,hbad⟩
     rw [hu] at hq
     obtain ⟨⟨ts,q1⟩,hq1,he⟩:=Option.map_eq_some_iff.1 hq
     obtain ⟨⟨t1,r1⟩,hq2,he2⟩:=Option.map_eq_some_iff.1 hq1
     injection he with x1 x2
     injection he2 with x3 x4
     subst x1 x3
     have:=hno _ _ hq2
     simp only [T.count,T.countL]
     omega
 · obtain ⟨q1,q2⟩:=hn.bd e2
   refine ⟨by omega,.inr ⟨fun t q hq=>?_,q1⟩⟩
   rw [hu,e1] at hq
   cases hq
theorem PtI.list {w8 w9:World} {v:Value} {m':Nat} {s':List UInt8} {bad':Bool} (hk:kindS s=(kd,r)) (h6:6≤kd) (hm:m+1≤32) (h:NmI r bad (numN kd) a b ss bb)
 (hB:w8.heap.size=B2) (hn:LsR d (m+1) ss bb w8 w9 v m' s' bad'):PtI d m s bad B2 kd a b w9 v m' s' bad':=by
 have hr:=(kindS_le s).2.1
 rw [hk] at hr
 refine ⟨Nat.le_trans hn.len (Nat.le_trans h.len hr),fun hb=>?_,fun hb=>?_⟩
 · obtain ⟨q1,q2⟩:=hn.bd (h.bd hb)
   exact ⟨q1,by omega⟩
 have hu:=rdS_succ (d:=d) hk (by omega)
 rcases h.ok hb with ⟨vs,e1,e2,e3,e4⟩ | ⟨e1,e2⟩
 · obtain ⟨q1,q2⟩:=hn.ok e2
   refine ⟨by omega,?_⟩
   rw [e1,Option.bind_some] at hu
   have hp:partsS (rdS d) kd ss=listS (rdS d) ss:=by unfold partsS; rw [if_neg (by omega),if_pos h6]
   simp only [hp] at hu
   rcases q2 with ⟨us,p1,p2,p3,p4,hT⟩ | ⟨hno,hbad⟩
   · exact .inl ⟨us,by rw [hu,p1]; simp [e3,e4],by omega,p3,by omega,hB ▸ hT⟩
   · refine .inr ⟨fun t q hq=>?_,hbad⟩
     rw [hu] at hq
     obtain ⟨⟨ts,q1⟩,hq1,he⟩:=Option.map_eq_some_iff.1 hq
     injection he with x1 x2
     subst x1
     have:=hno _ _ hq1
     simp only [T.count]
     omega
 · obtain ⟨q1,q2⟩:=hn.bd e2
   refine ⟨by omega,.inr ⟨fun t q hq=>?_,q1⟩⟩
   rw [hu,e1] at hq
   cases hq
theorem PtI.fin {w W w':World} {n c m':Nat} {A:Option Addr} {s':List UInt8} {bad':Bool} (h:PtI d m s bad B2 kd a b W (.slice A n c) m' s' bad') (hkd:kd≤7) (ha:a<18446744073709551616) (hb:b<18446744073709551616)
 (hwB:w.heap.size≤B2) (hs:W.heap.size≤w'.heap.size) (hk:∀ g,B2≤g→g<W.heap.size→w'.heap[g]? = W.heap[g]?):NdR (d+1) m s bad w w' kd a b n c m' A s' bad':=by
 refine ⟨h.len,h.bd,fun hbf=>?_⟩
 obtain ⟨h1,h2⟩:=h.ok hbf
 refine ⟨h1,?_⟩
 rcases h2 with ⟨us,e1,e2,e3,e4,hT⟩ | h2
 · obtain ⟨hn,hL,hS⟩:=(hT.keep hs hk).tree (k:=kd) (a:=a) (b:=b) (by omega) ha hb
   refine .inl ⟨_,us,e1,by rw [T.count]; omega,e3,by rw [T.count]; omega,by rw [V.abs],hn.symm,hL.more hwB (Nat.le_refl _),hS.more hwB⟩
 · exact .inr h2
theorem NdR.none0 {w w':World} {s':List UInt8} {m':Nat} (hl:s'.length≤s.length) (hm:m'≤m+1) (hm2:bad=false→m≤32) (hno:bad=false→∀ t r,rdS d s=some (t,r)→32<m+t.count):NdR d m s bad w w' 0 0 0 0 0 m' Option.none s' true:=
 ⟨hl,fun _=>⟨rfl,by omega⟩,fun hb=>⟨by have:=hm2 hb; omega,.inr ⟨hno hb,rfl⟩⟩⟩
end
end Go.Proofs.YtinmoknbgnngcaaGreatDoor
