/-
  Layer 4: the program's taker.node.
-/
import Derived.Test.YtinmoknbgnngcaaGreatDoorZwVyb
import Derived.Test.YtinmoknbgnngcaaGreatDoorZwTno
import Derived.Test.YtinmoknbgnngcaaGreatDoorZwTrw
namespace Go.Proofs.YtinmoknbgnngcaaGreatDoor
open Go Go.RowKit
set_option linter.unusedVariables false
theorem tnode_ret {Q:Ending→World→Prop} {W:World} {h0:Nat} {x0 x1 x2 x3:Value} (HR2:W.heap[h0]? = some (.cells #[x0,x1,x2,x3] 65 (0,0))) (HF2:Q (.returned (.agg #[x0,x1,x2,x3])) W)
 (tmps:Array Value) (h4:tmps.getD 4 undef=.pointer (some ⟨h0,0,none⟩)):bodyPost Tryz.prog Tryz.f250 Q .ret {tmps:=tmps,defers:=[]} W:=by
 rw [Array.getD_eq_getD_getElem?] at h4
 have d0:=cell_of_row W _ 0 _ _ _ HR2
 have d1:=cell_of_row W _ 1 _ _ _ HR2
 have d2:=cell_of_row W _ 2 _ _ _ HR2
 have d3:=cell_of_row W _ 3 _ _ _ HR2
 simp at d0 d1 d2 d3
 exact bodyPost_ret (v:=.agg #[x0,x1,x2,x3]) (by simp [results,Tryz.results250,go_sem,h4,d0,d1,d2,d3]) rfl HF2
theorem kindT_lt {l:List Nat} (hb:∀ x∈l,x<256) (s:Nat):(kindT l s).1<256:=by
 unfold kindT
 split
 · rw [List.getD_eq_getElem?_getD,List.getElem?_eq_getElem (by omega)]
   exact hb _ (List.getElem_mem _)
 · show 0<256
   decide
theorem tkS_no {l:List Nat} {d s kd r:Nat} (hk:kindT l s=(kd,r)) (h:kd=0∨7<kd):tkS l d s=none:=by
 cases d with
 | zero=>rfl
 | succ d=>
  show (if (kindT l s).1=0∨7<(kindT l s).1 then none else _)=_
  rw [hk,if_pos h]
theorem tmany_any (kd pn:Nat) (hpn:pn=if kd=5 then 1 else if 6≤kd then 2 else 0) (m:Int) (A:Option Addr) (n c:Nat) (l:List Nat) (a:Nat) (bad:Bool) (B g:Nat) (w:World) (hg:w.heap[g]? = some (TkrC m A n c (a:Int) bad)) (hr:Rd w B 1 A n (bs l)) (hb8:∀ x∈l,x<256) (hnc:n≤c∧c≤9223372036854775807) :
 Calls Tryz.prog 266 #[.pointer (some ⟨g,0,none⟩),.int .i64 (pn:Int)] w fun e w'=>w.grownBy w' (some g)∧∃ (N s2:Nat) (b2:Bool),e=.returned (.int .u64 (N:Int))∧N<18446744073709551616∧w'.heap[g]? = some (TkrC m A n c (s2:Int) b2)∧
  ((cntT l kd a=some (N,s2)∧b2=bad)∨(cntT l kd a=none∧b2=true)):=by
 by_cases h6:6≤kd
 · obtain rfl:pn=2:=by rw [hpn,if_neg (by omega),if_pos h6]
   refine (tmany_num m A n c l a bad B g w hg hr hb8 hnc).mono ?_
   rintro e w' ⟨h1,⟨v,r,h2,h3,h4⟩ | ⟨h2,h3,h4⟩⟩
   · exact ⟨h1,v,r,bad,h3,(numT_lt hb8 h2).1,h4,.inl ⟨by unfold cntT; rw [if_pos h6,h2],rfl⟩⟩
   · exact ⟨h1,0,a,true,h3,by decide,h4,.inr ⟨by unfold cntT; rw [if_pos h6,h2],rfl⟩⟩
 · have hp1:pn≤1:=by rw [hpn]; split <;> omega
   refine (tmany_fix pn hp1 g w).mono ?_
   rintro e w' ⟨rfl,rfl⟩
   refine ⟨grow_below (Below.refl _ _) (some g),pn,a,bad,rfl,by omega,hg,.inl ⟨?_,rfl⟩⟩
   unfold cntT
   rw [if_neg h6,hpn]
   split <;> simp
theorem raw_row {w:World} {g:Nat} {E:TypeId} {x0 x1 x2 x3:Value} (hr:w.heap[g]? = some (.cells #[x0,x1,x2,x3] E (0,0))):Rd w (g+1) 4 (some ⟨g,0,none⟩) 1 [x0,x1,x2,x3]:=by
 refine ⟨rfl,fun _=>⟨_,rfl,by simp,fun j x hx=>?_⟩⟩
 have e:(⟨g,0,none⟩:Addr).add j=⟨g,j,none⟩:=by unfold Addr.add; split <;> simp_all
 rw [e,cell_of_row _ _ j _ _ _ hr,← hx]
 simp
def put4n (w:World) (g off:Nat) (a b c d:Value):World:=(((w.setCell ⟨g,off,none⟩ a).setCell ⟨g,off+1,none⟩ b).setCell ⟨g,off+2,none⟩ c).setCell ⟨g,off+3,none⟩ d
theorem put4n_else (w:World) {g k:Nat} (h:k≠g) (off:Nat) (a b c d:Value):(put4n w g off a b c d).heap[k]? = w.heap[k]?:=by
 unfold put4n
 rw [Below.heap_setCell _ _ _ _ h,Below.heap_setCell _ _ _ _ h,Below.heap_setCell _ _ _ _ h,Below.heap_setCell _ _ _ _ h]
theorem put4n_own {w:World} {B g n c:Nat} {E:TypeId} {xs:List Value} {z0 z1 z2 z3:Value} (h:w.ownsRow B E 4 (.slice (some ⟨g,0,none⟩) (n+1) c) (n+1) (xs ++ [z0,z1,z2,z3])) (a b cc d:Value) :
 (put4n w g (n * 4) a b cc d).ownsRow B E 4 (.slice (some ⟨g,0,none⟩) (n+1) c) (n+1) (xs ++ [a,b,cc,d]):=by
 have hl:xs.length=n * 4:=by have:=h.1; simp at this; omega
 have h1:=((((h.stored (n * 4) a).1.stored (n * 4+1) b).1.stored (n * 4+2) cc).1.stored (n * 4+3) d).1
 unfold put4n
 rw [← hl] at h1 ⊢
 simpa [List.set_append,hl] using h1
theorem TRow.push2 {E:TypeId} {B s:Nat} {v v':Value} {us:List V} {u:V} {w5 w7:World} (h:TRow E B v us w5) (hs:B≤s) (hL:Lies w5 s w5.heap.size u) (hS:Shp E w5 s u) (hv:∀ k,v.ownBlock=some k→k<s)
 (hv':v'.ownBlock=v.ownBlock∨∃ k,v'.ownBlock=some k∧w5.heap.size≤k) (hsz:w5.heap.size≤w7.heap.size) (hk:∀ k,B≤k→k<w5.heap.size→v.ownBlock≠some k→w7.heap[k]? = w5.heap[k]?)
 (ho:w7.ownsRow B E 4 v' (us.length+1) (vCells us ++ vCells [u])):TRow E B v' (us ++ [u]) w7:=by
 have hrow:∀ lo hi,(∀ g,v.ownBlock=some g→g<lo∨hi≤g)→hi≤w5.heap.size→∀ g,v'.ownBlock=some g→g<lo∨hi≤g:=by
  intro lo hi h1 h2 g hg
  rcases hv' with e | ⟨k,e,hk⟩
  · exact h1 g (e ▸ hg)
  · rw [e] at hg; injection hg with hg; omega
 have hkeep:∀ lo hi,B≤lo→(∀ g,v.ownBlock=some g→g<lo∨hi≤g)→hi≤w5.heap.size→∀ g,lo≤g→g<hi→w7.heap[g]? = w5.heap[g]?:=by
  intro lo hi hB h1 h2 g g1 g2
  refine hk g (by omega) (by omega) fun e=>?_
  rcases h1 g e with h | h <;> omega
 refine ⟨by rw [List.length_append,vCells_append]; exact ho,fun x hx=>?_⟩
 rcases List.mem_append.1 hx with hx | hx
 · obtain ⟨lo,hi,h1,h2,h3,h4,h5⟩:=h.el x hx
   have hk':=hkeep lo hi h1 h5 h2
   exact ⟨lo,hi,h1,by omega,h3.keep fun p hp hp2=>World.cell?_of_block (hk' _ hp hp2),Shp.keepL x h3 h4 hk',hrow lo hi h5 h2⟩
 · obtain rfl:x=u:=by simpa using hx
   have hv2:∀ g,v.ownBlock=some g→g<s∨w5.heap.size≤g:=fun g hg=>.inl (hv g hg)
   have hk':=hkeep s w5.heap.size hs hv2 (Nat.le_refl _)
   exact ⟨s,w5.heap.size,hs,hsz,hL.keep fun p hp hp2=>World.cell?_of_block (hk' _ hp hp2),Shp.keepL x hL hS hk',hrow _ _ hv2 (Nat.le_refl _)⟩
theorem exit_gen {Q:Exit→Act→World→Prop} {a:Act} {W:World} {F:World→Prop} (hF:F W) (h:∀ w7,F w7→Q .normal a w7):Q .normal a W:=h W hF
def TdLp (Ab:Option Addr) (nb cb:Nat) (l:List Nat) (d m s:Nat) (bad:Bool) (g P B2 kd a b:Nat) (w:World) (left mm ss:Nat) (bb:Bool) (A:Option Addr) (n c:Nat) (W:World):Prop:=
 mm≤101∧W.heap[g]? = some (TkrC (mm:Int) Ab nb cb (ss:Int) bb)∧W.heap[P]? = some (.cells #[.int .i64 (kd:Int),.int .u64 (a:Int),.int .u64 (b:Int),.slice A n c] 65 (0,0))∧
  W.heap[w.heap.size]? = some (.cells #[.int .i64 0,.int .u64 0,.int .u64 0,.slice none 0 0] 65 (0,0))∧w.grownBy W (some g)∧B2≤W.heap.size∧PtT l d m s bad B2 kd a b W (.slice A n c) mm left ss bb
theorem forms7 {w6 w7:World} {g6 P n c6 B2:Nat} {xs:List Value} {x0 x1 x2 x3 p0 p1 p2 p3 v z0 z1 z2 z3:Value} {T:TypeId} (hPB:P<B2) (hgB:B2≤g6) (ho:w6.ownsRow B2 T 4 (.slice (some ⟨g6,0,none⟩) (n+1) c6) (n+1) (xs ++ [z0,z1,z2,z3]))
 (hP:w6.heap[P]? = some (.cells #[p0,p1,p2,p3] T (0,0))) (h:w7=(put4n w6 g6 (n * 4) x0 x1 x2 x3).setCell ⟨P,3,none⟩ v∨w7=put4n (w6.setCell ⟨P,3,none⟩ v) g6 (n * 4) x0 x1 x2 x3) :
 (∀ k,k≠g6→k≠P→w7.heap[k]? = w6.heap[k]?)∧w7.heap.size=w6.heap.size∧w7.os=w6.os∧w7.tape=w6.tape∧w7.output=w6.output∧w7.heap[P]? = some (.cells #[p0,p1,p2,v] T (0,0))∧
  w7.ownsRow B2 T 4 (.slice (some ⟨g6,0,none⟩) (n+1) c6) (n+1) (xs ++ [x0,x1,x2,x3]):=by
 rcases h with rfl | rfl
 · refine ⟨fun k h1 h2=>(Below.heap_setCell _ _ _ _ h2).trans (put4n_else _ h1 _ _ _ _ _),by simp [put4n,World.setCell],by simp [put4n,World.setCell],by simp [put4n,World.setCell],by simp [put4n,World.setCell],?_,?_⟩
   · exact Joins.block_setCell (i:=3) ((put4n_else w6 (by omega) _ _ _ _ _).trans hP) v
   · exact ownsRow_setCell_below (put4n_own ho _ _ _ _) (show P<B2 from hPB) _
 · refine ⟨fun k h1 h2=>(put4n_else _ h1 _ _ _ _ _).trans (Below.heap_setCell _ _ _ _ h2),by simp [put4n,World.setCell],by simp [put4n,World.setCell],by simp [put4n,World.setCell],by simp [put4n,World.setCell],?_,?_⟩
   · exact (put4n_else _ (by omega) _ _ _ _ _).trans (Joins.block_setCell (i:=3) hP v)
   · exact put4n_own (ownsRow_setCell_below ho (show P<B2 from hPB) _) _ _ _ _
set_option maxRecDepth 100000 in
set_option maxHeartbeats 6400000 in
theorem tnode_any (Ab:Option Addr) (nb cb:Nat) (l:List Nat) (hb8:∀ x∈l,x<256) (hnc:nb≤cb∧cb≤9223372036854775807) (d:Nat):d≤8→TakeOK Ab nb cb l d:=by
 induction d using Nat.strongRecOn with
 | _ d IHd=>
 intro hd m s bad B g w hg hRd hB hm hm2
 have hgl:=(Array.getElem?_eq_some_iff.1 hg).1
 obtain ⟨i0,hi0,hz0,hz1,hz2⟩:=info_parts Tryz.infoE
 obtain ⟨w1,hw1⟩:∃ w1,w1=w.alloc (.cells #[.int .i64 0,.int .u64 0,.int .u64 0,.slice none 0 0] 65):=⟨_,rfl⟩
 have q1:=heap_alloc_new w (.cells #[.int .i64 0,.int .u64 0,.int .u64 0,.slice none 0 0] 65)
 have b1:=below_new w (.cells #[.int .i64 0,.int .u64 0,.int .u64 0,.slice none 0 0] 65)
 have s1:w1.heap.size=w.heap.size+1:=by rw [hw1]; simp
 rw [← hw1] at q1 b1
 have hg1:=(b1.block g hgl).trans hg
 have hRd1:Rd w1 B 1 Ab nb (bs l):=hRd.keep fun p hp=>World.cell?_of_block (b1.block p.block (by omega))
 have KR:=tkind_any (m:Int) Ab nb cb l s bad B g w1 hg1 hRd1 hB hb8 hnc
 have hgr1:=grow_below b1 (some g)
 obtain ⟨kd,r,hks⟩:∃ kd r,kindT l s=(kd,r):=⟨_,_,rfl⟩
 have hkl:=kindT_lt hb8 s
 rw [hks] at hkl
 have HKS:=Lib_hid hks
 have HE:Hid (∀ W,w.grownBy W (some g)→Rd W B 1 Ab nb (bs l)):=fun W h=>hRd.keep fun p hp=>World.cell?_of_block (h.block p.block (by omega) (fun e=>by injection e with e; omega))
 have HIH:Hid (∀ d',d'<d→TakeOK Ab nb cb l d'):=fun d' h=>IHd d' h (by omega)
 obtain ⟨dp,hdp⟩:∃ dp,dp=9 - d:=⟨_,rfl⟩
 have HDP:=Lib_hid hdp
 have hdp9:dp≤9:=by omega
 have HBAD:Hid (∀ (W:World) (m':Nat),W.heap[g]? = some (TkrC (m':Int) Ab nb cb (r:Int) bad)→W.heap[w.heap.size]? = some (.cells #[.int .i64 0,.int .u64 0,.int .u64 0,.slice none 0 0] 65 (0,0))→w.grownBy W (some g)→m'≤m+1→(bad=false→∀ t q,tkS l d s=some (t,q)→32<m+t.count)→
  TdEnd Ab nb cb l d m s bad g w (.returned (.agg #[.int .i64 0,.int .u64 0,.int .u64 0,.slice none 0 0])) (put4 (W.setCell ⟨g,3,none⟩ (.bool true)) w.heap.size (.int .i64 0) (.int .u64 0) (.int .u64 0) (.slice none 0 0))∧
  (put4 (W.setCell ⟨g,3,none⟩ (.bool true)) w.heap.size (.int .i64 0) (.int .u64 0) (.int .u64 0) (.slice none 0 0)).heap[w.heap.size]? = some (.cells #[.int .i64 0,.int .u64 0,.int .u64 0,.slice none 0 0] 65 (0,0))):=by
  intro W m' h1 h2 h3 h4 h5
  have hbx:(W.setCell ⟨g,3,none⟩ (.bool true)).heap[g]? = some (TkrC (m':Int) Ab nb cb (r:Int) true):=Joins.block_setCell (i:=3) h1 _
  have hz:(W.setCell ⟨g,3,none⟩ (.bool true)).heap[w.heap.size]? = _:=(Below.heap_setCell W ⟨g,3,none⟩ _ w.heap.size (by show w.heap.size≠g; omega)).trans h2
  refine ⟨⟨0,0,0,0,0,m',none,r,true,rfl,grown_put4 (h3.trans (grow_set W g 3 _)) (Nat.le_refl _) _ _ _ _,(put4_else _ (by omega) _ _ _ _).trans hbx,TdR.none0 h4 hm h5⟩,put4_row hz _ _ _ _⟩
 have hgN:(∀ t q,(kd=0∨7<kd)→tkS l d s=some (t,q)→32<m+t.count):=by
  intro t q h0 h
  rw [tkS_no hks h0] at h; cases h
 have HGN:=Lib_hid hgN
 rw [← hdp]
 subst hw1
 clear hg1 b1 hRd hRd1 IHd hks hdp hgN
 go_enter Tryz.func250,Tryz.ntmps250
 go_wp2_with fail
 refine KR.mono ?_
 rintro e w2 ⟨rfl,hgr2,hg2⟩
 rw [HKS.out] at hg2 ⊢
 have hgrA:=hgr1.trans hgr2
 have q2:=(hgr2.block w.heap.size (by omega) (fun e=>by injection e with e; omega)).trans q1
 have s2:w.heap.size+1≤w2.heap.size:=by have:=hgr2.size; omega
 clear KR q1 hgr1 hgr2 s1
 obtain ⟨w3,hw3⟩:∃ w3,w3=w2.alloc (.cells #[.int .i64 (kd:Int),.int .u64 0,.int .u64 0,.slice none 0 0] 65):=⟨_,rfl⟩
 have q33:=heap_alloc_new w2 (.cells #[.int .i64 (kd:Int),.int .u64 0,.int .u64 0,.slice none 0 0] 65)
 have b3:=below_new w2 (.cells #[.int .i64 (kd:Int),.int .u64 0,.int .u64 0,.slice none 0 0] 65)
 rw [← hw3] at q33 b3
 have s3:w3.heap.size=w2.heap.size+1:=by rw [hw3]; simp
 have KO:=kindof_any (kd:Int) w3
 have hg3:=(b3.block g (Array.getElem?_eq_some_iff.1 hg2).1).trans hg2
 have q23:=(b3.block w.heap.size (by omega)).trans q2
 have hgrB:=hgrA.trans (grow_below b3 (some g))
 have c0:=cell_of_row w3 _ 0 _ _ _ q33
 simp at c0
 subst hw3
 clear hg2 q2 b3 hgrA
 by_cases hk0:kd=0∨7<kd
 · have HK0:=Lib_hid hk0
   have hik:isKind (kd:Int)=false:=by unfold isKind; simp; omega
   clear KO
   have KO:Calls Tryz.prog 191 #[.int .i64 (kd:Int)] (w2.alloc (.cells #[.int .i64 (kd:Int),.int .u64 0,.int .u64 0,.slice none 0 0] 65)) fun e w'=>e=.returned (.tuple #[.agg #[.string ⟨#[]⟩,.int .i64 0,.nilFunc,.nilFunc,.nilFunc],.bool false])∧Below (w2.alloc (.cells #[.int .i64 (kd:Int),.int .u64 0,.int .u64 0,.slice none 0 0] 65)).heap.size (w2.alloc (.cells #[.int .i64 (kd:Int),.int .u64 0,.int .u64 0,.slice none 0 0] 65)) w':=by
    have:=kindof_any (kd:Int) (w2.alloc (.cells #[.int .i64 (kd:Int),.int .u64 0,.int .u64 0,.slice none 0 0] 65))
    rw [show kindAt (kd:Int)=.agg #[.string ⟨#[]⟩,.int .i64 0,.nilFunc,.nilFunc,.nilFunc] by simp [kindAt,hik],hik] at this
    exact this
   clear hk0 hik
   go_wp2_with fail
   refine KO.mono ?_
   rintro e w4 ⟨rfl,hb4⟩
   have hg4:=(hb4.block g (Array.getElem?_eq_some_iff.1 hg3).1).trans hg3
   have q24:=(hb4.block w.heap.size (Array.getElem?_eq_some_iff.1 q23).1).trans q23
   have hgr4:=hgrB.trans (grow_below hb4 (some g))
   have b5:=below_new w4 (.cells #[.string ⟨#[]⟩,.int .i64 0,.nilFunc,.nilFunc,.nilFunc] 268)
   have hg5:=(b5.block g (Array.getElem?_eq_some_iff.1 hg4).1).trans hg4
   have q25:=(b5.block w.heap.size (Array.getElem?_eq_some_iff.1 q24).1).trans q24
   have hgr5:=hgr4.trans (grow_below b5 (some g))
   clear KO hb4 hg3 q23 hgrB q33 c0 hg4 q24 hgr4 b5
   go_upto_region 3 with (fail)
   generalize w4.alloc (.cells #[.string ⟨#[]⟩,.int .i64 0,.nilFunc,.nilFunc,.nilFunc] 268)=w5 at *
   have c2:=cell_of_row w5 _ 3 _ _ _ hg5
   have z2:=frozen_of_row w5 g 3 _ _ hg5
   have hqz:(w5.setCell ⟨g,3,none⟩ (.bool true)).heap[w.heap.size]? = _:=(Below.heap_setCell w5 ⟨g,3,none⟩ _ w.heap.size (by show w.heap.size≠g; omega)).trans q25
   have e0:=cell_of_row _ _ 0 _ _ _ hqz
   have e1:=cell_of_row _ _ 1 _ _ _ hqz
   have e2:=cell_of_row _ _ 2 _ _ _ hqz
   have e3:=cell_of_row _ _ 3 _ _ _ hqz
   have y0:=frozen_of_row _ w.heap.size 0 _ _ hqz
   have y1:=frozen_of_row _ w.heap.size 1 _ _ hqz
   have y2:=frozen_of_row _ w.heap.size 2 _ _ hqz
   have y3:=frozen_of_row _ w.heap.size 3 _ _ hqz
   simp at c2 e0 e1 e2 e3
   have HX:=Lib_hid (HBAD.out w5 m hg5 q25 hgr5 (by omega) (fun _ t q h=>HGN.out t q HK0.out h))
   clear HBAD hg5 q25 hqz
   go_wp2_with fail
   show bodyPost _ _ _ _ _ (put4 (w5.setCell ⟨g,3,none⟩ (.bool true)) w.heap.size (.int .i64 0) (.int .u64 0) (.int .u64 0) (.slice none 0 0))
   have HX2:=HX.out
   clear HX e0 e1 e2 e3 y0 y1 y2 y3 c2 z2
   generalize put4 (w5.setCell ⟨g,3,none⟩ (.bool true)) w.heap.size (.int .i64 0) (.int .u64 0) (.int .u64 0) (.slice none 0 0)=W2 at *
   exact tnode_ret HX2.2 HX2.1 _ rfl
 · have hkl7:kd≤7:=by omega
   have hk:1≤(kd:Int)∧(kd:Int)≤7:=by omega
   have hcn:=call_num hk
   have NA:=Lib_hid (fun g wx=>nums_any (kd:Int) hk g wx)
   rw [kindAt_eq hk,show isKind (kd:Int)=true by unfold isKind; simp; omega] at KO
   have HPN:Hid (partN (kd:Int)=if kd=5 then 1 else if 6≤kd then 2 else 0):=by
    unfold partN Hid
    have:kd=1∨kd=2∨kd=3∨kd=4∨kd=5∨kd=6∨kd=7:=by omega
    rcases this with rfl | rfl | rfl | rfl | rfl | rfl | rfl <;> decide
   generalize partN (kd:Int)=pn at *
   generalize wordA (kd:Int)=wd at *
   generalize numF (kd:Int)=f1 at *
   generalize fitF (kd:Int)=f2 at *
   generalize askF (kd:Int)=f3 at *
   have HK:=Lib_hid (And.intro (show 1≤kd by omega) hkl7)
   clear hk hk0 hkl7
   go_wp2_with fail
   refine KO.mono ?_
   rintro e w4 ⟨rfl,hb4⟩
   have hg4:=(hb4.block g (Array.getElem?_eq_some_iff.1 hg3).1).trans hg3
   have q24:=(hb4.block w.heap.size (Array.getElem?_eq_some_iff.1 q23).1).trans q23
   have p4:=(hb4.block w2.heap.size (Array.getElem?_eq_some_iff.1 q33).1).trans q33
   have hgr4:=hgrB.trans (grow_below hb4 (some g))
   have b5:=below_new w4 (.cells #[.string ⟨wd⟩,.int .i64 (pn:Nat),.func (.func f1) #[] #[],.func (.func f2) #[] #[],.func (.func f3) #[] #[]] 268)
   have k5:=heap_alloc_new w4 (.cells #[.string ⟨wd⟩,.int .i64 (pn:Nat),.func (.func f1) #[] #[],.func (.func f2) #[] #[],.func (.func f3) #[] #[]] 268)
   have hg5:=(b5.block g (Array.getElem?_eq_some_iff.1 hg4).1).trans hg4
   have q25:=(b5.block w.heap.size (Array.getElem?_eq_some_iff.1 q24).1).trans q24
   have p5:=(b5.block w2.heap.size (Array.getElem?_eq_some_iff.1 p4).1).trans p4
   have hgr5:=hgr4.trans (grow_below b5 (some g))
   have s4:w2.heap.size<w4.heap.size:=(Array.getElem?_eq_some_iff.1 p4).1
   clear KO hb4 hg3 q23 hgrB q33 c0 hg4 q24 hgr4 b5 p4 s3
   go_upto_region 3 with (fail)
   generalize w4.alloc (.cells #[.string ⟨wd⟩,.int .i64 (pn:Nat),.func (.func f1) #[] #[],.func (.func f2) #[] #[],.func (.func f3) #[] #[]] 268)=w5 at *
   have EN:=enter_any g 0 m dp w5 (cell_of_row w5 _ 0 _ _ _ hg5) (frozen_of_row w5 g 0 _ _ hg5) (by omega) (by omega)
   go_wp2_with fail
   refine EN.mono ?_
   rintro e w6 ⟨rfl,hw6⟩
   have hg6:w6.heap[g]? = some (TkrC ((m+1:Nat):Int) Ab nb cb (r:Int) bad):=by rw [← hw6]; exact Joins.block_setCell (i:=0) hg5 _
   have hgr56:w5.grownBy w6 (some g):=by rw [← hw6]; exact grow_set w5 g 0 _
   have hk6:∀ i o,i≠g→w5.heap[i]? = some o→w6.heap[i]? = some o:=fun i o hne h=>(hgr56.block i (Array.getElem?_eq_some_iff.1 h).1 (fun e=>by injection e with e; omega)).trans h
   have q26:=hk6 _ _ (by omega) q25
   have p6:=hk6 _ _ (by omega) p5
   have k6:=hk6 _ _ (by omega) k5
   have hgr6:=hgr5.trans hgr56
   clear EN hw6 hg5 q25 p5 k5 hk6 hgr5 hgr56
   by_cases hen:dp≤8∧m+1≤32
   · have hE1:decide (dp≤8∧m+1≤32)=true:=by simp [hen]
     rw [hE1]
     clear hE1
     obtain ⟨hd8,hm32⟩:=hen
     obtain ⟨d',rfl⟩:∃ d',d=d'+1:=⟨d - 1,by have:=HDP.out; omega⟩
     have hdp1:((9 - d':Nat):Int)=(dp:Int)+1:=by have:=HDP.out; omega
     have d2:=cell_of_row w6 _ 2 _ _ _ k6
     simp at d2
     clear HBAD HGN
     go_wp2_with fail
     refine (NA.out w2.heap.size w6).mono ?_
     rintro e w7 ⟨AN,rfl,hb7,hptr⟩
     have s67:=hb7.size
     have s6:w4.heap.size<w6.heap.size:=(Array.getElem?_eq_some_iff.1 k6).1
     have hg7:=(hb7.block g (Array.getElem?_eq_some_iff.1 hg6).1).trans hg6
     have q27:=(hb7.block w.heap.size (Array.getElem?_eq_some_iff.1 q26).1).trans q26
     have p7:=(hb7.block w2.heap.size (Array.getElem?_eq_some_iff.1 p6).1).trans p6
     have k7:=(hb7.block w4.heap.size (Array.getElem?_eq_some_iff.1 k6).1).trans k6
     have hgr7:=hgr6.trans (grow_below hb7 (some g))
     have HP:=Lib_hid hptr
     have HQ7:=Lib_hid (And.intro q27 k7)
     have HN2:=Lib_hid (numN_le (kd:Int))
     obtain ⟨N,hN⟩:∃ N,N=numN (kd:Int):=⟨_,rfl⟩
     have HNN:=Lib_hid hN
     rw [← hN] at HP HN2 ⊢
     clear hg6 q26 p6 k6 hgr6 hb7 hptr d2 q27 k7 hN
     go_wp2
     go_loopw [38] (fun z W=>∃ (j a b:Nat) (ss:Nat) (bb:Bool),z=.int .i64 j∧j≤N∧W.heap[g]? = some (TkrC ((m+1:Nat):Int) Ab nb cb (ss:Int) bb)∧W.heap[w2.heap.size]? = some (.cells #[.int .i64 (kd:Int),.int .u64 (a:Int),.int .u64 (b:Int),.slice none 0 0] 65 (0,0))∧w.grownBy W (some g)∧Hid (NmT l r bad j a b ss bb)∧
      Hid (∀ i,w.heap.size≤i→i<w7.heap.size→i≠w2.heap.size→W.heap[i]? = w7.heap[i]?)∧w7.heap.size≤W.heap.size) (fun z _=>N - (intOf z).toNat)
     case atStart=>exact ⟨0,0,0,r,bad,rfl,Nat.zero_le _,hg7,p7,hgr7,Lib_hid (NmT.zero l r bad),Lib_hid (fun _ _ _ _=>rfl),Nat.le_refl _⟩
     case round=>
      clear hg7 p7 hgr7
      obtain ⟨j,a,b,ss,bb,rfl,hj,hgW,pW,hgrW,hI,hkp,hsW⟩:=hrel
      rename World=>W
      by_cases hlt:j<N
      · obtain ⟨pb,rfl,hp1,hp2,hp3⟩:=HP.out j hlt
        have d0:=(World.cell?_of_block (a:=⟨pb,j,none⟩) (hkp.out pb (by omega) hp2 (by omega))).trans hp3
        have hj2:j=0∨j=1:=by have:=HN2.out; omega
        have NB:=tnumber_any ((m+1:Nat):Int) Ab nb cb l ss bb B g W hgW (HE.out W hgrW) hb8 hnc
        clear hp3
        rcases hj2 with rfl | rfl
        · go_wp2_with fail
          refine NB.mono ?_
          rintro e w8 hne
          obtain ⟨hgr8,v,s2,b2,rfl,hg8,hR⟩:W.grownBy w8 (some g)∧∃ (v s2:Nat) (b2:Bool),e=.returned (.int .u64 ((v:Nat):Int))∧w8.heap[g]? = some (TkrC ((m+1:Nat):Int) Ab nb cb (s2:Int) b2)∧NumTR l ss bb v s2 b2:=by
           obtain ⟨h1,⟨v,r',h2,h3,h4⟩ | ⟨h2,h3,h4⟩⟩:=hne
           · exact ⟨h1,v,r',bb,h3,h4,.inl ⟨h2,rfl⟩⟩
           · exact ⟨h1,0,ss,true,h3,h4,.inr ⟨h2,rfl,rfl,rfl⟩⟩
          have p8:=(hgr8.block w2.heap.size (by omega) (fun e=>by injection e with e; omega)).trans pW
          have c1:=cell_of_row w8 _ 1 _ _ _ p8
          have z1:=frozen_of_row w8 w2.heap.size 1 _ _ p8
          simp at c1
          have HX:=Lib_hid (And.intro ((hI.out.next hb8 hR).1 rfl) (And.intro (Joins.block_setCell (i:=1) p8 (.int .u64 (v:Int))) (And.intro ((Below.heap_setCell w8 ⟨w2.heap.size,1,none⟩ (.int .u64 (v:Int)) g (by show g≠w2.heap.size; omega)).trans hg8) (And.intro (grown_aside (i:=1) (hgrW.trans hgr8) (by omega:w.heap.size≤w2.heap.size) (.int .u64 (v:Int)))
           (show (∀ i,w.heap.size≤i→i<w7.heap.size→i≠w2.heap.size→(w8.setCell ⟨w2.heap.size,1,none⟩ (.int .u64 (v:Int))).heap[i]? = w7.heap[i]?)∧w7.heap.size≤(w8.setCell ⟨w2.heap.size,1,none⟩ (.int .u64 (v:Int))).heap.size from
            ⟨fun i h1 h2 h3=>(Below.heap_setCell w8 ⟨w2.heap.size,1,none⟩ _ i h3).trans ((hgr8.block i (by omega) (fun e=>by injection e with e; omega)).trans (hkp.out i h1 h2 h3)),by have:=hgr8.size; simp [World.setCell]; omega⟩)))))
          clear NB hne hgW pW hgrW hI hkp hgr8 hg8 p8 hR d0
          go_wp2_with fail
          go_roundw
          case rel=>exact ⟨1,v,b,s2,b2,by go_num,by omega,HX.out.2.2.1,HX.out.2.1,HX.out.2.2.2.1,Lib_hid HX.out.1,Lib_hid HX.out.2.2.2.2.1,HX.out.2.2.2.2.2⟩
          case measure=>simp [intOf]; omega
        · go_wp2_with fail
          refine NB.mono ?_
          rintro e w8 hne
          obtain ⟨hgr8,v,s2,b2,rfl,hg8,hR⟩:W.grownBy w8 (some g)∧∃ (v s2:Nat) (b2:Bool),e=.returned (.int .u64 ((v:Nat):Int))∧w8.heap[g]? = some (TkrC ((m+1:Nat):Int) Ab nb cb (s2:Int) b2)∧NumTR l ss bb v s2 b2:=by
           obtain ⟨h1,⟨v,r',h2,h3,h4⟩ | ⟨h2,h3,h4⟩⟩:=hne
           · exact ⟨h1,v,r',bb,h3,h4,.inl ⟨h2,rfl⟩⟩
           · exact ⟨h1,0,ss,true,h3,h4,.inr ⟨h2,rfl,rfl,rfl⟩⟩
          have p8:=(hgr8.block w2.heap.size (by omega) (fun e=>by injection e with e; omega)).trans pW
          have c1:=cell_of_row w8 _ 2 _ _ _ p8
          have z1:=frozen_of_row w8 w2.heap.size 2 _ _ p8
          simp at c1
          have HX:=Lib_hid (And.intro ((hI.out.next hb8 hR).2 rfl) (And.intro (Joins.block_setCell (i:=2) p8 (.int .u64 (v:Int))) (And.intro ((Below.heap_setCell w8 ⟨w2.heap.size,2,none⟩ (.int .u64 (v:Int)) g (by show g≠w2.heap.size; omega)).trans hg8) (And.intro (grown_aside (i:=2) (hgrW.trans hgr8) (by omega:w.heap.size≤w2.heap.size) (.int .u64 (v:Int)))
           (show (∀ i,w.heap.size≤i→i<w7.heap.size→i≠w2.heap.size→(w8.setCell ⟨w2.heap.size,2,none⟩ (.int .u64 (v:Int))).heap[i]? = w7.heap[i]?)∧w7.heap.size≤(w8.setCell ⟨w2.heap.size,2,none⟩ (.int .u64 (v:Int))).heap.size from
            ⟨fun i h1 h2 h3=>(Below.heap_setCell w8 ⟨w2.heap.size,2,none⟩ _ i h3).trans ((hgr8.block i (by omega) (fun e=>by injection e with e; omega)).trans (hkp.out i h1 h2 h3)),by have:=hgr8.size; simp [World.setCell]; omega⟩)))))
          clear NB hne hgW pW hgrW hI hkp hgr8 hg8 p8 hR d0
          go_wp2_with fail
          go_roundw
          case rel=>exact ⟨2,a,v,s2,b2,by go_num,by omega,HX.out.2.2.1,HX.out.2.1,HX.out.2.2.2.1,Lib_hid HX.out.1,Lib_hid HX.out.2.2.2.2.1,HX.out.2.2.2.2.2⟩
          case measure=>simp [intOf]; omega
      · obtain rfl:j=N:=by omega
        have q2W:=(hkp.out w.heap.size (Nat.le_refl _) (by omega) (by omega)).trans HQ7.out.1
        have kW:=(hkp.out w4.heap.size (by omega) (by omega) (by omega)).trans HQ7.out.2
        have k1:=cell_of_row W _ 1 _ _ _ kW
        simp at k1
        have HI:=hI
        rw [HNN.out] at HI
        have h64:=Lib_hid (And.intro hI.out.a64 hI.out.b64)
        have hk1:=HK.out.1
        have hk7:=HK.out.2
        have MN:=tmany_any kd pn HPN.out ((m+1:Nat):Int) Ab nb cb l ss bb B g W hgW (HE.out W hgrW) hb8 hnc
        clear hI hkp kW
        go_wp2_with fail
        refine MN.mono ?_
        rintro e w8 ⟨hgr8,L,s2,b2,rfl,hL64,hg8,hcn⟩
        have p8:=(hgr8.block w2.heap.size (by omega) (fun e=>by injection e with e; omega)).trans pW
        have q28:=(hgr8.block w.heap.size (by omega) (fun e=>by injection e with e; omega)).trans q2W
        have s8:=hgr8.size
        have hgr08:=hgrW.trans hgr8
        have HPT:=Lib_hid (PtT.start (d:=d') (B2:=w8.heap.size) HKS.out hk1 hk7 hm32 HI.out hcn w8)
        clear MN hgr8 hgrW hgW pW q2W HI hcn k1
        go_wp2
        go_loopw [10] (fun z W=>∃ (left mm ss:Nat) (bb:Bool) (A:Option Addr) (n c:Nat),z=.int .u64 left∧left<18446744073709551616∧mm≤101∧W.heap[g]? = some (TkrC (mm:Int) Ab nb cb (ss:Int) bb)∧W.heap[w2.heap.size]? = some (.cells #[.int .i64 (kd:Int),.int .u64 (a:Int),.int .u64 (b:Int),.slice A n c] 65 (0,0))∧
         W.heap[w.heap.size]? = some (.cells #[.int .i64 0,.int .u64 0,.int .u64 0,.slice none 0 0] 65 (0,0))∧w.grownBy W (some g)∧w8.heap.size≤W.heap.size∧Hid (PtT l d' m s bad w8.heap.size kd a b W (.slice A n c) mm left ss bb)) (fun z _=>(intOf z).toNat)
        case atStart=>exact ⟨L,m+1,s2,b2,none,0,0,rfl,hL64,by omega,hg8,p8,q28,hgr08,Nat.le_refl _,HPT⟩
        case round=>
         clear hg8 p8 q28 hgr08 HPT hL64
         obtain ⟨left,mm,ss3,b3,A,n,c,rfl,hl64,hmm,hgV,pV,qV,hgrV,hsV,HI⟩:=hrel
         rename World=>V0
         have b0:=cell_of_row V0 _ 3 _ _ _ hgV
         simp at b0
         by_cases hgo:0<left∧b3=false
         · obtain ⟨hlp,rfl⟩:=hgo
           obtain ⟨lf,rfl⟩:∃ lf,left=lf+1:=⟨left - 1,by omega⟩
           have hlp':(0:Int)<((lf+1:Nat):Int):=by omega
           have hbf:bad=false:=by
            cases hb:bad with
            | false=>rfl
            | true=>have:=(HI.out.bd hb).1; cases this
           obtain ⟨hm34,hus⟩:=HI.out.ok hbf
           obtain ⟨us,hT,-,hmu,h32,hspec⟩:∃ us,TRow 65 w8.heap.size (.slice A n c) us V0∧false=false∧mm=m+1+T.countL (V.absL us)∧mm≤32∧tkS l (d'+1) s=(manyT (tkS l d') (lf+1) ss3).map fun x=>(.node kd a b (V.absL us ++ x.1),x.2):=by
            rcases hus with h | ⟨-,h⟩
            · exact h
            · cases h
           have hun:us.length=n:=by
            obtain ⟨A2,c2,e,_⟩:=own_form hT.own
            injection e with _ e
            exact e.symm
           have hn32:n≤32:=by have:=length_le_countL (V.absL us); rw [absL_length] at this; omega
           have hm1:n+1≤maxLen:=by unfold maxLen; omega
           have hm2:(n+1) * 48≤140737488355328:=by omega
           have CH:Hid (∀ W',Below V0.heap.size V0 W'→Calls Tryz.prog 250 #[.pointer (some ⟨g,0,none⟩),.int .i64 ((dp:Int)+1)] W' fun e w5=>∃ (k2:Int) (a2 b2 n2 c2 m':Nat) (A2:Option Addr) (s':Nat) (bad':Bool),e=.returned (.agg #[.int .i64 k2,.int .u64 (a2:Int),.int .u64 (b2:Int),.slice A2 n2 c2])∧
            (∀ k,k<V0.heap.size→k≠g→w5.heap[k]? = V0.heap[k]?)∧w5.ownsRow w8.heap.size 65 4 (.slice A n c) n (vCells us)∧w.grownBy w5 (some g)∧W'.heap.size≤w5.heap.size∧V0.heap.size≤W'.heap.size∧w5.heap[g]? = some (TkrC (m':Int) Ab nb cb (s':Int) bad')∧TdR l d' mm ss3 false W' w5 k2 a2 b2 n2 c2 m' A2 s' bad'∧
            (∀ k o,V0.heap.size≤k→W'.heap[k]? = some o→w5.heap[k]? = some o)∧w5.cell? ⟨w2.heap.size,3,none⟩=some (.slice A n c)∧w2.heap.size<w5.heap.size):=fun W' hW'=>by
            have hgW':=(hW'.block g (by omega)).trans hgV
            have hgr':=hgrV.trans (grow_below hW' (some g))
            have:=HIH.out d' (by omega) mm ss3 false B g W' hgW' (HE.out W' hgr') hB (fun _=>h32) (by omega)
            rw [hdp1] at this
            refine this.mono ?_
            rintro e w5 ⟨k2,a2,b2,n2,c2,m',A2,s',bad',rfl,hgr5,hg5,hR⟩
            have hsz:=hW'.size
            have hky:∀ k,k<V0.heap.size→k≠g→w5.heap[k]? = V0.heap[k]?:=fun k hk hne=>(hgr5.block k (by omega) (fun e=>by injection e with e; omega)).trans (hW'.block k hk)
            refine ⟨k2,a2,b2,n2,c2,m',A2,s',bad',rfl,hky,?_,hgr'.trans hgr5,hgr5.size,hsz,hg5,hR,fun k o h1 h2=>(hgr5.block k (Array.getElem?_eq_some_iff.1 h2).1 (fun e=>by injection e with e; omega)).trans h2,(cell_of_row w5 _ 3 _ _ _ ((hky w2.heap.size (by omega) (by omega)).trans pV)).trans rfl,by have:=hgr5.size; omega⟩
            have h1:=hT.own
            rw [hun] at h1
            exact own_keep h1 fun j hj=>hky j (own_lt h1 j hj) (fun e=>by have:=own_ge h1 j hj; omega)
           have p3:=cell_of_row V0 _ 3 _ _ _ pV
           simp at p3
           have hwd:IntKind.i64.wrap ((dp:Int)+1)=(dp:Int)+1:=IntWalk.i64_in _ (by omega)
           have hnl:(n:Int)<(n:Int)+1:=by omega
           have gl0:w2.heap.size<V0.heap.size:=by omega
           have p3a:(V0.alloc (.cells #[.int .i64 0,.int .u64 0,.int .u64 0,.slice none 0 0] 65)).cell? ⟨w2.heap.size,3,none⟩=some (.slice A n c):=(World.cell?_of_block (a:=⟨w2.heap.size,3,none⟩) (heap_alloc_old V0 _ gl0)).trans p3
           have hone:∀ u∈[Value.int .i64 0,.int .u64 0,.int .u64 0,.slice none 0 0],u.oneCell'=true:=by
            intro u hu
            simp only [List.mem_cons,List.not_mem_nil,or_false] at hu
            rcases hu with rfl | rfl | rfl | rfl <;> rfl
           have FA:Hid (∀ (w5 wp w6:World) (g6 c6:Nat),V0.heap.size≤w5.heap.size→(∀ k,k<V0.heap.size→k≠g→w5.heap[k]? = V0.heap[k]?)→Below w5.heap.size w5 wp→Stp wp w6 (.slice A n c) (.slice (some ⟨g6,0,none⟩) (n+1) c6)→w6.ownsRow w8.heap.size 65 4 (.slice (some ⟨g6,0,none⟩) (n+1) c6) (n+1) (vCells us ++ [.int .i64 0,.int .u64 0,.int .u64 0,.slice none 0 0])→
            w6.cell? ⟨g6,n * 4,none⟩=some (.int .i64 0)∧w6.cell? ⟨g6,n * 4+1,none⟩=some (.int .u64 0)∧w6.cell? ⟨g6,n * 4+2,none⟩=some (.int .u64 0)∧w6.cell? ⟨g6,n * 4+3,none⟩=some (.slice none 0 0)∧
            w6.frozen? ⟨g6,n * 4,none⟩=false∧w6.frozen? ⟨g6,n * 4+1,none⟩=false∧w6.frozen? ⟨g6,n * 4+2,none⟩=false∧w6.frozen? ⟨g6,n * 4+3,none⟩=false∧
            w6.cell? ⟨w2.heap.size,3,none⟩=some (.slice A n c)∧w6.frozen? ⟨w2.heap.size,3,none⟩=false):=by
            intro w5 wp w6 g6 c6 h1 h2 hbp h3 h4
            have hbs:=hbp.size
            have hxl:(vCells us).length=n * 4:=by rw [vCells_length,hun]
            have hg:∀ j x,j<4→[Value.int .i64 0,.int .u64 0,.int .u64 0,.slice none 0 0][j]? = some x→w6.cell? ⟨g6,n * 4+j,none⟩=some x:=by
             intro j x hj hx
             rw [h4.cellAt (n * 4+j) (by omega),List.getElem?_append_right (by omega),hxl,Nat.add_sub_cancel_left]
             exact hx
            have hq:w6.heap[w2.heap.size]? = V0.heap[w2.heap.size]?:=by
             refine (h3.grow.block _ (by omega) (fun e=>?_)).trans ((hbp.block _ (by omega)).trans (h2 _ (by omega) (by omega)))
             have:=own_ge hT.own _ e.symm
             omega
            rw [pV] at hq
            exact ⟨hg 0 _ (by omega) rfl,hg 1 _ (by omega) rfl,hg 2 _ (by omega) rfl,hg 3 _ (by omega) rfl,h4.frozenAt _,h4.frozenAt _,h4.frozenAt _,h4.frozenAt _,(cell_of_row w6 _ 3 _ _ _ hq).trans rfl,frozen_of_row w6 _ 3 _ _ hq⟩
           have FIN:Hid (∀ (W' w5 wp w6 w7:World) (g6 c6:Nat) (k2:Int) (a2 b2 n2 c2 m':Nat) (A2:Option Addr) (s':Nat) (bad':Bool),V0.heap.size≤W'.heap.size→W'.heap.size≤w5.heap.size→(∀ k,k<V0.heap.size→k≠g→w5.heap[k]? = V0.heap[k]?)→w.grownBy w5 (some g)→w5.heap[g]? = some (TkrC (m':Int) Ab nb cb (s':Int) bad')→
            TdR l d' mm ss3 false W' w5 k2 a2 b2 n2 c2 m' A2 s' bad'→Below w5.heap.size w5 wp→Stp wp w6 (.slice A n c) (.slice (some ⟨g6,0,none⟩) (n+1) c6)→w6.ownsRow w8.heap.size 65 4 (.slice (some ⟨g6,0,none⟩) (n+1) c6) (n+1) (vCells us ++ [.int .i64 0,.int .u64 0,.int .u64 0,.slice none 0 0])→
            (w7=(((((w6).setCell ⟨g6,n * 4,none⟩ (.int .i64 k2)).setCell ⟨g6,n * 4+1,none⟩ (.int .u64 (a2:Int))).setCell ⟨g6,n * 4+2,none⟩ (.int .u64 (b2:Int))).setCell ⟨g6,n * 4+3,none⟩ (.slice A2 n2 c2)).setCell ⟨w2.heap.size,3,none⟩ (.slice (some ⟨g6,0,none⟩) (n+1) c6)∨w7=((((w6.setCell ⟨w2.heap.size,3,none⟩ (.slice (some ⟨g6,0,none⟩) (n+1) c6)).setCell ⟨g6,n * 4,none⟩ (.int .i64 k2)).setCell ⟨g6,n * 4+1,none⟩ (.int .u64 (a2:Int))).setCell ⟨g6,n * 4+2,none⟩ (.int .u64 (b2:Int))).setCell ⟨g6,n * 4+3,none⟩ (.slice A2 n2 c2))→
            TdLp Ab nb cb l d' m s bad g w2.heap.size w8.heap.size kd a b w lf m' s' bad' (some ⟨g6,0,none⟩) (n+1) c6 w7):=by
            intro W' w5 wp w6 w7 g6 c6 k2 a2 b2 n2 c2 m' A2 s' bad' h1 h2 hky hgr5 hg5 hR hbp hst ho h7
            have hbs:=hbp.size
            have hss:=hst.grow.size
            have hg6B:w8.heap.size≤g6:=own_ge ho g6 rfl
            have hrb:∀ k,(Value.slice A n c).ownBlock=some k→w8.heap.size≤k∧k<V0.heap.size:=fun k hk=>⟨own_ge hT.own k hk,own_lt hT.own k hk⟩
            have h65:∀ k,k<w5.heap.size→(Value.slice A n c).ownBlock≠some k→w6.heap[k]? = w5.heap[k]?:=fun k hk hne=>(hst.grow.block k (by omega) (fun e=>hne e.symm)).trans (hbp.block k hk)
            have hnb:∀ k,k<w8.heap.size→(Value.slice A n c).ownBlock≠some k:=fun k hk e=>by have:=(hrb k e).1; omega
            have hP6:w6.heap[w2.heap.size]? = _:=(h65 _ (by omega) (hnb _ (by omega))).trans ((hky _ (by omega) (by omega)).trans pV)
            obtain ⟨f1,f2,f3,f4,f5,f6,f7⟩:=forms7 (by omega) hg6B ho hP6 h7
            have hg7:w7.heap[g]? = some (TkrC (m':Int) Ab nb cb (s':Int) bad'):=(f1 g (by omega) (by omega)).trans ((h65 g (by omega) (hnb g (by omega))).trans hg5)
            have hq7:w7.heap[w.heap.size]? = _:=(f1 _ (by omega) (by omega)).trans ((h65 _ (by omega) (hnb _ (by omega))).trans ((hky _ (by omega) (by omega)).trans qV))
            have hgr7:w.grownBy w7 (some g):=by
             refine ⟨f3.trans (hst.grow.os.trans (hbp.os.trans hgr5.os)),f4.trans (hst.grow.tape.trans (hbp.tape.trans hgr5.tape)),f5.trans (hst.grow.output.trans (hbp.output.trans hgr5.output)),by have:=hgr5.size; omega,fun i hi hne=>?_⟩
             have:=hgr5.size
             exact (f1 i (by omega) (by omega)).trans ((h65 i (by omega) (hnb i (by omega))).trans (hgr5.block i hi hne))
            refine ⟨by have:=(hR.ok rfl).1; omega,hg7,f6,hq7,hgr7,by omega,HI.out.step hR fun us' us2 hT' hl2 hL2 hS2=>?_⟩
            have e1:us'.length=n:=by
             obtain ⟨A2,c2,e,_⟩:=own_form hT'.own
             injection e with _ e
             exact e.symm
            have e2:vCells us'=vCells us:=by
             have h1:=hT'.own
             have h2:=hT.own
             rw [e1] at h1
             rw [hun] at h2
             exact own_uniq h1 h2
            refine TRow.push2 (hT'.keep (by omega) fun k h1 h2=>hky k h2 (by omega)) (by omega:w8.heap.size≤W'.heap.size) hL2 hS2 (fun k hk=>by have:=own_lt hT'.own k hk; omega) ?_ (by omega) (fun k h1 h2 h3=>?_) ?_
            · rcases hst.row with e | ⟨k,e,hk⟩
              · exact .inl e
              · exact .inr ⟨k,e,by omega⟩
            · refine (f1 k (fun e=>?_) (by omega)).trans (h65 k h2 h3)
              rcases hst.row with e' | ⟨k',e',hk'⟩
              · rw [e] at h3
                exact h3 e'.symm
              · have e2:g6=k':=by injection e'
                omega
            · rw [e1,e2]
              have hv:vCells [V.node k2 a2 b2 A2 c2 us2]=[.int .i64 k2,.int .u64 (a2:Int),.int .u64 (b2:Int),.slice A2 n2 c2]:=by rw [← hl2]; rfl
              rw [hv]
              exact f7
           clear hus hspec hmu hm34 hn32
           go_wp2
           go_region_law
            ((first
              | ((refine step_app rfl (.tmp 63) (.tmp 69) 63 rfl w8.heap.size 65 i0 (.agg #[.int .i64 0,.int .u64 0,.int .u64 0,.slice none 0 0]) 4 48 Tryz.underlying63 hi0 hz0 hz1 hz2 rfl (by decide) (.slice A n c) n (vCells us) rfl (own_below hown5 (below_new w5 _) (own_lt hown5)) (w5.heap.size+1) (some ⟨w5.heap.size,0,none⟩) 1 1 [.int .i64 0,.int .u64 0,.int .u64 0,.slice none 0 0] rfl (raw_row (heap_alloc_new w5 _)) hone hm1 hm2 (by simp; omega) ?_); intro v6 w6 ho6 hs6; obtain ⟨g6,c6,rfl,hg6B,hg6l⟩:=ho6.form (by omega); obtain ⟨z0,z1,z2,z3,y0,y1,y2,y3,p6,f6⟩:=FA.out w5 _ _ g6 c6 (by omega) hky (by first | with_reducible exact Below.refl _ _ | exact below_new w5 _) hs6 ho6)
              | ((refine step_app rfl (.tmp 63) (.tmp 69) 63 rfl w8.heap.size 65 i0 (.agg #[.int .i64 0,.int .u64 0,.int .u64 0,.slice none 0 0]) 4 48 Tryz.underlying63 hi0 hz0 hz1 hz2 rfl (by decide) (.slice A n c) n (vCells us) rfl hown5 (V0.heap.size+1) (some ⟨V0.heap.size,0,none⟩) 1 1 [.int .i64 0,.int .u64 0,.int .u64 0,.slice none 0 0] rfl (raw_row (hkp5 V0.heap.size _ (Nat.le_refl _) (heap_alloc_new V0 _))) hone hm1 hm2 (by omega) ?_); intro v6 w6 ho6 hs6; obtain ⟨g6,c6,rfl,hg6B,hg6l⟩:=ho6.form (by omega); obtain ⟨z0,z1,z2,z3,y0,y1,y2,y3,p6,f6⟩:=FA.out w5 _ _ g6 c6 (by omega) hky (by first | with_reducible exact Below.refl _ _ | exact below_new w5 _) hs6 ho6)
              | (go_simp; refine (CH.out _ (by first | exact below_like4 (Below.refl _ _) rfl rfl rfl rfl | exact below_like4 (below_new V0 _) rfl rfl rfl rfl)).mono ?_; rintro e w5 ⟨k2,a2,b2,n2,c2,m',A2,s',bad',rfl,hky,hown5,hgr5,hs5,hs5',hg5,hR,hkp5,p5,gl5⟩; dsimp only)))
           all_goals
            refine exit_gen (FIN.out _ w5 _ w6 _ g6 c6 k2 a2 b2 n2 c2 m' A2 s' bad' hs5' hs5 hky hgr5 hg5 hR (by first | with_reducible exact Below.refl _ _ | exact below_new w5 _) hs6 ho6 (by first | exact .inl (by with_reducible rfl) | exact .inr (by with_reducible rfl))) ?_
            rintro w7 ⟨h7m,h7g,h7p,h7q,h7r,h7s,h7t⟩
            clear z0 z1 z2 z3 y0 y1 y2 y3 p6 f6 ho6 hs6 hR hkp5 p5 gl5 hg5 hgr5 hky hs5 hs5' hown5 CH FA FIN p3 p3a gl0 hone hT HI hgV pV qV hgrV
            have hwl:IntKind.u64.wrap ((lf:Int)+1 - 1)=(lf:Int):=by rw [show (lf:Int)+1 - 1=(lf:Int) by omega]; exact IntWalk.u64_in _ (by omega)
            go_wp2
            go_roundw
            case rel=>exact ⟨lf,m',s',bad',_,n+1,c6,by go_num,by omega,h7m,h7g,h7p,h7q,h7r,h7s,Lib_hid h7t⟩
            case measure=>simp [intOf]
         · have hz:b3=false→left=0:=fun h=>by
            rcases Nat.eq_zero_or_pos left with h0 | h0
            · exact h0
            · exact absurd ⟨h0,h⟩ hgo
           have HX:Hid (TdEnd Ab nb cb l (d'+1) m s bad g w (.returned (.agg #[.int .i64 (kd:Int),.int .u64 (a:Int),.int .u64 (b:Int),.slice A n c])) (put4 V0 w.heap.size (.int .i64 (kd:Int)) (.int .u64 (a:Int)) (.int .u64 (b:Int)) (.slice A n c))∧
            (put4 V0 w.heap.size (.int .i64 (kd:Int)) (.int .u64 (a:Int)) (.int .u64 (b:Int)) (.slice A n c)).heap[w.heap.size]? = some (.cells #[.int .i64 (kd:Int),.int .u64 (a:Int),.int .u64 (b:Int),.slice A n c] 65 (0,0))):=
            ⟨⟨kd,a,b,n,c,mm,A,ss3,b3,rfl,grown_put4 hgrV (Nat.le_refl _) _ _ _ _,(put4_else _ (by omega) _ _ _ _).trans hgV,HI.out.fin hz hk7 h64.out.1 h64.out.2 (by omega) (by rw [put4_size]; exact Nat.le_refl _) (fun i h1 _=>put4_else _ (by omega) _ _ _ _)⟩,put4_row qV _ _ _ _⟩
           have e0:=cell_of_row V0 _ 0 _ _ _ pV
           have e1:=cell_of_row V0 _ 1 _ _ _ pV
           have e2:=cell_of_row V0 _ 2 _ _ _ pV
           have e3:=cell_of_row V0 _ 3 _ _ _ pV
           have f0:=cell_of_row V0 _ 0 _ _ _ qV
           have f1:=cell_of_row V0 _ 1 _ _ _ qV
           have f2:=cell_of_row V0 _ 2 _ _ _ qV
           have f3:=cell_of_row V0 _ 3 _ _ _ qV
           have y0:=frozen_of_row V0 w.heap.size 0 _ _ qV
           have y1:=frozen_of_row V0 w.heap.size 1 _ _ qV
           have y2:=frozen_of_row V0 w.heap.size 2 _ _ qV
           have y3:=frozen_of_row V0 w.heap.size 3 _ _ qV
           simp at e0 e1 e2 e3 f0 f1 f2 f3
           clear hgo
           by_cases h0:left=0
           · subst h0
             clear hgV pV qV hgrV HI hz
             go_wp2_with fail
             show bodyPost _ _ _ _ _ (put4 V0 w.heap.size (.int .i64 (kd:Int)) (.int .u64 (a:Int)) (.int .u64 (b:Int)) (.slice A n c))
             have HX2:=HX.out
             clear HX e0 e1 e2 e3 f0 f1 f2 f3 y0 y1 y2 y3
             generalize put4 V0 w.heap.size (.int .i64 (kd:Int)) (.int .u64 (a:Int)) (.int .u64 (b:Int)) (.slice A n c)=W2 at *
             exact tnode_ret HX2.2 HX2.1 _ rfl
           · have hb3:b3=true:=by
              cases hb:b3 with
              | true=>rfl
              | false=>exact absurd (hz hb) h0
             subst hb3
             have hlp:(0:Int)<(left:Int):=by omega
             clear hgV pV qV hgrV HI hz
             go_wp2_with fail
             show bodyPost _ _ _ _ _ (put4 V0 w.heap.size (.int .i64 (kd:Int)) (.int .u64 (a:Int)) (.int .u64 (b:Int)) (.slice A n c))
             have HX2:=HX.out
             clear HX e0 e1 e2 e3 f0 f1 f2 f3 y0 y1 y2 y3
             generalize put4 V0 w.heap.size (.int .i64 (kd:Int)) (.int .u64 (a:Int)) (.int .u64 (b:Int)) (.slice A n c)=W2 at *
             exact tnode_ret HX2.2 HX2.1 _ rfl
   · have hE1:decide (dp≤8∧m+1≤32)=false:=by simp only [decide_eq_false_iff_not]; exact hen
     rw [hE1]
     have hno:bad=false→∀ t q,tkS l d s=some (t,q)→32<m+t.count:=by
      intro hb t q h
      have:=hm hb
      have:=HDP.out
      have hcp:=count_pos t
      by_cases h8:dp≤8
      · have:¬ m+1≤32:=fun h=>hen ⟨h8,h⟩
        omega
      · have hd0:d=0:=by omega
        subst hd0
        cases h
     clear hE1 hen
     have c2:=cell_of_row w6 _ 3 _ _ _ hg6
     have z2:=frozen_of_row w6 g 3 _ _ hg6
     have hqz:(w6.setCell ⟨g,3,none⟩ (.bool true)).heap[w.heap.size]? = _:=(Below.heap_setCell w6 ⟨g,3,none⟩ _ w.heap.size (by show w.heap.size≠g; omega)).trans q26
     have e0:=cell_of_row _ _ 0 _ _ _ hqz
     have e1:=cell_of_row _ _ 1 _ _ _ hqz
     have e2:=cell_of_row _ _ 2 _ _ _ hqz
     have e3:=cell_of_row _ _ 3 _ _ _ hqz
     have y0:=frozen_of_row _ w.heap.size 0 _ _ hqz
     have y1:=frozen_of_row _ w.heap.size 1 _ _ hqz
     have y2:=frozen_of_row _ w.heap.size 2 _ _ hqz
     have y3:=frozen_of_row _ w.heap.size 3 _ _ hqz
     simp at c2 e0 e1 e2 e3
     have HX:=Lib_hid (HBAD.out w6 (m+1) hg6 q26 hgr6 (by omega) hno)
     clear HBAD hg6 q26 hqz
     go_wp2_with fail
     show bodyPost _ _ _ _ _ (put4 (w6.setCell ⟨g,3,none⟩ (.bool true)) w.heap.size (.int .i64 0) (.int .u64 0) (.int .u64 0) (.slice none 0 0))
     have HX2:=HX.out
     clear HX e0 e1 e2 e3 y0 y1 y2 y3 c2 z2
     generalize put4 (w6.setCell ⟨g,3,none⟩ (.bool true)) w.heap.size (.int .i64 0) (.int .u64 0) (.int .u64 0) (.slice none 0 0)=W2 at *
     exact tnode_ret HX2.2 HX2.1 _ rfl
end Go.Proofs.YtinmoknbgnngcaaGreatDoor
