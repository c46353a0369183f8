/-
  Layer 6: Lines, the program's. (Out of gen_wzd.py.)
-/
import Derived.Test.YtinmoknbgnngcaaGreatDoorZwWrite
import Derived.Test.YtinmoknbgnngcaaGreatDoorZwWzc
import Derived.Maps.OwnIn
import Derived.Sort.CutIn
import Derived.Test.YtinmoknbgnngcaaGreatDoorZwTqk
import Derived.Test.YtinmoknbgnngcaaGreatDoorZwTrw
import Derived.Deep.RegionHeld3
namespace Go.Proofs.YtinmoknbgnngcaaGreatDoor
open Go Go.RowKit Go.Shelf
set_option linter.unusedVariables false
attribute [local go_sem] Oper.semAt_some
def totL (s:List UInt8):List Rc×Nat×Nat:=goL (lnsL s) 0 []
def LnsEnd (s:List UInt8) (w:World) (e:Ending) (w':World):Prop:=
 ∃ (A:Option Addr) (c:Nat) (rs:List Rv),e=.returned (.tuple #[.slice A rs.length c,.int .i64 ((totL s).2.1:Int),.int .i64 ((totL s).2.2:Int)])∧rs.map Rv.abs=(totL s).1∧OwnRecs w.heap.size w' (.slice A rs.length c) rs∧Below w.heap.size w w'
def RowsL (B:Nat) (w:World) (v:Value) (rs:List Rv):Prop:=(rs=[]∧v=.slice none 0 0)∨OwnRecs B w v rs
theorem RowsL.own {B:Nat} {w:World} {v:Value} {rs:List Rv} (h:RowsL B w v rs) (hs:B≤w.heap.size):OwnRecs B w v rs:=by
 rcases h with ⟨rfl,rfl⟩ | h
 · exact OwnRecs.nil w B hs
 · exact h
theorem RowsL.grown {B b:Nat} {w w':World} {v:Value} {rs:List Rv} (h:RowsL B w v rs) (hg:w.grownBy w' (some b)) (hb:b<B):RowsL B w' v rs:=h.imp id fun h=>h.grown hg hb
structure LnI (w:World) (s t:List UInt8) (W:World):Prop where
 ex:∃ (v:Value) (n:Nat) (rs:List Rv),W.heap[w.heap.size+3]? = some (.cells #[v] 32 (0,0))∧W.heap[w.heap.size+4]? = some (.cells #[.int .i64 (n:Int)] 3 (0,0))∧RowsL (w.heap.size+8) W v rs∧
  goL (lnsL t) n (rs.map Rv.abs)=totL s∧n+t.length≤s.length∧rs.length≤n
 x2:W.heap[w.heap.size]? = some (.cells #[.slice none 0 0] 32 (0,0))
 x3:W.heap[w.heap.size+1]? = some (.cells #[.int .i64 0] 3 (0,0))
 x4:W.heap[w.heap.size+2]? = some (.cells #[.int .i64 0] 43 (0,0))
 box:W.heap[w.heap.size+5]? = some (.cells #[.string ⟨t.toArray⟩] 9 (0,0))
 b:Below w.heap.size w W
theorem LnI.abide {w X Y:World} {s t:List UInt8} {r:Nat} (h:LnI w s t X) (h1:w.heap.size+6≤r) (h2:r<w.heap.size+8) (hg:X.grownBy Y (some r)):LnI w s t Y:=by
 obtain ⟨⟨v,n,rs,e1,e2,e3,e4⟩,x2,x3,x4,bx,hb⟩:=h
 have key:∀ {k:Nat} {o:Obj},k<w.heap.size+6→X.heap[k]? = some o→Y.heap[k]? = some o:=fun hk hx=>(hg.block _ (Array.getElem?_eq_some_iff.1 hx).1 (fun e=>by injection e with e; omega)).trans hx
 exact ⟨⟨v,n,rs,key (by omega) e1,key (by omega) e2,e3.grown hg h2,e4⟩,key (by omega) x2,key (by omega) x3,key (by omega) x4,key (by omega) bx,hb.grown hg hb.size (fun k hk=>by injection hk with hk; omega)⟩
def LnM (w:World) (t:List UInt8) (v:Value) (n:Nat) (rs:List Rv) (W:World):Prop:=
 W.heap[w.heap.size+3]? = some (.cells #[v] 32 (0,0))∧W.heap[w.heap.size+4]? = some (.cells #[.int .i64 ((n:Int)+1)] 3 (0,0))∧W.heap[w.heap.size]? = some (.cells #[.slice none 0 0] 32 (0,0))∧W.heap[w.heap.size+1]? = some (.cells #[.int .i64 0] 3 (0,0))∧
  W.heap[w.heap.size+2]? = some (.cells #[.int .i64 0] 43 (0,0))∧W.heap[w.heap.size+5]? = some (.cells #[.string ⟨t.toArray⟩] 9 (0,0))∧OwnRecs (w.heap.size+8) W v rs∧Below w.heap.size w W
theorem LnM.below {w W W':World} {t:List UInt8} {v:Value} {n:Nat} {rs:List Rv} (h:LnM w t v n rs W) (hb:Below W.heap.size W W'):LnM w t v n rs W':=by
 obtain ⟨m1,m2,m3,m4,m5,m6,m7,m8⟩:=h
 have key:∀ {k:Nat} {o:Obj},W.heap[k]? = some o→W'.heap[k]? = some o:=fun hx=>(hb.block _ (Array.getElem?_eq_some_iff.1 hx).1).trans hx
 exact ⟨key m1,key m2,key m3,key m4,key m5,key m6,m7.below hb,m8.trans (hb.mono m8.size)⟩
theorem KeepL.of_below {H:Nat} {X Y:World} (hb:Below X.heap.size X Y):KeepL H X Y:=⟨hb.size,fun k hk _=>hb.block k hk⟩
theorem KeepL.grown {H:Nat} {X Y:World} {o:Option Nat} (hg:X.grownBy Y o) (h:∀ k,o=some k→k≠H∧k≠H+1):KeepL H X Y:=
 ⟨hg.size,fun k hk hx=>hg.block k hk (fun e=>by have:=h k e.symm; omega)⟩
theorem KeepL.set {H:Nat} (X:World) (g i:Nat) (v:Value) (h1:g≠H) (h2:g≠H+1):KeepL H X (X.setCell ⟨g,i,none⟩ v):=KeepL.grown (grown_setL X g i v) fun k e=>by injection e with e; subst e; exact ⟨h1,h2⟩
theorem rv_lit (w:World) (r:Rv) (T:TypeId):∀ j u,(rvCells [r])[j]? = some u→(w.alloc (.cells r.arr T)).cell? ((⟨w.heap.size,0,none⟩:Addr).add j)=some u:=by
 intro j u hu
 rw [show (⟨w.heap.size,0,none⟩:Addr).add j=⟨w.heap.size,j,none⟩ by unfold Addr.add; split <;> simp_all,cell_of_row _ _ j _ _ _ (heap_alloc_new w _),← hu]
 simp [rvCells]
structure LnX (w:World) (s:List UInt8) (W:World):Prop where
 ex:∃ n z:Nat,totL s=([],n,z)∧W.heap[w.heap.size]? = some (.cells #[.slice none 0 0] 32 (0,0))∧W.heap[w.heap.size+1]? = some (.cells #[.int .i64 (n:Int)] 3 (0,0))∧W.heap[w.heap.size+2]? = some (.cells #[.int .i64 (z:Int)] 43 (0,0))
 b:Below w.heap.size w W
theorem LnX.abide {w X Y:World} {s:List UInt8} {r:Nat} (h:LnX w s X) (h1:w.heap.size+6≤r) (hg:X.grownBy Y (some r)):LnX w s Y:=by
 obtain ⟨⟨n,z,e1,e2,e3,e4⟩,hb⟩:=h
 have key:∀ {k:Nat} {o:Obj},k<w.heap.size+6→X.heap[k]? = some o→Y.heap[k]? = some o:=fun hk hx=>(hg.block _ (Array.getElem?_eq_some_iff.1 hx).1 (fun e=>by injection e with e; omega)).trans hx
 exact ⟨⟨n,z,e1,key (by omega) e2,key (by omega) e3,key (by omega) e4⟩,hb.grown hg hb.size (fun k hk=>by injection hk with hk; omega)⟩
def LnIx (w:World) (s:List UInt8) (cc:Code) (t:List UInt8) (W:World):Prop:=cc=.ret∧LnX w s W
theorem lines_fin {s:List UInt8} {w X:World} {H:Nat} (v:Value) (rs:List Rv) (n z:Nat) (hH:w.heap.size+6≤H) (hH2:H<w.heap.size+8) (d2:X.heap[w.heap.size]? = some (.cells #[v] 32 (0,0))) (d3:X.heap[w.heap.size+1]? = some (.cells #[.int .i64 (n:Int)] 3 (0,0)))
 (d4:X.heap[w.heap.size+2]? = some (.cells #[.int .i64 (z:Int)] 43 (0,0))) (hP:RowsL (w.heap.size+8) X v rs) (hb:Below w.heap.size w X) (hs:totL s=(rs.map Rv.abs,n,z)) (hD:X.heap[H]? = some (.deferred (some []))) :
 ∀ tmps:Array Value,tmps.getD 2 undef=.pointer (some ⟨w.heap.size,0,none⟩)→tmps.getD 3 undef=.pointer (some ⟨w.heap.size+1,0,none⟩)→tmps.getD 4 undef=.pointer (some ⟨w.heap.size+2,0,none⟩)→
  bodyPostM Fence.wide 3 Tryz.prog Tryz.f25 (LnsEnd s w) .ret {tmps:=tmps,defers:=[{target:=.collected H,args:=#[]}]} X:=by
 intro tmps t2 t3 t4
 rw [Array.getD_eq_getD_getElem?] at t2 t3 t4
 have hg:=grownBy_putObj' X H (.deferred none)
 have c2:=cell_of_row _ w.heap.size 0 _ _ _ ((hg.block w.heap.size (Array.getElem?_eq_some_iff.1 d2).1 (fun e=>by injection e with e; omega)).trans d2)
 have c3:=cell_of_row _ (w.heap.size+1) 0 _ _ _ ((hg.block (w.heap.size+1) (Array.getElem?_eq_some_iff.1 d3).1 (fun e=>by injection e with e; omega)).trans d3)
 have c4:=cell_of_row _ (w.heap.size+2) 0 _ _ _ ((hg.block (w.heap.size+2) (Array.getElem?_eq_some_iff.1 d4).1 (fun e=>by injection e with e; omega)).trans d4)
 have hP1:=hP.grown hg hH2
 have hb2:=hb.grown hg hb.size (fun k hk=>by injection hk with hk; omega)
 refine ⟨by simp,.inl ⟨_,_,rfl,run_takeDeferred hD,?_⟩⟩
 generalize X.putObj H (.deferred none)=Y at *
 have hP2:OwnRecs w.heap.size Y v rs:=by
  rcases hP1 with ⟨rfl,rfl⟩ | h
  · exact OwnRecs.nil Y w.heap.size hb2.size
  · exact ⟨own_base h.row fun k hk=>by have:=own_ge h.row k hk; omega,Lain.down (by omega) h.lain⟩
 obtain ⟨Av,cv,rfl,_⟩:=own_form hP2.row
 exact ⟨.tuple #[.slice Av rs.length cv,.int .i64 (n:Int),.int .i64 (z:Int)],by simp [results,Tryz.results25,go_sem,t2,t3,t4,c2,c3,c4],⟨Av,cv,rs,by rw [hs],by rw [hs],hP2,hb2⟩⟩
set_option maxRecDepth 100000 in
set_option maxHeartbeats 6400000 in
theorem wlines_any (B:Nat) (s:List UInt8) (w:World) (hE:EnvM B w) (hB:B≤w.heap.size) (hl:s.length≤60000) :
 Calls Tryz.prog 25 #[.string ⟨s.toArray⟩] w (LnsEnd s w):=by
 obtain ⟨i0,hi,hz0,hz1,hz2⟩:=info_parts Tryz.infoRR
 obtain ⟨W5,hW5⟩:∃ W5,W5=((((w.alloc (.cells #[.slice none 0 0] 32)).alloc (.cells #[.int .i64 0] 3)).alloc (.cells #[.int .i64 0] 43)).alloc (.cells #[.slice none 0 0] 32)).alloc (.cells #[.int .i64 0] 3):=⟨_,rfl⟩
 have hs5:W5.heap.size=w.heap.size+5:=by rw [hW5]; simp
 have hb5:Below w.heap.size w W5:=by rw [hW5]; exact ((((below_new w _).alloc (by simp) _).alloc (by simp <;> omega) _).alloc (by simp <;> omega) _).alloc (by simp <;> omega) _
 have y2:W5.heap[w.heap.size]? = some (.cells #[.slice none 0 0] 32 (0,0)):=by rw [hW5]; exact (heap_alloc_old _ _ (by simp <;> omega)).trans ((heap_alloc_old _ _ (by simp <;> omega)).trans ((heap_alloc_old _ _ (by simp <;> omega)).trans ((heap_alloc_old _ _ (by simp)).trans (heap_alloc_new w _))))
 have y3:W5.heap[w.heap.size+1]? = some (.cells #[.int .i64 0] 3 (0,0)):=by
  rw [hW5]; refine (heap_alloc_old _ _ (by simp <;> omega)).trans ((heap_alloc_old _ _ (by simp <;> omega)).trans ((heap_alloc_old _ _ (by simp)).trans ?_))
  have:=heap_alloc_new (w.alloc (.cells #[.slice none 0 0] 32)) (.cells #[.int .i64 0] 3)
  rwa [World.size_alloc] at this
 have y4:W5.heap[w.heap.size+2]? = some (.cells #[.int .i64 0] 43 (0,0)):=by
  rw [hW5]; refine (heap_alloc_old _ _ (by simp <;> omega)).trans ((heap_alloc_old _ _ (by simp)).trans ?_)
  have:=heap_alloc_new ((w.alloc (.cells #[.slice none 0 0] 32)).alloc (.cells #[.int .i64 0] 3)) (.cells #[.int .i64 0] 43)
  rwa [World.size_alloc,World.size_alloc] at this
 have y5:W5.heap[w.heap.size+3]? = some (.cells #[.slice none 0 0] 32 (0,0)):=by
  rw [hW5]; refine (heap_alloc_old _ _ (by simp)).trans ?_
  have:=heap_alloc_new (((w.alloc (.cells #[.slice none 0 0] 32)).alloc (.cells #[.int .i64 0] 3)).alloc (.cells #[.int .i64 0] 43)) (.cells #[.slice none 0 0] 32)
  rwa [World.size_alloc,World.size_alloc,World.size_alloc] at this
 have y6:W5.heap[w.heap.size+4]? = some (.cells #[.int .i64 0] 3 (0,0)):=by
  rw [hW5]
  have:=heap_alloc_new ((((w.alloc (.cells #[.slice none 0 0] 32)).alloc (.cells #[.int .i64 0] 3)).alloc (.cells #[.int .i64 0] 43)).alloc (.cells #[.slice none 0 0] 32)) (.cells #[.int .i64 0] 3)
  rwa [World.size_alloc,World.size_alloc,World.size_alloc,World.size_alloc] at this
 have ALL:=slines_any s W5
 have PL:Hid (∀ (x:List UInt8) (W:World),x.length≤60000→Below w.heap.size w W→Calls Tryz.prog 49 #[.string ⟨x.toArray⟩] W fun e w'=>∃ (k2:Int) (t2 x2 wn2 nn2 v2:Nat) (p2:V) (A2:Option Addr) (c2:Nat) (es2:List En),e=.returned (.tuple #[.agg #[.int .i64 k2,.int .u64 (t2:Int),.int .u64 (x2:Int),.int .u64 (wn2:Int),.int .u64 (nn2:Int),.int .u64 (v2:Int),.int .i64 p2.kind,.int .u64 (p2.a:Int),.int .u64 (p2.b:Int),.slice p2.addr p2.parts.length p2.cap,.slice A2 es2.length c2],.int .i64 ((ansR (lineB x)).2:Int)])∧(Rv.abs ⟨k2,t2,x2,wn2,nn2,v2,p2,A2,c2,es2⟩)=(ansR (lineB x)).1∧RecIn w' W.heap.size w'.heap.size ⟨k2,t2,x2,wn2,nn2,v2,p2,A2,c2,es2⟩∧Below W.heap.size W w'):=fun x W hx hW=>
  (pline_any B x W (hE.under (hW.mono (Nat.le_refl _)) hB) (Nat.le_trans hB hW.size) (by omega)).mono fun e w' ⟨⟨k2,t2,x2,wn2,nn2,v2,p2,A2,c2,es2⟩,h1,h2,h3,h4,h5,h6⟩=>⟨k2,t2,x2,wn2,nn2,v2,p2,A2,c2,es2,h1,h2,RecIn.of h3 h4 h5 h6.size,h6⟩
 refine (callsIn_wide (n:=3)).1 (callsIn_of_wp_marks Tryz.func25 rfl trivial ?_ rfl)
 simp only [Tryz.ntmps25,List.size_toArray,List.length_cons,List.length_nil,Nat.reduceAdd,Nat.reduceSub,Array.replicate_succ,Array.replicate_zero,List.push_toArray,List.append_toArray,List.nil_append,List.cons_append]
 have HW5:=Lib_hid hW5
 clear hW5
 gi_wp2
 rw [← HW5.out]
 refine ⟨trivial,(callsIn_wide.2 ALL).mono ?_⟩
 rintro e w1 ⟨rfl,rfl⟩
 have hb6:=below_new W5 (.cells #[.string ⟨s.toArray⟩] 9)
 have k7:=heap_alloc_new W5 (.cells #[.string ⟨s.toArray⟩] 9)
 have hs6:(W5.alloc (.cells #[.string ⟨s.toArray⟩] 9)).heap.size=w.heap.size+6:=by rw [World.size_alloc,hs5]
 rw [hs5] at k7
 have k2:=(hb6.block w.heap.size (by omega)).trans y2
 have k3:=(hb6.block (w.heap.size+1) (by omega)).trans y3
 have k4:=(hb6.block (w.heap.size+2) (by omega)).trans y4
 have k5:=(hb6.block (w.heap.size+3) (by omega)).trans y5
 have k6:=(hb6.block (w.heap.size+4) (by omega)).trans y6
 have hb:=hb5.trans (hb6.mono hb5.size)
 clear ALL y2 y3 y4 y5 y6 hb5 hb6 HW5
 rw [hs5]
 generalize W5.alloc (.cells #[.string ⟨s.toArray⟩] 9)=w1 at *
 clear hs5
 gi_wp2
 refine range_lines (m:=3) (b:=w.heap.size+5) (s:=s) rfl rfl (by omega) (by omega) (LnI w s) (LnIx w s) (fun t X h=>h.box) (fun t X Y r h g1 g2 hg=>h.abide (by omega) (by omega) hg) (fun cc t X Y r h g1 g2 hg=>⟨h.1,h.2.abide (by omega) hg⟩)
  ⟨⟨.slice none 0 0,0,[],k5,k6,.inl ⟨rfl,rfl⟩,rfl,by omega,Nat.le_refl _⟩,k2,k3,k4,k7,hb⟩ ?round ?done ?stop
 case round=>
  intro t W0 W hI0 ht hts hgr hbx hsz
  obtain ⟨⟨v,n,rs,e5,e6,eR,eG,eN,eM⟩,e2,e3,e4,-,hbW⟩:=hI0
  have hgs:=hgr.size
  have hbl:=behind_lt (c:=10) ht
  have hal:=ahead_le 10 t
  have hbW2:Below w.heap.size w W:=hbW.grown hgr hbW.size (fun k hk=>by injection hk with hk; omega)
  have kk:∀ {k:Nat} {o:Obj},k<w.heap.size+5→W0.heap[k]? = some o→W.heap[k]? = some o:=fun hk hx=>(hgr.block _ (Array.getElem?_eq_some_iff.1 hx).1 (fun e=>by injection e with e; omega)).trans hx
  have eR2:=(eR.grown hgr (by omega)).own (by omega)
  have hst:lnsL t=ahead 10 t :: lnsL (behind 10 t):=lnsL_step ht
  rw [hst] at eG
  gi_wp2
  refine ⟨KeepL.refl _ _,fun w₂ hg2=>?_⟩
  have hz2:=hg2.size
  have k2:∀ {k:Nat} {o:Obj},k<w.heap.size+6→W.heap[k]? = some o→w₂.heap[k]? = some o:=fun hk hx=>(hg2.block _ (Array.getElem?_eq_some_iff.1 hx).1 (fun e=>by injection e with e; omega)).trans hx
  have f5:=k2 (by omega) (kk (by omega) e5)
  have f6:=k2 (by omega) (kk (by omega) e6)
  have f2:=k2 (by omega) (kk (by omega) e2)
  have f3:=k2 (by omega) (kk (by omega) e3)
  have f4:=k2 (by omega) (kk (by omega) e4)
  have fb:=k2 (by omega) hbx
  have hR2:OwnRecs (w.heap.size+8) w₂ v rs:=eR2.grown hg2 (by omega)
  have hb2:Below w.heap.size w w₂:=hbW2.grown hg2 (by omega) (fun k hk=>by injection hk with hk; omega)
  obtain ⟨Av,cv,rfl,hcap⟩:=own_form hR2.row
  have hM3:LnM w (behind 10 t) (.slice Av rs.length cv) n rs (w₂.setCell ⟨w.heap.size+1+1+1+1,0,none⟩ (.int .i64 ((n:Int)+1))):=by
   have hg:=grown_setL w₂ (w.heap.size+4) 0 (.int .i64 ((n:Int)+1))
   have k3:∀ {k:Nat} {o:Obj},k≠w.heap.size+4→w₂.heap[k]? = some o→(w₂.setCell ⟨w.heap.size+1+1+1+1,0,none⟩ (.int .i64 ((n:Int)+1))).heap[k]? = some o:=fun hk hx=>(hg.block _ (Array.getElem?_eq_some_iff.1 hx).1 (fun e=>hk (by injection e))).trans hx
   exact ⟨k3 (by omega) f5,Joins.block_setCell f6 _,k3 (by omega) f2,k3 (by omega) f3,k3 (by omega) f4,k3 (by omega) fb,hR2.grown hg (by omega),hb2.grown hg hb2.size (fun k hk=>by injection hk with hk; omega)⟩
  have HM3:=Lib_hid hM3
  have HK3:Hid (KeepL w1.heap.size w₂ (w₂.setCell ⟨w.heap.size+1+1+1+1,0,none⟩ (.int .i64 ((n:Int)+1)))):=KeepL.set _ _ _ _ (by omega) (by omega)
  have HZ3:Hid (w.heap.size+8≤(w₂.setCell ⟨w.heap.size+1+1+1+1,0,none⟩ (.int .i64 ((n:Int)+1))).heap.size):=by unfold Hid; rw [World.size_setCell]; omega
  have cN:w₂.cell? ⟨w.heap.size+1+1+1+1,0,none⟩=some (.int .i64 (n:Int)):=cell_of_row w₂ _ 0 _ _ _ f6
  have zN:=frozen_of_row w₂ (w.heap.size+1+1+1+1) 0 _ _ f6
  have hwn:IntKind.i64.wrap ((n:Int)+1)=(n:Int)+1:=by rw [show (n:Int)+1=((n+1:Nat):Int) by omega]; exact IntWalk.i64_in _ (by omega)
  have TSF:∀ X,Calls Tryz.prog 48 #[.string ⟨(pieceL t).toArray⟩,.string ⟨#[10]⟩] X fun e w'=>e=.returned (.string ⟨(ahead 10 t).toArray⟩)∧w'=X:=fun X=>by
   have h:=Tryz.strings_TrimSuffix ⟨(pieceL t).toArray⟩ ⟨#[10]⟩ X (by have:=piece_le t; show (pieceL t).length≤_; omega)
   rw [show (⟨(pieceL t).toArray⟩:ByteArray).data.toList=pieceL t from rfl,show (⟨#[10]⟩:ByteArray).data.toList=[10] from rfl,trim_piece] at h
   exact h
  have HEG:=Lib_hid eG
  have HBL:Hid ((behind 10 t).length<t.length∧t.length≤s.length∧n+t.length≤s.length∧rs.length≤n):=⟨hbl,hts,eN,eM⟩
  clear e5 e6 e2 e3 e4 hbW hbx hgr hsz kk eR eR2 hbW2 k2 f5 f6 f2 f3 f4 fb hR2 hb2 hM3 eG hst hgs hz2 hbl eN eM hts
  gi_wp2
  refine ⟨trivial,(callsIn_wide.2 (TSF _)).mono ?_⟩
  rintro e w3 ⟨rfl,rfl⟩
  clear cN zN TSF
  generalize (w₂.setCell ⟨w.heap.size+1+1+1+1,0,none⟩ (.int .i64 ((n:Int)+1)))=w3 at *
  generalize ahead 10 t=x at *
  by_cases hmu:Mute x
  · have hFIN:Hid (KeepL w1.heap.size w₂ w3∧LnI w s (behind 10 t) w3):=by
     obtain ⟨m1,m2,m3,m4,m5,m6,m7,m8⟩:=HM3.out
     refine ⟨HK3.out,⟨⟨_,n+1,rs,m1,m2,.inr m7,?_,by have:=HBL.out; omega,by have:=HBL.out; omega⟩,m3,m4,m5,m6,m8⟩⟩
     rw [← HEG.out,goL_mute hmu]
    clear HM3 HK3 HEG HBL
    cases x with
    | nil=>
     gi_wp2
     exact hFIN.out
    | cons c x=>
     have hc:c=35:=by
      rcases hmu with h | h
      · cases h
      · simpa using h
     subst hc
     have hix:=ix_str (35 :: x) 0 (by simp)
     have hne:((35 :: x:List UInt8) == [])=false:=by simp
     have h35:((((35 :: x:List UInt8)[0]'(by simp)).toNat:Nat):Int)=35:=rfl
     rw [h35] at hix
     have hl0:(0:Int)<(((35 :: x:List UInt8).length:Nat):Int):=by rw [List.length_cons]; omega
     gi_wp2
     exact hFIN.out
  · obtain ⟨c,x,rfl⟩:=List.exists_cons_of_ne_nil (fun e=>hmu (.inl e))
    have hc:c≠35:=fun e=>hmu (.inr (by rw [e]; rfl))
    have hne:((c :: x:List UInt8) == [])=false:=by simp
    have h35:(((((⟨(c :: x).toArray⟩:ByteArray)[0]'(by show 0<(c :: x).toArray.size; simp)).toNat:Nat):Int) == 35)=false:=by
     show ((c.toNat:Int) == 35)=false
     have:c.toNat≠35:=fun e=>hc (by rw [← UInt8.toNat_inj]; exact e)
     simp
     omega
    have hl0:(0:Int)<(((c :: x:List UInt8).length:Nat):Int):=by rw [List.length_cons]; omega
    have PC:=PL.out (c :: x) w3 (by have:=HBL.out; omega) HM3.out.2.2.2.2.2.2.2
    clear hal hc
    cases hlb:lineB (c :: x) with
    | none=>
     rw [hlb,show (ansR (none:Option Rc)).2=50 from rfl] at PC
     have HGO:Hid (totL s=([],n+1,50)):=by
      unfold Hid
      rw [← HEG.out,goL_none hmu hlb]
     clear hlb HEG PL hmu
     gi_wp2
     refine ⟨trivial,(callsIn_wide.2 PC).mono ?_⟩
     rintro e w4 ⟨k2,t2,x2,wn2,nn2,v2,p2,A2,c2,es2,rfl,-,-,hb4⟩
     have hb5:=below_new w4 (.cells #[.int .i64 k2,.int .u64 (t2:Int),.int .u64 (x2:Int),.int .u64 (wn2:Int),.int .u64 (nn2:Int),.int .u64 (v2:Int),.int .i64 p2.kind,.int .u64 (p2.a:Int),.int .u64 (p2.b:Int),.slice p2.addr p2.parts.length p2.cap,.slice A2 es2.length c2] 68)
     have hM5:=(HM3.out.below hb4).below hb5
     have hK5:KeepL w1.heap.size w₂ (w4.alloc (.cells #[.int .i64 k2,.int .u64 (t2:Int),.int .u64 (x2:Int),.int .u64 (wn2:Int),.int .u64 (nn2:Int),.int .u64 (v2:Int),.int .i64 p2.kind,.int .u64 (p2.a:Int),.int .u64 (p2.b:Int),.slice p2.addr p2.parts.length p2.cap,.slice A2 es2.length c2] 68)):=HK3.out.trans ((KeepL.of_below hb4).trans (KeepL.of_below hb5))
     have HZ5:Hid (w.heap.size+8≤(w4.alloc (.cells #[.int .i64 k2,.int .u64 (t2:Int),.int .u64 (x2:Int),.int .u64 (wn2:Int),.int .u64 (nn2:Int),.int .u64 (v2:Int),.int .i64 p2.kind,.int .u64 (p2.a:Int),.int .u64 (p2.b:Int),.slice p2.addr p2.parts.length p2.cap,.slice A2 es2.length c2] 68)).heap.size):=by unfold Hid; have:=HZ3.out; have:=hb4.size; have:=hb5.size; omega
     have HM5:=Lib_hid hM5
     have HK5:=Lib_hid hK5
     clear PC hb4 hb5 hM5 hK5 HM3 HK3 HZ3
     gi_upto_region 9 with (fail)
     generalize w4.alloc (.cells #[.int .i64 k2,.int .u64 (t2:Int),.int .u64 (x2:Int),.int .u64 (wn2:Int),.int .u64 (nn2:Int),.int .u64 (v2:Int),.int .i64 p2.kind,.int .u64 (p2.a:Int),.int .u64 (p2.b:Int),.slice p2.addr p2.parts.length p2.cap,.slice A2 es2.length c2] 68)=w5 at *
     obtain ⟨m1,m2,m3,m4,m5,m6,m7,m8⟩:=HM5.out
     have hFIN:Hid (KeepL w1.heap.size w₂ (((w5.setCell ⟨w.heap.size,0,none⟩ (.slice none 0 0)).setCell ⟨w.heap.size+1,0,none⟩ (.int .i64 ((n:Int)+1))).setCell ⟨w.heap.size+1+1,0,none⟩ (.int .i64 50)).drew∧LnIx w s .ret t (((w5.setCell ⟨w.heap.size,0,none⟩ (.slice none 0 0)).setCell ⟨w.heap.size+1,0,none⟩ (.int .i64 ((n:Int)+1))).setCell ⟨w.heap.size+1+1,0,none⟩ (.int .i64 50)).drew):=by
      have g1:=grown_setL w5 w.heap.size 0 (.slice none 0 0)
      have g2:=grown_setL (w5.setCell ⟨w.heap.size,0,none⟩ (.slice none 0 0)) (w.heap.size+1) 0 (.int .i64 ((n:Int)+1))
      have g3:=grown_setL ((w5.setCell ⟨w.heap.size,0,none⟩ (.slice none 0 0)).setCell ⟨w.heap.size+1,0,none⟩ (.int .i64 ((n:Int)+1))) (w.heap.size+2) 0 (.int .i64 50)
      have s1:=g1.size
      have s2:=g2.size
      have hz:=HZ5.out
      have b2:(w5.setCell ⟨w.heap.size,0,none⟩ (.slice none 0 0)).heap[w.heap.size]? = some (.cells #[.slice none 0 0] 32 (0,0)):=Joins.block_setCell m3 _
      have b3:=(g1.block (w.heap.size+1) (by omega) (fun e=>by injection e with e; omega)).trans m4
      have b4:=(g1.block (w.heap.size+2) (by omega) (fun e=>by injection e with e; omega)).trans m5
      have c2:=(g2.block w.heap.size (by omega) (fun e=>by injection e with e; omega)).trans b2
      have c3:((w5.setCell ⟨w.heap.size,0,none⟩ (.slice none 0 0)).setCell ⟨w.heap.size+1,0,none⟩ (.int .i64 ((n:Int)+1))).heap[w.heap.size+1]? = some (.cells #[.int .i64 ((n:Int)+1)] 3 (0,0)):=Joins.block_setCell b3 _
      have c4:=(g2.block (w.heap.size+2) (by omega) (fun e=>by injection e with e; omega)).trans b4
      have d2:=(g3.block w.heap.size (by omega) (fun e=>by injection e with e; omega)).trans c2
      have d3:=(g3.block (w.heap.size+1) (by omega) (fun e=>by injection e with e; omega)).trans c3
      have d4:(((w5.setCell ⟨w.heap.size,0,none⟩ (.slice none 0 0)).setCell ⟨w.heap.size+1,0,none⟩ (.int .i64 ((n:Int)+1))).setCell ⟨w.heap.size+1+1,0,none⟩ (.int .i64 50)).heap[w.heap.size+2]? = some (.cells #[.int .i64 50] 43 (0,0)):=Joins.block_setCell c4 _
      have hK:=HK5.out.trans ((KeepL.set w5 w.heap.size 0 (.slice none 0 0) (by omega) (by omega)).trans ((KeepL.set _ (w.heap.size+1) 0 (.int .i64 ((n:Int)+1)) (by omega) (by omega)).trans (KeepL.set _ (w.heap.size+2) 0 (.int .i64 50) (by omega) (by omega))))
      have hB:=((m8.grown g1 m8.size (fun k hk=>by injection hk with hk; omega)).grown g2 (by omega) (fun k hk=>by injection hk with hk; omega)).grown g3 (by omega) (fun k hk=>by injection hk with hk; omega)
      exact ⟨⟨hK.1,hK.2⟩,rfl,⟨⟨n+1,50,HGO.out,d2,d3,d4⟩,below_drew_ hB (n:=1)⟩⟩
     have q2:w5.cell? ⟨w.heap.size,0,none⟩=some (.slice none 0 0):=cell_of_row w5 _ 0 _ _ _ m3
     have q3:w5.cell? ⟨w.heap.size+1,0,none⟩=some (.int .i64 0):=cell_of_row w5 _ 0 _ _ _ m4
     have q4:w5.cell? ⟨w.heap.size+1+1,0,none⟩=some (.int .i64 0):=cell_of_row w5 _ 0 _ _ _ m5
     have z2:w5.frozen? ⟨w.heap.size,0,none⟩=false:=frozen_of_row w5 _ 0 _ _ m3
     have z3:w5.frozen? ⟨w.heap.size+1,0,none⟩=false:=frozen_of_row w5 _ 0 _ _ m4
     have z4:w5.frozen? ⟨w.heap.size+1+1,0,none⟩=false:=frozen_of_row w5 _ 0 _ _ m5
     have cN:w5.cell? ⟨w.heap.size+1+1+1+1,0,none⟩=some (.int .i64 ((n:Int)+1)):=cell_of_row w5 _ 0 _ _ _ m2
     clear m1 m2 m3 m4 m5 m6 m7 m8 HM5 HK5 HZ5 HGO
     gi_wp2
     gi_region
     all_goals
      gi_wp2
      exact hFIN.out
    | some rr=>
     rw [hlb,show (ansR (some rr)).2=0 from rfl,show (ansR (some rr)).1=rr from rfl] at PC
     have HGO:Hid (goL (lnsL (behind 10 t)) (n+1) (rs.map Rv.abs ++ [rr])=totL s):=by
      unfold Hid
      rw [← HEG.out,goL_some hmu hlb]
     clear hlb HEG PL hmu
     gi_wp2
     refine ⟨trivial,(callsIn_wide.2 PC).mono ?_⟩
     rintro e w4 ⟨k2,t2,x2,wn2,nn2,v2,p2,A2,c2,es2,rfl,hra,hri,hb4⟩
     have hb5:=below_new w4 (.cells #[.int .i64 k2,.int .u64 (t2:Int),.int .u64 (x2:Int),.int .u64 (wn2:Int),.int .u64 (nn2:Int),.int .u64 (v2:Int),.int .i64 p2.kind,.int .u64 (p2.a:Int),.int .u64 (p2.b:Int),.slice p2.addr p2.parts.length p2.cap,.slice A2 es2.length c2] 68)
     have hq5:=heap_alloc_new w4 (.cells #[.int .i64 k2,.int .u64 (t2:Int),.int .u64 (x2:Int),.int .u64 (wn2:Int),.int .u64 (nn2:Int),.int .u64 (v2:Int),.int .i64 p2.kind,.int .u64 (p2.a:Int),.int .u64 (p2.b:Int),.slice p2.addr p2.parts.length p2.cap,.slice A2 es2.length c2] 68)
     have hM5:=(HM3.out.below hb4).below hb5
     have hK5:KeepL w1.heap.size w₂ (w4.alloc (.cells #[.int .i64 k2,.int .u64 (t2:Int),.int .u64 (x2:Int),.int .u64 (wn2:Int),.int .u64 (nn2:Int),.int .u64 (v2:Int),.int .i64 p2.kind,.int .u64 (p2.a:Int),.int .u64 (p2.b:Int),.slice p2.addr p2.parts.length p2.cap,.slice A2 es2.length c2] 68)):=HK3.out.trans ((KeepL.of_below hb4).trans (KeepL.of_below hb5))
     have HZ5:Hid (w.heap.size+8≤(w4.alloc (.cells #[.int .i64 k2,.int .u64 (t2:Int),.int .u64 (x2:Int),.int .u64 (wn2:Int),.int .u64 (nn2:Int),.int .u64 (v2:Int),.int .i64 p2.kind,.int .u64 (p2.a:Int),.int .u64 (p2.b:Int),.slice p2.addr p2.parts.length p2.cap,.slice A2 es2.length c2] 68)).heap.size):=by unfold Hid; have:=HZ3.out; have:=hb4.size; have:=hb5.size; omega
     have HM5:=Lib_hid hM5
     have HK5:=Lib_hid hK5
     have HB35:=Lib_hid (hb4.trans (hb5.mono hb4.size))
     have HO3:=Lib_hid HM3.out.2.2.2.2.2.2.1
     have HRI:=Lib_hid (hri.keep (w':=w4.alloc (.cells #[.int .i64 k2,.int .u64 (t2:Int),.int .u64 (x2:Int),.int .u64 (wn2:Int),.int .u64 (nn2:Int),.int .u64 (v2:Int),.int .i64 p2.kind,.int .u64 (p2.a:Int),.int .u64 (p2.b:Int),.slice p2.addr p2.parts.length p2.cap,.slice A2 es2.length c2] 68)) hb5.size fun k _ b=>hb5.block k (by have:=hri.hi; omega))
     have HRA:=Lib_hid hra
     clear PC hb4 hb5 hM5 hK5 HM3 HK3 HZ3 hri hra
     gi_upto_region 9 with (fail)
     generalize w4.alloc (.cells #[.int .i64 k2,.int .u64 (t2:Int),.int .u64 (x2:Int),.int .u64 (wn2:Int),.int .u64 (nn2:Int),.int .u64 (v2:Int),.int .i64 p2.kind,.int .u64 (p2.a:Int),.int .u64 (p2.b:Int),.slice p2.addr p2.parts.length p2.cap,.slice A2 es2.length c2] 68)=w5 at *
     obtain ⟨m1,m2,m3,m4,m5,m6,m7,m8⟩:=HM5.out
     have cL:w5.cell? ⟨w.heap.size+1+1+1,0,none⟩=some (.slice Av rs.length cv):=cell_of_row w5 _ 0 _ _ _ m1
     have hmx:((rs.length:Int) == 65536)=false:=by have:=HBL.out; simp; omega
     have hm1:rs.length+1≤maxLen:=by have:=HBL.out; unfold maxLen; omega
     have hm2:(rs.length+1) * 120≤140737488355328:=by have:=HBL.out; omega
     obtain ⟨d0,d1,d2,d3,d4,d5,d6,d7,d8,d9,d10⟩:=rec_cells hq5
     have HZ6:Hid (w.heap.size+8≤(w5.alloc (.cells #[.int .i64 k2,.int .u64 (t2:Int),.int .u64 (x2:Int),.int .u64 (wn2:Int),.int .u64 (nn2:Int),.int .u64 (v2:Int),.int .i64 p2.kind,.int .u64 (p2.a:Int),.int .u64 (p2.b:Int),.slice p2.addr p2.parts.length p2.cap,.slice A2 es2.length c2] 68)).heap.size):=by unfold Hid; have:=HZ5.out; rw [World.size_alloc]; omega
     have F5:∀ w7,(w5.alloc (.cells #[.int .i64 k2,.int .u64 (t2:Int),.int .u64 (x2:Int),.int .u64 (wn2:Int),.int .u64 (nn2:Int),.int .u64 (v2:Int),.int .i64 p2.kind,.int .u64 (p2.a:Int),.int .u64 (p2.b:Int),.slice p2.addr p2.parts.length p2.cap,.slice A2 es2.length c2] 68)).grownBy w7 (Value.slice Av rs.length cv).ownBlock→w7.heap[w.heap.size+3]? = some (.cells #[.slice Av rs.length cv] 32 (0,0)):=fun w7 hg7=>
      (hg7.block _ (by have:=HZ6.out; omega) (fun e=>by have:=own_ge m7.row _ e.symm; omega)).trans ((heap_alloc_old w5 _ (by have:=HZ5.out; omega)).trans m1)
     have HF5:=Lib_hid F5
     have HOW:=Lib_hid m7.row
     clear m1 m2 m3 m4 m5 m6 m7 m8 F5 hq5
     gi_wp2_with (gi_at_builtin; refine wpListIn_append_own_at _ rfl _ _ 32 rfl (w.heap.size+8) 68 i0 (.agg #[.int .i64 0,.int .u64 0,.int .u64 0,.int .u64 0,.int .u64 0,.int .u64 0,.int .i64 0,.int .u64 0,.int .u64 0,.slice none 0 0,.slice none 0 0]) 11 120 Tryz.underlying32 hi hz0 hz1 hz2 rfl (by decide) _ rs.length _ rfl (HOW.out.alloc _) ⟨w5.heap.size,0,none⟩ 1 1 (rvCells [⟨k2,t2,x2,wn2,nn2,v2,p2,A2,c2,es2⟩]) rfl rfl (rv_lit w5 ⟨k2,t2,x2,wn2,nn2,v2,p2,A2,c2,es2⟩ _) (rv_one _) hm1 hm2 HZ6.out ?_; intro v' w7 hown' hg7 _ hor; obtain ⟨Av',cv',rfl,_⟩:=own_form hown'; have cb6:w7.cell? ⟨w.heap.size+1+1+1,0,none⟩=some (.slice Av rs.length cv):=cell_of_row w7 _ 0 _ _ _ (HF5.out w7 hg7); have fb6:w7.frozen? ⟨w.heap.size+1+1+1,0,none⟩=false:=frozen_of_row w7 _ 0 _ _ (HF5.out w7 hg7))
     have hb56:=below_new w5 (.cells #[.int .i64 k2,.int .u64 (t2:Int),.int .u64 (x2:Int),.int .u64 (wn2:Int),.int .u64 (nn2:Int),.int .u64 (v2:Int),.int .i64 p2.kind,.int .u64 (p2.a:Int),.int .u64 (p2.b:Int),.slice p2.addr p2.parts.length p2.cap,.slice A2 es2.length c2] 68)
     have hr6:RecIn (w5.alloc (.cells #[.int .i64 k2,.int .u64 (t2:Int),.int .u64 (x2:Int),.int .u64 (wn2:Int),.int .u64 (nn2:Int),.int .u64 (v2:Int),.int .i64 p2.kind,.int .u64 (p2.a:Int),.int .u64 (p2.b:Int),.slice p2.addr p2.parts.length p2.cap,.slice A2 es2.length c2] 68)) w3.heap.size w4.heap.size ⟨k2,t2,x2,wn2,nn2,v2,p2,A2,c2,es2⟩:=HRI.out.keep hb56.size fun k _ b=>hb56.block k (by have:=HRI.out.hi; omega)
     have hP:=OwnRecs.push HO3.out (HB35.out.trans (hb56.mono HB35.out.size)) hr6 hg7 (by rw [rvCells_append]; exact hown') hor
     have hg8:=grown_setL w7 (w.heap.size+3) 0 (.slice Av' (rs.length+1) cv')
     have hP8:=hP.grown hg8 (by omega)
     obtain ⟨m1,m2,m3,m4,m5,m6,m7,m8⟩:=HM5.out
     have hz6:=HZ6.out
     have hz5:=HZ5.out
     have hz7:=hg7.size
     have hz8:=hg8.size
     have hng:∀ k,(Value.slice Av rs.length cv).ownBlock=some k→w.heap.size+8≤k:=own_ge m7.row
     have key:∀ {k:Nat} {o:Obj},k<w.heap.size+6→k≠w.heap.size+3→w5.heap[k]? = some o→(w7.setCell ⟨w.heap.size+1+1+1,0,none⟩ (.slice Av' (rs.length+1) cv')).heap[k]? = some o:=fun hk hn hx=>
      (hg8.block _ (by omega) (fun e=>by injection e with e; omega)).trans ((hg7.block _ (by omega) (fun e=>by have:=hng _ e.symm; omega)).trans ((hb56.block _ (by omega)).trans hx))
     have hK:=HK5.out.trans ((KeepL.of_below hb56).trans ((KeepL.grown hg7 fun k e=>by have:=hng k e; omega).trans (KeepL.set w7 (w.heap.size+3) 0 (.slice Av' (rs.length+1) cv') (by omega) (by omega))))
     have hB8:=((m8.trans (hb56.mono m8.size)).grown hg7 (by omega) (fun k hk=>by have:=hng k hk; omega)).grown hg8 (by omega) (fun k hk=>by injection hk with hk; omega)
     refine ⟨hK,⟨⟨.slice Av' (rs.length+1) cv',n+1,rs ++ [⟨k2,t2,x2,wn2,nn2,v2,p2,A2,c2,es2⟩],Joins.block_setCell (HF5.out w7 hg7) _,key (by omega) (by omega) m2,.inr hP8,?_,by have:=HBL.out; omega,by have:=HBL.out; rw [List.length_append,List.length_singleton]; omega⟩,key (by omega) (by omega) m3,key (by omega) (by omega) m4,key (by omega) (by omega) m5,key (by omega) (by omega) m6,hB8⟩⟩
     rw [List.map_append,← HGO.out]
     show _=goL _ _ (rs.map Rv.abs ++ [rr])
     rw [← HRA.out]
     rfl
 case done=>
  intro W hI hD
  obtain ⟨⟨v,n,rs,e5,e6,eR,eG,eN,eM⟩,e2,e3,e4,bx,hbW⟩:=hI
  rw [hs6] at hD ⊢
  have hz:w.heap.size+6<W.heap.size:=(Array.getElem?_eq_some_iff.1 hD).1
  obtain ⟨Av,cv,rfl⟩:∃ Av cv,v=.slice Av rs.length cv:=by
   rcases eR with ⟨rfl,rfl⟩ | h
   · exact ⟨none,0,rfl⟩
   · obtain ⟨Av,cv,e,_⟩:=own_form h.row
     exact ⟨Av,cv,e⟩
  have g1:=grown_setL W w.heap.size 0 (.slice Av rs.length cv)
  have g2:=grown_setL (W.setCell ⟨w.heap.size,0,none⟩ (.slice Av rs.length cv)) (w.heap.size+1) 0 (.int .i64 (n:Int))
  have g3:=grown_setL ((W.setCell ⟨w.heap.size,0,none⟩ (.slice Av rs.length cv)).setCell ⟨w.heap.size+1,0,none⟩ (.int .i64 (n:Int))) (w.heap.size+2) 0 (.int .i64 0)
  have s1:=g1.size
  have s2:=g2.size
  have s3:=g3.size
  have b2:(W.setCell ⟨w.heap.size,0,none⟩ (.slice Av rs.length cv)).heap[w.heap.size]? = some (.cells #[.slice Av rs.length cv] 32 (0,0)):=Joins.block_setCell e2 _
  have b3:=(g1.block (w.heap.size+1) (by omega) (fun e=>by injection e with e; omega)).trans e3
  have b4:=(g1.block (w.heap.size+2) (by omega) (fun e=>by injection e with e; omega)).trans e4
  have c2:=(g2.block w.heap.size (by omega) (fun e=>by injection e with e; omega)).trans b2
  have c3:((W.setCell ⟨w.heap.size,0,none⟩ (.slice Av rs.length cv)).setCell ⟨w.heap.size+1,0,none⟩ (.int .i64 (n:Int))).heap[w.heap.size+1]? = some (.cells #[.int .i64 (n:Int)] 3 (0,0)):=Joins.block_setCell b3 _
  have c4:=(g2.block (w.heap.size+2) (by omega) (fun e=>by injection e with e; omega)).trans b4
  have d2:=(g3.block w.heap.size (by omega) (fun e=>by injection e with e; omega)).trans c2
  have d3:=(g3.block (w.heap.size+1) (by omega) (fun e=>by injection e with e; omega)).trans c3
  have d4:(((W.setCell ⟨w.heap.size,0,none⟩ (.slice Av rs.length cv)).setCell ⟨w.heap.size+1,0,none⟩ (.int .i64 (n:Int))).setCell ⟨w.heap.size+1+1,0,none⟩ (.int .i64 0)).heap[w.heap.size+2]? = some (.cells #[.int .i64 0] 43 (0,0)):=Joins.block_setCell c4 _
  have hP3:=((eR.grown g1 (by omega)).grown g2 (by omega)).grown g3 (by omega)
  have hB3:=((hbW.grown g1 (by omega) (fun k hk=>by injection hk with hk; omega)).grown g2 (by omega) (fun k hk=>by injection hk with hk; omega)).grown g3 (by omega) (fun k hk=>by injection hk with hk; omega)
  have hD3:=(g3.block (w.heap.size+6) (by omega) (fun e=>by injection e with e; omega)).trans ((g2.block (w.heap.size+6) (by omega) (fun e=>by injection e with e; omega)).trans ((g1.block (w.heap.size+6) hz (fun e=>by injection e with e; omega)).trans hD))
  have hPd:RowsL (w.heap.size+8) (((W.setCell ⟨w.heap.size,0,none⟩ (.slice Av rs.length cv)).setCell ⟨w.heap.size+1,0,none⟩ (.int .i64 (n:Int))).setCell ⟨w.heap.size+1+1,0,none⟩ (.int .i64 0)).drew (.slice Av rs.length cv) rs:=hP3.imp id fun h=>h.kept (Nat.le_refl _) fun k _ _=>rfl
  have HFE:=Lib_hid (lines_fin (s:=s) (w:=w) (X:=(((W.setCell ⟨w.heap.size,0,none⟩ (.slice Av rs.length cv)).setCell ⟨w.heap.size+1,0,none⟩ (.int .i64 (n:Int))).setCell ⟨w.heap.size+1+1,0,none⟩ (.int .i64 0)).drew) (H:=w.heap.size+6) (.slice Av rs.length cv) rs n 0 (by omega) (by omega) d2 d3 d4 hPd (below_drew_ hB3 (n:=1)) eG.symm hD3)
  have q2:W.cell? ⟨w.heap.size,0,none⟩=some (.slice none 0 0):=cell_of_row W _ 0 _ _ _ e2
  have q3:W.cell? ⟨w.heap.size+1,0,none⟩=some (.int .i64 0):=cell_of_row W _ 0 _ _ _ e3
  have q4:W.cell? ⟨w.heap.size+1+1,0,none⟩=some (.int .i64 0):=cell_of_row W _ 0 _ _ _ e4
  have z2:W.frozen? ⟨w.heap.size,0,none⟩=false:=frozen_of_row W _ 0 _ _ e2
  have z3:W.frozen? ⟨w.heap.size+1,0,none⟩=false:=frozen_of_row W _ 0 _ _ e3
  have z4:W.frozen? ⟨w.heap.size+1+1,0,none⟩=false:=frozen_of_row W _ 0 _ _ e4
  have cL:W.cell? ⟨w.heap.size+1+1+1,0,none⟩=some (.slice Av rs.length cv):=cell_of_row W _ 0 _ _ _ e5
  have cN:W.cell? ⟨w.heap.size+1+1+1+1,0,none⟩=some (.int .i64 (n:Int)):=cell_of_row W _ 0 _ _ _ e6
  clear e5 e6 eR eG eN eM e2 e3 e4 bx hbW g1 g2 g3 s1 s2 s3 b2 b3 b4 c2 c3 c4 d2 d3 d4 hP3 hB3 hD3 hPd hz hD
  gi_wp2
  gi_region
  all_goals
   gi_wp2
   exact HFE.out _ rfl rfl rfl
 case stop=>
  rintro cc t W ht ⟨rfl,⟨⟨n,z,e1,d2,d3,d4⟩,hbW⟩⟩ hD
  rw [hs6] at hD
  have HFE:=Lib_hid (lines_fin (s:=s) (w:=w) (H:=w.heap.size+6) (.slice none 0 0) [] n z (by omega) (by omega) d2 d3 d4 (.inl ⟨rfl,rfl⟩) hbW e1 hD)
  clear d2 d3 d4 hbW
  rw [hs6]
  gi_wp2
  exact HFE.out _ rfl rfl rfl
end Go.Proofs.YtinmoknbgnngcaaGreatDoor
namespace Go.Proofs.YtinmoknbgnngcaaGreatDoor
open Go Go.RowKit
set_option linter.unusedVariables false
theorem docver_any (a b:Nat) (w:World):Calls Tryz.prog 43 #[.agg #[.int .u64 (a:Int),.int .u64 (b:Int)]] w fun e w'=>e=.returned (.agg #[.int .u64 (a:Int),.int .u64 (b:Int)])∧Below w.heap.size w w':=by
 have hsz:(Tryz.prog.info? 54).map (·.size)=some 2:=by kernel_rfl
 have hb:=(below_new w (.cells #[.int .u64 (a:Int),.int .u64 (b:Int)] 62)).alloc (by simp) (.cells #[.int .u64 (a:Int),.int .u64 (b:Int)] 54)
 have hh:=heap_alloc_new (w.alloc (.cells #[.int .u64 (a:Int),.int .u64 (b:Int)] 62)) (.cells #[.int .u64 (a:Int),.int .u64 (b:Int)] 54)
 rw [show (w.alloc (.cells #[.int .u64 (a:Int),.int .u64 (b:Int)] 62)).heap.size=w.heap.size+1 by simp] at hh
 go_enter Tryz.func43,Tryz.ntmps43
 go_wp2
 exact bodyPost_ret (results_cell_row (p:=2) (ty:=54) rfl _ _ (w.heap.size+1) 54 #[.int .u64 (a:Int),.int .u64 (b:Int)] (0,0) _ rfl hh Tryz.underlying54 rfl hsz) rfl ⟨rfl,hb⟩
end Go.Proofs.YtinmoknbgnngcaaGreatDoor
