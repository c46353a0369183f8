/-
  Layer 5: the six functions that read a part of a text.
-/
import Derived.Test.YtinmoknbgnngcaaGreatDoorZwVlq
import Derived.Test.YtinmoknbgnngcaaGreatDoorZwVpm
import Derived.Test.YtinmoknbgnngcaaGreatDoorZwTrw
import Derived.Test.YtinmoknbgnngcaaGreatDoorZwVlm
namespace Go.Proofs.YtinmoknbgnngcaaGreatDoor
open Go Go.RowKit
set_option linter.unusedVariables false
structure Grow2 (w w':World) (a b:Nat):Prop where
 os:w'.os=w.os
 tape:w'.tape=w.tape
 output:w'.output=w.output
 size:w.heap.size≤w'.heap.size
 block:∀ k,k<w.heap.size→k≠a→k≠b→w'.heap[k]? = w.heap[k]?
theorem Grow2.refl (w:World) (a b:Nat):Grow2 w w a b:=⟨rfl,rfl,rfl,Nat.le_refl _,fun _ _ _ _=>rfl⟩
theorem Grow2.trans {u v w:World} {a b:Nat} (h:Grow2 u v a b) (k:Grow2 v w a b):Grow2 u w a b:=⟨k.os.trans h.os,k.tape.trans h.tape,k.output.trans h.output,Nat.le_trans h.size k.size,fun i hi h1 h2=>(k.block i (Nat.lt_of_lt_of_le hi h.size) h1 h2).trans (h.block i hi h1 h2)⟩
theorem Grow2.of {w w':World} {a b:Nat} (h:w.grownBy w' (some b)):Grow2 w w' a b:=⟨h.os,h.tape,h.output,h.size,fun k hk _ h2=>h.block k hk (fun e=>h2 (by injection e))⟩
theorem Grow2.set (w:World) (a b i:Nat) (v:Value):Grow2 w (w.setCell ⟨a,i,none⟩ v) a b:=⟨rfl,rfl,rfl,by simp,fun k _ h1 _=>heap_setCell_other w ⟨a,i,none⟩ k _ (fun e=>h1 e)⟩
theorem Grow2.below {w w':World} {a b B:Nat} (h:Grow2 w w' a b) (hB:B≤w.heap.size) (h1:B≤a) (h2:B≤b):Below B w w':=⟨h.os,h.tape,h.output,h.size,fun k hk=>h.block k (Nat.lt_of_lt_of_le hk hB) (by omega) (by omega)⟩
theorem Grow2.ofB {w w':World} {a b:Nat} (h:Below w.heap.size w w'):Grow2 w w' a b:=⟨h.os,h.tape,h.output,h.size,fun k hk _ _=>h.block k hk⟩
theorem RLies.grow2 {w w':World} {lo hi a b:Nat} {r:Rv} (h:RLies w lo hi r) (hg:Grow2 w w' a b) (ha:a<lo) (hb:b<lo) (hhi:hi≤w.heap.size):RLies w' lo w'.heap.size r:=
 (h.keep fun p h1 h2=>World.cell?_of_block (hg.block p.block (by omega) (by omega) (by omega))).more (Nat.le_refl _) (Nat.le_trans hhi hg.size)
structure RdS (lo a g:Nat) (r:Rv) (s:List UInt8) (bad:Bool) (w:World):Prop where
 box:w.heap[a]? = some (.cells r.arr 68 (0,0))
 wds:w.heap[g]? = some (WdC s bad)
 lies:RLies w lo w.heap.size r
 al:a<lo
 gl:g<lo
 ne:a≠g
 hi:lo≤w.heap.size
 shp:Shp 65 w lo r.p
 own:w.ownsRow lo 125 4 (.slice r.A r.es.length r.c) r.es.length (enCells r.es)
theorem RdS.rest {lo a g:Nat} {r:Rv} {s:List UInt8} {bad:Bool} {w W:World} (h:RdS lo a g r s bad w) (hG:Grow2 w W a g):Shp 65 W lo r.p∧W.ownsRow lo 125 4 (.slice r.A r.es.length r.c) r.es.length (enCells r.es):=by
 have h1:=h.al
 have h2:=h.gl
 exact ⟨h.shp.keep fun k k1 k2=>hG.block k k2 (by omega) (by omega),own_keep h.own fun k hk=>hG.block k (own_lt h.own k hk) (by have:=own_ge h.own k hk; omega) (by have:=own_ge h.own k hk; omega)⟩
def RdEnd (i lo a g:Nat) (r:Rv) (s:List UInt8) (bad:Bool) (w:World) (e:Ending) (w':World):Prop:=
 e=.returned (.tuple #[])∧Grow2 w w' a g∧∃ (r':Rv) (s':List UInt8) (bad':Bool),RdS lo a g r' s' bad' w'∧r'.kind=r.kind∧s'.length≤s.length∧(bad=true→bad'=true)∧
  (bad=false→(r.abs.setP i s=some (r'.abs,s')∧bad'=false)∨(r.abs.setP i s=none∧bad'=true))
theorem leftW_len (l:List UInt8):(leftW l).length≤l.length:=by
 have h1:=restW_len l
 unfold leftW
 rw [List.length_drop]
 omega
theorem EnvM.grown {B g:Nat} {w w':World} (h:EnvM B w) (hg:w.grownBy w' (some g)) (hB:B≤g) (hs:B≤w.heap.size):EnvM B w':=
 h.under (B':=B) ((Below.refl B w).grown hg hs (fun k hk=>by injection hk with hk; omega)) (Nat.le_refl _)
set_option maxRecDepth 100000 in
set_option maxHeartbeats 1600000 in
theorem readT_any (B lo a g:Nat) (r:Rv) (s:List UInt8) (bad:Bool) (w:World) (h:RdS lo a g r s bad w) (hE:EnvM B w) (hB:B≤g) (hBa:B≤a) (hl:s.length≤1000000) :
 Calls Tryz.prog 144 #[.pointer (some ⟨a,0,none⟩),.pointer (some ⟨g,0,none⟩)] w (RdEnd 0 lo a g r s bad w):=by
 have hgs:=(Array.getElem?_eq_some_iff.1 h.wds).1
 have hws:=Nat.le_trans (wordW_len s) (restW_len s)
 have hls:=leftW_len s
 have NX:=next_any B g s bad w h.wds hE hl
 have NU:Hid (∀ W,w.grownBy W (some g)→W.heap[g]? = some (WdC (leftW s) bad)→Calls Tryz.prog 145 #[.pointer (some ⟨g,0,none⟩),.string ⟨(wordW s).toArray⟩] W (NumEnd5 (wordW s) (leftW s) bad g W)):=fun W h1 h2=>
  number5_any B g (wordW s) (leftW s) bad W h2 (hE.grown h1 hB (by omega)) hB (by omega)
 have FIN:Hid (∀ (W:World) (v:Nat) (bad':Bool),v<18446744073709551616→w.grownBy W (some g)→W.heap[g]? = some (WdC (leftW s) bad')→((numW (wordW s)=some v∧bad'=bad)∨(numW (wordW s)=none∧bad'=true))→
  RdEnd 0 lo a g r s bad w (.returned (.tuple #[])) (W.setCell ⟨a,1,none⟩ (.int .u64 (v:Int)))):=fun W v bad' hv h1 h2 h3=>by
  have hG:Grow2 w (W.setCell ⟨a,1,none⟩ (.int .u64 (v:Int))) a g:=(Grow2.of h1).trans (Grow2.set W a g 1 _)
  have hL:=h.lies.grow2 hG h.al h.gl (Nat.le_refl _)
  obtain ⟨hSh,hOw⟩:=h.rest hG
  have hbx:=(h1.block a (by have:=h.al; have:=h.hi; omega) (fun e=>h.ne (by injection e))).trans h.box
  obtain ⟨k,t,x,wn,nn,vv,p,A,c,es⟩:=r
  refine ⟨rfl,hG,⟨k,v,x,wn,nn,vv,p,A,c,es⟩,leftW s,bad',⟨heap_setCell_same W a 1 _ _ _ hbx,(heap_setCell_other W ⟨a,1,none⟩ g _ (fun e=>h.ne e.symm)).trans h2,⟨hL.kind,by show (v:Int)≤_; omega,hL.x,hL.wn,hL.n,hL.v,hL.p,hL.es,hL.cap,hL.ok,hL.lo⟩,h.al,h.gl,h.ne,Nat.le_trans h.hi hG.size,hSh,hOw⟩,rfl,hls,fun hb=>?_,fun hb=>?_⟩
  · rcases h3 with ⟨_,e⟩ | ⟨_,e⟩
    · rw [e]; exact hb
    · exact e
  · rcases h3 with ⟨e1,e⟩ | ⟨e1,e⟩
    · exact .inl ⟨by show (numW (wordW s)).map _=_; rw [e1]; rfl,by rw [e,hb]⟩
    · exact .inr ⟨by show (numW (wordW s)).map _=_; rw [e1]; rfl,e⟩
 have CC:Hid (∀ W,w.grownBy W (some g)→∃ u,W.cell? ⟨a,1,none⟩=some u∧W.frozen? ⟨a,1,none⟩=false):=fun W h1=>by
  have hbx:=(h1.block a (by have:=h.al; have:=h.hi; omega) (fun e=>h.ne (by injection e))).trans h.box
  obtain ⟨k,t,x,wn,nn,vv,p,A,c,es⟩:=r
  exact ⟨_,cell_of_row W a 1 _ _ _ hbx,frozen_of_row W a 1 _ _ hbx⟩
 clear h hE
 generalize wordW s=wd at *
 generalize leftW s=lf at *
 go_enter Tryz.func144,Tryz.ntmps144
 go_wp2_with fail
 refine NX.mono ?_
 rintro e w1 ⟨rfl,hx1,hg1⟩
 have NU1:=NU.out w1 hg1 hx1
 clear NU NX
 go_wp2_with fail
 refine NU1.mono ?_
 intro e w2 h2
 obtain ⟨v,bad1,rfl,hv,hg2,hx2,hc2⟩:=h2.get
 have HF:=Lib_hid (FIN.out w2 v bad1 hv (hg1.trans hg2) hx2 hc2)
 obtain ⟨u,cu,zu⟩:=CC.out w2 (hg1.trans hg2)
 clear FIN CC h2 hg2 hx2 hc2 NU1 hg1 hx1
 go_wp2
 go_end0
 exact HF.out
set_option maxRecDepth 100000 in
set_option maxHeartbeats 1600000 in
theorem readX_any (B lo a g:Nat) (r:Rv) (s:List UInt8) (bad:Bool) (w:World) (h:RdS lo a g r s bad w) (hE:EnvM B w) (hB:B≤g) (hBa:B≤a) (hl:s.length≤1000000) :
 Calls Tryz.prog 152 #[.pointer (some ⟨a,0,none⟩),.pointer (some ⟨g,0,none⟩)] w (RdEnd 1 lo a g r s bad w):=by
 have hgs:=(Array.getElem?_eq_some_iff.1 h.wds).1
 have hws:=Nat.le_trans (wordW_len s) (restW_len s)
 have hls:=leftW_len s
 have NX:=next_any B g s bad w h.wds hE hl
 have NU:Hid (∀ W,w.grownBy W (some g)→W.heap[g]? = some (WdC (leftW s) bad)→Calls Tryz.prog 145 #[.pointer (some ⟨g,0,none⟩),.string ⟨(wordW s).toArray⟩] W (NumEnd5 (wordW s) (leftW s) bad g W)):=fun W h1 h2=>
  number5_any B g (wordW s) (leftW s) bad W h2 (hE.grown h1 hB (by omega)) hB (by omega)
 have FIN:Hid (∀ (W:World) (v:Nat) (bad':Bool),v<18446744073709551616→w.grownBy W (some g)→W.heap[g]? = some (WdC (leftW s) bad')→((numW (wordW s)=some v∧bad'=bad)∨(numW (wordW s)=none∧bad'=true))→
  RdEnd 1 lo a g r s bad w (.returned (.tuple #[])) (W.setCell ⟨a,2,none⟩ (.int .u64 (v:Int)))):=fun W v bad' hv h1 h2 h3=>by
  have hG:Grow2 w (W.setCell ⟨a,2,none⟩ (.int .u64 (v:Int))) a g:=(Grow2.of h1).trans (Grow2.set W a g 2 _)
  have hL:=h.lies.grow2 hG h.al h.gl (Nat.le_refl _)
  obtain ⟨hSh,hOw⟩:=h.rest hG
  have hbx:=(h1.block a (by have:=h.al; have:=h.hi; omega) (fun e=>h.ne (by injection e))).trans h.box
  obtain ⟨k,t,x,wn,nn,vv,p,A,c,es⟩:=r
  refine ⟨rfl,hG,⟨k,t,v,wn,nn,vv,p,A,c,es⟩,leftW s,bad',⟨heap_setCell_same W a 2 _ _ _ hbx,(heap_setCell_other W ⟨a,2,none⟩ g _ (fun e=>h.ne e.symm)).trans h2,⟨hL.kind,hL.t,by show (v:Int)≤_; omega,hL.wn,hL.n,hL.v,hL.p,hL.es,hL.cap,hL.ok,hL.lo⟩,h.al,h.gl,h.ne,Nat.le_trans h.hi hG.size,hSh,hOw⟩,rfl,hls,fun hb=>?_,fun hb=>?_⟩
  · rcases h3 with ⟨_,e⟩ | ⟨_,e⟩
    · rw [e]; exact hb
    · exact e
  · rcases h3 with ⟨e1,e⟩ | ⟨e1,e⟩
    · exact .inl ⟨by show (numW (wordW s)).map _=_; rw [e1]; rfl,by rw [e,hb]⟩
    · exact .inr ⟨by show (numW (wordW s)).map _=_; rw [e1]; rfl,e⟩
 have CC:Hid (∀ W,w.grownBy W (some g)→∃ u,W.cell? ⟨a,2,none⟩=some u∧W.frozen? ⟨a,2,none⟩=false):=fun W h1=>by
  have hbx:=(h1.block a (by have:=h.al; have:=h.hi; omega) (fun e=>h.ne (by injection e))).trans h.box
  obtain ⟨k,t,x,wn,nn,vv,p,A,c,es⟩:=r
  exact ⟨_,cell_of_row W a 2 _ _ _ hbx,frozen_of_row W a 2 _ _ hbx⟩
 clear h hE
 generalize wordW s=wd at *
 generalize leftW s=lf at *
 go_enter Tryz.func152,Tryz.ntmps152
 go_wp2_with fail
 refine NX.mono ?_
 rintro e w1 ⟨rfl,hx1,hg1⟩
 have NU1:=NU.out w1 hg1 hx1
 clear NU NX
 go_wp2_with fail
 refine NU1.mono ?_
 intro e w2 h2
 obtain ⟨v,bad1,rfl,hv,hg2,hx2,hc2⟩:=h2.get
 have HF:=Lib_hid (FIN.out w2 v bad1 hv (hg1.trans hg2) hx2 hc2)
 obtain ⟨u,cu,zu⟩:=CC.out w2 (hg1.trans hg2)
 clear FIN CC h2 hg2 hx2 hc2 NU1 hg1 hx1
 go_wp2
 go_end0
 exact HF.out
set_option maxRecDepth 100000 in
set_option maxHeartbeats 1600000 in
theorem readValue_any (B lo a g:Nat) (r:Rv) (s:List UInt8) (bad:Bool) (w:World) (h:RdS lo a g r s bad w) (hE:EnvM B w) (hB:B≤g) (hBa:B≤a) (hl:s.length≤1000000) :
 Calls Tryz.prog 168 #[.pointer (some ⟨a,0,none⟩),.pointer (some ⟨g,0,none⟩)] w (RdEnd 3 lo a g r s bad w):=by
 have hgs:=(Array.getElem?_eq_some_iff.1 h.wds).1
 have hws:=Nat.le_trans (wordW_len s) (restW_len s)
 have hls:=leftW_len s
 have NX:=next_any B g s bad w h.wds hE hl
 have NU:Hid (∀ W,w.grownBy W (some g)→W.heap[g]? = some (WdC (leftW s) bad)→Calls Tryz.prog 145 #[.pointer (some ⟨g,0,none⟩),.string ⟨(wordW s).toArray⟩] W (NumEnd5 (wordW s) (leftW s) bad g W)):=fun W h1 h2=>
  number5_any B g (wordW s) (leftW s) bad W h2 (hE.grown h1 hB (by omega)) hB (by omega)
 have FIN:Hid (∀ (W:World) (v:Nat) (bad':Bool),v<18446744073709551616→w.grownBy W (some g)→W.heap[g]? = some (WdC (leftW s) bad')→((numW (wordW s)=some v∧bad'=bad)∨(numW (wordW s)=none∧bad'=true))→
  RdEnd 3 lo a g r s bad w (.returned (.tuple #[])) (W.setCell ⟨a,5,none⟩ (.int .u64 (v:Int)))):=fun W v bad' hv h1 h2 h3=>by
  have hG:Grow2 w (W.setCell ⟨a,5,none⟩ (.int .u64 (v:Int))) a g:=(Grow2.of h1).trans (Grow2.set W a g 5 _)
  have hL:=h.lies.grow2 hG h.al h.gl (Nat.le_refl _)
  obtain ⟨hSh,hOw⟩:=h.rest hG
  have hbx:=(h1.block a (by have:=h.al; have:=h.hi; omega) (fun e=>h.ne (by injection e))).trans h.box
  obtain ⟨k,t,x,wn,nn,vv,p,A,c,es⟩:=r
  refine ⟨rfl,hG,⟨k,t,x,wn,nn,v,p,A,c,es⟩,leftW s,bad',⟨heap_setCell_same W a 5 _ _ _ hbx,(heap_setCell_other W ⟨a,5,none⟩ g _ (fun e=>h.ne e.symm)).trans h2,⟨hL.kind,hL.t,hL.x,hL.wn,hL.n,by show (v:Int)≤_; omega,hL.p,hL.es,hL.cap,hL.ok,hL.lo⟩,h.al,h.gl,h.ne,Nat.le_trans h.hi hG.size,hSh,hOw⟩,rfl,hls,fun hb=>?_,fun hb=>?_⟩
  · rcases h3 with ⟨_,e⟩ | ⟨_,e⟩
    · rw [e]; exact hb
    · exact e
  · rcases h3 with ⟨e1,e⟩ | ⟨e1,e⟩
    · exact .inl ⟨by show (numW (wordW s)).map _=_; rw [e1]; rfl,by rw [e,hb]⟩
    · exact .inr ⟨by show (numW (wordW s)).map _=_; rw [e1]; rfl,e⟩
 have CC:Hid (∀ W,w.grownBy W (some g)→∃ u,W.cell? ⟨a,5,none⟩=some u∧W.frozen? ⟨a,5,none⟩=false):=fun W h1=>by
  have hbx:=(h1.block a (by have:=h.al; have:=h.hi; omega) (fun e=>h.ne (by injection e))).trans h.box
  obtain ⟨k,t,x,wn,nn,vv,p,A,c,es⟩:=r
  exact ⟨_,cell_of_row W a 5 _ _ _ hbx,frozen_of_row W a 5 _ _ hbx⟩
 clear h hE
 generalize wordW s=wd at *
 generalize leftW s=lf at *
 go_enter Tryz.func168,Tryz.ntmps168
 go_wp2_with fail
 refine NX.mono ?_
 rintro e w1 ⟨rfl,hx1,hg1⟩
 have NU1:=NU.out w1 hg1 hx1
 clear NU NX
 go_wp2_with fail
 refine NU1.mono ?_
 intro e w2 h2
 obtain ⟨v,bad1,rfl,hv,hg2,hx2,hc2⟩:=h2.get
 have HF:=Lib_hid (FIN.out w2 v bad1 hv (hg1.trans hg2) hx2 hc2)
 obtain ⟨u,cu,zu⟩:=CC.out w2 (hg1.trans hg2)
 clear FIN CC h2 hg2 hx2 hc2 NU1 hg1 hx1
 go_wp2
 go_end0
 exact HF.out
set_option maxRecDepth 100000 in
set_option maxHeartbeats 1600000 in
theorem readV_any (B lo a g:Nat) (r:Rv) (s:List UInt8) (bad:Bool) (w:World) (h:RdS lo a g r s bad w) (hE:EnvM B w) (hB:B≤g) (hBa:B≤a) (hl:s.length≤1000000) :
 Calls Tryz.prog 161 #[.pointer (some ⟨a,0,none⟩),.pointer (some ⟨g,0,none⟩)] w (RdEnd 2 lo a g r s bad w):=by
 have hgs:=(Array.getElem?_eq_some_iff.1 h.wds).1
 have hws:=Nat.le_trans (wordW_len s) (restW_len s)
 have hls:=leftW_len s
 have NX:=next_any B g s bad w h.wds hE hl
 have NU:Hid (∀ W,w.grownBy W (some g)→W.heap[g]? = some (WdC (leftW s) bad)→Calls Tryz.prog 162 #[.pointer (some ⟨g,0,none⟩),.string ⟨(wordW s).toArray⟩] W (VerEnd5 (wordW s) (leftW s) bad g W)):=fun W h1 h2=>
  version5_any B g (wordW s) (leftW s) bad W h2 (hE.grown h1 hB (by omega)) hB (by omega)
 have FIN:Hid (∀ (W:World) (v v2:Nat),v<18446744073709551616→v2<18446744073709551616→w.grownBy W (some g)→((verW (wordW s)=some (v,v2)∧W.heap[g]? = some (WdC (leftW s) bad))∨(verW (wordW s)=none∧W.heap[g]? = some (WdC (leftW s) true)))→
  RdEnd 2 lo a g r s bad w (.returned (.tuple #[])) ((W.setCell ⟨a,3,none⟩ (.int .u64 (v:Int))).setCell ⟨a,4,none⟩ (.int .u64 (v2:Int)))):=fun W v v2 hv hv2 h1 h3=>by
  have hG:Grow2 w ((W.setCell ⟨a,3,none⟩ (.int .u64 (v:Int))).setCell ⟨a,4,none⟩ (.int .u64 (v2:Int))) a g:=((Grow2.of h1).trans (Grow2.set W a g 3 _)).trans (Grow2.set _ a g 4 _)
  have hL:=h.lies.grow2 hG h.al h.gl (Nat.le_refl _)
  obtain ⟨hSh,hOw⟩:=h.rest hG
  have hbx:=(h1.block a (by have:=h.al; have:=h.hi; omega) (fun e=>h.ne (by injection e))).trans h.box
  obtain ⟨k,t,x,wn,nn,vv,p,A,c,es⟩:=r
  have hoth:((W.setCell ⟨a,3,none⟩ (.int .u64 (v:Int))).setCell ⟨a,4,none⟩ (.int .u64 (v2:Int))).heap[g]? = W.heap[g]?:=(heap_setCell_other _ ⟨a,4,none⟩ g _ (fun e=>h.ne e.symm)).trans (heap_setCell_other W ⟨a,3,none⟩ g _ (fun e=>h.ne e.symm))
  have key:∀ bad',W.heap[g]? = some (WdC (leftW s) bad')→(bad=true→bad'=true)→(bad=false→((Rv.abs ⟨k,t,x,wn,nn,vv,p,A,c,es⟩).setP 2 s=some (Rv.abs ⟨k,t,x,v,v2,vv,p,A,c,es⟩,leftW s)∧bad'=false)∨((Rv.abs ⟨k,t,x,wn,nn,vv,p,A,c,es⟩).setP 2 s=none∧bad'=true))→
   RdEnd 2 lo a g ⟨k,t,x,wn,nn,vv,p,A,c,es⟩ s bad w (.returned (.tuple #[])) ((W.setCell ⟨a,3,none⟩ (.int .u64 (v:Int))).setCell ⟨a,4,none⟩ (.int .u64 (v2:Int))):=fun bad' h2 h4 h5=>
   ⟨rfl,hG,⟨k,t,x,v,v2,vv,p,A,c,es⟩,leftW s,bad',⟨heap_setCell_same _ a 4 _ _ _ (heap_setCell_same W a 3 _ _ _ hbx),hoth.trans h2,⟨hL.kind,hL.t,hL.x,by show (v:Int)≤_; omega,by show (v2:Int)≤_; omega,hL.v,hL.p,hL.es,hL.cap,hL.ok,hL.lo⟩,h.al,h.gl,h.ne,Nat.le_trans h.hi hG.size,hSh,hOw⟩,rfl,hls,h4,h5⟩
  rcases h3 with ⟨e1,e2⟩ | ⟨e1,e2⟩
  · exact key bad e2 (fun hb=>hb) fun hb=>.inl ⟨by show (verW (wordW s)).map _=_; rw [e1]; rfl,hb⟩
  · exact key true e2 (fun hb=>rfl) fun hb=>.inr ⟨by show (verW (wordW s)).map _=_; rw [e1]; rfl,rfl⟩
 have CC:Hid (∀ W,w.grownBy W (some g)→∃ u u2,W.cell? ⟨a,3,none⟩=some u∧W.frozen? ⟨a,3,none⟩=false∧W.cell? ⟨a,4,none⟩=some u2∧W.frozen? ⟨a,4,none⟩=false):=fun W h1=>by
  have hbx:=(h1.block a (by have:=h.al; have:=h.hi; omega) (fun e=>h.ne (by injection e))).trans h.box
  obtain ⟨k,t,x,wn,nn,vv,p,A,c,es⟩:=r
  exact ⟨_,_,cell_of_row W a 3 _ _ _ hbx,frozen_of_row W a 3 _ _ hbx,cell_of_row W a 4 _ _ _ hbx,frozen_of_row W a 4 _ _ hbx⟩
 clear h hE
 generalize wordW s=wd at *
 generalize leftW s=lf at *
 go_enter Tryz.func161,Tryz.ntmps161
 go_wp2_with fail
 refine NX.mono ?_
 rintro e w1 ⟨rfl,hx1,hg1⟩
 have NU1:=NU.out w1 hg1 hx1
 clear NU NX
 go_wp2_with fail
 refine NU1.mono ?_
 rintro e w2 ⟨hg2,v,v2,rfl,hv,hv2,hc2⟩
 have HF:=Lib_hid (FIN.out w2 v v2 hv hv2 (hg1.trans hg2) hc2)
 obtain ⟨u,u2,cu,zu,cu2,zu2⟩:=CC.out w2 (hg1.trans hg2)
 clear FIN CC hg2 hc2 NU1 hg1 hx1
 go_wp2
 go_end0
 exact HF.out
set_option maxRecDepth 100000 in
set_option maxHeartbeats 1600000 in
theorem readP_any (B lo a g:Nat) (r:Rv) (s:List UInt8) (bad:Bool) (w:World) (h:RdS lo a g r s bad w) (hE:EnvM B w) (hB:B≤g) (hBa:B≤a) (hl:s.length≤1000000) :
 Calls Tryz.prog 179 #[.pointer (some ⟨a,0,none⟩),.pointer (some ⟨g,0,none⟩)] w (RdEnd 4 lo a g r s bad w):=by
 have hgs:=(Array.getElem?_eq_some_iff.1 h.wds).1
 have hws:=Nat.le_trans (wordW_len s) (restW_len s)
 have hls:=leftW_len s
 have NX:=next_any B g s bad w h.wds hE hl
 have NU:Hid (∀ W,w.grownBy W (some g)→W.heap[g]? = some (WdC (leftW s) bad)→Calls Tryz.prog 180 #[.pointer (some ⟨g,0,none⟩),.string ⟨(wordW s).toArray⟩] W (PrdEnd5 (wordW s) (leftW s) bad g W)):=fun W h1 h2=>
  predicate5_any B g (wordW s) (leftW s) bad W h2 (hE.grown h1 hB (by omega)) hB (by omega)
 have FIN:Hid (∀ (W:World) (u:V),Lies W w.heap.size W.heap.size u→Shp 65 W w.heap.size u→w.grownBy W (some g)→((readT (wordW s)=some u.abs∧W.heap[g]? = some (WdC (leftW s) bad))∨(readT (wordW s)=none∧W.heap[g]? = some (WdC (leftW s) true)))→
  RdEnd 4 lo a g r s bad w (.returned (.tuple #[])) ((((W.setCell ⟨a,6,none⟩ (.int .i64 u.kind)).setCell ⟨a,7,none⟩ (.int .u64 (u.a:Int))).setCell ⟨a,8,none⟩ (.int .u64 (u.b:Int))).setCell ⟨a,9,none⟩ u.sl)):=fun W u hu hus h1 h3=>by
  have hG0:Grow2 W ((((W.setCell ⟨a,6,none⟩ (.int .i64 u.kind)).setCell ⟨a,7,none⟩ (.int .u64 (u.a:Int))).setCell ⟨a,8,none⟩ (.int .u64 (u.b:Int))).setCell ⟨a,9,none⟩ u.sl) a g:=(((Grow2.set W a g 6 _).trans (Grow2.set _ a g 7 _)).trans (Grow2.set _ a g 8 _)).trans (Grow2.set _ a g 9 _)
  have hG:Grow2 w ((((W.setCell ⟨a,6,none⟩ (.int .i64 u.kind)).setCell ⟨a,7,none⟩ (.int .u64 (u.a:Int))).setCell ⟨a,8,none⟩ (.int .u64 (u.b:Int))).setCell ⟨a,9,none⟩ u.sl) a g:=(Grow2.of h1).trans hG0
  have hL:=h.lies.grow2 hG h.al h.gl (Nat.le_refl _)
  obtain ⟨hSh,hOw⟩:=h.rest hG
  have hal:=h.al
  have hgl:=h.gl
  have hhi:=h.hi
  have hLu:Lies ((((W.setCell ⟨a,6,none⟩ (.int .i64 u.kind)).setCell ⟨a,7,none⟩ (.int .u64 (u.a:Int))).setCell ⟨a,8,none⟩ (.int .u64 (u.b:Int))).setCell ⟨a,9,none⟩ u.sl) lo ((((W.setCell ⟨a,6,none⟩ (.int .i64 u.kind)).setCell ⟨a,7,none⟩ (.int .u64 (u.a:Int))).setCell ⟨a,8,none⟩ (.int .u64 (u.b:Int))).setCell ⟨a,9,none⟩ u.sl).heap.size u:=
   (hu.keep fun p h1 h2=>World.cell?_of_block (hG0.block p.block h2 (by omega) (by omega))).more hhi hG0.size
  have hSu:=(hus.keep fun k k1 k2=>hG0.block k k2 (by omega) (by omega)).more hhi
  have hbx:=(h1.block a (by have:=h.al; have:=h.hi; omega) (fun e=>h.ne (by injection e))).trans h.box
  have hoth:((((W.setCell ⟨a,6,none⟩ (.int .i64 u.kind)).setCell ⟨a,7,none⟩ (.int .u64 (u.a:Int))).setCell ⟨a,8,none⟩ (.int .u64 (u.b:Int))).setCell ⟨a,9,none⟩ u.sl).heap[g]? = W.heap[g]?:=(heap_setCell_other _ ⟨a,9,none⟩ g _ (fun e=>h.ne e.symm)).trans ((heap_setCell_other _ ⟨a,8,none⟩ g _ (fun e=>h.ne e.symm)).trans ((heap_setCell_other _ ⟨a,7,none⟩ g _ (fun e=>h.ne e.symm)).trans (heap_setCell_other W ⟨a,6,none⟩ g _ (fun e=>h.ne e.symm))))
  obtain ⟨k,t,x,wn,nn,vv,p,A,c,es⟩:=r
  have key:∀ bad',W.heap[g]? = some (WdC (leftW s) bad')→(bad=true→bad'=true)→(bad=false→((Rv.abs ⟨k,t,x,wn,nn,vv,p,A,c,es⟩).setP 4 s=some (Rv.abs ⟨k,t,x,wn,nn,vv,u,A,c,es⟩,leftW s)∧bad'=false)∨((Rv.abs ⟨k,t,x,wn,nn,vv,p,A,c,es⟩).setP 4 s=none∧bad'=true))→
   RdEnd 4 lo a g ⟨k,t,x,wn,nn,vv,p,A,c,es⟩ s bad w (.returned (.tuple #[])) ((((W.setCell ⟨a,6,none⟩ (.int .i64 u.kind)).setCell ⟨a,7,none⟩ (.int .u64 (u.a:Int))).setCell ⟨a,8,none⟩ (.int .u64 (u.b:Int))).setCell ⟨a,9,none⟩ u.sl):=fun bad' h2 h4 h5=>
   ⟨rfl,hG,⟨k,t,x,wn,nn,vv,u,A,c,es⟩,leftW s,bad',⟨heap_setCell_same _ a 9 _ _ _ (heap_setCell_same _ a 8 _ _ _ (heap_setCell_same _ a 7 _ _ _ (heap_setCell_same W a 6 _ _ _ hbx))),hoth.trans h2,⟨hL.kind,hL.t,hL.x,hL.wn,hL.n,hL.v,hLu,hL.es,hL.cap,hL.ok,hL.lo⟩,h.al,h.gl,h.ne,Nat.le_trans h.hi hG.size,hSu,hOw⟩,rfl,hls,h4,h5⟩
  rcases h3 with ⟨e1,e2⟩ | ⟨e1,e2⟩
  · exact key bad e2 (fun hb=>hb) fun hb=>.inl ⟨by show (readT (wordW s)).map _=_; rw [e1]; rfl,hb⟩
  · exact key true e2 (fun hb=>rfl) fun hb=>.inr ⟨by show (readT (wordW s)).map _=_; rw [e1]; rfl,rfl⟩
 have CC:Hid (∀ W,w.grownBy W (some g)→∃ u u2 u3 u4,(W.cell? ⟨a,6,none⟩=some u∧W.frozen? ⟨a,6,none⟩=false∧W.cell? ⟨a,7,none⟩=some u2∧W.frozen? ⟨a,7,none⟩=false)∧(W.cell? ⟨a,8,none⟩=some u3∧W.frozen? ⟨a,8,none⟩=false∧W.cell? ⟨a,9,none⟩=some u4∧W.frozen? ⟨a,9,none⟩=false)):=fun W h1=>by
  have hbx:=(h1.block a (by have:=h.al; have:=h.hi; omega) (fun e=>h.ne (by injection e))).trans h.box
  obtain ⟨k,t,x,wn,nn,vv,p,A,c,es⟩:=r
  exact ⟨_,_,_,_,⟨cell_of_row W a 6 _ _ _ hbx,frozen_of_row W a 6 _ _ hbx,cell_of_row W a 7 _ _ _ hbx,frozen_of_row W a 7 _ _ hbx⟩,⟨cell_of_row W a 8 _ _ _ hbx,frozen_of_row W a 8 _ _ hbx,cell_of_row W a 9 _ _ _ hbx,frozen_of_row W a 9 _ _ hbx⟩⟩
 clear h hE
 generalize wordW s=wd at *
 generalize leftW s=lf at *
 go_enter Tryz.func179,Tryz.ntmps179
 go_wp2_with fail
 refine NX.mono ?_
 rintro e w1 ⟨rfl,hx1,hg1⟩
 have NU1:=NU.out w1 hg1 hx1
 clear NU NX
 go_wp2_with fail
 refine NU1.mono ?_
 rintro e w2 ⟨hg2,u,rfl,hu,hus,hc2⟩
 have hs1:=hg1.size
 have HF:=Lib_hid (FIN.out w2 u (hu.more hs1 (Nat.le_refl _)) (hus.more hs1) (hg1.trans hg2) hc2)
 obtain ⟨u1,u2,u3,u4,⟨cu,zu,cu2,zu2⟩,⟨cu3,zu3,cu4,zu4⟩⟩:=CC.out w2 (hg1.trans hg2)
 clear FIN CC hg2 hc2 NU1 hg1 hx1 hu hus
 simp only [V.val,V.sl] at HF ⊢
 generalize u.addr=uA at *
 generalize u.parts.length=un at *
 generalize u.cap=uc at *
 generalize u.kind=uk at *
 generalize (u.a:Int)=ua at *
 generalize (u.b:Int)=ub at *
 go_wp2
 go_end0
 exact HF.out
set_option maxRecDepth 100000 in
set_option maxHeartbeats 1600000 in
theorem readEntries_any (B lo a g:Nat) (r:Rv) (s:List UInt8) (bad:Bool) (w:World) (h:RdS lo a g r s bad w) (hE:EnvM B w) (hB:B≤g) (hBa:B≤a) (hl:s.length≤1000000) :
 Calls Tryz.prog 189 #[.pointer (some ⟨a,0,none⟩),.pointer (some ⟨g,0,none⟩)] w (RdEnd 5 lo a g r s bad w):=by
 have hgs:=(Array.getElem?_eq_some_iff.1 h.wds).1
 have NU:=entries5_any B g s bad w h.wds hE hB hl
 have FIN:Hid (∀ (W:World) (A':Option Addr) (n' c':Nat) (es':List En) (s':List UInt8) (bad':Bool),n'=es'.length→w.grownBy W (some g)→(∀ x∈es',x.ok)→W.ownsRow w.heap.size 125 4 (.slice A' n' c') n' (enCells es')→W.heap[g]? = some (WdC s' bad')→n'+s'.length≤s.length→(bad=true→bad'=true)→
  (bad=false→(ensW s.length s=some es'∧s'=[]∧bad'=false)∨(ensW s.length s=none∧bad'=true))→RdEnd 5 lo a g r s bad w (.returned (.tuple #[])) (W.setCell ⟨a,10,none⟩ (.slice A' n' c'))):=fun W A' n' c' es' s' bad' hn h1 hok hown h2 hle hb1 hb2=>by
  subst hn
  have hG0:Grow2 W (W.setCell ⟨a,10,none⟩ (.slice A' es'.length c')) a g:=Grow2.set W a g 10 _
  have hG:Grow2 w (W.setCell ⟨a,10,none⟩ (.slice A' es'.length c')) a g:=(Grow2.of h1).trans hG0
  have hL:=h.lies.grow2 hG h.al h.gl (Nat.le_refl _)
  obtain ⟨hSh,hOw⟩:=h.rest hG
  have hal:=h.al
  have hgl:=h.gl
  have hhi:=h.hi
  have hbx:=(h1.block a (by have:=h.al; have:=h.hi; omega) (fun e=>h.ne (by injection e))).trans h.box
  have hOn:=own_base (b':=lo) (own_keep hown (w':=W.setCell ⟨a,10,none⟩ (.slice A' es'.length c')) fun k hk=>heap_setCell_other W ⟨a,10,none⟩ k _ (fun e=>by have:=own_ge hown k hk; have e:k=a:=e; omega)) (fun k hk=>by have:=own_ge hown k hk; omega)
  have hrd:Rd (W.setCell ⟨a,10,none⟩ (.slice A' es'.length c')) (W.setCell ⟨a,10,none⟩ (.slice A' es'.length c')).heap.size 4 A' es'.length (enCells es'):=Rd.own (own_keep hown (w':=W.setCell ⟨a,10,none⟩ (.slice A' es'.length c')) fun k hk=>heap_setCell_other W ⟨a,10,none⟩ k _ (fun e=>by have:=own_ge hown k hk; have e:k=a:=e; omega))
  have hlo:∀ ad,A'=some ad→0<es'.length→lo≤ad.block:=fun ad e hn=>by
   obtain ⟨gg,cap,hv,hgg,hlt⟩:=hown.form hn
   have hA:A'=some ⟨gg,0,none⟩:=by injection hv
   rw [hA] at e
   injection e with e
   subst e
   have:=own_ge hown gg (by rw [hA]; rfl)
   show lo≤gg
   omega
  obtain ⟨k,t,x,wn,nn,vv,p,A,c,es⟩:=r
  refine ⟨rfl,hG,⟨k,t,x,wn,nn,vv,p,A',c',es'⟩,s',bad',⟨heap_setCell_same W a 10 _ _ _ hbx,(heap_setCell_other W ⟨a,10,none⟩ g _ (fun e=>h.ne e.symm)).trans h2,⟨hL.kind,hL.t,hL.x,hL.wn,hL.n,hL.v,hL.p,hrd,own_cap hown,hok,hlo⟩,h.al,h.gl,h.ne,Nat.le_trans h.hi hG.size,hSh,hOn⟩,rfl,by omega,hb1,fun hb=>?_⟩
  rcases hb2 hb with ⟨e1,e2,e3⟩ | ⟨e1,e2⟩
  · exact .inl ⟨by show (ensW s.length s).map _=_; rw [e1,e2]; rfl,e3⟩
  · exact .inr ⟨by show (ensW s.length s).map _=_; rw [e1]; rfl,e2⟩
 have CC:Hid (∀ W,w.grownBy W (some g)→∃ u,W.cell? ⟨a,10,none⟩=some u∧W.frozen? ⟨a,10,none⟩=false):=fun W h1=>by
  have hbx:=(h1.block a (by have:=h.al; have:=h.hi; omega) (fun e=>h.ne (by injection e))).trans h.box
  obtain ⟨k,t,x,wn,nn,vv,p,A,c,es⟩:=r
  exact ⟨_,cell_of_row W a 10 _ _ _ hbx,frozen_of_row W a 10 _ _ hbx⟩
 clear h hE
 go_enter Tryz.func189,Tryz.ntmps189
 go_wp2_with fail
 refine NU.mono ?_
 rintro e w2 ⟨hg2,A',c',es',s',bad',rfl,hok,hown,hx2,hle,hb1,hb2⟩
 have HF:=Lib_hid (FIN.out w2 A' _ c' es' s' bad' rfl hg2 hok hown hx2 hle hb1 hb2)
 obtain ⟨u,cu,zu⟩:=CC.out w2 hg2
 clear FIN CC hg2 hx2 hb2 NU hok hown
 generalize es'.length=n' at *
 go_wp2
 go_end0
 exact HF.out
theorem read6_any (i:Nat) (hi6:i<6) (B lo a g:Nat) (r:Rv) (s:List UInt8) (bad:Bool) (w:World) (h:RdS lo a g r s bad w) (hE:EnvM B w) (hB:B≤g) (hBa:B≤a) (hl:s.length≤1000000) :
 Calls Tryz.prog (mreadF i) #[.pointer (some ⟨a,0,none⟩),.pointer (some ⟨g,0,none⟩)] w (RdEnd i lo a g r s bad w):=by
 have:i=0∨i=1∨i=2∨i=3∨i=4∨i=5:=by omega
 rcases this with rfl | rfl | rfl | rfl | rfl | rfl
 · exact readT_any B lo a g r s bad w h hE hB hBa hl
 · exact readX_any B lo a g r s bad w h hE hB hBa hl
 · exact readV_any B lo a g r s bad w h hE hB hBa hl
 · exact readValue_any B lo a g r s bad w h hE hB hBa hl
 · exact readP_any B lo a g r s bad w h hE hB hBa hl
 · exact readEntries_any B lo a g r s bad w h hE hB hBa hl
set_option maxRecDepth 100000 in
theorem call_read {i:Nat} (hi6:i<6):∀ (args:Array Value) (wx:World),(callFunc (mreadF i) args).run Tryz.prog wx=.ok (.enter (mreadF i) args) wx:=by
 have:i=0∨i=1∨i=2∨i=3∨i=4∨i=5:=by omega
 rcases this with rfl | rfl | rfl | rfl | rfl | rfl <;> exact fun args wx=>by kernel_rfl
def GoodB (e:Nat) (bad:Bool):Prop:=e=0∧bad=false
def Took {α:Type} (o:Option (α×Nat)) (e:Nat) (bad:Bool) (x:α) (a' e':Nat) (bad':Bool):Prop:=
 (¬ GoodB e bad→¬ GoodB e' bad')∧(GoodB e bad→(o=some (x,a')∧GoodB e' bad')∨(o=none∧¬ GoodB e' bad'))
section
variable {α β:Type} {o:Option (α×Nat)} {e a' e' a2 e2:Nat} {bad bad' bad2:Bool} {x:α} {y:β}
theorem Took.bind {f:α×Nat→Option (β×Nat)} (h:Took o e bad x a' e' bad') (k:Took (f (x,a')) e' bad' y a2 e2 bad2):Took (o.bind f) e bad y a2 e2 bad2:=by
 refine ⟨fun hn=>k.1 (h.1 hn),fun hg=>?_⟩
 rcases h.2 hg with ⟨h1,h2⟩ | ⟨h1,h2⟩
 · rw [h1,Option.bind_some]
   exact k.2 h2
 · rw [h1]
   exact .inr ⟨rfl,k.1 h2⟩
theorem Took.map (f:α→β) {g:α×Nat→β×Nat} (hg:∀ x r,g (x,r)=(f x,r)) (h:Took o e bad x a' e' bad'):Took (o.map g) e bad (f x) a' e' bad':=by
 refine ⟨h.1,fun hb=>?_⟩
 rcases h.2 hb with ⟨h1,h2⟩ | ⟨h1,h2⟩
 · exact .inl ⟨by rw [h1,Option.map_some,hg],h2⟩
 · exact .inr ⟨by rw [h1]; rfl,h2⟩
end
theorem num_took {l:List Nat} {a e a' e' v:Nat} (h:numR l a e=(a',e',v)) (bad:Bool):Took (numT l a) e bad v a' e' bad:=by
 unfold numR at h
 by_cases he:e=0
 · subst he
   rw [if_neg (by omega)] at h
   unfold numT
   split at h
   · rename_i hz
     injection h with h1 h2
     injection h2 with h2 h3
     rw [if_neg hz]
     refine ⟨fun hn hg=>hn ⟨rfl,hg.2⟩,fun _=>.inr ⟨rfl,fun hg=>hz (h2.trans hg.1)⟩⟩
   · rename_i hz
     injection h with h1 h2
     injection h2 with h2 h3
     subst h1 h2 h3
     rw [if_pos (by omega)]
     exact ⟨fun hn=>hn,fun hg=>.inl ⟨rfl,hg⟩⟩
 · rw [if_pos he] at h
   injection h with h1 h2
   injection h2 with h2 h3
   exact ⟨fun hn hg=>he (h2.trans hg.1),fun hg=>absurd hg.1 he⟩
def matT (l:List Nat) (a:Nat):Option (Bool×Nat):=if a<l.length∧l.getD a 0≤1 then some (l.getD a 0 == 1,a+1) else none
theorem entT_eq (l:List Nat) (a:Nat):entT l a=(numT l a).bind fun x=>(numT l x.2).bind fun y=>(numT l y.2).bind fun z=>(matT l z.2).map fun m=>(⟨x.1,y.1,z.1,m.1⟩,m.2):=by
 unfold entT matT
 congr 1; funext x
 congr 1; funext y
 congr 1; funext z
 split <;> rfl
def verT (l:List Nat) (a:Nat):Option ((Nat×Nat)×Nat):=(numT l a).bind fun x=>(numT l x.2).map fun y=>((x.1,y.1),y.2)
theorem raw_took {l:List Nat} {a e a' e':Nat} {m:List Nat} (h:rawS l a e 1=(a',e',m)) (ha:a≤l.length) (bad:Bool) :
 (m=[]∧¬ GoodB e' true∧Took (matT l a) e bad false a' e' true)∨(∃ c,m=[c]∧e'=0∧e=0∧c=l.getD a 0∧(1<c→Took (matT l a) e bad false a' e' true)∧(c≤1→Took (matT l a) e bad (c == 1) a' e' bad)):=by
 have hnb:∀ e',¬ GoodB e' true:=fun e' h=>by cases h.2
 unfold rawS at h
 by_cases he:e=0
 · subst he
   rw [if_neg (by omega),if_neg (by omega)] at h
   by_cases hl:(l.length:Int) - a<1
   · rw [if_pos hl] at h
     injection h with h1 h2
     injection h2 with h2 h3
     refine .inl ⟨h3.symm,hnb _,fun _=>hnb _,fun _=>.inr ⟨?_,hnb _⟩⟩
     unfold matT
     rw [if_neg (by omega)]
   · rw [if_neg hl] at h
     injection h with h1 h2
     injection h2 with h2 h3
     have hlt:a<l.length:=by omega
     have hm:m=[l.getD a 0]:=by
      rw [← h3,List.drop_eq_getElem_cons hlt,List.getD_eq_getElem?_getD,List.getElem?_eq_getElem hlt]
      rfl
     refine .inr ⟨l.getD a 0,hm,h2.symm,rfl,rfl,fun hc=>⟨fun _=>hnb _,fun _=>.inr ⟨?_,hnb _⟩⟩,fun hc=>?_⟩
     · unfold matT
       rw [if_neg (by omega)]
     · subst h1 h2
       refine ⟨fun hn=>hn,fun hg=>.inl ⟨?_,hg⟩⟩
       unfold matT
       rw [if_pos ⟨hlt,hc⟩]
       rfl
 · rw [if_pos he] at h
   injection h with h1 h2
   injection h2 with h2 h3
   exact .inl ⟨h3.symm,hnb _,fun _=>hnb _,fun hg=>absurd hg.1 he⟩
theorem text_took {l:List Nat} {a e a' e':Nat} {m:List Nat} (h:textS l a e=(a',e',m)) (bad:Bool):Took (txtT l a) e bad m a' e' bad:=by
 obtain ⟨⟨p,e1,v⟩,hS⟩:∃ x,numR l a e=x:=⟨_,rfl⟩
 have hN:=num_took hS bad
 unfold textS at h
 rw [hS] at h
 simp only at h
 by_cases h0:e1=0
 · subst h0
   rw [if_neg (by omega)] at h
   refine hN.bind (f:=fun x:Nat×Nat=>if (l.length:Int) - x.2<x.1 then none else some ((l.drop x.2).take x.1,x.2+x.1)) ?_
   by_cases hl:(l.length:Int) - p<v
   · rw [if_pos hl] at h
     injection h with h1 h2
     injection h2 with h2 h3
     refine ⟨fun hn hg=>hn ⟨rfl,hg.2⟩,fun _=>.inr ⟨if_pos hl,fun hg=>?_⟩⟩
     have:=h2.trans hg.1
     omega
   · rw [if_neg hl] at h
     injection h with h1 h2
     injection h2 with h2 h3
     subst h1 h2 h3
     exact ⟨fun hn=>hn,fun hg=>.inl ⟨if_neg hl,hg⟩⟩
 · rw [if_pos h0] at h
   injection h with h1 h2
   injection h2 with h2 h3
   have hb:¬ GoodB e' bad:=fun hg=>h0 (h2.trans hg.1)
   refine ⟨fun _=>hb,fun hg=>.inr ⟨?_,hb⟩⟩
   rcases hN.2 hg with ⟨_,h5⟩ | ⟨h4,_⟩
   · exact absurd h5.1 h0
   · unfold txtT
     rw [h4]
     rfl
structure PlS (g h:Nat) (A:Option Addr) (n c:Nat) (l:List Nat) (a e:Nat) (bad:Bool) (w:World):Prop where
 box:w.heap[g]? = some (.cells #[.pointer (some ⟨h,0,none⟩),.bool bad] 208 (0,0))
 rd:Rr 233 w h A n c l a e
 lt:h<g
section
variable {g h n c a e:Nat} {A:Option Addr} {l:List Nat} {bad:Bool} {w w':World}
theorem PlS.gl (p:PlS g h A n c l a e bad w):g<w.heap.size:=lt_of_block p.box
theorem PlS.kept (p:PlS g h A n c l a e bad w) (hb:Below w.heap.size w w'):PlS g h A n c l a e bad w':=⟨(hb.block g p.gl).trans p.box,p.rd.kept hb,p.lt⟩
theorem PlS.cells (p:PlS g h A n c l a e bad w):w.cell? ⟨g,0,none⟩=some (.pointer (some ⟨h,0,none⟩))∧w.cell? ⟨g,1,none⟩=some (.bool bad)∧w.frozen? ⟨g,0,none⟩=false∧w.frozen? ⟨g,1,none⟩=false:=
 ⟨cell_of_row w _ 0 _ _ _ p.box,cell_of_row w _ 1 _ _ _ p.box,frozen_of_row w g 0 _ _ p.box,frozen_of_row w g 1 _ _ p.box⟩
theorem PlS.step {a' e':Nat} (p:PlS g h A n c l a e bad w) (hr:RLeft h A n c l a' e' w w'):PlS g h A n c l a' e' bad w':=⟨(hr.2.block g p.gl (by have:=p.lt; omega)).trans p.box,hr.1,p.lt⟩
theorem PlS.spoilt (p:PlS g h A n c l a e bad w) (b:Bool):PlS g h A n c l a e b (w.setCell ⟨g,1,none⟩ (.bool b)):=by
 have hlt:=p.lt
 refine ⟨heap_setCell_same w g 1 _ _ _ p.box,⟨?_,p.rd.rd.keep fun q hq=>World.cell?_setCell_other _ _ _ _ (fun e=>?_),p.rd.nc,p.rd.b8,p.rd.len,p.rd.place,p.rd.err⟩,p.lt⟩
 · exact (heap_setCell_other w ⟨g,1,none⟩ h _ (by show h≠g; omega)).trans p.rd.blk
 · rw [← e] at hq
   have:g<h:=hq
   omega
end
theorem RStp.grow2 {w w':World} {h:Nat} (k:RStp w w' h) (g:Nat):Grow2 w w' g h:=⟨k.os,k.tape,k.output,k.size,fun i hi _ h2=>k.block i hi h2⟩
end Go.Proofs.YtinmoknbgnngcaaGreatDoor
