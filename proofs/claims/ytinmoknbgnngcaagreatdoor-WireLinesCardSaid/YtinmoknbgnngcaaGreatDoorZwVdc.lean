/-
  Layer 5: docs.Record: the document's record of a program's, in new memory.
-/
import Derived.Test.YtinmoknbgnngcaaGreatDoorZwInv
import Derived.Test.YtinmoknbgnngcaaGreatDoorZwVcm
import Derived.Test.YtinmoknbgnngcaaGreatDoorZwTex
import Derived.Test.YtinmoknbgnngcaaGreatDoorZwInq
namespace Go.Proofs.YtinmoknbgnngcaaGreatDoor
open Go Go.RowKit
set_option linter.unusedVariables false
def RecMade (t:Rc) (w:World) (e:Ending) (w':World):Prop:=∃ u:Rv,e=.returned u.val∧u.abs=t∧RLies w' w.heap.size w'.heap.size u∧Below w.heap.size w w'
theorem Tryz.infoE5:(Tryz.prog.info? 120).map (fun i=>(i.zero,i.size,i.bytes))=some (some (.agg #[.int .u64 0,.int .u64 0,.int .u64 0,.bool false]),4,32):=by kernel_rfl
theorem Lies.aside {E:TypeId} {w w':World} {lo hi lo':Nat} {v:V} (h:Lies w lo hi v) (hS:Shp E w lo' v) (hk:∀ (g:Nat) (arr:Array Value),w.heap[g]? = some (Obj.cells arr E (0,0))→w'.heap[g]? = w.heap[g]?):Lies w' lo hi v:=by
 induction h with
 | mk k a b A c ps h1 h2 h3 h4 h5 h6 _ ih=>
  cases hS with
  | mk _ _ _ _ _ _ s1 s2=>
  refine .mk k a b A c ps h1 h2 h3 ⟨h4.len,fun hn=>?_⟩ h5 h6 fun p hp=>ih p hp (s2 p hp)
  obtain ⟨ad,e,hb,hc⟩:=h4.lies hn
  obtain ⟨g,arr,e2,_,hg,_⟩:=s1 hn
  rw [e] at e2
  injection e2 with e2
  subst e2
  exact ⟨_,e,hb,fun j u hu=>(World.cell?_of_block (by rw [add_block]; exact hk g arr hg)).trans (hc j u hu)⟩
theorem Shp.aside2 {E:TypeId} {w w':World} {lo:Nat} {v:V} (h:Shp E w lo v) (hk:∀ (g:Nat) (arr:Array Value),w.heap[g]? = some (Obj.cells arr E (0,0))→w'.heap[g]? = w.heap[g]?):Shp E w' lo v:=by
 induction h with
 | mk k a b A c ps h1 _ ih=>
  refine .mk k a b A c ps (fun hn=>?_) ih
  obtain ⟨g,arr,e,hg,hb,hc⟩:=h1 hn
  exact ⟨g,arr,e,hg,(hk g arr hb).trans hb,hc⟩
theorem drec_ret {Q:Ending→World→Prop} {W:World} {h0:Nat} {x0 x1 x2 x3 x4 x5 x6 x7 x8 x9 x10:Value} (HR:W.heap[h0]? = some (.cells #[x0,x1,x2,x3,x4,x5,x6,x7,x8,x9,x10] 60 (0,0)))
 (HF:Q (.returned (.agg #[x0,x1,x2,x3,x4,x5,x6,x7,x8,x9,x10])) W)
 (tmps:Array Value) (h2:tmps.getD 2 undef=.pointer (some ⟨h0,0,none⟩)):bodyPost Tryz.prog Tryz.f23 Q .ret {tmps:=tmps,defers:=[]} W:=by
 rw [Array.getD_eq_getD_getElem?] at h2
 obtain ⟨d0,d1,d2,d3,d4,d5,d6,d7,d8,d9,d10⟩:=rec_cells HR
 exact bodyPost_ret (v:=.agg #[x0,x1,x2,x3,x4,x5,x6,x7,x8,x9,x10]) (by simp [results,Tryz.results23,go_sem,h2,d0,d1,d2,d3,d4,d5,d6,d7,d8,d9,d10]) rfl HF
set_option maxRecDepth 100000 in
set_option maxHeartbeats 6400000 in
theorem drec5_any (r:Rv) (w:World) (lo hi:Nat) (hL:RLies w lo hi r) (hhi:hi≤w.heap.size) (hct:r.p.abs.count≤1000) (hes:r.es.length≤100000) :
 Calls Tryz.prog 23 #[r.val] w (RecMade r.abs w):=by
 have DE:Hid (∀ W,Below w.heap.size w W→Calls Tryz.prog 44 #[r.p.val] W (MadeT 57 r.p.abs W)):=fun W hW=>dexpr_any r.p W lo hi (hL.p.under (hW.mono hhi)) (Nat.le_trans hhi hW.size) hct
 have HR:Hid (∀ W,Below w.heap.size w W→Rd W hi 4 r.A r.es.length (enCells r.es)):=fun W hW=>hL.es.below (hW.mono hhi)
 have HOK:=Lib_hid hL.ok
 have HNM:=Lib_hid (And.intro hL.kind (And.intro hL.t (And.intro hL.x (And.intro hL.wn (And.intro hL.n hL.v)))))
 clear hL hct
 obtain ⟨i0,hi0,hz0,hz1,hz2⟩:=info_parts Tryz.infoE5
 obtain ⟨k,t,x,wn,nn,vl,p,Ae,ce,es⟩:=r
 simp only [Rv.val,Rv.arr,Rv.sl,V.sl,V.val] at DE HR HOK HNM hes ⊢
 have h1:=heap_alloc_new w (.cells #[.int .i64 k,.int .u64 (t:Int),.int .u64 (x:Int),.int .u64 (wn:Int),.int .u64 (nn:Int),.int .u64 (vl:Int),.int .i64 p.kind,.int .u64 (p.a:Int),.int .u64 (p.b:Int),.slice p.addr p.parts.length p.cap,.slice Ae es.length ce] 68)
 have b1:=below_new w (.cells #[.int .i64 k,.int .u64 (t:Int),.int .u64 (x:Int),.int .u64 (wn:Int),.int .u64 (nn:Int),.int .u64 (vl:Int),.int .i64 p.kind,.int .u64 (p.a:Int),.int .u64 (p.b:Int),.slice p.addr p.parts.length p.cap,.slice Ae es.length ce] 68)
 obtain ⟨wa,hwa⟩:∃ wa,wa=w.alloc (.cells #[.int .i64 k,.int .u64 (t:Int),.int .u64 (x:Int),.int .u64 (wn:Int),.int .u64 (nn:Int),.int .u64 (vl:Int),.int .i64 p.kind,.int .u64 (p.a:Int),.int .u64 (p.b:Int),.slice p.addr p.parts.length p.cap,.slice Ae es.length ce] 68):=⟨_,rfl⟩
 have s1:wa.heap.size=w.heap.size+1:=by rw [hwa]; simp
 rw [← hwa] at h1 b1
 have h2:=heap_alloc_new wa (.cells #[.int .i64 0,.int .u64 0,.int .u64 0,.int .u64 0,.int .u64 0,.int .u64 0,.int .i64 0,.int .u64 0,.int .u64 0,.slice none 0 0,.slice none 0 0] 60)
 have b2:=below_new wa (.cells #[.int .i64 0,.int .u64 0,.int .u64 0,.int .u64 0,.int .u64 0,.int .u64 0,.int .i64 0,.int .u64 0,.int .u64 0,.slice none 0 0,.slice none 0 0] 60)
 obtain ⟨w1,hw1⟩:∃ w1,w1=wa.alloc (.cells #[.int .i64 0,.int .u64 0,.int .u64 0,.int .u64 0,.int .u64 0,.int .u64 0,.int .i64 0,.int .u64 0,.int .u64 0,.slice none 0 0,.slice none 0 0] 60):=⟨_,rfl⟩
 have s2:w1.heap.size=w.heap.size+2:=by rw [hw1]; simp [s1]
 rw [← hw1,s1] at h2
 rw [← hw1] at b2
 replace h1:=(b2.block _ (by omega)).trans h1
 have hbw:=b1.trans (b2.mono b1.size)
 have BX:Hid (∀ W,Below w1.heap.size w1 W→W.heap[w.heap.size]? = some (.cells #[.int .i64 k,.int .u64 (t:Int),.int .u64 (x:Int),.int .u64 (wn:Int),.int .u64 (nn:Int),.int .u64 (vl:Int),.int .i64 p.kind,.int .u64 (p.a:Int),.int .u64 (p.b:Int),.slice p.addr p.parts.length p.cap,.slice Ae es.length ce] 68 (0,0))∧W.heap[w.heap.size+1]? = some (.cells #[.int .i64 0,.int .u64 0,.int .u64 0,.int .u64 0,.int .u64 0,.int .u64 0,.int .i64 0,.int .u64 0,.int .u64 0,.slice none 0 0,.slice none 0 0] 60 (0,0))∧Below w.heap.size w W∧Lib.joinTail [] []=[]):=fun W hW=>⟨(hW.block _ (by omega)).trans h1,(hW.block _ (by omega)).trans h2,hbw.trans (hW.mono (by omega)),rfl⟩
 have S2:=Lib_hid s2
 clear b1 b2 s1 s2 h1 h2
 subst hwa
 go_enter Tryz.func23,Tryz.ntmps23
 go_upto_region 1 with (fail)
 rw [← hw1]
 clear hw1
 refine wp_region_midT (N:=47) 16 (fun i v ww=>([fun v ww=>v=.pointer (some ⟨w.heap.size,0,none⟩),fun v ww=>v=.int .i64 k,fun v ww=>v=.pointer (some ⟨w.heap.size,1,none⟩),fun v ww=>v=.int .u64 (t:Int),fun v ww=>v=.pointer (some ⟨w.heap.size,2,none⟩),fun v ww=>v=.int .u64 (x:Int),fun v ww=>v=.pointer (some ⟨w.heap.size,3,none⟩),fun v ww=>v=.agg #[.int .u64 (wn:Int),.int .u64 (nn:Int)],fun v ww=>v=.agg #[.int .u64 (wn:Int),.int .u64 (nn:Int)],fun v ww=>v=.pointer (some ⟨w.heap.size,5,none⟩),fun v ww=>v=.int .u64 (vl:Int),fun v ww=>v=.pointer (some ⟨w.heap.size,6,none⟩),fun v ww=>v=.agg #[.int .i64 p.kind,.int .u64 (p.a:Int),.int .u64 (p.b:Int),.slice p.addr p.parts.length p.cap],fun v ww=>∃ u:V,v=.agg #[.int .i64 u.kind,.int .u64 (u.a:Int),.int .u64 (u.b:Int),.slice u.addr u.parts.length u.cap]∧u.abs=p.abs∧Lies ww w1.heap.size ww.heap.size u∧Shp 57 ww w1.heap.size u,fun v ww=>∃ u:V,v=.agg #[.int .i64 k,.int .u64 (t:Int),.int .u64 (x:Int),.int .u64 (wn:Int),.int .u64 (nn:Int),.int .u64 (vl:Int),.int .i64 u.kind,.int .u64 (u.a:Int),.int .u64 (u.b:Int),.slice u.addr u.parts.length u.cap,.slice none 0 0]∧u.abs=p.abs∧Lies ww w1.heap.size ww.heap.size u∧Shp 57 ww w1.heap.size u,fun v ww=>∃ g,v=.pointer (some ⟨g,0,none⟩)∧ww.heap[g]? = some (.cells #[.int .i64 0,.int .u64 0,.int .u64 0,.int .u64 0,.int .u64 0,.int .u64 0,.int .i64 0,.int .u64 0,.int .u64 0,.slice none 0 0,.slice none 0 0] 60 (0,0))∧w1.heap.size≤g]:List (Value→World→Prop)).getD i (fun _ _=>True) v ww) (by kernel_rfl) (by kernel_rfl) (by kernel_rfl) rfl ?_ ?_ ?_
 · intro i v wa wb h0 hb hp
   by_cases hi:i<16
   · have hcase:i=0∨i=1∨i=2∨i=3∨i=4∨i=5∨i=6∨i=7∨i=8∨i=9∨i=10∨i=11∨i=12∨i=13∨i=14∨i=15:=by omega
     rcases hcase with rfl | rfl | rfl | rfl | rfl | rfl | rfl | rfl | rfl | rfl | rfl | rfl | rfl | rfl | rfl | rfl
     · exact hp
     · exact hp
     · exact hp
     · exact hp
     · exact hp
     · exact hp
     · exact hp
     · exact hp
     · exact hp
     · exact hp
     · exact hp
     · exact hp
     · exact hp
     · obtain ⟨u,e,k1,k2,k3⟩:=hp
       exact ⟨u,e,k1,(k2.under hb).more (Nat.le_refl _) hb.size,k3.under hb⟩
     · obtain ⟨u,e,k1,k2,k3⟩:=hp
       exact ⟨u,e,k1,(k2.under hb).more (Nat.le_refl _) hb.size,k3.under hb⟩
     · obtain ⟨g,e,hg,hN⟩:=hp
       exact ⟨g,e,(hb.block g (lt_of_block hg)).trans hg,hN⟩
   · have hnn:([fun v ww=>v=.pointer (some ⟨w.heap.size,0,none⟩),fun v ww=>v=.int .i64 k,fun v ww=>v=.pointer (some ⟨w.heap.size,1,none⟩),fun v ww=>v=.int .u64 (t:Int),fun v ww=>v=.pointer (some ⟨w.heap.size,2,none⟩),fun v ww=>v=.int .u64 (x:Int),fun v ww=>v=.pointer (some ⟨w.heap.size,3,none⟩),fun v ww=>v=.agg #[.int .u64 (wn:Int),.int .u64 (nn:Int)],fun v ww=>v=.agg #[.int .u64 (wn:Int),.int .u64 (nn:Int)],fun v ww=>v=.pointer (some ⟨w.heap.size,5,none⟩),fun v ww=>v=.int .u64 (vl:Int),fun v ww=>v=.pointer (some ⟨w.heap.size,6,none⟩),fun v ww=>v=.agg #[.int .i64 p.kind,.int .u64 (p.a:Int),.int .u64 (p.b:Int),.slice p.addr p.parts.length p.cap],fun v ww=>∃ u:V,v=.agg #[.int .i64 u.kind,.int .u64 (u.a:Int),.int .u64 (u.b:Int),.slice u.addr u.parts.length u.cap]∧u.abs=p.abs∧Lies ww w1.heap.size ww.heap.size u∧Shp 57 ww w1.heap.size u,fun v ww=>∃ u:V,v=.agg #[.int .i64 k,.int .u64 (t:Int),.int .u64 (x:Int),.int .u64 (wn:Int),.int .u64 (nn:Int),.int .u64 (vl:Int),.int .i64 u.kind,.int .u64 (u.a:Int),.int .u64 (u.b:Int),.slice u.addr u.parts.length u.cap,.slice none 0 0]∧u.abs=p.abs∧Lies ww w1.heap.size ww.heap.size u∧Shp 57 ww w1.heap.size u,fun v ww=>∃ g,v=.pointer (some ⟨g,0,none⟩)∧ww.heap[g]? = some (.cells #[.int .i64 0,.int .u64 0,.int .u64 0,.int .u64 0,.int .u64 0,.int .u64 0,.int .i64 0,.int .u64 0,.int .u64 0,.slice none 0 0,.slice none 0 0] 60 (0,0))∧w1.heap.size≤g]:List (Value→World→Prop))[i]? = none:=List.getElem?_eq_none (by simpa using hi)
     rw [List.getD_eq_getElem?_getD,hnn]
     trivial
 · intro i o a wx hi8 hi hM hD
   have hcase:i=0∨i=1∨i=2∨i=3∨i=4∨i=5∨i=6∨i=7∨i=8∨i=9∨i=10∨i=11∨i=12∨i=13∨i=14∨i=15:=by omega
   clear hi8
   rcases hcase with rfl | rfl | rfl | rfl | rfl | rfl | rfl | rfl | rfl | rfl | rfl | rfl | rfl | rfl | rfl | rfl
   · obtain rfl:=Option.some.inj hi
     have e1:a.tmps.getD 1 undef=.pointer (some ⟨w.heap.size,0,none⟩):=(hM.other 1 (by decide +kernel)).trans rfl
     refine ⟨rfl,mid_step (.pointer (some ⟨w.heap.size,0,none⟩)) wx (fun K hK=>?_) ⟨_,rfl,rfl,Below.refl _ _⟩⟩
     go_simp
     exact hK
   · obtain rfl:=Option.some.inj hi
     have e6:a.tmps.getD 6 undef=.pointer (some ⟨w.heap.size,0,none⟩):=hD 0 (by kernel_rfl) _ 6 rfl rfl
     obtain ⟨c0,c1,c2,c3,c4,c5,c6,c7,c8,c9,-⟩:=rec_cells (BX.out wx hM.below).1
     refine ⟨rfl,mid_step (.int .i64 k) wx (fun K hK=>?_) ⟨_,rfl,rfl,Below.refl _ _⟩⟩
     go_simp
     exact hK
   · obtain rfl:=Option.some.inj hi
     have e1:a.tmps.getD 1 undef=.pointer (some ⟨w.heap.size,0,none⟩):=(hM.other 1 (by decide +kernel)).trans rfl
     refine ⟨rfl,mid_step (.pointer (some ⟨w.heap.size,1,none⟩)) wx (fun K hK=>?_) ⟨_,rfl,rfl,Below.refl _ _⟩⟩
     go_simp
     exact hK
   · obtain rfl:=Option.some.inj hi
     have e8:a.tmps.getD 8 undef=.pointer (some ⟨w.heap.size,1,none⟩):=hD 2 (by kernel_rfl) _ 8 rfl rfl
     obtain ⟨c0,c1,c2,c3,c4,c5,c6,c7,c8,c9,-⟩:=rec_cells (BX.out wx hM.below).1
     refine ⟨rfl,mid_step (.int .u64 (t:Int)) wx (fun K hK=>?_) ⟨_,rfl,rfl,Below.refl _ _⟩⟩
     go_simp
     exact hK
   · obtain rfl:=Option.some.inj hi
     have e1:a.tmps.getD 1 undef=.pointer (some ⟨w.heap.size,0,none⟩):=(hM.other 1 (by decide +kernel)).trans rfl
     refine ⟨rfl,mid_step (.pointer (some ⟨w.heap.size,2,none⟩)) wx (fun K hK=>?_) ⟨_,rfl,rfl,Below.refl _ _⟩⟩
     go_simp
     exact hK
   · obtain rfl:=Option.some.inj hi
     have e10:a.tmps.getD 10 undef=.pointer (some ⟨w.heap.size,2,none⟩):=hD 4 (by kernel_rfl) _ 10 rfl rfl
     obtain ⟨c0,c1,c2,c3,c4,c5,c6,c7,c8,c9,-⟩:=rec_cells (BX.out wx hM.below).1
     refine ⟨rfl,mid_step (.int .u64 (x:Int)) wx (fun K hK=>?_) ⟨_,rfl,rfl,Below.refl _ _⟩⟩
     go_simp
     exact hK
   · obtain rfl:=Option.some.inj hi
     have e1:a.tmps.getD 1 undef=.pointer (some ⟨w.heap.size,0,none⟩):=(hM.other 1 (by decide +kernel)).trans rfl
     refine ⟨rfl,mid_step (.pointer (some ⟨w.heap.size,3,none⟩)) wx (fun K hK=>?_) ⟨_,rfl,rfl,Below.refl _ _⟩⟩
     go_simp
     exact hK
   · obtain rfl:=Option.some.inj hi
     have e12:a.tmps.getD 12 undef=.pointer (some ⟨w.heap.size,3,none⟩):=hD 6 (by kernel_rfl) _ 12 rfl rfl
     obtain ⟨c0,c1,c2,c3,c4,c5,c6,c7,c8,c9,-⟩:=rec_cells (BX.out wx hM.below).1
     refine ⟨rfl,mid_step (.agg #[.int .u64 (wn:Int),.int .u64 (nn:Int)]) wx (fun K hK=>?_) ⟨_,rfl,rfl,Below.refl _ _⟩⟩
     go_simp
     exact hK
   · obtain rfl:=Option.some.inj hi
     have e13:a.tmps.getD 13 undef=.agg #[.int .u64 (wn:Int),.int .u64 (nn:Int)]:=hD 7 (by kernel_rfl) _ 13 rfl rfl
     refine ⟨rfl,mid_call (fun v w'=>v=(.agg #[.int .u64 (wn:Int),.int .u64 (nn:Int)])∧Below wx.heap.size wx w') (fun K hK=>?_) (fun v w' h=>⟨v,rfl,h.1,h.2⟩)⟩
     go_simp
     refine (docver_any wn nn wx).mono ?_
     rintro e w' ⟨rfl,hb'⟩
     exact hK _ _ ⟨rfl,hb'⟩
   · obtain rfl:=Option.some.inj hi
     have e1:a.tmps.getD 1 undef=.pointer (some ⟨w.heap.size,0,none⟩):=(hM.other 1 (by decide +kernel)).trans rfl
     refine ⟨rfl,mid_step (.pointer (some ⟨w.heap.size,5,none⟩)) wx (fun K hK=>?_) ⟨_,rfl,rfl,Below.refl _ _⟩⟩
     go_simp
     exact hK
   · obtain rfl:=Option.some.inj hi
     have e15:a.tmps.getD 15 undef=.pointer (some ⟨w.heap.size,5,none⟩):=hD 9 (by kernel_rfl) _ 15 rfl rfl
     obtain ⟨c0,c1,c2,c3,c4,c5,c6,c7,c8,c9,-⟩:=rec_cells (BX.out wx hM.below).1
     refine ⟨rfl,mid_step (.int .u64 (vl:Int)) wx (fun K hK=>?_) ⟨_,rfl,rfl,Below.refl _ _⟩⟩
     go_simp
     exact hK
   · obtain rfl:=Option.some.inj hi
     have e1:a.tmps.getD 1 undef=.pointer (some ⟨w.heap.size,0,none⟩):=(hM.other 1 (by decide +kernel)).trans rfl
     refine ⟨rfl,mid_step (.pointer (some ⟨w.heap.size,6,none⟩)) wx (fun K hK=>?_) ⟨_,rfl,rfl,Below.refl _ _⟩⟩
     go_simp
     exact hK
   · obtain rfl:=Option.some.inj hi
     have e17:a.tmps.getD 17 undef=.pointer (some ⟨w.heap.size,6,none⟩):=hD 11 (by kernel_rfl) _ 17 rfl rfl
     obtain ⟨c0,c1,c2,c3,c4,c5,c6,c7,c8,c9,-⟩:=rec_cells (BX.out wx hM.below).1
     refine ⟨rfl,mid_step (.agg #[.int .i64 p.kind,.int .u64 (p.a:Int),.int .u64 (p.b:Int),.slice p.addr p.parts.length p.cap]) wx (fun K hK=>?_) ⟨_,rfl,rfl,Below.refl _ _⟩⟩
     go_simp
     exact hK
   · obtain rfl:=Option.some.inj hi
     have e18:a.tmps.getD 18 undef=.agg #[.int .i64 p.kind,.int .u64 (p.a:Int),.int .u64 (p.b:Int),.slice p.addr p.parts.length p.cap]:=hD 12 (by kernel_rfl) _ 18 rfl rfl
     refine ⟨rfl,mid_call (fun v w'=>(∃ u:V,v=.agg #[.int .i64 u.kind,.int .u64 (u.a:Int),.int .u64 (u.b:Int),.slice u.addr u.parts.length u.cap]∧u.abs=p.abs∧Lies w' w1.heap.size w'.heap.size u∧Shp 57 w' w1.heap.size u)∧Below wx.heap.size wx w') (fun K hK=>?_) (fun v w' h=>⟨v,rfl,h.1,h.2⟩)⟩
     go_simp
     refine (DE.out wx (BX.out wx hM.below).2.2.1).mono ?_
     rintro e w' ⟨u,rfl,k1,k2,k3,hb'⟩
     exact hK _ _ ⟨⟨u,rfl,k1,k2.more hM.below.size (Nat.le_refl _),k3.more hM.below.size⟩,hb'⟩
   · obtain rfl:=Option.some.inj hi
     have e7:a.tmps.getD 7 undef=.int .i64 k:=hD 1 (by kernel_rfl) _ 7 rfl rfl
     have e9:a.tmps.getD 9 undef=.int .u64 (t:Int):=hD 3 (by kernel_rfl) _ 9 rfl rfl
     have e11:a.tmps.getD 11 undef=.int .u64 (x:Int):=hD 5 (by kernel_rfl) _ 11 rfl rfl
     have e14:a.tmps.getD 14 undef=.agg #[.int .u64 (wn:Int),.int .u64 (nn:Int)]:=hD 8 (by kernel_rfl) _ 14 rfl rfl
     have e16:a.tmps.getD 16 undef=.int .u64 (vl:Int):=hD 10 (by kernel_rfl) _ 16 rfl rfl
     obtain ⟨u,e19,k1,k2,k3⟩:=hD 13 (by kernel_rfl) _ 19 rfl rfl
     have f7:=e7
     have f9:=e9
     have f11:=e11
     have f16:=e16
     have f14:=e14
     have f19:=e19
     rw [Array.getD_eq_getD_getElem?] at f7 f9 f11 f14 f16 f19
     refine ⟨rfl,mid_step (.agg #[.int .i64 k,.int .u64 (t:Int),.int .u64 (x:Int),.int .u64 (wn:Int),.int .u64 (nn:Int),.int .u64 (vl:Int),.int .i64 u.kind,.int .u64 (u.a:Int),.int .u64 (u.b:Int),.slice u.addr u.parts.length u.cap,.slice none 0 0]) wx (fun K hK=>?_) ⟨_,rfl,⟨u,rfl,k1,k2,k3⟩,Below.refl _ _⟩⟩
     go_simp
     exact hK
   · obtain rfl:=Option.some.inj hi
     refine ⟨rfl,mid_step (.pointer (some ⟨wx.heap.size,0,none⟩)) (wx.alloc (.cells #[.int .i64 0,.int .u64 0,.int .u64 0,.int .u64 0,.int .u64 0,.int .u64 0,.int .i64 0,.int .u64 0,.int .u64 0,.slice none 0 0,.slice none 0 0] 60)) (fun K hK=>?_) ⟨_,rfl,⟨_,rfl,heap_alloc_new _ _,hM.below.size⟩,below_new _ _⟩⟩
     go_simp
     exact hK
 · intro a wx hM hU hD
   have q0:=hD 0 (by decide) _ 6 rfl rfl
   have q1:=hD 1 (by decide) _ 7 rfl rfl
   have q2:=hD 2 (by decide) _ 8 rfl rfl
   have q3:=hD 3 (by decide) _ 9 rfl rfl
   have q4:=hD 4 (by decide) _ 10 rfl rfl
   have q5:=hD 5 (by decide) _ 11 rfl rfl
   have q6:=hD 6 (by decide) _ 12 rfl rfl
   have q7:=hD 7 (by decide) _ 13 rfl rfl
   have q8:=hD 8 (by decide) _ 14 rfl rfl
   have q9:=hD 9 (by decide) _ 15 rfl rfl
   have q10:=hD 10 (by decide) _ 16 rfl rfl
   have q11:=hD 11 (by decide) _ 17 rfl rfl
   have q12:=hD 12 (by decide) _ 18 rfl rfl
   obtain ⟨u13,e13,-,-,-⟩:=hD 13 (by decide) _ 19 rfl rfl
   have q13:a.tmps.getD 19 undef=.agg #[.int .i64 u13.kind,.int .u64 (u13.a:Int),.int .u64 (u13.b:Int),.slice u13.addr u13.parts.length u13.cap]:=by assumption
   obtain ⟨u,e14,hua,huL,huS⟩:=hD 14 (by decide) _ 20 rfl rfl
   have q14:a.tmps.getD 20 undef=.agg #[.int .i64 k,.int .u64 (t:Int),.int .u64 (x:Int),.int .u64 (wn:Int),.int .u64 (nn:Int),.int .u64 (vl:Int),.int .i64 u.kind,.int .u64 (u.a:Int),.int .u64 (u.b:Int),.slice u.addr u.parts.length u.cap,.slice none 0 0]:=by assumption
   obtain ⟨g,e15,hg,hgN⟩:=hD 15 (by decide) _ 3 rfl rfl
   have q15:a.tmps.getD 3 undef=.pointer (some ⟨g,0,none⟩):=by assumption
   have hact:=act_puts (a:=a) [(6,.pointer (some ⟨w.heap.size,0,none⟩)),(7,.int .i64 k),(8,.pointer (some ⟨w.heap.size,1,none⟩)),(9,.int .u64 (t:Int)),(10,.pointer (some ⟨w.heap.size,2,none⟩)),(11,.int .u64 (x:Int)),(12,.pointer (some ⟨w.heap.size,3,none⟩)),(13,.agg #[.int .u64 (wn:Int),.int .u64 (nn:Int)]),(14,.agg #[.int .u64 (wn:Int),.int .u64 (nn:Int)]),(15,.pointer (some ⟨w.heap.size,5,none⟩)),(16,.int .u64 (vl:Int)),(17,.pointer (some ⟨w.heap.size,6,none⟩)),(18,.agg #[.int .i64 p.kind,.int .u64 (p.a:Int),.int .u64 (p.b:Int),.slice p.addr p.parts.length p.cap]),(19,.agg #[.int .i64 u13.kind,.int .u64 (u13.a:Int),.int .u64 (u13.b:Int),.slice u13.addr u13.parts.length u13.cap]),(20,.agg #[.int .i64 k,.int .u64 (t:Int),.int .u64 (x:Int),.int .u64 (wn:Int),.int .u64 (nn:Int),.int .u64 (vl:Int),.int .i64 u.kind,.int .u64 (u.a:Int),.int .u64 (u.b:Int),.slice u.addr u.parts.length u.cap,.slice none 0 0]),(3,.pointer (some ⟨g,0,none⟩))] _ hM.tmps hM.defers (by
    intro s v hm
    simp only [List.mem_cons,Prod.mk.injEq,List.not_mem_nil,or_false] at hm
    rcases hm with ⟨rfl,rfl⟩ | ⟨rfl,rfl⟩ | ⟨rfl,rfl⟩ | ⟨rfl,rfl⟩ | ⟨rfl,rfl⟩ | ⟨rfl,rfl⟩ | ⟨rfl,rfl⟩ | ⟨rfl,rfl⟩ | ⟨rfl,rfl⟩ | ⟨rfl,rfl⟩ | ⟨rfl,rfl⟩ | ⟨rfl,rfl⟩ | ⟨rfl,rfl⟩ | ⟨rfl,rfl⟩ | ⟨rfl,rfl⟩ | ⟨rfl,rfl⟩
    · exact ⟨(by show 6<47; decide),q0⟩
    · exact ⟨(by show 7<47; decide),q1⟩
    · exact ⟨(by show 8<47; decide),q2⟩
    · exact ⟨(by show 9<47; decide),q3⟩
    · exact ⟨(by show 10<47; decide),q4⟩
    · exact ⟨(by show 11<47; decide),q5⟩
    · exact ⟨(by show 12<47; decide),q6⟩
    · exact ⟨(by show 13<47; decide),q7⟩
    · exact ⟨(by show 14<47; decide),q8⟩
    · exact ⟨(by show 15<47; decide),q9⟩
    · exact ⟨(by show 16<47; decide),q10⟩
    · exact ⟨(by show 17<47; decide),q11⟩
    · exact ⟨(by show 18<47; decide),q12⟩
    · exact ⟨(by show 19<47; decide),q13⟩
    · exact ⟨(by show 20<47; decide),q14⟩
    · exact ⟨(by show 3<47; decide),q15⟩) (fun s hs=>hM.other s (by exact hs))
   rw [hact]
   have hBX:=hM.below
   clear hact hD hM hU q0 q1 q2 q3 q4 q5 q6 q7 q8 q9 q10 q11 q12 q13 q14 q15
   simp only [List.foldl,Act.put,List.setIfInBounds_toArray,List.set_cons_succ,List.set_cons_zero,List.drop_succ_cons,List.drop_zero]
   have hs2:=S2.out
   have hgl:=lt_of_block hg
   obtain ⟨hbr,hbz,hbw',-⟩:=BX.out wx hBX
   obtain ⟨e0,e1,e2,e3,e4,e5,e6,e7,e8,e9,e10⟩:=rec_cells hg
   have y:=fun i=>frozen_of_row wx g i _ _ hg
   have y0:=y 0
   have y1:=y 1
   have y2:=y 2
   have y3:=y 3
   have y4:=y 4
   have y5:=y 5
   have y6:=y 6
   have y7:=y 7
   have y8:=y 8
   have y9:=y 9
   have y10:=y 10
   clear y
   obtain ⟨W2,hW2⟩:∃ W2,W2=put11 wx g (.int .i64 k) (.int .u64 (t:Int)) (.int .u64 (x:Int)) (.int .u64 (wn:Int)) (.int .u64 (nn:Int)) (.int .u64 (vl:Int)) (.int .i64 u.kind) (.int .u64 (u.a:Int)) (.int .u64 (u.b:Int)) (.slice u.addr u.parts.length u.cap) (.slice none 0 0):=⟨_,rfl⟩
   have AS:∀ (g':Nat) (arr:Array Value),wx.heap[g']? = some (Obj.cells arr 57 (0,0))→W2.heap[g']? = wx.heap[g']?:=fun g' arr h=>by
    rw [hW2]
    exact put11_else _ _ _ _ _ _ _ _ _ _ _ wx (fun e=>by subst e; rw [hg] at h; injection h with h; injection h with h1 h2; cases h2)
   have hsz2:W2.heap.size=wx.heap.size:=by rw [hW2,put11_size]
   have hg2:W2.heap[g]? = some (.cells #[.int .i64 k,.int .u64 (t:Int),.int .u64 (x:Int),.int .u64 (wn:Int),.int .u64 (nn:Int),.int .u64 (vl:Int),.int .i64 u.kind,.int .u64 (u.a:Int),.int .u64 (u.b:Int),.slice u.addr u.parts.length u.cap,.slice none 0 0] 60 (0,0)):=by rw [hW2]; exact put11_row _ _ _ _ _ _ _ _ _ _ _ hg
   have hLS:Hid (Lies W2 w1.heap.size W2.heap.size u∧Shp 57 W2 w1.heap.size u):=⟨by rw [hsz2]; exact huL.aside huS AS,huS.aside2 AS⟩
   have hbr2:W2.heap[w.heap.size]? = some (.cells #[.int .i64 k,.int .u64 (t:Int),.int .u64 (x:Int),.int .u64 (wn:Int),.int .u64 (nn:Int),.int .u64 (vl:Int),.int .i64 p.kind,.int .u64 (p.a:Int),.int .u64 (p.b:Int),.slice p.addr p.parts.length p.cap,.slice Ae es.length ce] 68 (0,0)):=by rw [hW2,put11_else _ _ _ _ _ _ _ _ _ _ _ wx (by omega)]; exact hbr
   have hbz2:W2.heap[w.heap.size+1]? = some (.cells #[.int .i64 0,.int .u64 0,.int .u64 0,.int .u64 0,.int .u64 0,.int .u64 0,.int .i64 0,.int .u64 0,.int .u64 0,.slice none 0 0,.slice none 0 0] 60 (0,0)):=by rw [hW2,put11_else _ _ _ _ _ _ _ _ _ _ _ wx (by omega)]; exact hbz
   have hbw2:Hid (Below w.heap.size w W2):=by
    unfold Hid
    rw [hW2]
    exact hbw'.trans ((put11_grow _ _ _ _ _ _ _ _ _ _ _ wx w1.heap.size).below (B:=w.heap.size) (by omega) (by omega) (by omega))
   have HS2:Hid (w1.heap.size=w.heap.size+2):=hs2
   have HGN:Hid (w1.heap.size≤g):=hgN
   have HSW:Hid (w1.heap.size≤W2.heap.size):=by unfold Hid; rw [hsz2]; exact hBX.size
   have HUA:=Lib_hid hua
   clear AS hbr hbz hbw' hsz2 huL huS hua hg hgl hBX BX S2 DE hs2 hgN hbw
   go_upto_region 2 with (fail)
   rw [show (((((((((((wx.setCell ⟨g,0,none⟩ (.int .i64 k)).setCell ⟨g,1,none⟩ (.int .u64 (t:Int))).setCell ⟨g,2,none⟩ (.int .u64 (x:Int))).setCell ⟨g,3,none⟩ (.int .u64 (wn:Int))).setCell ⟨g,4,none⟩ (.int .u64 (nn:Int))).setCell ⟨g,5,none⟩ (.int .u64 (vl:Int))).setCell ⟨g,6,none⟩ (.int .i64 u.kind)).setCell ⟨g,7,none⟩ (.int .u64 (u.a:Int))).setCell ⟨g,8,none⟩ (.int .u64 (u.b:Int))).setCell ⟨g,9,none⟩ (.slice u.addr u.parts.length u.cap)).setCell ⟨g,10,none⟩ (.slice none 0 0))=W2 from hW2.symm]
   clear hW2 e0 e1 e2 e3 e4 e5 e6 e7 e8 e9 e10 y0 y1 y2 y3 y4 y5 y6 y7 y8 y9 y10
   go_wp2
   go_loopw [4] (fun z wr=>∃ (i n cap:Nat) (A:Option Addr),z=.int .i64 i∧i≤es.length∧Hid (n=i)∧wr.heap[w.heap.size]? = some (.cells #[.int .i64 k,.int .u64 (t:Int),.int .u64 (x:Int),.int .u64 (wn:Int),.int .u64 (nn:Int),.int .u64 (vl:Int),.int .i64 p.kind,.int .u64 (p.a:Int),.int .u64 (p.b:Int),.slice p.addr p.parts.length p.cap,.slice Ae es.length ce] 68 (0,0))∧wr.heap[w.heap.size+1]? = some (.cells #[.int .i64 0,.int .u64 0,.int .u64 0,.int .u64 0,.int .u64 0,.int .u64 0,.int .i64 0,.int .u64 0,.int .u64 0,.slice none 0 0,.slice none 0 0] 60 (0,0))∧wr.heap[g]? = some (.cells #[.int .i64 k,.int .u64 (t:Int),.int .u64 (x:Int),.int .u64 (wn:Int),.int .u64 (nn:Int),.int .u64 (vl:Int),.int .i64 u.kind,.int .u64 (u.a:Int),.int .u64 (u.b:Int),.slice u.addr u.parts.length u.cap,.slice A n cap] 60 (0,0))∧
    wr.ownsRow w1.heap.size 120 4 (.slice A n cap) n (enCells (es.take i))∧Hid (Lies wr w1.heap.size wr.heap.size u∧Shp 57 wr w1.heap.size u)∧Hid (Below w.heap.size w wr)∧Hid (w1.heap.size≤wr.heap.size)) (fun z _=>es.length - (intOf z).toNat)
   case atStart=>exact ⟨0,0,0,none,rfl,Nat.zero_le _,rfl,hbr2,hbz2,hg2,World.ownsRow_nil _ _ _ _,hLS,hbw2,HSW⟩
   case round=>
    clear hbr2 hbz2 hg2 hLS hbw2 HSW
    obtain ⟨i,n,cap,A,rfl,hi1,hn,hbr,hbz,hg,hown,hLS,hbw,HSW⟩:=hrel
    have c10:wr.cell? ⟨w.heap.size,10,none⟩=some (.slice Ae es.length ce):=cell_of_row wr _ 10 _ _ _ hbr
    by_cases hlt:i<es.length
    · obtain ⟨b,off,en,rfl,hbh,he,d0,d1,d2,d3⟩:=en_nth (HR.out wr hbw.out) hlt
      have hb5:=below_new wr (.cells #[.int .u64 (en.x:Int),.int .u64 (en.w:Int),.int .u64 (en.n:Int),.bool en.m] 125)
      have hp5:=heap_alloc_new wr (.cells #[.int .u64 (en.x:Int),.int .u64 (en.w:Int),.int .u64 (en.n:Int),.bool en.m] 125)
      have hg5:=(hb5.block _ (lt_of_block hg)).trans hg
      have ho5:=own_below hown hb5 (own_lt hown)
      have hbr5:=(hb5.block _ (lt_of_block hbr)).trans hbr
      have hbz5:=(hb5.block _ (lt_of_block hbz)).trans hbz
      have hbw5:Hid (Below w.heap.size w (wr.alloc (.cells #[.int .u64 (en.x:Int),.int .u64 (en.w:Int),.int .u64 (en.n:Int),.bool en.m] 125))):=hbw.out.trans (hb5.mono hbw.out.size)
      have hLS5:Hid (Lies (wr.alloc (.cells #[.int .u64 (en.x:Int),.int .u64 (en.w:Int),.int .u64 (en.n:Int),.bool en.m] 125)) w1.heap.size (wr.alloc (.cells #[.int .u64 (en.x:Int),.int .u64 (en.w:Int),.int .u64 (en.n:Int),.bool en.m] 125)).heap.size u∧Shp 57 (wr.alloc (.cells #[.int .u64 (en.x:Int),.int .u64 (en.w:Int),.int .u64 (en.n:Int),.bool en.m] 125)) w1.heap.size u):=
       ⟨(hLS.out.1.under hb5).more (Nat.le_refl _) hb5.size,hLS.out.2.under hb5⟩
      have HSW5:Hid (w1.heap.size≤(wr.alloc (.cells #[.int .u64 (en.x:Int),.int .u64 (en.w:Int),.int .u64 (en.n:Int),.bool en.m] 125)).heap.size):=Nat.le_trans HSW.out hb5.size
      have hwrs:=hb5.size
      have HTK:Hid (enCells (es.take (i+1))=enCells (es.take i) ++ en.cells):=by unfold Hid; rw [take_one he,enCells_append]; simp [enCells]
      have hm1:n+1≤maxLen:=by have:=hn.out; unfold maxLen; omega
      have hm2:(n+1) * 32≤140737488355328:=by have:=hn.out; omega
      clear hg hown hbr hbz hbw hLS HSW hb5 hbh he
      go_upto_region 6 with (fail)
      generalize wr.alloc (.cells #[.int .u64 (en.x:Int),.int .u64 (en.w:Int),.int .u64 (en.n:Int),.bool en.m] 125)=w5 at *
      obtain ⟨ex,ea,eb,em⟩:=en
      simp only [En.cells] at *
      have B5:Hid (∀ W,Below w5.heap.size w5 W→W.heap[g]? = some (.cells #[.int .i64 k,.int .u64 (t:Int),.int .u64 (x:Int),.int .u64 (wn:Int),.int .u64 (nn:Int),.int .u64 (vl:Int),.int .i64 u.kind,.int .u64 (u.a:Int),.int .u64 (u.b:Int),.slice u.addr u.parts.length u.cap,.slice A n cap] 60 (0,0))∧W.heap[wr.heap.size]? = some (.cells #[.int .u64 (ex:Int),.int .u64 (ea:Int),.int .u64 (eb:Int),.bool em] 125 (0,0))):=fun W hW=>⟨(hW.block _ (lt_of_block hg5)).trans hg5,(hW.block _ (lt_of_block hp5)).trans hp5⟩
      clear c10 d0 d1 d2 d3 hp5
      refine wp_region_midT (N:=47) 11 (fun i v ww=>([fun v ww=>v=.pointer (some ⟨g,10,none⟩),fun v ww=>v=.slice A n cap,fun v ww=>v=.pointer (some ⟨wr.heap.size,0,none⟩),fun v ww=>v=.int .u64 (ex:Int),fun v ww=>v=.pointer (some ⟨wr.heap.size,1,none⟩),fun v ww=>v=.agg #[.int .u64 (ea:Int),.int .u64 (eb:Int)],fun v ww=>v=.agg #[.int .u64 (ea:Int),.int .u64 (eb:Int)],fun v ww=>v=.pointer (some ⟨wr.heap.size,3,none⟩),fun v ww=>v=.bool em,fun v ww=>v=.agg #[.int .u64 (ex:Int),.int .u64 (ea:Int),.int .u64 (eb:Int),.bool em],fun v ww=>∃ h,v=.slice (some ⟨h,0,none⟩) 1 1∧ww.heap[h]? = some (.cells #[.int .u64 (ex:Int),.int .u64 (ea:Int),.int .u64 (eb:Int),.bool em] 120 (0,0))]:List (Value→World→Prop)).getD i (fun _ _=>True) v ww) (by kernel_rfl) (by kernel_rfl) (by kernel_rfl) rfl ?_ ?_ ?_
      · intro i v wa wb h0 hb hp
        by_cases hi:i<11
        · have hcase:i=0∨i=1∨i=2∨i=3∨i=4∨i=5∨i=6∨i=7∨i=8∨i=9∨i=10:=by omega
          rcases hcase with rfl | rfl | rfl | rfl | rfl | rfl | rfl | rfl | rfl | rfl | rfl
          · exact hp
          · exact hp
          · exact hp
          · exact hp
          · exact hp
          · exact hp
          · exact hp
          · exact hp
          · exact hp
          · exact hp
          · obtain ⟨h,e,hh⟩:=hp
            exact ⟨h,e,(hb.block h (lt_of_block hh)).trans hh⟩
        · have hnn:([fun v ww=>v=.pointer (some ⟨g,10,none⟩),fun v ww=>v=.slice A n cap,fun v ww=>v=.pointer (some ⟨wr.heap.size,0,none⟩),fun v ww=>v=.int .u64 (ex:Int),fun v ww=>v=.pointer (some ⟨wr.heap.size,1,none⟩),fun v ww=>v=.agg #[.int .u64 (ea:Int),.int .u64 (eb:Int)],fun v ww=>v=.agg #[.int .u64 (ea:Int),.int .u64 (eb:Int)],fun v ww=>v=.pointer (some ⟨wr.heap.size,3,none⟩),fun v ww=>v=.bool em,fun v ww=>v=.agg #[.int .u64 (ex:Int),.int .u64 (ea:Int),.int .u64 (eb:Int),.bool em],fun v ww=>∃ h,v=.slice (some ⟨h,0,none⟩) 1 1∧ww.heap[h]? = some (.cells #[.int .u64 (ex:Int),.int .u64 (ea:Int),.int .u64 (eb:Int),.bool em] 120 (0,0))]:List (Value→World→Prop))[i]? = none:=List.getElem?_eq_none (by simpa using hi)
          rw [List.getD_eq_getElem?_getD,hnn]
          trivial
      · intro i o a wx hi8 hi hM hD
        have hcase:i=0∨i=1∨i=2∨i=3∨i=4∨i=5∨i=6∨i=7∨i=8∨i=9∨i=10:=by omega
        clear hi8
        rcases hcase with rfl | rfl | rfl | rfl | rfl | rfl | rfl | rfl | rfl | rfl | rfl
        · obtain rfl:=Option.some.inj hi
          have e3:a.tmps.getD 3 undef=.pointer (some ⟨g,0,none⟩):=(hM.other 3 (by decide +kernel)).trans rfl
          refine ⟨rfl,mid_step (.pointer (some ⟨g,10,none⟩)) wx (fun K hK=>?_) ⟨_,rfl,rfl,Below.refl _ _⟩⟩
          go_simp
          exact hK
        · obtain rfl:=Option.some.inj hi
          have e33:a.tmps.getD 33 undef=.pointer (some ⟨g,10,none⟩):=hD 0 (by kernel_rfl) _ 33 rfl rfl
          obtain ⟨hgx,hpx⟩:=B5.out wx hM.below
          have c10:wx.cell? ⟨g,10,none⟩=some (.slice A n cap):=cell_of_row wx _ 10 _ _ _ hgx
          refine ⟨rfl,mid_step (.slice A n cap) wx (fun K hK=>?_) ⟨_,rfl,rfl,Below.refl _ _⟩⟩
          go_simp
          exact hK
        · obtain rfl:=Option.some.inj hi
          have e5:a.tmps.getD 5 undef=.pointer (some ⟨wr.heap.size,0,none⟩):=(hM.other 5 (by decide +kernel)).trans rfl
          refine ⟨rfl,mid_step (.pointer (some ⟨wr.heap.size,0,none⟩)) wx (fun K hK=>?_) ⟨_,rfl,rfl,Below.refl _ _⟩⟩
          go_simp
          exact hK
        · obtain rfl:=Option.some.inj hi
          have e35:a.tmps.getD 35 undef=.pointer (some ⟨wr.heap.size,0,none⟩):=hD 2 (by kernel_rfl) _ 35 rfl rfl
          obtain ⟨hgx,hpx⟩:=B5.out wx hM.below
          have c0:wx.cell? ⟨wr.heap.size,0,none⟩=some (.int .u64 (ex:Int)):=cell_of_row wx _ 0 _ _ _ hpx
          refine ⟨rfl,mid_step (.int .u64 (ex:Int)) wx (fun K hK=>?_) ⟨_,rfl,rfl,Below.refl _ _⟩⟩
          go_simp
          exact hK
        · obtain rfl:=Option.some.inj hi
          have e5:a.tmps.getD 5 undef=.pointer (some ⟨wr.heap.size,0,none⟩):=(hM.other 5 (by decide +kernel)).trans rfl
          refine ⟨rfl,mid_step (.pointer (some ⟨wr.heap.size,1,none⟩)) wx (fun K hK=>?_) ⟨_,rfl,rfl,Below.refl _ _⟩⟩
          go_simp
          exact hK
        · obtain rfl:=Option.some.inj hi
          have e37:a.tmps.getD 37 undef=.pointer (some ⟨wr.heap.size,1,none⟩):=hD 4 (by kernel_rfl) _ 37 rfl rfl
          obtain ⟨hgx,hpx⟩:=B5.out wx hM.below
          have c1:wx.cell? ⟨wr.heap.size,1,none⟩=some (.int .u64 (ea:Int)):=cell_of_row wx _ 1 _ _ _ hpx
          have c2:wx.cell? ⟨wr.heap.size,2,none⟩=some (.int .u64 (eb:Int)):=cell_of_row wx _ 2 _ _ _ hpx
          refine ⟨rfl,mid_step (.agg #[.int .u64 (ea:Int),.int .u64 (eb:Int)]) wx (fun K hK=>?_) ⟨_,rfl,rfl,Below.refl _ _⟩⟩
          go_simp
          exact hK
        · obtain rfl:=Option.some.inj hi
          have e38:a.tmps.getD 38 undef=.agg #[.int .u64 (ea:Int),.int .u64 (eb:Int)]:=hD 5 (by kernel_rfl) _ 38 rfl rfl
          refine ⟨rfl,mid_call (fun v w'=>v=(.agg #[.int .u64 (ea:Int),.int .u64 (eb:Int)])∧Below wx.heap.size wx w') (fun K hK=>?_) (fun v w' h=>⟨v,rfl,h.1,h.2⟩)⟩
          go_simp
          refine (docver_any ea eb wx).mono ?_
          rintro e w' ⟨rfl,hb'⟩
          exact hK _ _ ⟨rfl,hb'⟩
        · obtain rfl:=Option.some.inj hi
          have e5:a.tmps.getD 5 undef=.pointer (some ⟨wr.heap.size,0,none⟩):=(hM.other 5 (by decide +kernel)).trans rfl
          refine ⟨rfl,mid_step (.pointer (some ⟨wr.heap.size,3,none⟩)) wx (fun K hK=>?_) ⟨_,rfl,rfl,Below.refl _ _⟩⟩
          go_simp
          exact hK
        · obtain rfl:=Option.some.inj hi
          have e40:a.tmps.getD 40 undef=.pointer (some ⟨wr.heap.size,3,none⟩):=hD 7 (by kernel_rfl) _ 40 rfl rfl
          obtain ⟨hgx,hpx⟩:=B5.out wx hM.below
          have c3:wx.cell? ⟨wr.heap.size,3,none⟩=some (.bool em):=cell_of_row wx _ 3 _ _ _ hpx
          refine ⟨rfl,mid_step (.bool em) wx (fun K hK=>?_) ⟨_,rfl,rfl,Below.refl _ _⟩⟩
          go_simp
          exact hK
        · obtain rfl:=Option.some.inj hi
          have e36:a.tmps.getD 36 undef=.int .u64 (ex:Int):=hD 3 (by kernel_rfl) _ 36 rfl rfl
          have e39:a.tmps.getD 39 undef=.agg #[.int .u64 (ea:Int),.int .u64 (eb:Int)]:=hD 6 (by kernel_rfl) _ 39 rfl rfl
          have e41:a.tmps.getD 41 undef=.bool em:=hD 8 (by kernel_rfl) _ 41 rfl rfl
          have f36:=e36
          have f39:=e39
          have f41:=e41
          rw [Array.getD_eq_getD_getElem?] at f36 f39 f41
          refine ⟨rfl,mid_step (.agg #[.int .u64 (ex:Int),.int .u64 (ea:Int),.int .u64 (eb:Int),.bool em]) wx (fun K hK=>?_) ⟨_,rfl,rfl,Below.refl _ _⟩⟩
          go_simp
          exact hK
        · obtain rfl:=Option.some.inj hi
          have e42:a.tmps.getD 42 undef=.agg #[.int .u64 (ex:Int),.int .u64 (ea:Int),.int .u64 (eb:Int),.bool em]:=hD 9 (by kernel_rfl) _ 42 rfl rfl
          have f42:=e42
          rw [Array.getD_eq_getD_getElem?] at f42
          refine ⟨rfl,mid_step (.slice (some ⟨wx.heap.size,0,none⟩) 1 1) (wx.alloc (.cells #[.int .u64 (ex:Int),.int .u64 (ea:Int),.int .u64 (eb:Int),.bool em] 120)) (fun K hK=>?_) ⟨_,rfl,⟨_,rfl,heap_alloc_new _ _⟩,below_new _ _⟩⟩
          go_simp
          exact hK
      · intro a wx hM hU hD
        have q0:=hD 0 (by decide) _ 33 rfl rfl
        have q1:=hD 1 (by decide) _ 34 rfl rfl
        have q2:=hD 2 (by decide) _ 35 rfl rfl
        have q3:=hD 3 (by decide) _ 36 rfl rfl
        have q4:=hD 4 (by decide) _ 37 rfl rfl
        have q5:=hD 5 (by decide) _ 38 rfl rfl
        have q6:=hD 6 (by decide) _ 39 rfl rfl
        have q7:=hD 7 (by decide) _ 40 rfl rfl
        have q8:=hD 8 (by decide) _ 41 rfl rfl
        have q9:=hD 9 (by decide) _ 42 rfl rfl
        obtain ⟨h,e43,hh⟩:=hD 10 (by decide) _ 43 rfl rfl
        have q10:a.tmps.getD 43 undef=.slice (some ⟨h,0,none⟩) 1 1:=by assumption
        have hact:=act_puts (a:=a) [(33,.pointer (some ⟨g,10,none⟩)),(34,.slice A n cap),(35,.pointer (some ⟨wr.heap.size,0,none⟩)),(36,.int .u64 (ex:Int)),(37,.pointer (some ⟨wr.heap.size,1,none⟩)),(38,.agg #[.int .u64 (ea:Int),.int .u64 (eb:Int)]),(39,.agg #[.int .u64 (ea:Int),.int .u64 (eb:Int)]),(40,.pointer (some ⟨wr.heap.size,3,none⟩)),(41,.bool em),(42,.agg #[.int .u64 (ex:Int),.int .u64 (ea:Int),.int .u64 (eb:Int),.bool em]),(43,.slice (some ⟨h,0,none⟩) 1 1)] _ hM.tmps hM.defers (by
         intro s v hm
         simp only [List.mem_cons,Prod.mk.injEq,List.not_mem_nil,or_false] at hm
         rcases hm with ⟨rfl,rfl⟩ | ⟨rfl,rfl⟩ | ⟨rfl,rfl⟩ | ⟨rfl,rfl⟩ | ⟨rfl,rfl⟩ | ⟨rfl,rfl⟩ | ⟨rfl,rfl⟩ | ⟨rfl,rfl⟩ | ⟨rfl,rfl⟩ | ⟨rfl,rfl⟩ | ⟨rfl,rfl⟩
         · exact ⟨(by show 33<47; decide),q0⟩
         · exact ⟨(by show 34<47; decide),q1⟩
         · exact ⟨(by show 35<47; decide),q2⟩
         · exact ⟨(by show 36<47; decide),q3⟩
         · exact ⟨(by show 37<47; decide),q4⟩
         · exact ⟨(by show 38<47; decide),q5⟩
         · exact ⟨(by show 39<47; decide),q6⟩
         · exact ⟨(by show 40<47; decide),q7⟩
         · exact ⟨(by show 41<47; decide),q8⟩
         · exact ⟨(by show 42<47; decide),q9⟩
         · exact ⟨(by show 43<47; decide),q10⟩) (fun s hs=>by
        by_cases ht:s∈([44,45]:List Nat)
        · simp only [List.mem_cons,List.not_mem_nil,or_false] at ht
          rcases ht with rfl | rfl
          · exact hU 44 ⟨11,_,by decide,rfl,rfl⟩
          · exact hU 45 ⟨12,_,by decide,rfl,rfl⟩
        · exact hM.other s fun h=>(List.mem_append.1 (show s∈([33,34,35,36,37,38,39,40,41,42,43]:List Nat) ++ [44,45] from h)).elim (fun h=>hs h) (fun h=>ht h))
        rw [hact]
        have hBX:=hM.below
        clear hact hD hM hU q0 q1 q2 q3 q4 q5 q6 q7 q8 q9 q10
        simp only [List.foldl,Act.put,List.setIfInBounds_toArray,List.set_cons_succ,List.set_cons_zero,List.drop_succ_cons,List.drop_zero]
        have ho6:=own_below ho5 hBX (own_lt ho5)
        have hg6:=(B5.out wx hBX).1
        have hr6:=rd_row (size:=4) (n:=1) (l:=[.int .u64 (ex:Int),.int .u64 (ea:Int),.int .u64 (eb:Int),.bool em]) hh rfl
        have h1c:∀ u∈([.int .u64 (ex:Int),.int .u64 (ea:Int),.int .u64 (eb:Int),.bool em]:List Value),u.oneCell'=true:=by
         intro u hu
         simp only [List.mem_cons,List.not_mem_nil,or_false] at hu
         rcases hu with rfl | rfl | rfl | rfl <;> rfl
        have hs6:w1.heap.size≤wx.heap.size:=Nat.le_trans HSW5.out hBX.size
        have hne:∀ j,(Value.slice A n cap).ownBlock=some j→j≠g:=fun j hj e=>by
         subst e
         rcases ho6.2 with ⟨q,_⟩ | ⟨g',cp,cur,q,_,hq,_⟩
         · injection q with q; subst q; cases hj
         · injection q with q1 q2 q3
           subst q1
           have:g'=j:=by injection hj
           subst this
           rw [hg6] at hq
           injection hq with hq
           injection hq with h1 h2
           cases h2
        have HBX:=Lib_hid hBX
        clear B5 hBX e43
        go_wp2_with (at_builtin; (refine wpList_app rfl _ _ 58 rfl w1.heap.size 120 i0 (.agg #[.int .u64 0,.int .u64 0,.int .u64 0,.bool false]) 4 32 Tryz.underlying58 hi0 hz0 hz1 hz2 rfl (by decide) (.slice A n cap) n _ rfl ho6 _ _ 1 1 _ rfl hr6 h1c hm1 hm2 hs6 ?_); intro v' w7 hown' hst; obtain ⟨A',c',rfl,_⟩:=own_form hown'; have hg7:=(hst.grow.block g (lt_of_block hg6) (fun e=>hne g e.symm rfl)).trans hg6; have z10:w7.cell? ⟨g,10,none⟩=some (.slice A n cap):=cell_of_row w7 _ 10 _ _ _ hg7; have y10:=frozen_of_row w7 g 10 _ _ hg7)
        have hgN:=HGN.out
        have hS2:=HS2.out
        have hge:=own_ge ho6
        have hkeep:∀ (g':Nat),g'<wx.heap.size→g'≠g→(Value.slice A n cap).ownBlock≠some g'→(w7.setCell ⟨g,10,none⟩ (.slice A' (n+1) c')).heap[g']? = wx.heap[g']?:=fun g' h1 h2 h3=>(heap_setCell_other w7 ⟨g,10,none⟩ g' _ h2).trans (hst.grow.block g' h1 (fun e=>h3 e.symm))
        have hlow:∀ (g':Nat),g'<w1.heap.size→(w7.setCell ⟨g,10,none⟩ (.slice A' (n+1) c')).heap[g']? = w5.heap[g']?:=fun g' h1=>(hkeep g' (by omega) (by omega) (fun e=>by have:=hge g' e; omega)).trans (HBX.out.block g' (by have:=HSW5.out; omega))
        have hsz8:wx.heap.size≤(w7.setCell ⟨g,10,none⟩ (.slice A' (n+1) c')).heap.size:=by have:=hst.grow.size; simpa using this
        have hAS:∀ (g':Nat) (arr:Array Value),wx.heap[g']? = some (Obj.cells arr 57 (0,0))→(w7.setCell ⟨g,10,none⟩ (.slice A' (n+1) c')).heap[g']? = wx.heap[g']?:=fun g' arr h=>hkeep g' (lt_of_block h) (fun e=>by subst e; rw [hg6] at h; injection h with h; injection h with h1 h2; cases h2) (fun e=>by
         rcases ho6.2 with ⟨q,_⟩ | ⟨g2,cp,cur,q,_,hq,_⟩
         · injection q with q; subst q; cases e
         · injection q with q1 q2 q3
           subst q1
           have:g2=g':=by injection e
           subst this
           rw [h] at hq
           injection hq with hq
           injection hq with h1 h2
           cases h2)
        have hLx:Lies wx w1.heap.size wx.heap.size u:=(hLS5.out.1.under HBX.out).more (Nat.le_refl _) HBX.out.size
        have hSx:Shp 57 wx w1.heap.size u:=hLS5.out.2.under HBX.out
        have R1:Hid (Lies (w7.setCell ⟨g,10,none⟩ (.slice A' (n+1) c')) w1.heap.size (w7.setCell ⟨g,10,none⟩ (.slice A' (n+1) c')).heap.size u∧Shp 57 (w7.setCell ⟨g,10,none⟩ (.slice A' (n+1) c')) w1.heap.size u):=⟨(hLx.aside hSx hAS).more (Nat.le_refl _) hsz8,hSx.aside2 hAS⟩
        have R2:=heap_setCell_same w7 g 10 _ _ (.slice A' (n+1) c') hg7
        have hne7:∀ j,(Value.slice A' (n+1) c').ownBlock=some j→j≠g:=fun j hj e=>by
         subst e
         rcases hown'.2 with ⟨q,q2⟩ | ⟨g',cp,cur,q,_,hq,_⟩
         · omega
         · injection q with q1 q2 q3
           subst q1
           have:g'=j:=by injection hj
           subst this
           rw [hg7] at hq
           injection hq with hq
           injection hq with h1 h2
           cases h2
        have R3:Hid ((w7.setCell ⟨g,10,none⟩ (.slice A' (n+1) c')).ownsRow w1.heap.size 120 4 (.slice A' (n+1) c') (n+1) (enCells (es.take (i+1)))):=by
         unfold Hid
         rw [HTK.out]
         exact own_keep hown' fun j hj=>heap_setCell_other w7 ⟨g,10,none⟩ j _ (hne7 j hj)
        have R4:Hid (Below w.heap.size w (w7.setCell ⟨g,10,none⟩ (.slice A' (n+1) c'))):=((hbw5.out.trans (HBX.out.mono hbw5.out.size)).trans (hst.below (B:=w.heap.size) (by omega) (fun j hj=>by have:=hge j hj; omega))).setCell (p:=⟨g,10,none⟩) (by show w.heap.size≤g; omega) _
        have R5:=(hlow w.heap.size (by omega)).trans hbr5
        have R6:=(hlow (w.heap.size+1) (by omega)).trans hbz5
        have R7:Hid (w1.heap.size≤(w7.setCell ⟨g,10,none⟩ (.slice A' (n+1) c')).heap.size):=Nat.le_trans hs6 hsz8
        clear hLx hSx hAS hkeep hlow hge hne7 hown' hst hg7 z10 y10 ho6 hg6 hr6 hsz8 hS2 hgN hne
        go_roundw
        case rel=>exact ⟨i+1,n+1,c',A',by go_num,by omega,Lib_hid (by rw [hn.out]),R5,R6,R2,R3.out,R1,R4,R7⟩
        case measure=>simp [intOf]; omega
    · obtain rfl:i=es.length:=by omega
      have hni:=hn.out
      subst hni
      rw [List.take_length] at hown
      have hS2:=HS2.out
      have hgN:=HGN.out
      have hbsz:=HSW.out
      obtain ⟨W4,hW4⟩:∃ W4,W4=put11 wr (w.heap.size+1) (.int .i64 k) (.int .u64 (t:Int)) (.int .u64 (x:Int)) (.int .u64 (wn:Int)) (.int .u64 (nn:Int)) (.int .u64 (vl:Int)) (.int .i64 u.kind) (.int .u64 (u.a:Int)) (.int .u64 (u.b:Int)) (.slice u.addr u.parts.length u.cap) (.slice A es.length cap):=⟨_,rfl⟩
      have hsz4:W4.heap.size=wr.heap.size:=by rw [hW4,put11_size]
      have hel:∀ j,j≠w.heap.size+1→W4.heap[j]? = wr.heap[j]?:=fun j hj=>by rw [hW4]; exact put11_else _ _ _ _ _ _ _ _ _ _ _ wr hj
      have hAS:∀ (g':Nat) (arr:Array Value),wr.heap[g']? = some (Obj.cells arr 57 (0,0))→W4.heap[g']? = wr.heap[g']?:=fun g' arr h=>hel g' (fun e=>by subst e; rw [hbz] at h; injection h with h; injection h with h1 h2; cases h2)
      have HB4:Hid (W4.heap[w.heap.size+1]? = some (.cells #[.int .i64 k,.int .u64 (t:Int),.int .u64 (x:Int),.int .u64 (wn:Int),.int .u64 (nn:Int),.int .u64 (vl:Int),.int .i64 u.kind,.int .u64 (u.a:Int),.int .u64 (u.b:Int),.slice u.addr u.parts.length u.cap,.slice A es.length cap] 60 (0,0))):=by unfold Hid; rw [hW4]; exact put11_row _ _ _ _ _ _ _ _ _ _ _ hbz
      have hown4:W4.ownsRow w1.heap.size 120 4 (.slice A es.length cap) es.length (enCells es):=own_keep hown fun j hj=>hel j (by have:=own_ge hown j hj; omega)
      have HF:Hid (RecMade (Rv.abs ⟨k,t,x,wn,nn,vl,p,Ae,ce,es⟩) w (.returned (.agg #[.int .i64 k,.int .u64 (t:Int),.int .u64 (x:Int),.int .u64 (wn:Int),.int .u64 (nn:Int),.int .u64 (vl:Int),.int .i64 u.kind,.int .u64 (u.a:Int),.int .u64 (u.b:Int),.slice u.addr u.parts.length u.cap,.slice A es.length cap])) W4):=by
       obtain ⟨n1,n2,n3,n4,n5,n6⟩:=HNM.out
       refine ⟨⟨k,t,x,wn,nn,vl,u,A,cap,es⟩,rfl,by simp [Rv.abs,HUA.out],⟨n1,n2,n3,n4,n5,n6,?_,?_,own_cap hown4,HOK.out,fun ad e hnn=>?_⟩,?_⟩
       · rw [hsz4]
         exact (hLS.out.1.aside hLS.out.2 hAS).more (by omega) (Nat.le_refl _)
       · exact Rd.own hown4
       · obtain ⟨gg,cp,hv,hgg,_⟩:=hown4.form hnn
         have hA:A=some ⟨gg,0,none⟩:=by injection hv
         have e:A=some ad:=e
         rw [hA] at e
         injection e with e
         subst e
         have:=own_ge hown4 gg (by rw [hA]; rfl)
         show w.heap.size≤gg
         omega
       · rw [hW4]
         exact hbw.out.trans ((put11_grow _ _ _ _ _ _ _ _ _ _ _ wr (w.heap.size+1)).below (B:=w.heap.size) hbw.out.size (by omega) (by omega))
      obtain ⟨e0,e1,e2,e3,e4,e5,e6,e7,e8,e9,e10⟩:=rec_cells hbz
      obtain ⟨d0,d1,d2,d3,d4,d5,d6,d7,d8,d9,d10⟩:=rec_cells hg
      have y:=fun i=>frozen_of_row wr (w.heap.size+1) i _ _ hbz
      have y0:=y 0
      have y1:=y 1
      have y2:=y 2
      have y3:=y 3
      have y4:=y 4
      have y5:=y 5
      have y6:=y 6
      have y7:=y 7
      have y8:=y 8
      have y9:=y 9
      have y10:=y 10
      clear y
      have HW4:=Lib_hid hW4
      clear hAS hel hsz4 hown4 hown hLS hg hbz hbr hbw HSW hS2 hgN hbsz hW4 HNM HOK HUA HR HS2 HGN hn
      go_wp2
      show bodyPost _ _ _ _ _ (put11 wr (w.heap.size+1) (.int .i64 k) (.int .u64 (t:Int)) (.int .u64 (x:Int)) (.int .u64 (wn:Int)) (.int .u64 (nn:Int)) (.int .u64 (vl:Int)) (.int .i64 u.kind) (.int .u64 (u.a:Int)) (.int .u64 (u.b:Int)) (.slice u.addr u.parts.length u.cap) (.slice A es.length cap))
      rw [← HW4.out]
      exact drec_ret HB4.out HF.out _ rfl
end Go.Proofs.YtinmoknbgnngcaaGreatDoor
