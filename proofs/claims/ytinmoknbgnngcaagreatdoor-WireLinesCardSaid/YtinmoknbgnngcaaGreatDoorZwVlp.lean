/-
  Layer 5: the program's words: version.
-/
import Derived.Test.YtinmoknbgnngcaaGreatDoorZwVlm
import Derived.Test.YtinmoknbgnngcaaGreatDoorZwVlj
import Derived.Test.YtinmoknbgnngcaaGreatDoorZwTex
namespace Go.Proofs.YtinmoknbgnngcaaGreatDoor
open Go Go.RowKit
set_option linter.unusedVariables false
def VerEnd5 (x s:List UInt8) (bad:Bool) (g:Nat) (w:World) (e:Ending) (w':World):Prop:=
 w.grownBy w' (some g)∧∃ a b:Nat,e=.returned (.agg #[.int .u64 (a:Int),.int .u64 (b:Int)])∧a<18446744073709551616∧b<18446744073709551616∧
  ((verW x=some (a,b)∧w'.heap[g]? = some (WdC s bad))∨(verW x=none∧w'.heap[g]? = some (WdC s true)))
theorem NumEnd5.get {x s:List UInt8} {bad:Bool} {g:Nat} {w w':World} {e:Ending} (h:NumEnd5 x s bad g w e w') :
 ∃ (a:Nat) (bad':Bool),e=.returned (.int .u64 (a:Int))∧a<18446744073709551616∧w.grownBy w' (some g)∧w'.heap[g]? = some (WdC s bad')∧((numW x=some a∧bad'=bad)∨(numW x=none∧bad'=true)):=by
 obtain ⟨h1,h2⟩:=h
 rcases h2 with ⟨v,e1,e2,e3⟩ | ⟨e1,e2,e3⟩
 · exact ⟨v,bad,e2,(numW_lt e1).1,h1,e3,.inl ⟨e1,rfl⟩⟩
 · exact ⟨0,true,e2,by decide,h1,e3,.inr ⟨e1,rfl⟩⟩
set_option maxRecDepth 100000 in
set_option maxHeartbeats 1600000 in
theorem version5_any (B g:Nat) (x s:List UInt8) (bad:Bool) (w:World) (hg:w.heap[g]? = some (WdC s bad)) (hE:EnvM B w) (hB:B≤g) (hl:x.length≤1000000) :
 Calls Tryz.prog 162 #[.pointer (some ⟨g,0,none⟩),.string ⟨x.toArray⟩] w (VerEnd5 x s bad g w):=by
 have hsz:(Tryz.prog.info? 62).map (·.size)=some 2:=by kernel_rfl
 have hgl:=(Array.getElem?_eq_some_iff.1 hg).1
 obtain ⟨w1,hw1⟩:∃ w1,w1=w.alloc (.cells #[.int .u64 0,.int .u64 0] 62):=⟨_,rfl⟩
 have hx1:=heap_alloc_new w (.cells #[.int .u64 0,.int .u64 0] 62)
 have hb1:=below_new w (.cells #[.int .u64 0,.int .u64 0] 62)
 rw [← hw1] at hx1 hb1
 have hE1:EnvM B w1:=hE.under hb1 (by omega)
 obtain ⟨m,hm⟩:=hE1.2.2
 have hlen:=ahead_len 46 x
 have C:=Lib_hid (Tryz.strings_Cut ⟨x.toArray⟩ ⟨#[46]⟩ m w1 (by show x.toArray.size<_; simp; omega) hm)
 obtain ⟨e1,e2⟩:=cut_one 46 x
 have hC1:(⟨(Lib.cut (⟨x.toArray⟩:ByteArray).data.toList (⟨#[46]⟩:ByteArray).data.toList).1.toArray⟩:ByteArray)=⟨(ahead 46 x).toArray⟩:=by rw [← e1]
 have hC2:(⟨(Lib.cut (⟨x.toArray⟩:ByteArray).data.toList (⟨#[46]⟩:ByteArray).data.toList).2.1.toArray⟩:ByteArray)=⟨(behind 46 x).toArray⟩:=by rw [← e2]
 rw [hC1,hC2] at C
 generalize (Lib.cut (⟨x.toArray⟩:ByteArray).data.toList (⟨#[46]⟩:ByteArray).data.toList).2.2=c2 at *
 have N1:Hid (∀ q,Calls Tryz.prog 145 #[.pointer (some ⟨g,0,none⟩),.string ⟨(ahead 46 x).toArray⟩] (w1.drewN q) (NumEnd5 (ahead 46 x) s bad g (w1.drewN q))):=fun q=>
  number5_any B g (ahead 46 x) s bad (w1.drewN q) ((hb1.block g hgl).trans hg) (hE1.under (below_drew_ (Below.refl B w1)) (Nat.le_refl _)) hB (by omega)
 have N2:Hid (∀ (W:World) (bad':Bool),w1.grownBy W (some g)→W.heap[g]? = some (WdC s bad')→Calls Tryz.prog 145 #[.pointer (some ⟨g,0,none⟩),.string ⟨(behind 46 x).toArray⟩] W (NumEnd5 (behind 46 x) s bad' g W)):=fun W bad' hW hgW=>
  number5_any B g (behind 46 x) s bad' W hgW (hE1.under (B':=B) ((Below.refl B w1).grown hW (by have:=hb1.size; omega) (fun k hk=>by injection hk with hk; omega)) (Nat.le_refl _)) hB (by omega)
 have HV:Hid (verW x=match numW (ahead 46 x),numW (behind 46 x) with | some a,some b=>some (a,b) | _,_=>none):=rfl
 have HW:=Lib_hid hw1
 have HX:=Lib_hid (And.intro hx1 hb1)
 clear hE hE1 hm hC1 hC2 e1 e2 hlen hw1 hx1 hb1
 go_enter Tryz.func162,Tryz.ntmps162
 go_wp2_with fail
 rw [← HW.out]
 refine C.out.mono ?_
 rintro e w2 ⟨rfl,q,rfl⟩
 go_wp2_with fail
 refine (N1.out q).mono ?_
 intro e w3 h3
 obtain ⟨a,bad1,rfl,ha,hg3,hx3,hc3⟩:=h3.get
 have hg3':w1.grownBy w3 (some g):=⟨hg3.os,hg3.tape,hg3.output,hg3.size,hg3.block⟩
 clear h3 hg3
 go_wp2_with fail
 refine (N2.out w3 bad1 hg3' hx3).mono ?_
 intro e w4 h4
 obtain ⟨b,bad2,rfl,hb,hg4,hx4,hc4⟩:=h4.get
 have hgr:w1.grownBy w4 (some g):=hg3'.trans hg4
 have hs1:w.heap.size<w1.heap.size:=(Array.getElem?_eq_some_iff.1 HX.out.1).1
 have hr:=(hgr.block w.heap.size hs1 (fun e=>by injection e with e; omega)).trans HX.out.1
 have d0:=cell_of_row w4 _ 0 _ _ _ hr
 have d1:=cell_of_row w4 _ 1 _ _ _ hr
 have z0:=frozen_of_row w4 _ 0 _ _ hr
 have z1:=frozen_of_row w4 _ 1 _ _ hr
 have FIN:Hid (VerEnd5 x s bad g w (.returned (.agg #[.int .u64 (a:Int),.int .u64 (b:Int)])) ((w4.setCell ⟨w.heap.size,0,none⟩ (.int .u64 (a:Int))).setCell ⟨w.heap.size,1,none⟩ (.int .u64 (b:Int)))):=by
  have hbl:∀ k,k≠w.heap.size→((w4.setCell ⟨w.heap.size,0,none⟩ (.int .u64 (a:Int))).setCell ⟨w.heap.size,1,none⟩ (.int .u64 (b:Int))).heap[k]? = w4.heap[k]?:=fun k hk=>(heap_setCell_other _ _ _ _ hk).trans (heap_setCell_other _ _ _ _ hk)
  refine ⟨⟨hgr.os.trans HX.out.2.os,hgr.tape.trans HX.out.2.tape,hgr.output.trans HX.out.2.output,by have:=HX.out.2.size; have:=hgr.size; simp; omega,fun k hk hne=>(hbl k (by omega)).trans ((hgr.block k (by omega) hne).trans (HX.out.2.block k hk))⟩,a,b,rfl,ha,hb,?_⟩
  rw [hbl g (by omega),HV.out]
  rcases hc3 with ⟨h1,rfl⟩ | ⟨h1,rfl⟩
  · rcases hc4 with ⟨h2,rfl⟩ | ⟨h2,rfl⟩
    · rw [h1,h2]; exact .inl ⟨rfl,hx4⟩
    · rw [h1,h2]; exact .inr ⟨rfl,hx4⟩
  · rcases hc4 with ⟨h2,rfl⟩ | ⟨h2,rfl⟩
    · rw [h1]; exact .inr ⟨rfl,hx4⟩
    · rw [h1]; exact .inr ⟨rfl,hx4⟩
 have hh:((w4.setCell ⟨w.heap.size,0,none⟩ (.int .u64 (a:Int))).setCell ⟨w.heap.size,1,none⟩ (.int .u64 (b:Int))).heap[w.heap.size]? = some (.cells #[.int .u64 (a:Int),.int .u64 (b:Int)] 62 (0,0)):=heap_setCell_same _ w.heap.size 1 _ _ _ (heap_setCell_same w4 w.heap.size 0 _ _ _ hr)
 have HH:=Lib_hid hh
 clear hh hr hgr hg3' hg4 hx3 hx4 hc3 hc4 h4 N1 N2 C
 go_wp2
 exact bodyPost_ret (results_cell_row (p:=4) (ty:=62) rfl _ _ w.heap.size 62 #[.int .u64 (a:Int),.int .u64 (b:Int)] (0,0) _ rfl HH.out Tryz.underlying62 rfl hsz) rfl FIN.out
def EntEnd5 (x s:List UInt8) (bad:Bool) (g:Nat) (w:World) (e:Ending) (w':World):Prop:=
 w.grownBy w' (some g)∧∃ en:En,e=.returned en.val∧en.ok∧((enW x=some en∧w'.heap[g]? = some (WdC s bad))∨(enW x=none∧w'.heap[g]? = some (WdC s true)))
set_option maxRecDepth 100000 in
set_option maxHeartbeats 1600000 in
theorem entry5_any (B g:Nat) (x s:List UInt8) (bad:Bool) (w:World) (hg:w.heap[g]? = some (WdC s bad)) (hE:EnvM B w) (hB:B≤g) (hl:x.length≤1000000) :
 Calls Tryz.prog 212 #[.pointer (some ⟨g,0,none⟩),.string ⟨x.toArray⟩] w (EntEnd5 x s bad g w):=by
 have hsz:(Tryz.prog.info? 125).map (·.size)=some 4:=by kernel_rfl
 have hgl:=(Array.getElem?_eq_some_iff.1 hg).1
 obtain ⟨w1,hw1⟩:∃ w1,w1=w.alloc (.cells #[.int .u64 0,.int .u64 0,.int .u64 0,.bool false] 125):=⟨_,rfl⟩
 have hx1:=heap_alloc_new w (.cells #[.int .u64 0,.int .u64 0,.int .u64 0,.bool false] 125)
 have hb1:=below_new w (.cells #[.int .u64 0,.int .u64 0,.int .u64 0,.bool false] 125)
 rw [← hw1] at hx1 hb1
 have hE1:EnvM B w1:=hE.under hb1 (by omega)
 have hs1:w.heap.size<w1.heap.size:=(Array.getElem?_eq_some_iff.1 hx1).1
 have hlen:=ahead_len 58 x
 have hlen2:=ahead_len 58 (behind 58 x)
 have CT:∀ (y:List UInt8) (q:Nat),y.length≤1000000→Calls Tryz.prog 80 #[.string ⟨y.toArray⟩,.string ⟨#[58]⟩] (w1.drewN q) fun e w'=>(∃ c2,e=.returned (.tuple #[.string ⟨(ahead 58 y).toArray⟩,.string ⟨(behind 58 y).toArray⟩,.bool c2]))∧∃ n,w'=w1.drewN n:=fun y q hy=>by
  obtain ⟨m,hm⟩:=(hE1.under (below_drew_ (Below.refl B w1):Below B w1 (w1.drewN q)) (Nat.le_refl _)).2.2
  refine (Tryz.strings_Cut ⟨y.toArray⟩ ⟨#[58]⟩ m (w1.drewN q) (by show y.toArray.size<_; simp; omega) hm).mono ?_
  rintro e w' ⟨rfl,n,rfl⟩
  obtain ⟨e1,e2⟩:=cut_one 58 y
  refine ⟨⟨(Lib.cut y [58]).2.2,?_⟩,q+n,by simp [World.drewN,Nat.add_assoc]⟩
  show Ending.returned (.tuple #[.string ⟨(Lib.cut y [58]).1.toArray⟩,.string ⟨(Lib.cut y [58]).2.1.toArray⟩,.bool (Lib.cut y [58]).2.2])=_
  rw [e1,e2]
 have C1:=Lib_hid (CT x 0 hl)
 have C2:=Lib_hid (fun q=>CT (behind 58 x) q (by omega))
 have N1:Hid (∀ (W:World) (bad':Bool),w1.grownBy W (some g)→W.heap[g]? = some (WdC s bad')→Calls Tryz.prog 145 #[.pointer (some ⟨g,0,none⟩),.string ⟨(ahead 58 x).toArray⟩] W (NumEnd5 (ahead 58 x) s bad' g W)):=fun W bad' hW hgW=>
  number5_any B g (ahead 58 x) s bad' W hgW (hE1.under (B':=B) ((Below.refl B w1).grown hW (by omega) (fun k hk=>by injection hk with hk; omega)) (Nat.le_refl _)) hB (by omega)
 have N2:Hid (∀ (W:World) (bad':Bool),w1.grownBy W (some g)→W.heap[g]? = some (WdC s bad')→Calls Tryz.prog 162 #[.pointer (some ⟨g,0,none⟩),.string ⟨(ahead 58 (behind 58 x)).toArray⟩] W (VerEnd5 (ahead 58 (behind 58 x)) s bad' g W)):=fun W bad' hW hgW=>
  version5_any B g (ahead 58 (behind 58 x)) s bad' W hgW (hE1.under (B':=B) ((Below.refl B w1).grown hW (by omega) (fun k hk=>by injection hk with hk; omega)) (Nat.le_refl _)) hB (by omega)
 have HV:Hid (enW x=match numW (ahead 58 x),verW (ahead 58 (behind 58 x)) with | some x',some (a,b)=>if behind 58 (behind 58 x)=[49] then some ⟨x',a,b,true⟩ else if behind 58 (behind 58 x)=[48] then some ⟨x',a,b,false⟩ else none | _,_=>none):=rfl
 have HW:=Lib_hid hw1
 have HX:=Lib_hid (And.intro hx1 hb1)
 have HG1:=Lib_hid ((hb1.block g hgl).trans hg)
 clear hE hE1 hlen hlen2 hw1 hx1 hb1 CT
 generalize hM:behind 58 (behind 58 x)=M at *
 have hc3:M=[49]∨M=[48]∨(M≠[49]∧M≠[48]):=by
  by_cases h1:M=[49]
  · exact .inl h1
  · by_cases h2:M=[48]
    · exact .inr (.inl h2)
    · exact .inr (.inr ⟨h1,h2⟩)
 rcases hc3 with h1 | h1 | ⟨h1,h2⟩
 · subst h1
   go_enter Tryz.func212,Tryz.ntmps212
   go_wp2_with fail
   rw [← HW.out]
   refine C1.out.mono ?_
   rintro e w2 ⟨⟨c1,rfl⟩,q,rfl⟩
   go_wp2_with fail
   refine (C2.out q).mono ?_
   rintro e w2 ⟨⟨c2,rfl⟩,q2,rfl⟩
   have cg:=cell_of_row (w1.drewN q2) g 1 _ _ _ HG1.out
   have zg:=frozen_of_row (w1.drewN q2) g 1 _ _ HG1.out
   have hgq:w1.grownBy (w1.drewN q2) (some g):=⟨rfl,rfl,rfl,Nat.le_refl _,fun _ _ _=>rfl⟩
   have hxq:(w1.drewN q2).heap[g]? = some (WdC s bad):=HG1.out
   have HN1:=Lib_hid (N1.out _ bad hgq hxq)
   go_wp2_with fail
   refine HN1.out.mono ?_
   intro e w3 h3
   obtain ⟨a,bad1,rfl,ha,hg3,hx3,hc3⟩:=h3.get
   have hg3':=hgq.trans hg3
   clear h3 hg3 HN1 cg zg
   go_wp2_with fail
   refine (N2.out w3 bad1 hg3' hx3).mono ?_
   rintro e w4 ⟨hg4,b,c,rfl,hb,hcc,hc4⟩
   have hgr:w1.grownBy w4 (some g):=hg3'.trans hg4
   have hr:=(hgr.block w.heap.size hs1 (fun e=>by injection e with e; omega)).trans HX.out.1
   have d0:=cell_of_row w4 _ 0 _ _ _ hr
   have z0:=frozen_of_row w4 _ 0 _ _ hr
   have d1:=cell_of_row w4 _ 1 _ _ _ hr
   have z1:=frozen_of_row w4 _ 1 _ _ hr
   have d2:=cell_of_row w4 _ 2 _ _ _ hr
   have z2:=frozen_of_row w4 _ 2 _ _ hr
   have d3:=cell_of_row w4 _ 3 _ _ _ hr
   have z3:=frozen_of_row w4 _ 3 _ _ hr
   have FIN:Hid (EntEnd5 x s bad g w (.returned (.agg #[.int .u64 (a:Int),.int .u64 (b:Int),.int .u64 (c:Int),.bool true])) ((((w4.setCell ⟨w.heap.size,0,none⟩ (.int .u64 (a:Int))).setCell ⟨w.heap.size,1,none⟩ (.int .u64 (b:Int))).setCell ⟨w.heap.size,2,none⟩ (.int .u64 (c:Int))).setCell ⟨w.heap.size,3,none⟩ (.bool true))):=by
    have hbl:∀ k,k≠w.heap.size→((((w4.setCell ⟨w.heap.size,0,none⟩ (.int .u64 (a:Int))).setCell ⟨w.heap.size,1,none⟩ (.int .u64 (b:Int))).setCell ⟨w.heap.size,2,none⟩ (.int .u64 (c:Int))).setCell ⟨w.heap.size,3,none⟩ (.bool true)).heap[k]? = w4.heap[k]?:=fun k hk=>(heap_setCell_other _ _ _ _ hk).trans ((heap_setCell_other _ _ _ _ hk).trans ((heap_setCell_other _ _ _ _ hk).trans (heap_setCell_other _ _ _ _ hk)))
    refine ⟨⟨hgr.os.trans HX.out.2.os,hgr.tape.trans HX.out.2.tape,hgr.output.trans HX.out.2.output,by have:=HX.out.2.size; have:=hgr.size; simp; omega,fun k hk hne=>(hbl k (by omega)).trans ((hgr.block k (by omega) hne).trans (HX.out.2.block k hk))⟩,⟨a,b,c,true⟩,rfl,⟨by show (a:Int)≤_; omega,by show (b:Int)≤_; omega,by show (c:Int)≤_; omega⟩,?_⟩
    rw [hbl g (by omega),HV.out]
    rcases hc3 with ⟨k1,rfl⟩ | ⟨k1,rfl⟩
    · rcases hc4 with ⟨k2,k3⟩ | ⟨k2,k3⟩
      · rw [k1,k2]; simp; exact k3
      · rw [k1,k2]; exact .inr ⟨rfl,k3⟩
    · rcases hc4 with ⟨k2,k3⟩ | ⟨k2,k3⟩
      · rw [k1]; exact .inr ⟨rfl,k3⟩
      · rw [k1]; exact .inr ⟨rfl,k3⟩
   have hh:((((w4.setCell ⟨w.heap.size,0,none⟩ (.int .u64 (a:Int))).setCell ⟨w.heap.size,1,none⟩ (.int .u64 (b:Int))).setCell ⟨w.heap.size,2,none⟩ (.int .u64 (c:Int))).setCell ⟨w.heap.size,3,none⟩ (.bool true)).heap[w.heap.size]? = some (.cells #[.int .u64 (a:Int),.int .u64 (b:Int),.int .u64 (c:Int),.bool true] 125 (0,0)):=heap_setCell_same _ w.heap.size 3 _ _ _ (heap_setCell_same _ w.heap.size 2 _ _ _ (heap_setCell_same _ w.heap.size 1 _ _ _ (heap_setCell_same w4 w.heap.size 0 _ _ _ hr)))
   have HH:=Lib_hid hh
   clear hh hr hgr hg3' hg4 hx3 hc3 hc4 N1 N2 C1 C2
   go_wp2
   exact bodyPost_ret (results_cell_row (p:=4) (ty:=125) rfl _ _ w.heap.size 125 #[.int .u64 (a:Int),.int .u64 (b:Int),.int .u64 (c:Int),.bool true] (0,0) _ rfl HH.out Tryz.underlying125 rfl hsz) rfl FIN.out
 · subst h1
   go_enter Tryz.func212,Tryz.ntmps212
   go_wp2_with fail
   rw [← HW.out]
   refine C1.out.mono ?_
   rintro e w2 ⟨⟨c1,rfl⟩,q,rfl⟩
   go_wp2_with fail
   refine (C2.out q).mono ?_
   rintro e w2 ⟨⟨c2,rfl⟩,q2,rfl⟩
   have cg:=cell_of_row (w1.drewN q2) g 1 _ _ _ HG1.out
   have zg:=frozen_of_row (w1.drewN q2) g 1 _ _ HG1.out
   have hgq:w1.grownBy (w1.drewN q2) (some g):=⟨rfl,rfl,rfl,Nat.le_refl _,fun _ _ _=>rfl⟩
   have hxq:(w1.drewN q2).heap[g]? = some (WdC s bad):=HG1.out
   have HN1:=Lib_hid (N1.out _ bad hgq hxq)
   go_wp2_with fail
   refine HN1.out.mono ?_
   intro e w3 h3
   obtain ⟨a,bad1,rfl,ha,hg3,hx3,hc3⟩:=h3.get
   have hg3':=hgq.trans hg3
   clear h3 hg3 HN1 cg zg
   go_wp2_with fail
   refine (N2.out w3 bad1 hg3' hx3).mono ?_
   rintro e w4 ⟨hg4,b,c,rfl,hb,hcc,hc4⟩
   have hgr:w1.grownBy w4 (some g):=hg3'.trans hg4
   have hr:=(hgr.block w.heap.size hs1 (fun e=>by injection e with e; omega)).trans HX.out.1
   have d0:=cell_of_row w4 _ 0 _ _ _ hr
   have z0:=frozen_of_row w4 _ 0 _ _ hr
   have d1:=cell_of_row w4 _ 1 _ _ _ hr
   have z1:=frozen_of_row w4 _ 1 _ _ hr
   have d2:=cell_of_row w4 _ 2 _ _ _ hr
   have z2:=frozen_of_row w4 _ 2 _ _ hr
   have d3:=cell_of_row w4 _ 3 _ _ _ hr
   have z3:=frozen_of_row w4 _ 3 _ _ hr
   have FIN:Hid (EntEnd5 x s bad g w (.returned (.agg #[.int .u64 (a:Int),.int .u64 (b:Int),.int .u64 (c:Int),.bool false])) ((((w4.setCell ⟨w.heap.size,0,none⟩ (.int .u64 (a:Int))).setCell ⟨w.heap.size,1,none⟩ (.int .u64 (b:Int))).setCell ⟨w.heap.size,2,none⟩ (.int .u64 (c:Int))).setCell ⟨w.heap.size,3,none⟩ (.bool false))):=by
    have hbl:∀ k,k≠w.heap.size→((((w4.setCell ⟨w.heap.size,0,none⟩ (.int .u64 (a:Int))).setCell ⟨w.heap.size,1,none⟩ (.int .u64 (b:Int))).setCell ⟨w.heap.size,2,none⟩ (.int .u64 (c:Int))).setCell ⟨w.heap.size,3,none⟩ (.bool false)).heap[k]? = w4.heap[k]?:=fun k hk=>(heap_setCell_other _ _ _ _ hk).trans ((heap_setCell_other _ _ _ _ hk).trans ((heap_setCell_other _ _ _ _ hk).trans (heap_setCell_other _ _ _ _ hk)))
    refine ⟨⟨hgr.os.trans HX.out.2.os,hgr.tape.trans HX.out.2.tape,hgr.output.trans HX.out.2.output,by have:=HX.out.2.size; have:=hgr.size; simp; omega,fun k hk hne=>(hbl k (by omega)).trans ((hgr.block k (by omega) hne).trans (HX.out.2.block k hk))⟩,⟨a,b,c,false⟩,rfl,⟨by show (a:Int)≤_; omega,by show (b:Int)≤_; omega,by show (c:Int)≤_; omega⟩,?_⟩
    rw [hbl g (by omega),HV.out]
    rcases hc3 with ⟨k1,rfl⟩ | ⟨k1,rfl⟩
    · rcases hc4 with ⟨k2,k3⟩ | ⟨k2,k3⟩
      · rw [k1,k2]; simp; exact k3
      · rw [k1,k2]; exact .inr ⟨rfl,k3⟩
    · rcases hc4 with ⟨k2,k3⟩ | ⟨k2,k3⟩
      · rw [k1]; exact .inr ⟨rfl,k3⟩
      · rw [k1]; exact .inr ⟨rfl,k3⟩
   have hh:((((w4.setCell ⟨w.heap.size,0,none⟩ (.int .u64 (a:Int))).setCell ⟨w.heap.size,1,none⟩ (.int .u64 (b:Int))).setCell ⟨w.heap.size,2,none⟩ (.int .u64 (c:Int))).setCell ⟨w.heap.size,3,none⟩ (.bool false)).heap[w.heap.size]? = some (.cells #[.int .u64 (a:Int),.int .u64 (b:Int),.int .u64 (c:Int),.bool false] 125 (0,0)):=heap_setCell_same _ w.heap.size 3 _ _ _ (heap_setCell_same _ w.heap.size 2 _ _ _ (heap_setCell_same _ w.heap.size 1 _ _ _ (heap_setCell_same w4 w.heap.size 0 _ _ _ hr)))
   have HH:=Lib_hid hh
   clear hh hr hgr hg3' hg4 hx3 hc3 hc4 N1 N2 C1 C2
   go_wp2
   exact bodyPost_ret (results_cell_row (p:=4) (ty:=125) rfl _ _ w.heap.size 125 #[.int .u64 (a:Int),.int .u64 (b:Int),.int .u64 (c:Int),.bool false] (0,0) _ rfl HH.out Tryz.underlying125 rfl hsz) rfl FIN.out
 · have q1:(M == [49])=false:=by simp [h1]
   have q2:(M == [48])=false:=by simp [h2]
   go_enter Tryz.func212,Tryz.ntmps212
   go_wp2_with fail
   rw [← HW.out]
   refine C1.out.mono ?_
   rintro e w2 ⟨⟨c1,rfl⟩,q,rfl⟩
   go_wp2_with fail
   refine (C2.out q).mono ?_
   rintro e w2 ⟨⟨c2,rfl⟩,q2,rfl⟩
   have cg:=cell_of_row (w1.drewN q2) g 1 _ _ _ HG1.out
   have zg:=frozen_of_row (w1.drewN q2) g 1 _ _ HG1.out
   have hgq:w1.grownBy ((w1.drewN q2).setCell ⟨g,1,none⟩ (.bool true)) (some g):=⟨rfl,rfl,rfl,by simp,(grow_set (w1.drewN q2) g 1 _).block⟩
   have hxq:((w1.drewN q2).setCell ⟨g,1,none⟩ (.bool true)).heap[g]? = some (WdC s true):=Joins.block_setCell (i:=1) HG1.out _
   have HN1:=Lib_hid (N1.out _ true hgq hxq)
   go_wp2_with fail
   refine HN1.out.mono ?_
   intro e w3 h3
   obtain ⟨a,bad1,rfl,ha,hg3,hx3,hc3⟩:=h3.get
   have hg3':=hgq.trans hg3
   clear h3 hg3 HN1 cg zg
   go_wp2_with fail
   refine (N2.out w3 bad1 hg3' hx3).mono ?_
   rintro e w4 ⟨hg4,b,c,rfl,hb,hcc,hc4⟩
   have hgr:w1.grownBy w4 (some g):=hg3'.trans hg4
   have hr:=(hgr.block w.heap.size hs1 (fun e=>by injection e with e; omega)).trans HX.out.1
   have d0:=cell_of_row w4 _ 0 _ _ _ hr
   have z0:=frozen_of_row w4 _ 0 _ _ hr
   have d1:=cell_of_row w4 _ 1 _ _ _ hr
   have z1:=frozen_of_row w4 _ 1 _ _ hr
   have d2:=cell_of_row w4 _ 2 _ _ _ hr
   have z2:=frozen_of_row w4 _ 2 _ _ hr
   have d3:=cell_of_row w4 _ 3 _ _ _ hr
   have z3:=frozen_of_row w4 _ 3 _ _ hr
   have FIN:Hid (EntEnd5 x s bad g w (.returned (.agg #[.int .u64 (a:Int),.int .u64 (b:Int),.int .u64 (c:Int),.bool false])) ((((w4.setCell ⟨w.heap.size,0,none⟩ (.int .u64 (a:Int))).setCell ⟨w.heap.size,1,none⟩ (.int .u64 (b:Int))).setCell ⟨w.heap.size,2,none⟩ (.int .u64 (c:Int))).setCell ⟨w.heap.size,3,none⟩ (.bool false))):=by
    have hbl:∀ k,k≠w.heap.size→((((w4.setCell ⟨w.heap.size,0,none⟩ (.int .u64 (a:Int))).setCell ⟨w.heap.size,1,none⟩ (.int .u64 (b:Int))).setCell ⟨w.heap.size,2,none⟩ (.int .u64 (c:Int))).setCell ⟨w.heap.size,3,none⟩ (.bool false)).heap[k]? = w4.heap[k]?:=fun k hk=>(heap_setCell_other _ _ _ _ hk).trans ((heap_setCell_other _ _ _ _ hk).trans ((heap_setCell_other _ _ _ _ hk).trans (heap_setCell_other _ _ _ _ hk)))
    refine ⟨⟨hgr.os.trans HX.out.2.os,hgr.tape.trans HX.out.2.tape,hgr.output.trans HX.out.2.output,by have:=HX.out.2.size; have:=hgr.size; simp; omega,fun k hk hne=>(hbl k (by omega)).trans ((hgr.block k (by omega) hne).trans (HX.out.2.block k hk))⟩,⟨a,b,c,false⟩,rfl,⟨by show (a:Int)≤_; omega,by show (b:Int)≤_; omega,by show (c:Int)≤_; omega⟩,?_⟩
    rw [hbl g (by omega),HV.out]
    rcases hc3 with ⟨k1,rfl⟩ | ⟨k1,rfl⟩
    · rcases hc4 with ⟨k2,k3⟩ | ⟨k2,k3⟩
      · rw [k1,k2]; simp [h1,h2]; exact k3
      · rw [k1,k2]; exact .inr ⟨rfl,k3⟩
    · rcases hc4 with ⟨k2,k3⟩ | ⟨k2,k3⟩
      · rw [k1]; exact .inr ⟨rfl,k3⟩
      · rw [k1]; exact .inr ⟨rfl,k3⟩
   have hh:((((w4.setCell ⟨w.heap.size,0,none⟩ (.int .u64 (a:Int))).setCell ⟨w.heap.size,1,none⟩ (.int .u64 (b:Int))).setCell ⟨w.heap.size,2,none⟩ (.int .u64 (c:Int))).setCell ⟨w.heap.size,3,none⟩ (.bool false)).heap[w.heap.size]? = some (.cells #[.int .u64 (a:Int),.int .u64 (b:Int),.int .u64 (c:Int),.bool false] 125 (0,0)):=heap_setCell_same _ w.heap.size 3 _ _ _ (heap_setCell_same _ w.heap.size 2 _ _ _ (heap_setCell_same _ w.heap.size 1 _ _ _ (heap_setCell_same w4 w.heap.size 0 _ _ _ hr)))
   have HH:=Lib_hid hh
   clear hh hr hgr hg3' hg4 hx3 hc3 hc4 N1 N2 C1 C2
   go_wp2
   exact bodyPost_ret (results_cell_row (p:=4) (ty:=125) rfl _ _ w.heap.size 125 #[.int .u64 (a:Int),.int .u64 (b:Int),.int .u64 (c:Int),.bool false] (0,0) _ rfl HH.out Tryz.underlying125 rfl hsz) rfl FIN.out
def PrdEnd5 (x s:List UInt8) (bad:Bool) (g:Nat) (w:World) (e:Ending) (w':World):Prop:=
 w.grownBy w' (some g)∧∃ u:V,e=.returned u.val∧Lies w' w.heap.size w'.heap.size u∧Shp 65 w' w.heap.size u∧((readT x=some u.abs∧w'.heap[g]? = some (WdC s bad))∨(readT x=none∧w'.heap[g]? = some (WdC s true)))
set_option maxRecDepth 100000 in
set_option maxHeartbeats 1600000 in
theorem predicate5_any (B g:Nat) (x s:List UInt8) (bad:Bool) (w:World) (hg:w.heap[g]? = some (WdC s bad)) (hE:EnvM B w) (hB:B≤g) (hl:x.length≤1000000) :
 Calls Tryz.prog 180 #[.pointer (some ⟨g,0,none⟩),.string ⟨x.toArray⟩] w (PrdEnd5 x s bad g w):=by
 have hsz:(Tryz.prog.info? 65).map (·.size)=some 4:=by kernel_rfl
 have hgl:=(Array.getElem?_eq_some_iff.1 hg).1
 have q1:=heap_alloc_new w (.cells #[.int .i64 0,.int .u64 0,.int .u64 0,.slice none 0 0] 65)
 have b1:=below_new w (.cells #[.int .i64 0,.int .u64 0,.int .u64 0,.slice none 0 0] 65)
 have s1:(w.alloc (.cells #[.int .i64 0,.int .u64 0,.int .u64 0,.slice none 0 0] 65)).heap.size=w.heap.size+1:=by simp
 have HR:=pread_any x B (w.alloc (.cells #[.int .i64 0,.int .u64 0,.int .u64 0,.slice none 0 0] 65)) (hE.under b1 (by omega)).1 (by omega) hl
 have FIN:Hid (∀ (u:V) (W2 W3:World),Lies W2 (w.heap.size+1) W2.heap.size u→Shp 65 W2 (w.heap.size+1) u→w.grownBy W2 (some g)→W2.heap[w.heap.size]? = some (.cells #[.int .i64 0,.int .u64 0,.int .u64 0,.slice none 0 0] 65 (0,0))→W2.heap.size≤W3.heap.size→W2.grownBy W3 (some g)→
  ((readT x=some u.abs∧W3.heap[g]? = some (WdC s bad))∨(readT x=none∧W3.heap[g]? = some (WdC s true)))→PrdEnd5 x s bad g w (.returned (.agg #[.int .i64 u.kind,.int .u64 (u.a:Int),.int .u64 (u.b:Int),u.sl])) (put4 W3 w.heap.size (.int .i64 u.kind) (.int .u64 (u.a:Int)) (.int .u64 (u.b:Int)) u.sl)∧
    (put4 W3 w.heap.size (.int .i64 u.kind) (.int .u64 (u.a:Int)) (.int .u64 (u.b:Int)) u.sl).heap[w.heap.size]? = some (.cells #[.int .i64 u.kind,.int .u64 (u.a:Int),.int .u64 (u.b:Int),u.sl] 65 (0,0))):=fun u W2 W3 h1 h1s h2 h3 h4 h5 h6=>by
  have h3':=(h5.block w.heap.size (Array.getElem?_eq_some_iff.1 h3).1 (fun e=>by injection e with e; omega)).trans h3
  have hs3:w.heap.size<W3.heap.size:=(Array.getElem?_eq_some_iff.1 h3').1
  have hgr:w.grownBy (put4 W3 w.heap.size (.int .i64 u.kind) (.int .u64 (u.a:Int)) (.int .u64 (u.b:Int)) u.sl) (some g):=by
   have h7:=h2.trans h5
   exact ⟨h7.os,h7.tape,h7.output,by rw [put4_size]; exact h7.size,fun k hk hne=>(put4_else W3 (by omega) _ _ _ _).trans (h7.block k hk hne)⟩
  have hL:Lies (put4 W3 w.heap.size (.int .i64 u.kind) (.int .u64 (u.a:Int)) (.int .u64 (u.b:Int)) u.sl) w.heap.size (put4 W3 w.heap.size (.int .i64 u.kind) (.int .u64 (u.a:Int)) (.int .u64 (u.b:Int)) u.sl).heap.size u:=
   (h1.keep fun p k1 k2=>World.cell?_of_block ((put4_else W3 (by omega) _ _ _ _).trans (h5.block p.block k2 (fun e=>by injection e with e; omega)))).more (by omega) (by rw [put4_size]; exact h4)
  refine ⟨⟨hgr,u,rfl,hL,(h1s.keep fun k k1 k2=>(put4_else W3 (by omega) _ _ _ _).trans (h5.block k k2 (fun e=>by injection e with e; omega))).more (by omega),?_⟩,put4_row h3' _ _ _ _⟩
  rw [put4_else W3 (by omega) _ _ _ _]
  exact h6
 have W2F:Hid (∀ (u:V) (W1:World),Lies W1 (w.heap.size+1) W1.heap.size u→Shp 65 W1 (w.heap.size+1) u→Below (w.heap.size+1) (w.alloc (.cells #[.int .i64 0,.int .u64 0,.int .u64 0,.slice none 0 0] 65)) W1→Shp 65 (W1.alloc (.cells #[.int .i64 u.kind,.int .u64 (u.a:Int),.int .u64 (u.b:Int),u.sl] 65)) (w.heap.size+1) u∧Lies (W1.alloc (.cells #[.int .i64 u.kind,.int .u64 (u.a:Int),.int .u64 (u.b:Int),u.sl] 65)) (w.heap.size+1) (W1.alloc (.cells #[.int .i64 u.kind,.int .u64 (u.a:Int),.int .u64 (u.b:Int),u.sl] 65)).heap.size u∧
  w.grownBy (W1.alloc (.cells #[.int .i64 u.kind,.int .u64 (u.a:Int),.int .u64 (u.b:Int),u.sl] 65)) (some g)∧(W1.alloc (.cells #[.int .i64 u.kind,.int .u64 (u.a:Int),.int .u64 (u.b:Int),u.sl] 65)).heap[w.heap.size]? = some (.cells #[.int .i64 0,.int .u64 0,.int .u64 0,.slice none 0 0] 65 (0,0))∧
  (W1.alloc (.cells #[.int .i64 u.kind,.int .u64 (u.a:Int),.int .u64 (u.b:Int),u.sl] 65)).heap[W1.heap.size]? = some (.cells #[.int .i64 u.kind,.int .u64 (u.a:Int),.int .u64 (u.b:Int),u.sl] 65 (0,0))∧w.heap.size<W1.heap.size∧(W1.alloc (.cells #[.int .i64 u.kind,.int .u64 (u.a:Int),.int .u64 (u.b:Int),u.sl] 65)).heap[g]? = some (WdC s bad)):=fun u W1 h1 h1s h2=>by
  have b2:=below_new W1 (.cells #[.int .i64 u.kind,.int .u64 (u.a:Int),.int .u64 (u.b:Int),u.sl] 65)
  have hs:=h2.size
  have hbw:=b1.trans ((h2.mono (Nat.le_succ _)).trans (b2.mono (by omega)))
  exact ⟨h1s.under b2,(h1.under b2).more (Nat.le_refl _) b2.size,grow_below hbw _,((b2.block _ (by omega)).trans (h2.block _ (by omega))).trans q1,heap_alloc_new _ _,by omega,(hbw.block g hgl).trans hg⟩
 clear hE b1 q1 hg
 go_enter Tryz.func180,Tryz.ntmps180
 go_wp2_with fail
 refine HR.mono ?_
 rintro e w1 ⟨u,rfl,hu,hLu,hSu,hb⟩
 rw [s1] at hLu hSu hb
 obtain ⟨k0,k1,k2,k3,k4,k5,k6⟩:=W2F.out u w1 hLu hSu hb
 clear W2F hLu hSu hb HR
 simp only [V.val]
 cases hr:readT x with
 | some t=>
  rw [hr] at hu
  have hx:u.abs=t:=hu
  obtain ⟨HF,HB⟩:=FIN.out u _ _ k1 k0 k2 k3 (Nat.le_refl _) (grow_refl _ _) (.inl ⟨by rw [hr,hx],k6⟩)
  replace HF:=Lib_hid HF
  replace HB:=Lib_hid HB
  simp only [ansT]
  clear FIN k0 k1 k2 hu hx hr
  simp only [V.sl] at HF HB k3 k4 k6 ⊢
  generalize u.addr=uA at *
  generalize u.parts.length=un at *
  generalize u.cap=uc at *
  generalize u.kind=uk at *
  generalize (u.a:Int)=ua at *
  generalize (u.b:Int)=ub at *
  go_upto_region 2 with (fail)
  generalize w1.alloc (.cells #[.int .i64 uk,.int .u64 ua,.int .u64 ub,.slice uA un uc] 65)=W2 at *
  have d0:=cell_of_row W2 _ 0 _ _ _ k4
  have d1:=cell_of_row W2 _ 1 _ _ _ k4
  have d2:=cell_of_row W2 _ 2 _ _ _ k4
  have d3:=cell_of_row W2 _ 3 _ _ _ k4
  have e0:=cell_of_row W2 _ 0 _ _ _ k3
  have e1:=cell_of_row W2 _ 1 _ _ _ k3
  have e2:=cell_of_row W2 _ 2 _ _ _ k3
  have e3:=cell_of_row W2 _ 3 _ _ _ k3
  have y0:=frozen_of_row W2 w.heap.size 0 _ _ k3
  have y1:=frozen_of_row W2 w.heap.size 1 _ _ k3
  have y2:=frozen_of_row W2 w.heap.size 2 _ _ k3
  have y3:=frozen_of_row W2 w.heap.size 3 _ _ k3
  simp at d0 d1 d2 d3 e0 e1 e2 e3
  go_wp2
  show bodyPost _ _ _ _ _ (put4 W2 w.heap.size (.int .i64 uk) (.int .u64 ua) (.int .u64 ub) (.slice uA un uc))
  generalize put4 W2 w.heap.size (.int .i64 uk) (.int .u64 ua) (.int .u64 ub) (.slice uA un uc)=W4 at *
  exact bodyPost_ret (results_cell_row (p:=4) (ty:=65) rfl _ _ w.heap.size 65 #[.int .i64 uk,.int .u64 ua,.int .u64 ub,.slice uA un uc] (0,0) _ rfl HB.out Tryz.underlying65 rfl hsz) rfl HF.out
 | none=>
  have k6':Hid (((w1.alloc (.cells #[.int .i64 u.kind,.int .u64 (u.a:Int),.int .u64 (u.b:Int),u.sl] 65)).setCell ⟨g,1,none⟩ (.bool true)).heap[g]? = some (WdC s true)):=Joins.block_setCell (i:=1) k6 _
  obtain ⟨HF,HB⟩:=FIN.out u _ ((w1.alloc (.cells #[.int .i64 u.kind,.int .u64 (u.a:Int),.int .u64 (u.b:Int),u.sl] 65)).setCell ⟨g,1,none⟩ (.bool true)) k1 k0 k2 k3 (by simp) (grow_set _ g 1 _) (.inr ⟨hr,k6'.out⟩)
  replace HF:=Lib_hid HF
  replace HB:=Lib_hid HB
  simp only [ansT]
  have hne:g≠w.heap.size:=by omega
  have hne2:g≠w1.heap.size:=by omega
  clear FIN k0 k1 k2 hu hr k6'
  simp only [V.sl] at HF HB k3 k4 k6 ⊢
  generalize u.addr=uA at *
  generalize u.parts.length=un at *
  generalize u.cap=uc at *
  generalize u.kind=uk at *
  generalize (u.a:Int)=ua at *
  generalize (u.b:Int)=ub at *
  go_upto_region 2 with (fail)
  generalize w1.alloc (.cells #[.int .i64 uk,.int .u64 ua,.int .u64 ub,.slice uA un uc] 65)=W2 at *
  have c1:=cell_of_row W2 g 1 _ _ _ k6
  have z1:=frozen_of_row W2 g 1 _ _ k6
  simp at c1
  go_upto_region 4 with (fail)
  replace k3:=(heap_setCell_other W2 ⟨g,1,none⟩ w.heap.size (.bool true) (fun e=>hne e.symm)).trans k3
  replace k4:=(heap_setCell_other W2 ⟨g,1,none⟩ w1.heap.size (.bool true) (fun e=>hne2 e.symm)).trans k4
  generalize W2.setCell ⟨g,1,none⟩ (.bool true)=W3 at *
  have d0:=cell_of_row W3 _ 0 _ _ _ k4
  have d1:=cell_of_row W3 _ 1 _ _ _ k4
  have d2:=cell_of_row W3 _ 2 _ _ _ k4
  have d3:=cell_of_row W3 _ 3 _ _ _ k4
  have e0:=cell_of_row W3 _ 0 _ _ _ k3
  have e1:=cell_of_row W3 _ 1 _ _ _ k3
  have e2:=cell_of_row W3 _ 2 _ _ _ k3
  have e3:=cell_of_row W3 _ 3 _ _ _ k3
  have y0:=frozen_of_row W3 w.heap.size 0 _ _ k3
  have y1:=frozen_of_row W3 w.heap.size 1 _ _ k3
  have y2:=frozen_of_row W3 w.heap.size 2 _ _ k3
  have y3:=frozen_of_row W3 w.heap.size 3 _ _ k3
  simp at d0 d1 d2 d3 e0 e1 e2 e3
  clear c1 z1
  go_wp2
  show bodyPost _ _ _ _ _ (put4 W3 w.heap.size (.int .i64 uk) (.int .u64 ua) (.int .u64 ub) (.slice uA un uc))
  generalize put4 W3 w.heap.size (.int .i64 uk) (.int .u64 ua) (.int .u64 ub) (.slice uA un uc)=W4 at *
  exact bodyPost_ret (results_cell_row (p:=4) (ty:=65) rfl _ _ w.heap.size 65 #[.int .i64 uk,.int .u64 ua,.int .u64 ub,.slice uA un uc] (0,0) _ rfl HB.out Tryz.underlying65 rfl hsz) rfl HF.out
end Go.Proofs.YtinmoknbgnngcaaGreatDoor
