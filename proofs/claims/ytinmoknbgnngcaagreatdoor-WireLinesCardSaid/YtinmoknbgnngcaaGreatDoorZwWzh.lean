/-
  Layer 6: Decode, the program's. (Out of gen_wzh.py, wzh.txt.)
-/
import Derived.Test.YtinmoknbgnngcaaGreatDoorZwWzf
import Derived.Maps.OwnIn
import Derived.Sort.CutIn
namespace Go.Proofs.YtinmoknbgnngcaaGreatDoor
open Go Go.RowKit Go.Shelf
set_option linter.unusedVariables false
attribute [local go_sem] Oper.semAt_some
theorem Tryz.infoWP:(Tryz.prog.info? 76).map (fun i=>(i.zero,i.size,i.bytes))=some (some (.agg #[.int .i64 0,.int .u64 0,.int .u64 0,.int .u64 0,.int .u64 0,.int .u64 0,.int .i64 0,.int .u64 0,.int .u64 0,.slice none 0 0,.slice none 0 0,.int .i64 0,.int .i64 0]),13,136):=by kernel_rfl
theorem evs_len6 (l:List Nat):∀ f a,(evs l f a).1.length≤f∧∀ d∈(evs l f a).1,d.2.1.length≤l.length:=by
 intro f
 induction f with
 | zero=>intro a; simp [evs]
 | succ f ih=>
  intro a
  rw [evs]
  split
  · simp
  · split
    · simp
    · rename_i k p nx hfr
      obtain ⟨h1,h2⟩:=ih nx
      have hp:p.length≤l.length:=by
       unfold frN at hfr
       split at hfr
       · cases hfr
       · split at hfr
         · cases hfr
         · split at hfr
           · injection hfr with _ hfr _
             rw [← hfr,List.length_take,List.length_drop]
             omega
           · cases hfr
      refine ⟨by simp; omega,fun d hd=>?_⟩
      rcases List.mem_cons.1 hd with rfl | hd
      · exact hp
      · exact h2 d hd
theorem Part.len6 {l:List Nat} {xs:List Ev} (h:Part l xs):xs.length≤l.length+2:=by
 have hl:=(evs_len6 l (l.length+1) 0).1
 rcases h with ⟨_,a,ha⟩ | ⟨gs,e,r,_,rfl,_,hs⟩
 · obtain ⟨rest,e,hs⟩:=ha.pre
   rw [show evs l (l.length+1) 0=splitS l from rfl,hs] at hl
   simp at hl
   omega
 · rw [show evs l (l.length+1) 0=splitS l from rfl,hs] at hl
   simp at hl ⊢
   omega
def decL:List (Nat×List Nat×Nat×Nat)→List (Rc×Nat×Nat)×Option (Nat×Nat)
 | []=>([],none)
 | d :: ds=>if (ansP d.1 d.2.1).2=0 then (((ansP d.1 d.2.1).1,d.2.2.1,d.2.2.2) :: (decL ds).1,(decL ds).2) else ([],some (d.2.2.1,(ansP d.1 d.2.1).2))
theorem decL_app:∀ {xs ys:List (Nat×List Nat×Nat×Nat)},(decL xs).2=none→decL (xs ++ ys)=((decL xs).1 ++ (decL ys).1,(decL ys).2)
 | [],ys,_=>rfl
 | d :: xs,ys,h=>by
  simp only [List.cons_append,decL] at h ⊢
  by_cases hz:(ansP d.1 d.2.1).2=0
  · simp only [hz,if_true] at h ⊢
    rw [decL_app h]
    rfl
  · simp only [hz,if_false] at h
    cases h
def totD (l:List Nat):List (Rc×Nat×Nat)×Nat×Nat:=match (decL (splitS l).1).2 with
 | some y=>((decL (splitS l).1).1,y.1,y.2)
 | none=>((decL (splitS l).1).1,(splitS l).2.1,(splitS l).2.2)
def wpCells (ps:List (Rv×Nat×Nat)):List Value:=ps.flatMap fun p=>p.1.arr.toList ++ [.int .i64 (p.2.1:Int),.int .i64 (p.2.2:Int)]
def absP (p:Rv×Nat×Nat):Rc×Nat×Nat:=(p.1.abs,p.2.1,p.2.2)
theorem wpCells_append (xs ys:List (Rv×Nat×Nat)):wpCells (xs ++ ys)=wpCells xs ++ wpCells ys:=by simp [wpCells]
theorem wp_one (ps:List (Rv×Nat×Nat)):∀ u∈wpCells ps,u.oneCell'=true:=by
 intro u hu
 obtain ⟨p,_,hu⟩:=List.mem_flatMap.1 hu
 simp only [Rv.arr,V.sl,Rv.sl,List.mem_append,List.mem_cons,List.not_mem_nil,or_false] at hu
 rcases hu with (rfl | rfl | rfl | rfl | rfl | rfl | rfl | rfl | rfl | rfl | rfl) | rfl | rfl <;> rfl
structure OwnPl (B:Nat) (w:World) (v:Value) (ps:List (Rv×Nat×Nat)):Prop where
 row:w.ownsRow B 76 13 v ps.length (wpCells ps)
 lain:Lain w v.ownBlock w.heap.size B (ps.map (·.1))
section
variable {w w':World} {B:Nat} {v v':Value} {ps:List (Rv×Nat×Nat)}
theorem OwnPl.nil (w:World) (B:Nat) (h:B≤w.heap.size):OwnPl B w (.slice none 0 0) []:=⟨World.ownsRow_nil _ _ _ _,h⟩
theorem OwnPl.kept (h:OwnPl B w v ps) (hs:w.heap.size≤w'.heap.size) (hk:∀ k,B≤k→k<w.heap.size→w'.heap[k]? = w.heap[k]?):OwnPl B w' v ps:=
 ⟨own_keep h.row fun k e=>hk k (own_ge h.row k e) (own_lt h.row k e),(h.lain.keep hs fun k a b _=>hk k a b).up hs⟩
theorem OwnPl.below (h:OwnPl B w v ps) (hb:Below w.heap.size w w'):OwnPl B w' v ps:=h.kept hb.size fun k _ b=>hb.block k b
theorem OwnPl.grown {b:Nat} (h:OwnPl B w v ps) (hg:w.grownBy w' (some b)) (hb:b<B):OwnPl B w' v ps:=h.kept hg.size fun k a c=>hg.block k c (fun e=>by injection e with e; omega)
theorem OwnPl.push {w1:World} {r:Rv} {f t m1 m2:Nat} (h:OwnPl B w v ps) (hb:Below w.heap.size w w1) (hr:RecIn w1 m1 m2 r) (hm:w.heap.size≤m1) (hg:w1.grownBy w' v.ownBlock)
 (row:w'.ownsRow B 76 13 v' (ps.length+1) (wpCells (ps ++ [(r,f,t)]))) (hor:v'.ownBlock=v.ownBlock∨v'.ownBlock=some w1.heap.size):OwnPl B w' v' (ps ++ [(r,f,t)]):=by
 have hv:∀ k,v.ownBlock=some k→k<w.heap.size:=own_lt h.row
 have hlt:=hr.hi
 have hle:=hr.le
 refine ⟨by rw [List.length_append]; exact row,?_⟩
 rw [List.map_append]
 have l0:Lain w1 v.ownBlock w.heap.size B (ps.map (·.1)):=h.lain.keep hb.size fun k a b _=>hb.block k b
 have l3:Lain w1 v.ownBlock m2 B (ps.map (·.1) ++ [r]):=l0.push hr hm (fun k e=>.inl (Nat.lt_of_lt_of_le (hv k e) hm)) (Nat.le_refl _)
 have l4:Lain w' v.ownBlock m2 B (ps.map (·.1) ++ [r]):=l3.keep hg.size fun k a b c=>hg.block k (by omega) (fun e=>c e.symm)
 refine (l4.turn fun k e=>?_).up (Nat.le_trans hlt hg.size)
 rcases hor with h1 | h1
 · exact .inl (h1.symm.trans e)
 · rw [h1] at e; injection e with e; exact .inr (by omega)
end
def RowsP (B:Nat) (w:World) (v:Value) (ps:List (Rv×Nat×Nat)):Prop:=(ps=[]∧v=.slice none 0 0)∨OwnPl B w v ps
theorem RowsP.own {B:Nat} {w:World} {v:Value} {ps:List (Rv×Nat×Nat)} (h:RowsP B w v ps) (hs:B≤w.heap.size):OwnPl B w v ps:=by
 rcases h with ⟨rfl,rfl⟩ | h
 · exact OwnPl.nil w B hs
 · exact h
theorem RowsP.grown {B b:Nat} {w w':World} {v:Value} {ps:List (Rv×Nat×Nat)} (h:RowsP B w v ps) (hg:w.grownBy w' (some b)) (hb:b<B):RowsP B w' v ps:=h.imp id fun h=>h.grown hg hb
theorem wp_lit (w:World) (k2:Int) (t2 x2 wn2 nn2 v2:Nat) (p2:V) (A2:Option Addr) (c2:Nat) (es2:List En) (x:Ev) (T:TypeId):∀ j u,(wpCells [(⟨k2,t2,x2,wn2,nn2,v2,p2,A2,c2,es2⟩,x.f,x.t)])[j]? = some u→(w.alloc (.cells #[.int .i64 k2,.int .u64 (t2:Int),.int .u64 (x2:Int),.int .u64 (wn2:Int),.int .u64 (nn2:Int),.int .u64 (v2:Int),.int .i64 p2.kind,.int .u64 (p2.a:Int),.int .u64 (p2.b:Int),.slice p2.addr p2.parts.length p2.cap,.slice A2 es2.length c2,.int .i64 (x.f:Int),.int .i64 (x.t:Int)] T)).cell? ((⟨w.heap.size,0,none⟩:Addr).add j)=some u:=by
 intro j u hu
 rw [show (⟨w.heap.size,0,none⟩:Addr).add j=⟨w.heap.size,j,none⟩ by unfold Addr.add; split <;> simp_all,cell_of_row _ _ j _ _ _ (heap_alloc_new w _),← hu,← Array.getElem?_toList]
 rfl
theorem KeepD.of_below {A:Option Addr} {H:Nat} {X Y:World} (hb:Below X.heap.size X Y):KeepD A H X Y:=⟨hb.size,fun k hk _=>hb.block k hk⟩
theorem KeepD.grown {A:Option Addr} {H:Nat} {X Y:World} {o:Option Nat} (hg:X.grownBy Y o) (h:∀ k,o=some k→k≠1∧(∀ ad,A=some ad→k≠ad.block)∧¬ (H≤k∧k<H+3)):KeepD A H X Y:=
 ⟨hg.size,fun k hk hx=>hg.block k hk (fun e=>by
  obtain ⟨h1,h2,h3⟩:=h k e.symm
  rcases hx with rfl | ⟨ad,e1,e2⟩ | hx
  · exact h1 rfl
  · exact h2 ad e1 e2
  · exact h3 hx)⟩
theorem totD_stop {l:List Nat} {pre:List Ev} {x:Ev} {ps:List (Rv×Nat×Nat)} {z:Nat} (hpt:Part l (pre ++ [x])) (hD:decL (pre.map Ev.abs)=(ps.map absP,none)) (h0:x.r=0→(ansP x.k x.p).2=z) (h1:x.r≠0→z=x.r) (hz:z≠0) :
 totD l=(ps.map absP,x.f,z):=by
 rcases hpt with ⟨hG,a,ha⟩ | ⟨gs,e,r,hr,h2,_,hs⟩
 · obtain ⟨rest,e,hs⟩:=ha.pre
   have hxr:=h0 (hG x (by simp))
   have hd:decL (splitS l).1=(ps.map absP,some (x.f,z)):=by
    rw [hs,List.map_append,List.append_assoc,decL_app (by rw [hD]),hD]
    show (ps.map absP ++ (decL (x.abs :: rest)).1,(decL (x.abs :: rest)).2)=_
    rw [show decL (x.abs :: rest)=([],some (x.f,z)) by rw [decL,if_neg (by show ¬ (ansP x.k x.p).2=0; rw [hxr]; exact hz)]; show ([],some (x.f,(ansP x.k x.p).2))=_; rw [hxr]]
    simp
   unfold totD
   rw [hd]
 · obtain ⟨h4,h5⟩:=List.append_inj' h2 rfl
   obtain rfl:x=Ev.bad e r:=by simpa using h5
   subst h4
   have hzr:z=r:=h1 hr
   unfold totD
   rw [hs]
   simp only [hD]
   rw [hzr]
   rfl
theorem decL_one {pre:List Ev} {x:Ev} {ps:List (Rv×Nat×Nat)} {p:Rv×Nat×Nat} (hD:decL (pre.map Ev.abs)=(ps.map absP,none)) (h:ansP x.k x.p=(p.1.abs,0)) (hp:p.2=(x.f,x.t)):decL ((pre ++ [x]).map Ev.abs)=((ps ++ [p]).map absP,none):=by
 rw [List.map_append,decL_app (by rw [hD]),hD]
 show (ps.map absP ++ (decL [x.abs]).1,(decL [x.abs]).2)=_
 rw [show decL [x.abs]=([absP p],none) by
  rw [decL,if_pos (by show (ansP x.k x.p).2=0; rw [h])]
  show ([((ansP x.k x.p).1,x.f,x.t)],none)=_
  rw [h]
  unfold absP
  rw [hp]]
 simp
theorem totD_full {l:List Nat} {xs:List Ev} {ps:List (Rv×Nat×Nat)} (hF:Full l xs) (hG:Goods xs) (hD:decL (xs.map Ev.abs)=(ps.map absP,none)):totD l=(ps.map absP,l.length,0):=by
 have hsp:splitS l=(xs.map Ev.abs,l.length,0):=by
  rcases hF with ⟨_,h⟩ | ⟨gs,e,r,h1,rfl,_⟩
  · exact h
  · exact absurd (hG (Ev.bad e r) (by simp)) h1
 unfold totD
 rw [hsp]
 simp only [hD]
def DecEnd (l:List Nat) (w:World) (e:Ending) (w':World):Prop:=
 ∃ (A:Option Addr) (c:Nat) (ps:List (Rv×Nat×Nat)),e=.returned (.tuple #[.slice A ps.length c,.int .i64 ((totD l).2.1:Int),.int .i64 ((totD l).2.2:Int)])∧ps.map absP=(totD l).1∧OwnPl w.heap.size w' (.slice A ps.length c) ps∧Below w.heap.size w w'
structure DcI (w:World) (H:Nat) (pre:List Ev) (W:World):Prop where
 ex:∃ (v:Value) (ps:List (Rv×Nat×Nat)),W.heap[w.heap.size+3]? = some (.cells #[v] 29 (0,0))∧RowsP (H+3) W v ps∧decL (pre.map Ev.abs)=(ps.map absP,none)∧ps.length≤pre.length
 x2:W.heap[w.heap.size]? = some (.cells #[.slice none 0 0] 29 (0,0))
 x3:W.heap[w.heap.size+1]? = some (.cells #[.int .i64 0] 3 (0,0))
 x4:W.heap[w.heap.size+2]? = some (.cells #[.int .i64 0] 26 (0,0))
 good:Goods pre
 b:Below w.heap.size w W
theorem DcI.abide {w:World} {H:Nat} {pre:List Ev} {X Y:World} {r:Nat} (h:DcI w H pre X) (hH:w.heap.size+4≤H) (h1:H≤r) (h2:r<H+3) (hg:X.grownBy Y (some r)):DcI w H pre Y:=by
 obtain ⟨⟨v,ps,e1,e2,e3⟩,x2,x3,x4,hG,hb⟩:=h
 have key:∀ {k:Nat} {o:Obj},k<w.heap.size+4→X.heap[k]? = some o→Y.heap[k]? = some o:=fun hk hx=>(hg.block _ (Array.getElem?_eq_some_iff.1 hx).1 (fun e=>by injection e with e; omega)).trans hx
 exact ⟨⟨v,ps,key (by omega) e1,e2.grown hg h2,e3⟩,key (by omega) x2,key (by omega) x3,key (by omega) x4,hG,hb.grown hg hb.size (fun k hk=>by injection hk with hk; omega)⟩
structure DcX (w:World) (H:Nat) (l:List Nat) (W:World):Prop where
 ex:∃ (v:Value) (ps:List (Rv×Nat×Nat)) (f z:Nat),totD l=(ps.map absP,f,z)∧W.heap[w.heap.size]? = some (.cells #[v] 29 (0,0))∧W.heap[w.heap.size+1]? = some (.cells #[.int .i64 (f:Int)] 3 (0,0))∧
  W.heap[w.heap.size+2]? = some (.cells #[.int .i64 (z:Int)] 26 (0,0))∧RowsP (H+3) W v ps
 b:Below w.heap.size w W
theorem DcX.abide {w:World} {H:Nat} {l:List Nat} {X Y:World} {r:Nat} (h:DcX w H l X) (hH:w.heap.size+4≤H) (h1:H≤r) (h2:r<H+3) (hg:X.grownBy Y (some r)):DcX w H l Y:=by
 obtain ⟨⟨v,ps,f,z,y1,e1,e2,e3,e4⟩,hb⟩:=h
 have key:∀ {k:Nat} {o:Obj},k<w.heap.size+4→X.heap[k]? = some o→Y.heap[k]? = some o:=fun hk hx=>(hg.block _ (Array.getElem?_eq_some_iff.1 hx).1 (fun e=>by injection e with e; omega)).trans hx
 exact ⟨⟨v,ps,f,z,y1,key (by omega) e1,key (by omega) e2,key (by omega) e3,e4.grown hg h2⟩,hb.grown hg hb.size (fun k hk=>by injection hk with hk; omega)⟩
def DcIx (w:World) (H:Nat) (l:List Nat) (cc:Code) (pre:List Ev) (W:World):Prop:=cc=.ret∧DcX w H l W
theorem dec_fin {l:List Nat} {w X:World} {H:Nat} (v:Value) (ps:List (Rv×Nat×Nat)) (f z:Nat) (hH:w.heap.size+4≤H) (d2:X.heap[w.heap.size]? = some (.cells #[v] 29 (0,0))) (d3:X.heap[w.heap.size+1]? = some (.cells #[.int .i64 (f:Int)] 3 (0,0)))
 (d4:X.heap[w.heap.size+2]? = some (.cells #[.int .i64 (z:Int)] 26 (0,0))) (hP:RowsP (H+3) X v ps) (hb:Below w.heap.size w X) (hs:totD l=(ps.map absP,f,z)) (hD:X.heap[H]? = some (.deferred (some []))) :
 ∀ tmps:Array Value,tmps.getD 2 undef=.pointer (some ⟨w.heap.size,0,none⟩)→tmps.getD 3 undef=.pointer (some ⟨w.heap.size+1,0,none⟩)→tmps.getD 4 undef=.pointer (some ⟨w.heap.size+2,0,none⟩)→
  bodyPostM Fence.wide 3 Tryz.prog Tryz.f9 (DecEnd l w) .ret {tmps:=tmps,defers:=[{target:=.collected H,args:=#[]}]} X:=by
 intro tmps t2 t3 t4
 rw [Array.getD_eq_getD_getElem?] at t2 t3 t4
 have hg:=grownBy_putObj' X H (.deferred none)
 have c2:=cell_of_row _ w.heap.size 0 _ _ _ ((hg.block w.heap.size (Array.getElem?_eq_some_iff.1 d2).1 (fun e=>by injection e with e; omega)).trans d2)
 have c3:=cell_of_row _ (w.heap.size+1) 0 _ _ _ ((hg.block (w.heap.size+1) (Array.getElem?_eq_some_iff.1 d3).1 (fun e=>by injection e with e; omega)).trans d3)
 have c4:=cell_of_row _ (w.heap.size+2) 0 _ _ _ ((hg.block (w.heap.size+2) (Array.getElem?_eq_some_iff.1 d4).1 (fun e=>by injection e with e; omega)).trans d4)
 have hP1:=hP.grown hg (by omega)
 have hb2:=hb.grown hg hb.size (fun k hk=>by injection hk with hk; omega)
 refine ⟨by simp,.inl ⟨_,_,rfl,run_takeDeferred hD,?_⟩⟩
 generalize X.putObj H (.deferred none)=Y at *
 have hP2:OwnPl w.heap.size Y v ps:=by
  rcases hP1 with ⟨rfl,rfl⟩ | h
  · exact OwnPl.nil Y w.heap.size hb2.size
  · exact ⟨own_base h.row fun k hk=>by have:=own_ge h.row k hk; omega,Lain.down (by omega) h.lain⟩
 obtain ⟨Av,cv,rfl,_⟩:=own_form hP2.row
 exact ⟨.tuple #[.slice Av ps.length cv,.int .i64 (f:Int),.int .i64 (z:Int)],by simp [results,Tryz.results9,go_sem,t2,t3,t4,c2,c3,c4],⟨Av,cv,ps,by rw [hs],by rw [hs],hP2,hb2⟩⟩
set_option maxRecDepth 100000 in
set_option maxHeartbeats 6400000 in
theorem decode6_any (B:Nat) (A:Option Addr) (n c:Nat) (l:List Nat) (w:World) (hT:Tab w) (hr:Rd w B 1 A n (bs l)) (hb8:∀ x∈l,x<256) (hB:B≤w.heap.size) (hn:n≤100000) :
 Calls Tryz.prog 9 #[.slice A n c] w (DecEnd l w):=by
 have hln:l.length=n:=hr.count
 subst hln
 obtain ⟨i0,hi,hz0,hz1,hz2⟩:=info_parts Tryz.infoWP
 obtain ⟨W4,hW4⟩:∃ W4,W4=(((w.alloc (.cells #[.slice none 0 0] 29)).alloc (.cells #[.int .i64 0] 3)).alloc (.cells #[.int .i64 0] 26)).alloc (.cells #[.slice none 0 0] 29):=⟨_,rfl⟩
 have hs4:W4.heap.size=w.heap.size+4:=by rw [hW4]; simp
 have hb4:Below w.heap.size w W4:=by rw [hW4]; exact (((below_new w _).alloc (by simp) _).alloc (by simp <;> omega) _).alloc (by simp <;> omega) _
 have y2:W4.heap[w.heap.size]? = some (.cells #[.slice none 0 0] 29 (0,0)):=by rw [hW4]; exact (heap_alloc_old _ _ (by simp <;> omega)).trans ((heap_alloc_old _ _ (by simp <;> omega)).trans ((heap_alloc_old _ _ (by simp)).trans (heap_alloc_new w _)))
 have y3:W4.heap[w.heap.size+1]? = some (.cells #[.int .i64 0] 3 (0,0)):=by
  rw [hW4]; refine (heap_alloc_old _ _ (by simp <;> omega)).trans ((heap_alloc_old _ _ (by simp)).trans ?_)
  have:=heap_alloc_new (w.alloc (.cells #[.slice none 0 0] 29)) (.cells #[.int .i64 0] 3)
  rwa [World.size_alloc] at this
 have y4:W4.heap[w.heap.size+2]? = some (.cells #[.int .i64 0] 26 (0,0)):=by
  rw [hW4]; refine (heap_alloc_old _ _ (by simp)).trans ?_
  have:=heap_alloc_new ((w.alloc (.cells #[.slice none 0 0] 29)).alloc (.cells #[.int .i64 0] 3)) (.cells #[.int .i64 0] 26)
  rwa [World.size_alloc,World.size_alloc] at this
 have y5:W4.heap[w.heap.size+3]? = some (.cells #[.slice none 0 0] 29 (0,0)):=by
  rw [hW4]
  have:=heap_alloc_new (((w.alloc (.cells #[.slice none 0 0] 29)).alloc (.cells #[.int .i64 0] 3)).alloc (.cells #[.int .i64 0] 26)) (.cells #[.slice none 0 0] 29)
  rwa [World.size_alloc,World.size_alloc,World.size_alloc] at this
 have ALL:=all_any B A l.length c l W4 (hr.below (hb4.mono hB)) (by omega)
 refine (callsIn_wide (n:=3)).1 (callsIn_of_wp_marks Tryz.func9 rfl trivial ?_ rfl)
 simp only [Tryz.ntmps9,List.size_toArray,List.length_cons,List.length_nil,Nat.reduceAdd,Nat.reduceSub,Array.replicate_succ,Array.replicate_zero,List.push_toArray,List.append_toArray,List.nil_append,List.cons_append]
 have HW4:=Lib_hid hW4
 clear hW4
 gi_wp2
 rw [← HW4.out]
 refine ⟨trivial,(callsIn_wide.2 ALL).mono ?_⟩
 rintro e w1 ⟨A1,c1,rfl,ho1,hb1⟩
 have hs1:=hb1.size
 have k2:=(hb1.block w.heap.size (by omega)).trans y2
 have k3:=(hb1.block (w.heap.size+1) (by omega)).trans y3
 have k4:=(hb1.block (w.heap.size+2) (by omega)).trans y4
 have k5:=(hb1.block (w.heap.size+3) (by omega)).trans y5
 have hb:=hb4.trans (hb1.mono hb4.size)
 have hT1:=hT.below hb hT.1
 have hcap:=own_cap ho1
 have hA2:∀ ad,A1=some ad→ad.block<w1.heap.size∧w.heap.size+4≤ad.block:=by
  intro ad e
  obtain ⟨g,hg⟩:∃ g,(Value.slice A1 l.length c1).ownBlock=some g:=by
   rcases ho1.2 with ⟨h,_⟩ | ⟨g,cap,cur,h,_⟩
   · rw [e] at h; cases h
   · rw [h]; exact ⟨g,rfl⟩
  have h1:=own_lt ho1 g hg
  have h2:=own_ge ho1 g hg
  rw [e] at hg
  simp [Value.ownBlock] at hg
  omega
 have hA1:=fun ad e=>(hA2 ad e).1
 have hTG:=hT.1
 have hr1:=Rd.own ho1
 clear ALL y2 y3 y4 y5 hb4 hb1 HW4 hr
 gi_wp2
 refine range_tell (m:=3) rfl rfl hT1 hr1 hA1 hb8 hcap (by omega) (DcI w w1.heap.size) (DcIx w w1.heap.size l) (fun s X Y r h g1 g2 hg=>h.abide (by omega) g1 g2 hg) (fun cc s X Y r h g1 g2 hg=>⟨h.1,h.2.abide (by omega) g1 g2 hg⟩)
  ⟨⟨.slice none 0 0,[],k5,.inl ⟨rfl,rfl⟩,rfl,Nat.le_refl _⟩,k2,k3,k4,by simp [Goods],hb⟩ ?round ?done ?stop
 case round=>
  intro pre x W0 W hI0 hgr hlt hox hpt
  have hI:=hI0.abide (by omega) (by omega) (by omega) hgr
  obtain ⟨⟨v,ps,e5,eR,eD,eN⟩,e2,e3,e4,hG,hbW⟩:=hI
  have hlen:=hpt.len6
  rw [List.length_append,List.length_singleton] at hlen
  have hgs:=hgr.size
  have hR0:=eR.own (by omega)
  have hpl:x.r=0→x.p.length≤l.length:=fun h0=>by
   rcases hpt with ⟨_,a,ha⟩ | ⟨gs,e,r,h1,h2,_,_⟩
   · obtain ⟨rest,e,hs⟩:=ha.pre
     have h:=(evs_len6 l (l.length+1) 0).2 x.abs (by
      rw [show evs l (l.length+1) 0=splitS l from rfl,hs]
      simp)
     exact h
   · obtain ⟨-,h5⟩:=List.append_inj' h2 rfl
     obtain rfl:x=Ev.bad e r:=by simpa using h5
     exact absurd h0 h1
  simp only [Ev.enc,Ev.val]
  gi_wp2
  refine ⟨?_,fun w₂ hg2=>?_⟩
  · exact ⟨by simp,fun k hk _=>heap_alloc_old W _ hk⟩
  have hz2:=hg2.size
  rw [World.size_alloc] at hz2
  have hw2:∀ {k:Nat} {o:Obj},k<W.heap.size→k≠w1.heap.size+1→W.heap[k]? = some o→w₂.heap[k]? = some o:=fun hk hn hx=>(hg2.block _ (by simp; omega) (fun e=>by injection e with e; omega)).trans ((heap_alloc_old W _ hk).trans hx)
  have f5:=hw2 (by omega) (by omega) e5
  have f2:=hw2 (by omega) (by omega) e2
  have f3:=hw2 (by omega) (by omega) e3
  have f4:=hw2 (by omega) (by omega) e4
  have fp:=(hg2.block W.heap.size (by simp) (fun e=>by injection e with e; omega)).trans (heap_alloc_new W _)
  have hR2:OwnPl (w1.heap.size+3) w₂ v ps:=(hR0.below (below_new W _)).grown hg2 (by omega)
  have hb2:Below w.heap.size w w₂:=(hbW.alloc hbW.size _).grown hg2 (by simp; omega) (fun k hk=>by injection hk with hk; omega)
  have hrow:x.r=0→x.k<256∧Rd w₂ w₂.heap.size 1 x.A x.p.length (bs x.p)∧∀ y∈x.p,y<256:=fun h0=>by
   obtain ⟨o1,o2,o3⟩:=hox h0
   have o4:=own_below o1 (below_new W (.cells #[.int .u8 (x.k:Int),.slice x.A x.p.length x.c,.int .i64 (x.f:Int),.int .i64 (x.t:Int)] 94)) (own_lt o1)
   exact ⟨o2,Rd.own (own_keep o4 (w':=w₂) fun k hk=>hg2.block k (own_lt o4 k hk) (fun e=>by injection e with e; have:=own_ge o4 k hk; omega)),o3⟩
  have PS:=parsed6_any w₂.heap.size x w₂ hrow (by
   by_cases h0:x.r=0
   · have:=hpl h0; omega
   · rcases hpt with ⟨h1,_⟩ | ⟨gs,e,r,h1,h2,_,_⟩
     · exact absurd (h1 x (by simp)) h0
     · obtain ⟨-,h5⟩:=List.append_inj' h2 rfl
       obtain rfl:x=Ev.bad e r:=by simpa using h5
       simp [Ev.bad]) (Nat.le_refl _)
  obtain ⟨Av,cv,rfl,_⟩:=own_form hR2.row
  have p0:=cell_of_row w₂ _ 0 _ _ _ fp
  have p1:=cell_of_row w₂ _ 1 _ _ _ fp
  have p2':=cell_of_row w₂ _ 2 _ _ _ fp
  have p3:=cell_of_row w₂ _ 3 _ _ _ fp
  have HPT:=Lib_hid hpt
  have HBS:Hid (w.heap.size+4≤w1.heap.size∧w1.heap.size+3≤w₂.heap.size∧ps.length≤pre.length∧pre.length+1≤l.length+2):=⟨by omega,by omega,eN,hlen⟩
  have HM2:Hid (w₂.heap[w.heap.size+3]? = some (.cells #[.slice Av ps.length cv] 29 (0,0))∧w₂.heap[w.heap.size]? = some (.cells #[.slice none 0 0] 29 (0,0))∧w₂.heap[w.heap.size+1]? = some (.cells #[.int .i64 0] 3 (0,0))∧w₂.heap[w.heap.size+2]? = some (.cells #[.int .i64 0] 26 (0,0))∧OwnPl (w1.heap.size+3) w₂ (.slice Av ps.length cv) ps∧Below w.heap.size w w₂):=⟨f5,f2,f3,f4,hR2,hb2⟩
  have HED:=Lib_hid eD
  have HG:=Lib_hid hG
  have HA2:=Lib_hid hA2
  have HTG:=Lib_hid (show 1<w.heap.size from hTG)
  clear e5 e2 e3 e4 hbW hgr hlt hox hpt hR0 eR eD eN hlen hgs hpl hw2 f5 f2 f3 f4 fp hR2 hb2 hrow hG hz2 hI0
  gi_wp2
  refine ⟨trivial,(callsIn_wide.2 PS).mono ?_⟩
  rintro e w3 ⟨k2,t2,x2,wn2,nn2,v2,p2,A2,c2,es2,z,m1,m2,rfl,hz0,hz1,hm1,hri,hb3,-⟩
  have hq4:=heap_alloc_new w3 (.cells #[.int .i64 k2,.int .u64 (t2:Int),.int .u64 (x2:Int),.int .u64 (wn2:Int),.int .u64 (nn2:Int),.int .u64 (v2:Int),.int .i64 p2.kind,.int .u64 (p2.a:Int),.int .u64 (p2.b:Int),.slice p2.addr p2.parts.length p2.cap,.slice A2 es2.length c2,.int .i64 (x.f:Int),.int .i64 (x.t:Int),.int .i64 (z:Int)] 96)
  have hb4:=below_new w3 (.cells #[.int .i64 k2,.int .u64 (t2:Int),.int .u64 (x2:Int),.int .u64 (wn2:Int),.int .u64 (nn2:Int),.int .u64 (v2:Int),.int .i64 p2.kind,.int .u64 (p2.a:Int),.int .u64 (p2.b:Int),.slice p2.addr p2.parts.length p2.cap,.slice A2 es2.length c2,.int .i64 (x.f:Int),.int .i64 (x.t:Int),.int .i64 (z:Int)] 96)
  have hb24:=hb3.trans (hb4.mono hb3.size)
  have HB24:=Lib_hid hb24
  have HRI:=Lib_hid (hri.keep (w':=w3.alloc (.cells #[.int .i64 k2,.int .u64 (t2:Int),.int .u64 (x2:Int),.int .u64 (wn2:Int),.int .u64 (nn2:Int),.int .u64 (v2:Int),.int .i64 p2.kind,.int .u64 (p2.a:Int),.int .u64 (p2.b:Int),.slice p2.addr p2.parts.length p2.cap,.slice A2 es2.length c2,.int .i64 (x.f:Int),.int .i64 (x.t:Int),.int .i64 (z:Int)] 96)) hb4.size fun k _ b=>hb4.block k (by have:=hri.hi; omega))
  have HZ:=Lib_hid (And.intro hz0 (And.intro hz1 hm1))
  clear PS hb3 hb4 hb24 hri hz0 hz1 hm1 p0 p1 p2' p3
  gi_upto_region 6 with (fail)
  generalize w3.alloc (.cells #[.int .i64 k2,.int .u64 (t2:Int),.int .u64 (x2:Int),.int .u64 (wn2:Int),.int .u64 (nn2:Int),.int .u64 (v2:Int),.int .i64 p2.kind,.int .u64 (p2.a:Int),.int .u64 (p2.b:Int),.slice p2.addr p2.parts.length p2.cap,.slice A2 es2.length c2,.int .i64 (x.f:Int),.int .i64 (x.t:Int),.int .i64 (z:Int)] 96)=w4 at *
  obtain ⟨d0,d1,d2,d3,d4,d5,d6,d7,d8,d9,d10,d11,d12,d13⟩:=step_cells hq4
  clear hq4
  obtain ⟨m5,m2',m3',m4',mR,mB⟩:=HM2.out
  have hb24:=HB24.out
  have key0:∀ {k:Nat} {o:Obj},w₂.heap[k]? = some o→w4.heap[k]? = some o:=fun hx=>(hb24.block _ (Array.getElem?_eq_some_iff.1 hx).1).trans hx
  have n5:=key0 m5
  have n2:=key0 m2'
  have n3:=key0 m3'
  have n4:=key0 m4'
  have nR:=mR.below hb24
  have nB:=mB.trans (hb24.mono mB.size)
  have cL:w4.cell? ⟨w.heap.size+1+1+1,0,none⟩=some (.slice Av ps.length cv):=cell_of_row w4 _ 0 _ _ _ n5
  have HM4:Hid (w4.heap[w.heap.size+3]? = some (.cells #[.slice Av ps.length cv] 29 (0,0))∧w4.heap[w.heap.size]? = some (.cells #[.slice none 0 0] 29 (0,0))∧w4.heap[w.heap.size+1]? = some (.cells #[.int .i64 0] 3 (0,0))∧w4.heap[w.heap.size+2]? = some (.cells #[.int .i64 0] 26 (0,0))∧OwnPl (w1.heap.size+3) w4 (.slice Av ps.length cv) ps∧Below w.heap.size w w4):=⟨n5,n2,n3,n4,nR,nB⟩
  have HK4:Hid (KeepD A1 w1.heap.size w₂ w4):=KeepD.of_below hb24
  have HZ4:Hid (w₂.heap.size≤w4.heap.size):=hb24.size
  have q2:w4.cell? ⟨w.heap.size,0,none⟩=some (.slice none 0 0):=cell_of_row w4 _ 0 _ _ _ n2
  have q3:w4.cell? ⟨w.heap.size+1,0,none⟩=some (.int .i64 0):=cell_of_row w4 _ 0 _ _ _ n3
  have q4:w4.cell? ⟨w.heap.size+1+1,0,none⟩=some (.int .i64 0):=cell_of_row w4 _ 0 _ _ _ n4
  have z2:w4.frozen? ⟨w.heap.size,0,none⟩=false:=frozen_of_row w4 _ 0 _ _ n2
  have z3:w4.frozen? ⟨w.heap.size+1,0,none⟩=false:=frozen_of_row w4 _ 0 _ _ n3
  have z4:w4.frozen? ⟨w.heap.size+1+1,0,none⟩=false:=frozen_of_row w4 _ 0 _ _ n4
  clear m5 m2' m3' m4' mR mB key0 n5 n2 n3 n4 nR nB hb24
  by_cases hz:z=0
  · have hzb:((z:Int) == 0)=true:=by simp [hz]
    have HDL:Hid (decL ((pre ++ [x]).map Ev.abs)=((ps ++ [((⟨k2,t2,x2,wn2,nn2,v2,p2,A2,c2,es2⟩:Rv),x.f,x.t)]).map absP,none)∧x.r=0):=by
     obtain ⟨hz0,hz1,_⟩:=HZ.out
     have hxr:x.r=0:=by
      by_cases h:x.r=0
      · exact h
      · exact absurd (hz1 h) (by omega)
     exact ⟨decL_one HED.out (by rw [hz0 hxr,hz]) rfl,hxr⟩
    clear q2 q3 q4 z2 z3 z4 hz
    have hm1:ps.length+1≤maxLen:=by have:=HBS.out; unfold maxLen; omega
    have hm2:(ps.length+1) * 136≤140737488355328:=by have:=HBS.out; omega
    have HZ6:Hid (w1.heap.size+3≤(w4.alloc (.cells #[.int .i64 k2,.int .u64 (t2:Int),.int .u64 (x2:Int),.int .u64 (wn2:Int),.int .u64 (nn2:Int),.int .u64 (v2:Int),.int .i64 p2.kind,.int .u64 (p2.a:Int),.int .u64 (p2.b:Int),.slice p2.addr p2.parts.length p2.cap,.slice A2 es2.length c2,.int .i64 (x.f:Int),.int .i64 (x.t:Int)] 76)).heap.size):=by unfold Hid; have:=HZ4.out; have:=HBS.out; rw [World.size_alloc]; omega
    have F5:∀ w7,(w4.alloc (.cells #[.int .i64 k2,.int .u64 (t2:Int),.int .u64 (x2:Int),.int .u64 (wn2:Int),.int .u64 (nn2:Int),.int .u64 (v2:Int),.int .i64 p2.kind,.int .u64 (p2.a:Int),.int .u64 (p2.b:Int),.slice p2.addr p2.parts.length p2.cap,.slice A2 es2.length c2,.int .i64 (x.f:Int),.int .i64 (x.t:Int)] 76)).grownBy w7 (Value.slice Av ps.length cv).ownBlock→w7.heap[w.heap.size+3]? = some (.cells #[.slice Av ps.length cv] 29 (0,0)):=fun w7 hg7=>
     (hg7.block _ (by have:=HZ6.out; have:=HBS.out; omega) (fun e=>by have:=own_ge HM4.out.2.2.2.2.1.row _ e.symm; have:=HBS.out; omega)).trans ((heap_alloc_old w4 _ (by have:=HZ4.out; have:=HBS.out; omega)).trans HM4.out.1)
    have HF5:=Lib_hid F5
    have HOW:=Lib_hid HM4.out.2.2.2.2.1.row
    have HO2:=Lib_hid HM2.out.2.2.2.2.1
    clear F5 HM2
    gi_wp2_with (gi_at_builtin; refine wpListIn_append_own_at _ rfl _ _ 29 rfl (w1.heap.size+3) 76 i0 (.agg #[.int .i64 0,.int .u64 0,.int .u64 0,.int .u64 0,.int .u64 0,.int .u64 0,.int .i64 0,.int .u64 0,.int .u64 0,.slice none 0 0,.slice none 0 0,.int .i64 0,.int .i64 0]) 13 136 Tryz.underlying29 hi hz0 hz1 hz2 rfl (by decide) _ ps.length _ rfl (HOW.out.alloc _) ⟨w4.heap.size,0,none⟩ 1 1 (wpCells [(⟨k2,t2,x2,wn2,nn2,v2,p2,A2,c2,es2⟩,x.f,x.t)]) rfl rfl (wp_lit w4 k2 t2 x2 wn2 nn2 v2 p2 A2 c2 es2 x _) (wp_one _) hm1 hm2 HZ6.out ?_; intro v' w7 hown' hg7 _ hor; obtain ⟨Av',cv',rfl,_⟩:=own_form hown'; have cb6:w7.cell? ⟨w.heap.size+1+1+1,0,none⟩=some (.slice Av ps.length cv):=cell_of_row w7 _ 0 _ _ _ (HF5.out w7 hg7); have fb6:w7.frozen? ⟨w.heap.size+1+1+1,0,none⟩=false:=frozen_of_row w7 _ 0 _ _ (HF5.out w7 hg7))
    have hb56:=below_new w4 (.cells #[.int .i64 k2,.int .u64 (t2:Int),.int .u64 (x2:Int),.int .u64 (wn2:Int),.int .u64 (nn2:Int),.int .u64 (v2:Int),.int .i64 p2.kind,.int .u64 (p2.a:Int),.int .u64 (p2.b:Int),.slice p2.addr p2.parts.length p2.cap,.slice A2 es2.length c2,.int .i64 (x.f:Int),.int .i64 (x.t:Int)] 76)
    have hr6:RecIn (w4.alloc (.cells #[.int .i64 k2,.int .u64 (t2:Int),.int .u64 (x2:Int),.int .u64 (wn2:Int),.int .u64 (nn2:Int),.int .u64 (v2:Int),.int .i64 p2.kind,.int .u64 (p2.a:Int),.int .u64 (p2.b:Int),.slice p2.addr p2.parts.length p2.cap,.slice A2 es2.length c2,.int .i64 (x.f:Int),.int .i64 (x.t:Int)] 76)) m1 m2 ⟨k2,t2,x2,wn2,nn2,v2,p2,A2,c2,es2⟩:=HRI.out.keep hb56.size fun k _ b=>hb56.block k (by have:=HRI.out.hi; omega)
    have hP:=OwnPl.push (f:=x.f) (t:=x.t) HO2.out (HB24.out.trans (hb56.mono HB24.out.size)) hr6 HZ.out.2.2 hg7 (by rw [wpCells_append]; exact hown') hor
    have hg8:=grown_setL w7 (w.heap.size+3) 0 (.slice Av' (ps.length+1) cv')
    have hbs:=HBS.out
    have hP8:=hP.grown hg8 (by omega)
    obtain ⟨m1,m3,m4,m5,m7,m8⟩:=HM4.out
    have hz6:=HZ6.out
    have hz4:=HZ4.out
    have htg:=HTG.out
    have hz7:=hg7.size
    have hz8:=hg8.size
    have hng:∀ k,(Value.slice Av ps.length cv).ownBlock=some k→w1.heap.size+3≤k:=own_ge m7.row
    have key:∀ {k:Nat} {o:Obj},k<w.heap.size+3→w4.heap[k]? = some o→(w7.setCell ⟨w.heap.size+1+1+1,0,none⟩ (.slice Av' (ps.length+1) cv')).heap[k]? = some o:=fun hk hx=>
     (hg8.block _ (by omega) (fun e=>by injection e with e; omega)).trans ((hg7.block _ (by omega) (fun e=>by have:=hng _ e.symm; omega)).trans ((hb56.block _ (by omega)).trans hx))
    have hK:=HK4.out.trans ((KeepD.of_below hb56).trans ((KeepD.grown hg7 fun k e=>⟨by have:=hng k e; omega,fun ad ha=>by have:=hng k e; have:=HA2.out ad ha; omega,by have:=hng k e; omega⟩).trans (KeepD.grown (A:=A1) (H:=w1.heap.size) hg8 fun k e=>by
     injection e with e
     subst e
     exact ⟨by omega,fun ad ha=>by have:=HA2.out ad ha; omega,by omega⟩)))
    have hB8:=((m8.trans (hb56.mono m8.size)).grown hg7 (by omega) (fun k hk=>by have:=hng k hk; omega)).grown hg8 (by omega) (fun k hk=>by injection hk with hk; omega)
    have hGx:Goods (pre ++ [x]):=fun y hy=>by
     rcases List.mem_append.1 hy with h | h
     · exact HG.out y h
     · obtain rfl:y=x:=by simpa using h
       exact HDL.out.2
    exact ⟨hK,⟨⟨.slice Av' (ps.length+1) cv',ps ++ [((⟨k2,t2,x2,wn2,nn2,v2,p2,A2,c2,es2⟩:Rv),x.f,x.t)],Joins.block_setCell (HF5.out w7 hg7) _,.inr hP8,HDL.out.1,by rw [List.length_append,List.length_append]; simp; omega⟩,key (by omega) m3,key (by omega) m4,key (by omega) m5,hGx,hB8⟩⟩
  · have hzb:((z:Int) == 0)=false:=by simp [hz]
    have HSP:Hid (totD l=(ps.map absP,x.f,z)):=totD_stop HPT.out HED.out (fun h=>by rw [HZ.out.1 h]) HZ.out.2.1 hz
    have hFIN:Hid (KeepD A1 w1.heap.size w₂ (((w4.setCell ⟨w.heap.size,0,none⟩ (.slice Av ps.length cv)).setCell ⟨w.heap.size+1,0,none⟩ (.int .i64 (x.f:Int))).setCell ⟨w.heap.size+1+1,0,none⟩ (.int .i64 (z:Int))).drew∧DcIx w w1.heap.size l .ret (pre ++ [x]) (((w4.setCell ⟨w.heap.size,0,none⟩ (.slice Av ps.length cv)).setCell ⟨w.heap.size+1,0,none⟩ (.int .i64 (x.f:Int))).setCell ⟨w.heap.size+1+1,0,none⟩ (.int .i64 (z:Int))).drew):=by
     obtain ⟨m1,m3,m4,m5,m7,m8⟩:=HM4.out
     have g1:=grown_setL w4 w.heap.size 0 (.slice Av ps.length cv)
     have g2:=grown_setL (w4.setCell ⟨w.heap.size,0,none⟩ (.slice Av ps.length cv)) (w.heap.size+1) 0 (.int .i64 (x.f:Int))
     have g3:=grown_setL ((w4.setCell ⟨w.heap.size,0,none⟩ (.slice Av ps.length cv)).setCell ⟨w.heap.size+1,0,none⟩ (.int .i64 (x.f:Int))) (w.heap.size+2) 0 (.int .i64 (z:Int))
     have s1:=g1.size
     have s2:=g2.size
     have hz4:=HZ4.out
     have hbs:=HBS.out
     have htg:=HTG.out
     have b2:(w4.setCell ⟨w.heap.size,0,none⟩ (.slice Av ps.length cv)).heap[w.heap.size]? = some (.cells #[.slice Av ps.length cv] 29 (0,0)):=Joins.block_setCell m3 _
     have b3:=(g1.block (w.heap.size+1) (by omega) (fun e=>by injection e with e; omega)).trans m4
     have b4:=(g1.block (w.heap.size+2) (by omega) (fun e=>by injection e with e; omega)).trans m5
     have c2:=(g2.block w.heap.size (by omega) (fun e=>by injection e with e; omega)).trans b2
     have c3:((w4.setCell ⟨w.heap.size,0,none⟩ (.slice Av ps.length cv)).setCell ⟨w.heap.size+1,0,none⟩ (.int .i64 (x.f:Int))).heap[w.heap.size+1]? = some (.cells #[.int .i64 (x.f:Int)] 3 (0,0)):=Joins.block_setCell b3 _
     have c4:=(g2.block (w.heap.size+2) (by omega) (fun e=>by injection e with e; omega)).trans b4
     have d2:=(g3.block w.heap.size (by omega) (fun e=>by injection e with e; omega)).trans c2
     have d3:=(g3.block (w.heap.size+1) (by omega) (fun e=>by injection e with e; omega)).trans c3
     have d4:(((w4.setCell ⟨w.heap.size,0,none⟩ (.slice Av ps.length cv)).setCell ⟨w.heap.size+1,0,none⟩ (.int .i64 (x.f:Int))).setCell ⟨w.heap.size+1+1,0,none⟩ (.int .i64 (z:Int))).heap[w.heap.size+2]? = some (.cells #[.int .i64 (z:Int)] 26 (0,0)):=Joins.block_setCell c4 _
     have kset:∀ (X Y:World) (k:Nat),w.heap.size≤k→k<w.heap.size+4→X.grownBy Y (some k)→KeepD A1 w1.heap.size X Y:=fun X Y k h1 h2 hg=>KeepD.grown hg fun j e=>by
      injection e with e
      subst e
      exact ⟨by omega,fun ad ha=>by have:=HA2.out ad ha; omega,by omega⟩
     have hK:=HK4.out.trans ((kset _ _ _ (by omega) (by omega) g1).trans ((kset _ _ _ (by omega) (by omega) g2).trans (kset _ _ _ (by omega) (by omega) g3)))
     have hB:=((m8.grown g1 m8.size (fun k hk=>by injection hk with hk; omega)).grown g2 (by omega) (fun k hk=>by injection hk with hk; omega)).grown g3 (by omega) (fun k hk=>by injection hk with hk; omega)
     have hP:RowsP (w1.heap.size+3) (((w4.setCell ⟨w.heap.size,0,none⟩ (.slice Av ps.length cv)).setCell ⟨w.heap.size+1,0,none⟩ (.int .i64 (x.f:Int))).setCell ⟨w.heap.size+1+1,0,none⟩ (.int .i64 (z:Int))) (.slice Av ps.length cv) ps:=.inr (((m7.grown g1 (by omega)).grown g2 (by omega)).grown g3 (by omega))
     exact ⟨⟨hK.1,hK.2⟩,rfl,⟨⟨_,ps,x.f,z,HSP.out,d2,d3,d4,hP.imp id fun h=>h.kept (Nat.le_refl _) fun k _ _=>rfl⟩,below_drew_ hB (n:=1)⟩⟩
    clear HM4 HK4 HZ4 HSP HED HPT HZ HB24 HRI HA2 HTG HG HBS HM2
    gi_wp2
    gi_region
    all_goals
     gi_wp2
     exact hFIN.out
 case done=>
  intro xs W hF hI hD
  obtain ⟨⟨v,ps,e5,eR,eD,eN⟩,e2,e3,e4,hG,hbW⟩:=hI
  have hz:w1.heap.size<W.heap.size:=(Array.getElem?_eq_some_iff.1 hD).1
  have hTO:=totD_full hF hG eD
  obtain ⟨Av,cv,rfl⟩:∃ Av cv,v=.slice Av ps.length cv:=by
   rcases eR with ⟨rfl,rfl⟩ | h
   · exact ⟨none,0,rfl⟩
   · obtain ⟨Av,cv,e,_⟩:=own_form h.row
     exact ⟨Av,cv,e⟩
  have g1:=grown_setL W w.heap.size 0 (.slice Av ps.length cv)
  have g2:=grown_setL (W.setCell ⟨w.heap.size,0,none⟩ (.slice Av ps.length cv)) (w.heap.size+1) 0 (.int .i64 (l.length:Int))
  have g3:=grown_setL ((W.setCell ⟨w.heap.size,0,none⟩ (.slice Av ps.length cv)).setCell ⟨w.heap.size+1,0,none⟩ (.int .i64 (l.length:Int))) (w.heap.size+2) 0 (.int .i64 0)
  have s1:=g1.size
  have s2:=g2.size
  have s3:=g3.size
  have b2:(W.setCell ⟨w.heap.size,0,none⟩ (.slice Av ps.length cv)).heap[w.heap.size]? = some (.cells #[.slice Av ps.length cv] 29 (0,0)):=Joins.block_setCell e2 _
  have b3:=(g1.block (w.heap.size+1) (by omega) (fun e=>by injection e with e; omega)).trans e3
  have b4:=(g1.block (w.heap.size+2) (by omega) (fun e=>by injection e with e; omega)).trans e4
  have c2:=(g2.block w.heap.size (by omega) (fun e=>by injection e with e; omega)).trans b2
  have c3:((W.setCell ⟨w.heap.size,0,none⟩ (.slice Av ps.length cv)).setCell ⟨w.heap.size+1,0,none⟩ (.int .i64 (l.length:Int))).heap[w.heap.size+1]? = some (.cells #[.int .i64 (l.length:Int)] 3 (0,0)):=Joins.block_setCell b3 _
  have c4:=(g2.block (w.heap.size+2) (by omega) (fun e=>by injection e with e; omega)).trans b4
  have d2:=(g3.block w.heap.size (by omega) (fun e=>by injection e with e; omega)).trans c2
  have d3:=(g3.block (w.heap.size+1) (by omega) (fun e=>by injection e with e; omega)).trans c3
  have d4:(((W.setCell ⟨w.heap.size,0,none⟩ (.slice Av ps.length cv)).setCell ⟨w.heap.size+1,0,none⟩ (.int .i64 (l.length:Int))).setCell ⟨w.heap.size+1+1,0,none⟩ (.int .i64 0)).heap[w.heap.size+2]? = some (.cells #[.int .i64 0] 26 (0,0)):=Joins.block_setCell c4 _
  have hP3:=((eR.grown g1 (by omega)).grown g2 (by omega)).grown g3 (by omega)
  have hB3:=((hbW.grown g1 (by omega) (fun k hk=>by injection hk with hk; omega)).grown g2 (by omega) (fun k hk=>by injection hk with hk; omega)).grown g3 (by omega) (fun k hk=>by injection hk with hk; omega)
  have hD3:=(g3.block w1.heap.size (by omega) (fun e=>by injection e with e; omega)).trans ((g2.block w1.heap.size (by omega) (fun e=>by injection e with e; omega)).trans ((g1.block w1.heap.size hz (fun e=>by injection e with e; omega)).trans hD))
  have HFE:=Lib_hid (dec_fin (l:=l) (w:=w) (X:=(((W.setCell ⟨w.heap.size,0,none⟩ (.slice Av ps.length cv)).setCell ⟨w.heap.size+1,0,none⟩ (.int .i64 (l.length:Int))).setCell ⟨w.heap.size+1+1,0,none⟩ (.int .i64 0))) (H:=w1.heap.size) (.slice Av ps.length cv) ps l.length 0 (by omega) d2 d3 d4 hP3 hB3 hTO hD3)
  have q2:W.cell? ⟨w.heap.size,0,none⟩=some (.slice none 0 0):=cell_of_row W _ 0 _ _ _ e2
  have q3:W.cell? ⟨w.heap.size+1,0,none⟩=some (.int .i64 0):=cell_of_row W _ 0 _ _ _ e3
  have q4:W.cell? ⟨w.heap.size+1+1,0,none⟩=some (.int .i64 0):=cell_of_row W _ 0 _ _ _ e4
  have z2:W.frozen? ⟨w.heap.size,0,none⟩=false:=frozen_of_row W _ 0 _ _ e2
  have z3:W.frozen? ⟨w.heap.size+1,0,none⟩=false:=frozen_of_row W _ 0 _ _ e3
  have z4:W.frozen? ⟨w.heap.size+1+1,0,none⟩=false:=frozen_of_row W _ 0 _ _ e4
  have cL:W.cell? ⟨w.heap.size+1+1+1,0,none⟩=some (.slice Av ps.length cv):=cell_of_row W _ 0 _ _ _ e5
  clear e5 eR eD eN e2 e3 e4 hbW g1 g2 g3 s1 s2 s3 b2 b3 b4 c2 c3 c4 d2 d3 d4 hP3 hB3 hD3 hz hD hF hG hTO
  gi_wp2
  exact HFE.out _ rfl rfl rfl
 case stop=>
  rintro cc pre W hPt ⟨rfl,⟨⟨v,ps,f,z,h1,d2,d3,d4,hP⟩,hbW⟩⟩ hD
  have HFE:=Lib_hid (dec_fin (l:=l) (w:=w) (H:=w1.heap.size) v ps f z (by omega) d2 d3 d4 hP hbW h1 hD)
  clear d2 d3 d4 hP hbW hPt
  gi_wp2
  exact HFE.out _ rfl rfl rfl
end Go.Proofs.YtinmoknbgnngcaaGreatDoor
