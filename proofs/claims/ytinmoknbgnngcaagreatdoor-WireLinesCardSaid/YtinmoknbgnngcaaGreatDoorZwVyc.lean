/-
  Layer 5: the program's payload: entries.
-/
import Derived.Test.YtinmoknbgnngcaaGreatDoorZwVyu
import Derived.Test.YtinmoknbgnngcaaGreatDoorZwTnq
import Derived.Test.YtinmoknbgnngcaaGreatDoorZwTex
import Derived.Test.YtinmoknbgnngcaaGreatDoorZwInv
import Derived.Test.YtinmoknbgnngcaaGreatDoorZwVlq
namespace Go.Proofs.YtinmoknbgnngcaaGreatDoor
open Go Go.RowKit
set_option linter.unusedVariables false
theorem ent_took {l:List Nat} {a a1 a2 a3 e e1 e2 e3:Nat} {bad bad3:Bool} {x y z:Nat} {m:Bool} (h1:Took (numT l a) e bad x a1 e1 bad) (h2:Took (verT l a1) e1 bad (y,z) a2 e2 bad) (h3:Took (matT l a2) e2 bad m a3 e3 bad3) :
 Took (entT l a) e bad ⟨x,y,z,m⟩ a3 e3 bad3:=by
 have he:entT l a=(numT l a).bind fun x=>(verT l x.2).bind fun v=>(matT l v.2).map fun m=>(⟨x.1,v.1.1,v.1.2,m.1⟩,m.2):=by
  rw [entT_eq]
  congr 1; funext x
  unfold verT
  cases numT l x.2 with
  | none=>rfl
  | some y=>
   simp only [Option.bind_some]
   cases numT l y.2 with
   | none=>rfl
   | some z=>rfl
 rw [he]
 exact h1.bind (h2.bind (f:=fun v:(Nat×Nat)×Nat=>(matT l v.2).map fun m=>((⟨x,v.1.1,v.1.2,m.1⟩:En),m.2)) (Took.map (fun m=>(⟨x,y,z,m⟩:En)) (fun _ _=>rfl) h3))
structure EI (l:List Nat) (N a0 e0:Nat) (bad0:Bool) (es:List En) (m a e:Nat) (bad:Bool):Prop where
 ok:∀ x∈es,x.ok
 len:4 * es.length≤l.length+4
 le:a≤l.length
 bd:¬ GoodB e0 bad0→¬ GoodB e bad
 rd:GoodB e0 bad0→(GoodB e bad∧a0+4 * es.length≤a∧entsT l N a0=(entsT l m a).map fun x=>(es ++ x.1,x.2))∨(¬ GoodB e bad∧entsT l N a0=none)
section
variable {l:List Nat} {N a0 e0 m a e:Nat} {bad0 bad:Bool} {es:List En}
theorem EI.zero (ha:a0≤l.length):EI l N a0 e0 bad0 [] N a0 e0 bad0:=⟨by simp,by simp,ha,fun h=>h,fun h=>.inl ⟨h,by simp,by simp⟩⟩
theorem EI.step (h:EI l N a0 e0 bad0 es (m+1) a e bad) (hb:∀ x∈l,x<256) (hg:GoodB e bad) {x:En} {a' e':Nat} {bad':Bool} (hx:x.ok) (ha:a'≤l.length) (ht:Took (entT l a) e bad x a' e' bad'):EI l N a0 e0 bad0 (es ++ [x]) m a' e' bad':=by
 have hg0:GoodB e0 bad0:=Classical.byContradiction fun hn=>h.bd hn hg
 rcases h.rd hg0 with ⟨_,h2,h3⟩ | ⟨h2,_⟩
 · have hle:=h.le
   refine ⟨fun y hy=>?_,by simp; omega,ha,fun hn=>absurd hg0 hn,fun _=>?_⟩
   · rcases List.mem_append.1 hy with hy | hy
     · exact h.ok y hy
     · obtain rfl:y=x:=by simpa using hy
       exact hx
   · have hu:entsT l (m+1) a=(entT l a).bind fun x=>(entsT l m x.2).map fun y=>(x.1 :: y.1,y.2):=rfl
     rcases ht.2 hg with ⟨k1,k2⟩ | ⟨k1,k2⟩
     · obtain ⟨-,-,-,k3⟩:=entT_some hb k1
       refine .inl ⟨k2,by simp; omega,?_⟩
       rw [h3,hu,k1,Option.bind_some]
       cases entsT l m a' with
       | none=>rfl
       | some y=>simp
     · refine .inr ⟨k2,?_⟩
       rw [h3,hu,k1]
       rfl
 · exact absurd hg h2
theorem EI.fin (h:EI l N a0 e0 bad0 es m a e bad) (hs:m=0∨¬ GoodB e bad):Took (entsT l N a0) e0 bad0 es a e bad:=by
 refine ⟨h.bd,fun hg=>?_⟩
 rcases h.rd hg with ⟨h1,_,h3⟩ | ⟨h1,h2⟩
 · rcases hs with rfl | hs
   · refine .inl ⟨?_,h1⟩
     rw [h3]
     show some (es ++ [],a)=_
     simp
   · exact absurd h1 hs
 · exact .inr ⟨h2,h1⟩
end
section
variable {g h n c a e:Nat} {A:Option Addr} {l:List Nat} {bad:Bool} {w:World}
theorem PlS.kept' {w':World} {B:Nat} {v v':Value} (p:PlS g h A n c l a e bad w) (hst:Stp w w' v v') (hge:∀ k,v.ownBlock=some k→B≤k) (hB:g<B):PlS g h A n c l a e bad w':=
 ⟨(hst.grow.block g p.gl (fun e=>by have:=hge g e.symm; omega)).trans p.box,p.rd.kept' hst (fun k hk=>by have:=hge k hk; have:=p.lt; omega),p.lt⟩
set_option maxRecDepth 100000 in
set_option maxHeartbeats 3200000 in
theorem pents_any (p:PlS g h A n c l a e bad w):Calls Tryz.prog 186 #[.pointer (some ⟨g,0,none⟩)] w fun en w'=>
 ∃ (A':Option Addr) (c':Nat) (es:List En) (a' e':Nat) (bad':Bool),en=.returned (.slice A' es.length c')∧(∀ x∈es,x.ok)∧4 * es.length≤l.length+4∧w'.ownsRow w.heap.size 125 4 (.slice A' es.length c') es.length (enCells es)∧
  PlS g h A n c l a' e' bad' w'∧Grow2 w w' g h∧Took ((numT l a).bind fun x=>entsT l x.1 x.2) e bad es a' e' bad':=by
 have hgl:=p.gl
 have hhg:=p.lt
 have hll:=p.rd.len
 have HB8:=Lib_hid p.rd.b8
 obtain ⟨i0,hi,hz0,hz1,hz2⟩:=info_parts Tryz.infoEn
 have PN:=pnum_any p
 obtain ⟨c0,-,-,-⟩:=p.cells
 go_enter Tryz.func186,Tryz.ntmps186
 go_wp2_with fail
 refine PN.mono ?_
 rintro en w1 ⟨N,a1,e1,rfl,hN,p1,hs1,ht1⟩
 have hG1:=hs1.grow2 g
 have hpl1:=p1.rd.place
 have FIN:Hid (∀ (W:World) (A':Option Addr) (n' c':Nat) (es:List En) (m a2 e2:Nat) (bad2:Bool),n'=es.length→EI l N a1 e1 bad es m a2 e2 bad2→(m=0∨¬ GoodB e2 bad2)→W.ownsRow w.heap.size 125 4 (.slice A' n' c') n' (enCells es)→PlS g h A n c l a2 e2 bad2 W→Grow2 w W g h→
  ∃ (A2:Option Addr) (c2:Nat) (es:List En) (a' e':Nat) (bad':Bool),Ending.returned (.slice A' n' c')=.returned (.slice A2 es.length c2)∧(∀ x∈es,x.ok)∧4 * es.length≤l.length+4∧W.ownsRow w.heap.size 125 4 (.slice A2 es.length c2) es.length (enCells es)∧
   PlS g h A n c l a' e' bad' W∧Grow2 w W g h∧Took ((numT l a).bind fun x=>entsT l x.1 x.2) e bad es a' e' bad'):=fun W A' n' c' es m a2 e2 bad2 h1 h2 h3 h4 h5 h6=>by
  subst h1
  exact ⟨A',c',es,a2,e2,bad2,rfl,h2.ok,h2.len,h4,h5,h6,Took.bind (f:=fun x:Nat×Nat=>entsT l x.1 x.2) ht1 (h2.fin h3)⟩
 clear ht1 PN hs1 c0 p
 go_wp2
 go_loopw [3,4] (fun v y wr=>∃ (n' c' m a2 e2:Nat) (A':Option Addr) (es:List En) (bad2:Bool),v=.slice A' n' c'∧y=.int .u64 (m:Int)∧m<18446744073709551616∧Hid (n'=es.length)∧Hid (EI l N a1 e1 bad es m a2 e2 bad2)∧wr.ownsRow w.heap.size 125 4 (.slice A' n' c') n' (enCells es)∧Hid (PlS g h A n c l a2 e2 bad2 wr)∧Hid (Grow2 w wr g h)) (fun _ y _=>(intOf y).toNat)
 case atStart=>exact ⟨0,0,N,a1,e1,none,[],bad,rfl,rfl,hN,rfl,EI.zero hpl1,World.ownsRow_nil _ _ _ _,p1,hG1⟩
 case round=>
  obtain ⟨n',c',m,a2,e2,A',es,bad2,rfl,rfl,hm,hn,hI,hown,hP,hG⟩:=hrel
  by_cases h0:m=0
  · have HF:=Lib_hid (FIN.out wr A' n' c' es m a2 e2 bad2 hn.out hI.out (.inl h0) hown hP.out hG.out)
    clear FIN hown hI hP hG p1 hG1
    subst h0
    go_wp2
    go_ret
    exact HF.out
  · obtain ⟨m',rfl⟩:∃ m',m=m'+1:=⟨m - 1,by omega⟩
    have hmi:(0:Int)<((m'+1:Nat):Int):=by omega
    have GD:=pgood_any hP.out
    by_cases hg:GoodB e2 bad2
    · rw [show decide (GoodB e2 bad2)=true from decide_eq_true hg] at GD
      have hlen:=hI.out.len
      have HST:Hid (∀ (x:En) (a' e':Nat) (bad':Bool),x.ok→a'≤l.length→Took (entT l a2) e2 bad2 x a' e' bad'→EI l N a1 e1 bad (es ++ [x]) m' a' e' bad'):=fun x a' e' bad' k1 k2 k3=>hI.out.step HB8.out hg k1 k2 k3
      have hm1:n'+1≤maxLen:=by have:=hn.out; unfold maxLen; omega
      have hm2:(n'+1) * 32≤140737488355328:=by have:=hn.out; omega
      clear FIN hI p1 hG1
      go_upto_region 5 with (go_at_call 90; refine GD.mono ?_; rintro en wx ⟨rfl,rfl⟩)
      obtain ⟨c0,-,-,-⟩:=hP.out.cells
      have PN:=pnum_any hP.out
      clear GD
      go_wp2_with fail
      refine PN.mono ?_
      rintro en w2 ⟨xa,a3,e3,rfl,hxa,p2,hs2,ht2⟩
      have PV:=pver_any p2
      have hK2:Grow2 wx w2 g h:=hs2.grow2 g
      clear PN c0 hs2 hP
      go_wp2_with fail
      refine PV.mono ?_
      rintro en w3 ⟨xb,xc,a4,e4,rfl,⟨hxb,hxc⟩,p3,hG3,ht3⟩
      have PM:=pmatch_any p3
      have hK3:=hK2.trans hG3
      clear PV hK2 hG3 p2
      go_wp2_with fail
      refine PM.mono ?_
      rintro en w4 ⟨xm,a5,e5,bad5,rfl,p4,hG4,ht4⟩
      have hK4:=hK3.trans hG4
      have hEI:=Lib_hid (HST.out ⟨xa,xb,xc,xm⟩ a5 e5 bad5 ⟨by show (xa:Int)≤_; omega,by show (xb:Int)≤_; omega,by show (xc:Int)≤_; omega⟩ p4.rd.place (ent_took ht2 ht3 ht4))
      have ho4:w4.ownsRow w.heap.size 125 4 (.slice A' n' c') n' (enCells es):=own_keep hown fun k hk=>hK4.block k (own_lt hown k hk) (fun e=>by have:=own_ge hown k hk; omega) (fun e=>by have:=own_ge hown k hk; omega)
      have hG5:=hG.out.trans hK4
      have hec:enCells (es ++ [⟨xa,xb,xc,xm⟩])=enCells es ++ [.int .u64 (xa:Int),.int .u64 (xb:Int),.int .u64 (xc:Int),.bool xm]:=by rw [enCells_append]; simp [enCells,En.cells]
      have HEC:=Lib_hid hec
      clear PM hK3 hK4 hG4 p3 ht2 ht3 ht4 HST hown hG hec
      have hb5:=below_new w4 (.cells #[.int .u64 (xa:Int),.int .u64 (xb:Int),.int .u64 (xc:Int),.bool xm] 125)
      have ho5:=own_below ho4 hb5 (own_lt ho4)
      have hr5:=rd_row (size:=4) (n:=1) (l:=[.int .u64 (xa:Int),.int .u64 (xb:Int),.int .u64 (xc:Int),.bool xm]) (heap_alloc_new w4 (.cells #[.int .u64 (xa:Int),.int .u64 (xb:Int),.int .u64 (xc:Int),.bool xm] 125)) rfl
      have p5:=Lib_hid (p4.kept hb5)
      have hG6:Hid (Grow2 w (w4.alloc (.cells #[.int .u64 (xa:Int),.int .u64 (xb:Int),.int .u64 (xc:Int),.bool xm] 125)) g h):=hG5.trans (Grow2.ofB hb5)
      have hs5:=hG6.out.size
      have h1c:∀ u∈([.int .u64 (xa:Int),.int .u64 (xb:Int),.int .u64 (xc:Int),.bool xm]:List Value),u.oneCell'=true:=by
       intro u hu
       simp only [List.mem_cons,List.not_mem_nil,or_false] at hu
       rcases hu with rfl | rfl | rfl | rfl <;> rfl
      clear p4 hG5 ho4 hb5
      go_wp2_with (at_builtin; (refine wpList_app rfl _ _ 66 rfl w.heap.size 125 i0 (.agg #[.int .u64 0,.int .u64 0,.int .u64 0,.bool false]) 4 32 Tryz.underlying66 hi hz0 hz1 hz2 rfl (by decide) (.slice A' n' c') n' _ rfl ho5 _ _ 1 1 _ rfl hr5 h1c hm1 hm2 hs5 ?_); intro v' w6 hown' hst; obtain ⟨A6,c6,rfl,_⟩:=own_form hown')
      go_roundw
      case rel=>
       have hge:∀ k,(Value.slice A' n' c').ownBlock=some k→w.heap.size≤k:=own_ge ho5
       refine ⟨n'+1,c6,m',a5,e5,A6,es ++ [⟨xa,xb,xc,xm⟩],bad5,rfl,by go_num,by omega,Lib_hid (by rw [List.length_append,← hn.out]; rfl),hEI,by rw [HEC.out]; exact hown',?_,?_⟩
       · exact p5.out.kept' hst hge hgl
       · have k:=hG6.out
         exact ⟨hst.grow.os.trans k.os,hst.grow.tape.trans k.tape,hst.grow.output.trans k.output,Nat.le_trans k.size hst.grow.size,fun i h1 h2 h3=>(hst.grow.block i (by omega) (fun e=>by have:=hge i e.symm; omega)).trans (k.block i h1 h2 h3)⟩
      case measure=>
       simp [intOf]
    · rw [show decide (GoodB e2 bad2)=false from decide_eq_false hg] at GD
      have HF:=Lib_hid (FIN.out wr A' n' c' es (m'+1) a2 e2 bad2 hn.out hI.out (.inr hg) hown hP.out hG.out)
      clear FIN hown hI hP hG p1 hG1
      go_wp2_with (go_at_call 90; refine GD.mono ?_; rintro en wx ⟨rfl,rfl⟩)
      go_ret
      exact HF.out
end
structure Spo (E:TypeId) (lo hi:Nat) (w w':World):Prop where
 shp:∀ (lo':Nat) (u:V),Shp E w lo' u→Shp E w' lo' u
 below:Below lo w w'
 keep:∀ k,k<w.heap.size→(k<lo∨hi≤k)→w'.heap[k]? = w.heap[k]?
 typ:∀ (k:Nat) (arr:Array Value) (T:TypeId),T≠E→w.heap[k]? = some (.cells arr T (0,0))→w'.heap[k]? = w.heap[k]?
theorem Spo.refl (E:TypeId) (lo hi:Nat) (w:World):Spo E lo hi w w:=⟨fun _ _ h=>h,Below.refl _ _,fun _ _ _=>rfl,fun _ _ _ _ _=>rfl⟩
theorem Spo.trans {E:TypeId} {lo hi:Nat} {a b c:World} (h:Spo E lo hi a b) (k:Spo E lo hi b c):Spo E lo hi a c:=
 ⟨fun l u x=>k.shp l u (h.shp l u x),h.below.trans k.below,fun i hi' ho=>(k.keep i (Nat.lt_of_lt_of_le hi' h.below.size) ho).trans (h.keep i hi' ho),fun i arr T hT hx=>(k.typ i arr T hT ((h.typ i arr T hT hx).trans hx)).trans (h.typ i arr T hT hx)⟩
theorem Spo.new (E:TypeId) {lo hi:Nat} {w w':World} (h:Below w.heap.size w w') (hl:lo≤w.heap.size):Spo E lo hi w w':=
 ⟨fun _ _ x=>x.under h,h.mono hl,fun k hk _=>h.block k hk,fun k arr T _ hx=>h.block k (Array.getElem?_eq_some_iff.1 hx).1⟩
theorem Spo.over {E:TypeId} {lo hi:Nat} {a w:World} (h:Spo E lo hi a w) {g i:Nat} {x:Value} (h1:lo≤g) (h2:g<hi) (ht:∃ arr,w.heap[g]? = some (.cells arr E (0,0))) (hx:(∃ j,i=j * 4∧∃ z,x=.int .i64 z)∨(∃ j,i=j * 4+1∧∃ z,x=.int .u64 z)):Spo E lo hi a (w.setCell ⟨g,i,none⟩ x):=
 ⟨fun l u k=>(h.shp l u k).over hx,h.below.setCell (p:=⟨g,i,none⟩) h1 x,fun k hk ho=>(Below.heap_setCell w ⟨g,i,none⟩ x k (by show k≠g; omega)).trans (h.keep k hk ho),fun k arr T hT hx=>(Below.heap_setCell w ⟨g,i,none⟩ x k (fun e=>by
  obtain ⟨arr',hr⟩:=ht
  have e:k=g:=e
  subst e
  rw [h.typ k arr T hT hx,hx] at hr
  injection hr with hr
  injection hr with _ h2
  exact hT h2)).trans (h.typ k arr T hT hx)⟩
theorem Spo.drew {E:TypeId} {lo hi:Nat} {a w:World} (h:Spo E lo hi a w):Spo E lo hi a w.drew:=
 ⟨fun l u k=>(h.shp l u k).keep fun _ _ _=>rfl,h.below.drew,h.keep,h.typ⟩
theorem Shp.row {E:TypeId} {w:World} {lo:Nat} {k:Int} {a b c:Nat} {A:Option Addr} {ps:List V} {g:Nat} (h:Shp E w lo (.node k a b A c ps)) (hp:0<ps.length) (hA:A=some ⟨g,0,none⟩):∃ arr,w.heap[g]? = some (.cells arr E (0,0)):=by
 cases h with
 | mk k a b A c ps h1 h2=>
  obtain ⟨g',arr,e,hg,hb,hc⟩:=h1 hp
  rw [hA] at e
  injection e with e
  injection e with e
  subst e
  exact ⟨arr,hb⟩
set_option maxRecDepth 100000 in
set_option maxHeartbeats 1600000 in
theorem spoil_expr:∀ (v:V) (w0 w:World) (lo:Nat) (x y z:Int),Shp 65 w0 lo v→Shp 65 w lo v→w0.heap.size≤w.heap.size→lo≤w.heap.size→v.abs.count≤1000→
 Calls Tryz.prog 55 #[.agg #[.int .i64 x,.int .u64 y,.int .u64 z,v.sl]] w fun e w'=>e=.returned (.tuple #[])∧Spo 65 lo w0.heap.size w w':=by
 refine V.ind fun k a b A c ps ih w0 w lo x y z h0 hS hw0 hlo hct=>?_
 have hlc:ps.length≤1000:=by
  rw [V.count_node] at hct
  have:=length_le_countL (V.absL ps)
  rw [absL_length] at this
  omega
 have IH:Hid (∀ (i:Nat) (p:V),ps[i]? = some p→∀ (W:World) (x y z:Int),Spo 65 lo w0.heap.size w W→Calls Tryz.prog 55 #[.agg #[.int .i64 x,.int .u64 y,.int .u64 z,p.sl]] W fun e w'=>e=.returned (.tuple #[])∧Spo 65 lo w0.heap.size W w'):=fun i p hp W x y z hW=>by
  have hm:=List.mem_of_getElem? hp
  refine ih p hm w0 W lo x y z (h0.part hm) (hW.shp _ _ (hS.part hm)) (Nat.le_trans hw0 hW.below.size) (Nat.le_trans hlo hW.below.size) ?_
  have:=count_le hp
  rw [V.count_node] at hct
  omega
 have HS:Hid (∀ W,Spo 65 lo w0.heap.size w W→Shp 65 W lo (V.node k a b A c ps)):=fun W hW=>hW.shp _ _ hS
 have H0:=Lib_hid h0
 have hbx:=heap_alloc_new w (.cells #[.int .i64 x,.int .u64 y,.int .u64 z,.slice A ps.length c] 65)
 have hb0:Spo 65 lo w0.heap.size w (w.alloc (.cells #[.int .i64 x,.int .u64 y,.int .u64 z,.slice A ps.length c] 65)):=Spo.new _ (below_new w _) hlo
 clear ih hS hct h0
 show Calls Tryz.prog 55 #[.agg #[.int .i64 x,.int .u64 y,.int .u64 z,.slice A ps.length c]] w _
 go_enter Tryz.func55,Tryz.ntmps55
 go_wp2
 go_loopw [2] (fun t wr=>∃ (i:Nat),t=.int .i64 i∧i≤ps.length∧wr.heap[w.heap.size]? = some (.cells #[.int .i64 x,.int .u64 y,.int .u64 z,.slice A ps.length c] 65 (0,0))∧Spo 65 lo w0.heap.size w wr) (fun t _=>ps.length - (intOf t).toNat)
 case atStart=>exact ⟨0,rfl,Nat.zero_le _,hbx,hb0⟩
 case round=>
  clear hbx hb0
  obtain ⟨i,rfl,hi1,hbx,hsp⟩:=hrel
  have c3:wr.cell? ⟨w.heap.size,3,none⟩=some (.slice A ps.length c):=cell_of_row wr _ 3 _ _ _ hbx
  have hgl:=(Array.getElem?_eq_some_iff.1 hbx).1
  by_cases hlt:i<ps.length
  · obtain ⟨p,hp⟩:∃ p,ps[i]? = some p:=⟨_,List.getElem?_eq_getElem hlt⟩
    obtain ⟨g,rfl,hg1,hg2,-⟩:=H0.out.nth hp
    obtain ⟨g',e,-,hgw,-,-,⟨x0,d0⟩,⟨x1,d1⟩,⟨x2,d2⟩,d3⟩:=(HS.out wr hsp).nth hp
    injection e with e
    injection e with e
    subst e
    have CH:=IH.out i p hp wr x0 x1 x2 hsp
    have HP:=Lib_hid hp
    have hps:p.sl=.slice p.addr p.parts.length p.cap:=rfl
    rw [hps] at d3 CH
    clear hp hps
    generalize p.addr=pA at *
    generalize p.cap=pc at *
    generalize p.parts.length=pn at *
    go_wp2_with fail
    refine CH.mono ?_
    rintro e w1 ⟨rfl,hsp1⟩
    have hsp2:=hsp.trans hsp1
    have hbx1:=(hsp1.keep _ hgl (.inr hw0)).trans hbx
    have hgl1:=(Array.getElem?_eq_some_iff.1 hbx1).1
    have c31:w1.cell? ⟨w.heap.size,3,none⟩=some (.slice (some ⟨g,0,none⟩) ps.length c):=cell_of_row w1 _ 3 _ _ _ hbx1
    obtain ⟨g',e,-,hgw1,-,hfr,⟨y0,f0⟩,⟨y1,f1⟩,-,-⟩:=(HS.out w1 hsp2).nth HP.out
    injection e with e
    injection e with e
    subst e
    have z0:=hfr (i * 4)
    have z1:=hfr (i * 4+1)
    have hne:w.heap.size≠g:=by omega
    clear CH hsp hsp1 hbx hgl c3 d0 d1 d2 d3 hfr
    have ht1:=(HS.out w1 hsp2).row (by omega) rfl
    have hsp3:=hsp2.over (x:=.int .i64 77) hg1 hg2 ht1 (.inl ⟨i,rfl,77,rfl⟩)
    go_upto_region 6 with (fail)
    have hg3:=HS.out _ hsp3
    have hbx3:(w1.setCell ⟨g,i * 4,none⟩ (.int .i64 77)).heap[w.heap.size]? = _:=(Below.heap_setCell w1 ⟨g,i * 4,none⟩ (.int .i64 77) w.heap.size hne).trans hbx1
    clear hbx1 c31 hgl1 hgw1 f0 f1 z0 z1 hsp2 ht1
    generalize w1.setCell ⟨g,i * 4,none⟩ (.int .i64 77)=w2 at *
    have c32:w2.cell? ⟨w.heap.size,3,none⟩=some (.slice (some ⟨g,0,none⟩) ps.length c):=cell_of_row w2 _ 3 _ _ _ hbx3
    obtain ⟨g',e,-,hgw2,-,hfr,-,⟨y2,f2⟩,-,-⟩:=hg3.nth HP.out
    injection e with e
    injection e with e
    subst e
    have z2:=hfr (i * 4+1)
    have ht2:=hg3.row (by omega) rfl
    have hsp4:=hsp3.over (x:=.int .u64 (IntKind.u64.wrap (y2+7))) hg1 hg2 ht2 (.inr ⟨i,rfl,_,rfl⟩)
    have hbx4:(w2.setCell ⟨g,i * 4+1,none⟩ (.int .u64 (IntKind.u64.wrap (y2+7)))).heap[w.heap.size]? = _:=(Below.heap_setCell w2 ⟨g,i * 4+1,none⟩ (.int .u64 (IntKind.u64.wrap (y2+7))) w.heap.size hne).trans hbx3
    clear hfr hg3 hbx3 hsp3 ht2
    go_region
    have hsp5:=hsp4.drew
    have hbx5:(w2.setCell ⟨g,i * 4+1,none⟩ (.int .u64 (IntKind.u64.wrap (y2+7)))).drew.heap[w.heap.size]? = _:=hbx4
    clear hbx4 hsp4
    generalize IntKind.u64.wrap (y2+7)=y3 at *
    generalize (w2.setCell ⟨g,i * 4+1,none⟩ (.int .u64 y3)).drew=w9 at *
    go_wp2
    go_roundw
    case rel=>exact ⟨i+1,by go_num,by omega,hbx5,hsp5⟩
    case measure=>simp [intOf]; omega
  · obtain rfl:i=ps.length:=by omega
    go_wp2
    go_end0
    exact ⟨rfl,hsp⟩
def SpR (lo:Nat) (r:Rv) (w:World):Prop:=
 ∃ (l1:Nat) (w0:World),lo≤l1∧l1≤w.heap.size∧w0.heap.size≤w.heap.size∧Shp 65 w0 l1 r.p∧Shp 65 w l1 r.p∧w.ownsRow lo 125 4 (.slice r.A r.es.length r.c) r.es.length (enCells r.es)∧
  ∀ k,(Value.slice r.A r.es.length r.c).ownBlock=some k→k<l1∨w0.heap.size≤k
theorem SpR.under {lo:Nat} {r:Rv} {w w':World} (h:SpR lo r w) (hb:Below w.heap.size w w'):SpR lo r w':=by
 obtain ⟨l1,w0,h1,h2,h3,h4,h5,h6,h7⟩:=h
 exact ⟨l1,w0,h1,Nat.le_trans h2 hb.size,Nat.le_trans h3 hb.size,h4,h5.under hb,own_below h6 hb (own_lt h6),h7⟩
theorem SpR.more {lo lo':Nat} {r:Rv} {w:World} (h:SpR lo r w) (hl:lo'≤lo):SpR lo' r w:=by
 obtain ⟨l1,w0,h1,h2,h3,h4,h5,h6,h7⟩:=h
 exact ⟨l1,w0,Nat.le_trans hl h1,h2,h3,h4,h5,own_base h6 fun k hk=>Nat.le_trans hl (own_ge h6 k hk),h7⟩
end Go.Proofs.YtinmoknbgnngcaaGreatDoor
