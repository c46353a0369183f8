/-
  A region that draws its order, by what holds while some of its operations are done: shown once for each operation. No program is named here.
-/
import Derived.Test.YtinmoknbgnngcaaGreatDoorZwInv
import Derived.Test.YtinmoknbgnngcaaGreatDoorZwBse
import Derived.Test.YtinmoknbgnngcaaGreatDoorZwVyr
import Derived.Test.YtinmoknbgnngcaaGreatDoorZwTtd
import Derived.Test.YtinmoknbgnngcaaGreatDoorZwVpw
namespace Go.Proofs.YtinmoknbgnngcaaGreatDoor
open Go Go.RowKit
set_option linter.unusedVariables false
section
variable {P:Program} {ops:Array Oper} {Q:Exit→Act→World→Prop} {a0:Act} {w0:World}
def more (L:Nat→Bool) (i:Nat):Nat→Bool:=fun k=>if k=i then true else L k
end
theorem act_puts {a:Act}:∀ (l:List (Nat×Value)) (b:Act),a.tmps.size=b.tmps.size→a.defers=b.defers→(∀ s v,(s,v)∈l→s<b.tmps.size∧a.tmps.getD s undef=v)→(∀ s,s ∉ l.map (·.1)→a.tmps.getD s undef=b.tmps.getD s undef)→
 a=l.foldl (fun c x=>c.put (some x.1) x.2) b
 | [],b,h1,h2,_,h4=>by
  obtain ⟨t,d⟩:=a
  obtain ⟨t',d'⟩:=b
  simp only at h1 h2 h4
  subst h2
  have:t=t':=by
   apply Array.ext h1
   intro i hi hi'
   have:=h4 i (by simp)
   rw [Array.getD_eq_getD_getElem?,Array.getD_eq_getD_getElem?,Array.getElem?_eq_getElem hi,Array.getElem?_eq_getElem hi'] at this
   simpa using this
  rw [this]; rfl
 | x :: l,b,h1,h2,h3,h4=>by
  rw [List.foldl_cons]
  refine act_puts l (b.put (some x.1) x.2) (by rw [put_size]; exact h1) (by rw [put_defers']; exact h2) (fun s v hm=>by rw [put_size]; exact h3 s v (by simp [hm])) fun s hs=>?_
  by_cases e:s=x.1
  · subst e
    obtain ⟨k1,k2⟩:=h3 x.1 x.2 (by simp)
    rw [put_getD_eq k1,k2]
  · rw [put_getD_ne (fun e'=>e (by injection e' with e'; exact e'.symm))]
    exact h4 s (by simp at hs ⊢; exact ⟨e,hs⟩)
structure RowSet (w w':World) (g:Nat) (arr:Array Value) (E:TypeId):Prop where
 os:w'.os=w.os
 tape:w'.tape=w.tape
 output:w'.output=w.output
 size:w'.heap.size=w.heap.size
 row:w'.heap[g]? = some (.cells arr E (0,0))
 other:∀ k,k≠g→w'.heap[k]? = w.heap[k]?
theorem RowSet.below {w0 w w':World} {g B:Nat} {arr:Array Value} {E:TypeId} (h:RowSet w w' g arr E) (hb:Below B w0 w) (hg:B≤g):Below B w0 w':=
 ⟨h.os.trans hb.os,h.tape.trans hb.tape,h.output.trans hb.output,by rw [h.size]; exact hb.size,fun k hk=>(h.other k (by omega)).trans (hb.block k hk)⟩
theorem rowset2 {w:World} {g:Nat} {E:TypeId} {x0 x1:Value} (y0 y1:Value) (h:w.heap[g]? = some (.cells #[x0,x1] E (0,0))):RowSet w ((w.setCell ⟨g,0,none⟩ y0).setCell ⟨g,1,none⟩ y1) g #[y0,y1] E:=
 ⟨rfl,rfl,rfl,by simp [World.setCell],heap_setCell_same _ g 1 _ E y1 (heap_setCell_same w g 0 _ E y0 h),fun k hk=>by rw [Below.heap_setCell _ ⟨g,1,none⟩ _ k hk,Below.heap_setCell _ ⟨g,0,none⟩ _ k hk]⟩
structure SL6 where
 p:Nat
 c:Nat
 q:Nat
 d:Nat
 x:Nat
 y:Nat
structure SL6.ok (s:SL6) (n:Nat):Prop where
 pc:s.p≠s.c
 pq:s.p≠s.q
 pd:s.p≠s.d
 px:s.p≠s.x
 py:s.p≠s.y
 cq:s.c≠s.q
 cd:s.c≠s.d
 cx:s.c≠s.x
 cy:s.c≠s.y
 qd:s.q≠s.d
 qx:s.q≠s.x
 qy:s.q≠s.y
 dx:s.d≠s.x
 dy:s.d≠s.y
 xy:s.x≠s.y
 pn:s.p<n
 cn:s.c<n
 qn:s.q<n
 dn:s.d<n
 xn:s.x<n
 yn:s.y<n
structure Two8 (w3:World) (s:SL6) (pv qv:Value) (n:Nat) (E:TypeId) (M N:Nat→Nat→Array Value→World→Prop) (a0:Act) (L:Nat→Bool) (a:Act) (w:World) (g9 g10 l1 h1 l2 h2:Nat) (u r:Array Value):Prop where
 size:a.tmps.size=a0.tmps.size
 defers:a.defers=a0.defers
 other:∀ k,k≠s.p→k≠s.c→k≠s.q→k≠s.d→k≠s.x→k≠s.y→a.tmps.getD k undef=a0.tmps.getD k undef
 below:Below w3.heap.size w3 w
 o0:L 0=true→a.tmps.getD s.p undef=pv
 o2:L 2=true→a.tmps.getD s.q undef=qv
 o1:L 1=true→a.tmps.getD s.c undef=.agg u∧M l1 h1 u w∧w3.heap.size≤l1∧h1≤w.heap.size
 o3:L 3=true→a.tmps.getD s.d undef=.agg r∧N l2 h2 r w∧w3.heap.size≤l2∧h2≤w.heap.size
 o4:L 4=true→a.tmps.getD s.x undef=.pointer (some ⟨g9,0,none⟩)∧w3.heap.size≤g9∧∃ xs:Array Value,xs.size=n∧w.heap[g9]? = some (.cells xs E (0,0))
 o5:L 5=true→a.tmps.getD s.y undef=.pointer (some ⟨g10,0,none⟩)∧w3.heap.size≤g10∧∃ xs:Array Value,xs.size=n∧w.heap[g10]? = some (.cells xs E (0,0))
 d14:L 1=true→L 4=true→g9<l1∨h1≤g9
 d34:L 3=true→L 4=true→g9<l2∨h2≤g9
 d15:L 1=true→L 5=true→g10<l1∨h1≤g10
 d35:L 3=true→L 5=true→g10<l2∨h2≤g10
 d45:L 4=true→L 5=true→g9≠g10
 o6:L 6=true→L 4=true∧L 1=true∧w.heap[g9]? = some (.cells u E (0,0))
 o7:L 7=true→L 5=true∧L 3=true∧w.heap[g10]? = some (.cells r E (0,0))
def Within (M:Nat→Nat→Array Value→World→Prop):Prop:=∀ (l h:Nat) (v:Array Value) (w w':World),(∀ k,l≤k→k<h→w'.heap[k]? = w.heap[k]?)→M l h v w→M l h v w'
section
variable {w3:World} {s:SL6} {pv qv:Value} {n:Nat} {E:TypeId} {M N:Nat→Nat→Array Value→World→Prop} {a0:Act} {L:Nat→Bool} {a:Act} {w w':World} {g9 g10 l1 h1 l2 h2:Nat} {u r:Array Value}
theorem lt_of_blk {W:World} {g:Nat} {o:Obj} (h:W.heap[g]? = some o):g<W.heap.size:=(Array.getElem?_eq_some_iff.1 h).1
theorem Two8.start (p q:Array Value):Two8 w3 s pv qv n E M N a0 (fun _=>false) a0 {w3 with drawn:=w3.drawn+1} 0 0 0 0 0 0 p q:=
 ⟨rfl,rfl,fun _ _ _ _ _ _ _=>rfl,⟨rfl,rfl,rfl,Nat.le_refl _,fun _ _=>rfl⟩,by simp,by simp,by simp,by simp,by simp,by simp,by simp,by simp,by simp,by simp,by simp,by simp,by simp⟩
theorem Two8.grow (h:Two8 w3 s pv qv n E M N a0 L a w g9 g10 l1 h1 l2 h2 u r) (hM:Within M) (hN:Within N) (hb:Below w.heap.size w w'):Two8 w3 s pv qv n E M N a0 L a w' g9 g10 l1 h1 l2 h2 u r:=by
 have kp:∀ {g:Nat} {o:Obj},w.heap[g]? = some o→w'.heap[g]? = some o:=fun {g o} e=>(hb.block g (lt_of_blk e)).trans e
 refine ⟨h.size,h.defers,h.other,h.below.trans (hb.mono h.below.size),h.o0,h.o2,fun k=>?_,fun k=>?_,fun k=>?_,fun k=>?_,h.d14,h.d34,h.d15,h.d35,h.d45,fun k=>?_,fun k=>?_⟩
 · obtain ⟨e1,e3,e4,e5⟩:=h.o1 k; exact ⟨e1,hM _ _ _ _ _ (fun k _ k2=>hb.block k (Nat.lt_of_lt_of_le k2 e5)) e3,e4,Nat.le_trans e5 hb.size⟩
 · obtain ⟨e1,e3,e4,e5⟩:=h.o3 k; exact ⟨e1,hN _ _ _ _ _ (fun k _ k2=>hb.block k (Nat.lt_of_lt_of_le k2 e5)) e3,e4,Nat.le_trans e5 hb.size⟩
 · obtain ⟨e1,e2,xs,e3,e4⟩:=h.o4 k; exact ⟨e1,e2,xs,e3,kp e4⟩
 · obtain ⟨e1,e2,xs,e3,e4⟩:=h.o5 k; exact ⟨e1,e2,xs,e3,kp e4⟩
 · obtain ⟨e1,e2,e3⟩:=h.o6 k; exact ⟨e1,e2,kp e3⟩
 · obtain ⟨e1,e2,e3⟩:=h.o7 k; exact ⟨e1,e2,kp e3⟩
theorem Two8.store (hM:Within M) (hN:Within N) (h:Two8 w3 s pv qv n E M N a0 L a w g9 g10 l1 h1 l2 h2 u r) {g:Nat} {arr:Array Value} (hr:RowSet w w' g arr E) (hn:arr.size=n) (hg3:w3.heap.size≤g) (h1g:L 1=true→g<l1∨h1≤g) (h3g:L 3=true→g<l2∨h2≤g)
 (h6:L 6=true→g≠g9) (h7:L 7=true→g≠g10):Two8 w3 s pv qv n E M N a0 L a w' g9 g10 l1 h1 l2 h2 u r:=by
 refine ⟨h.size,h.defers,h.other,hr.below h.below hg3,h.o0,h.o2,fun k=>?_,fun k=>?_,fun k=>?_,fun k=>?_,h.d14,h.d34,h.d15,h.d35,h.d45,fun k=>?_,fun k=>?_⟩
 · obtain ⟨e1,e3,e4,e5⟩:=h.o1 k
   exact ⟨e1,hM _ _ _ _ _ (fun j k1 k2=>hr.other j (by have:=h1g k; omega)) e3,e4,by rw [hr.size]; exact e5⟩
 · obtain ⟨e1,e3,e4,e5⟩:=h.o3 k
   exact ⟨e1,hN _ _ _ _ _ (fun j k1 k2=>hr.other j (by have:=h3g k; omega)) e3,e4,by rw [hr.size]; exact e5⟩
 · obtain ⟨e1,e2,xs,e3,e4⟩:=h.o4 k
   by_cases e:g9=g
   · subst e; exact ⟨e1,e2,_,hn,hr.row⟩
   · exact ⟨e1,e2,xs,e3,(hr.other _ e).trans e4⟩
 · obtain ⟨e1,e2,xs,e3,e4⟩:=h.o5 k
   by_cases e:g10=g
   · subst e; exact ⟨e1,e2,_,hn,hr.row⟩
   · exact ⟨e1,e2,xs,e3,(hr.other _ e).trans e4⟩
 · obtain ⟨e1,e2,e3⟩:=h.o6 k; exact ⟨e1,e2,(hr.other _ (fun e=>h6 k e.symm)).trans e3⟩
 · obtain ⟨e1,e2,e3⟩:=h.o7 k; exact ⟨e1,e2,(hr.other _ (fun e=>h7 k e.symm)).trans e3⟩
end
theorem read5_any (B:Nat) (A:Option Addr) (n c:Nat) (l:List Nat) (w:World) (h:Rd w B 1 A n (bs l)) (hb:∀ x∈l,x<256) (hn:n≤100000) (hB:B≤w.heap.size) :
 Calls Tryz.prog 89 #[.slice A n c] w fun en w'=>∃ g A' c',en=.returned (.pointer (some ⟨g,0,none⟩))∧w.heap.size≤g∧Rr 233 w' g A' l.length c' l 0 0∧Below w.heap.size w w'∧∀ ad,A'=some ad→0<l.length→w.heap.size≤ad.block:=by
 have C:=clone_any B A n c l w h (by omega) hB
 have hl:=h.count
 subst hl
 go_enter Tryz.func89,Tryz.ntmps89
 go_wp2_with (go_at_call 100; refine C.mono ?_; rintro e w1 ⟨A1,c1,rfl,ho1,hb1⟩)
 go_ret
 have hc:=own_cap ho1
 exact ⟨w1.heap.size,A1,c1,rfl,hb1.size,⟨heap_alloc_new w1 _,(Rd.own ho1).alloc (Nat.le_refl _) _,hc,hb,hn,Nat.zero_le _,by omega⟩,hb1.alloc hb1.size _,fun ad e hn=>by
  obtain ⟨gg,cap,hv,hgg,hlt⟩:=ho1.form hn
  have hA:A1=some ⟨gg,0,none⟩:=by injection hv
  rw [hA] at e
  injection e with e
  subst e
  have:=own_ge ho1 gg (by rw [hA]; rfl)
  exact this⟩
theorem PlS.aside {g h n c a e q:Nat} {A:Option Addr} {l:List Nat} {bad:Bool} {w w':World} {arr:Array Value} {E:TypeId} (p:PlS g h A n c l a e bad w) (r:RowSet w w' q arr E) (h1:g<q) (h2:h<q):PlS g h A n c l a e bad w':=
 ⟨(r.other g (by omega)).trans p.box,⟨(r.other h (by omega)).trans p.rd.blk,p.rd.rd.keep fun x hx=>World.cell?_of_block (r.other x.block (by omega)),p.rd.nc,p.rd.b8,p.rd.len,p.rd.place,p.rd.err⟩,p.lt⟩
theorem rowset4 {w:World} {g:Nat} {E:TypeId} {x0 x1 x2 x3:Value} (y0 y1 y2 y3:Value) (h:w.heap[g]? = some (.cells #[x0,x1,x2,x3] E (0,0))):RowSet w (put4 w g y0 y1 y2 y3) g #[y0,y1,y2,y3] E:=
 ⟨rfl,rfl,rfl,put4_size w g _ _ _ _,put4_row h _ _ _ _,fun k hk=>put4_else w hk _ _ _ _⟩
instance goodDec (e:Nat) (bad:Bool):Decidable (GoodB e bad):=by unfold GoodB; exact inferInstance
section
variable {g h n c a e:Nat} {A:Option Addr} {l:List Nat} {bad:Bool} {w:World}
theorem pnum_any (p:PlS g h A n c l a e bad w):Calls Tryz.prog 141 #[.pointer (some ⟨h,0,none⟩)] w fun en w'=>
 ∃ v a' e':Nat,en=.returned (.int .u64 (v:Int))∧v<18446744073709551616∧PlS g h A n c l a' e' bad w'∧RStp w w' h∧Took (numT l a) e bad v a' e' bad:=by
 obtain ⟨⟨a',e',v⟩,hS⟩:∃ x,numR l a e=x:=⟨_,rfl⟩
 have hle:=numR_le p.rd.b8 p.rd.place p.rd.err hS
 refine (number_any h A n c a e l w p.rd a' e' v hS).mono ?_
 rintro en w' ⟨rfl,hr⟩
 exact ⟨v,a',e',rfl,by omega,p.step hr,hr.2,num_took hS bad⟩
theorem perr_any (p:PlS g h A n c l a e bad w):Calls Tryz.prog 114 #[.pointer (some ⟨h,0,none⟩)] w fun en w'=>en=.returned (.int .i64 (e:Int))∧w=w':=err_any h A n c a e l w p.rd
set_option maxRecDepth 100000 in
set_option maxHeartbeats 1600000 in
theorem pgood_any (p:PlS g h A n c l a e bad w):Calls Tryz.prog 90 #[.pointer (some ⟨g,0,none⟩)] w fun en w'=>en=.returned (.bool (decide (GoodB e bad)))∧w'=w:=by
 obtain ⟨c0,c1,-,-⟩:=p.cells
 have HE:=perr_any p
 have HG:Hid (decide (GoodB e bad)=(!bad && decide (e=0))):=by
  unfold Hid GoodB
  rw [Bool.eq_iff_iff]
  cases bad <;> simp
 have hee:((e:Int) == 0)=decide (e=0):=by rw [Bool.eq_iff_iff]; simp
 generalize decide (GoodB e bad)=z at *
 clear p
 cases bad with
 | true=>
  have hz:z=false:=HG.out
  go_enter Tryz.func90,Tryz.ntmps90
  go_wp2
  go_ret
  exact ⟨ret_b hz.symm,rfl⟩
 | false=>
  have hz:z=decide (e=0):=HG.out
  go_enter Tryz.func90,Tryz.ntmps90
  go_wp2_with fail
  refine HE.mono ?_
  rintro en w' ⟨rfl,rfl⟩
  go_wp2
  go_ret
  exact ⟨ret_b (by rw [hz]),rfl⟩
set_option maxRecDepth 100000 in
set_option maxHeartbeats 3200000 in
theorem pver_any (p:PlS g h A n c l a e bad w):Calls Tryz.prog 158 #[.pointer (some ⟨g,0,none⟩)] w fun en w'=>
 ∃ v1 v2 a' e':Nat,en=.returned (.agg #[.int .u64 (v1:Int),.int .u64 (v2:Int)])∧(v1<18446744073709551616∧v2<18446744073709551616)∧PlS g h A n c l a' e' bad w'∧Grow2 w w' g h∧Took (verT l a) e bad (v1,v2) a' e' bad:=by
 have hsz:(Tryz.prog.info? 62).map (·.size)=some 2:=by kernel_rfl
 have hq1:=heap_alloc_new w (.cells #[.int .u64 0,.int .u64 0] 62)
 have hn1:=below_new w (.cells #[.int .u64 0,.int .u64 0] 62)
 have p1:=p.kept hn1
 have hgl:=p.gl
 have hhg:=p.lt
 go_enter Tryz.func158,Tryz.ntmps158
 go_upto_region 1 with (fail)
 generalize w.alloc (.cells #[.int .u64 0,.int .u64 0] 62)=w1 at *
 obtain ⟨c0,-,-,-⟩:=p1.cells
 have hs1:=lt_of_block hq1
 go_region_held3 (fun W=>W.cell? ⟨g,0,none⟩=some (.pointer (some ⟨h,0,none⟩))) (first | exact c0 | exact (World.cell?_of_block (by rw [Below.heap_setCell _ ⟨w.heap.size,1,none⟩ _ g (by show g≠w.heap.size; omega),Below.heap_setCell _ ⟨w.heap.size,0,none⟩ _ g (by show g≠w.heap.size; omega)])).trans p3.cells.1 | exact p3.cells.1 | exact p2.cells.1)
  ((first | (go_at_call 141; have hq:=ht2; ((with_reducible refine (pnum_any p2').mono ?_); rintro en w3 ⟨v2,a2,e2,rfl,hv2,p3,hs3,ht3⟩; have hq3:=(hs3.block w.heap.size (lt_of_block hq2) (by omega)).trans hq2; have d0:=cell_of_row w3 w.heap.size 0 _ _ _ hq3; have d1:=cell_of_row w3 w.heap.size 1 _ _ _ hq3; have z0:=frozen_of_row w3 w.heap.size 0 _ _ hq3; have z1:=frozen_of_row w3 w.heap.size 1 _ _ hq3)) | (go_at_call 141; ((with_reducible refine (pnum_any (p1.kept (by exact below_like4 (Below.refl _ _) rfl rfl rfl rfl))).mono ?_); rintro en w2 ⟨v1,a1,e1,rfl,hv1,p2,hs2,ht2⟩; have p2':=p2; have hq2:=(hs2.block w.heap.size (by exact hs1) (by omega)).trans (show _=_ from hq1)))))
 all_goals
  have hqf:=rowset2 (.int .u64 (v1:Int)) (.int .u64 (v2:Int)) hq3
  have p4:PlS g h A n c l a2 e2 bad ((w3.setCell ⟨w.heap.size,0,none⟩ (.int .u64 (v1:Int))).setCell ⟨w.heap.size,1,none⟩ (.int .u64 (v2:Int))):=p3.aside hqf (by omega) (by omega)
  have hG:Grow2 w ((w3.setCell ⟨w.heap.size,0,none⟩ (.int .u64 (v1:Int))).setCell ⟨w.heap.size,1,none⟩ (.int .u64 (v2:Int))) g h:=by
   have k1:=(Grow2.ofB hn1 (a:=g) (b:=h)).trans ((show Grow2 w1 w2 g h from ⟨hs2.os,hs2.tape,hs2.output,hs2.size,fun k k1 _ k3=>hs2.block k k1 k3⟩).trans (hs3.grow2 g))
   exact ⟨hqf.os.trans k1.os,hqf.tape.trans k1.tape,hqf.output.trans k1.output,by rw [hqf.size]; exact k1.size,fun k h1 h2 h3=>(hqf.other k (by omega)).trans (k1.block k h1 h2 h3)⟩
  have hT:Took (verT l a) e bad (v1,v2) a2 e2 bad:=by
   unfold verT
   refine Took.bind ht2 ?_
   exact Took.map (g:=fun y:Nat×Nat=>((v1,y.1),y.2)) (fun v=>(v1,v)) (fun _ _=>rfl) ht3
  have HF:=Lib_hid (And.intro p4 (And.intro hG hT))
  have hrow:=hqf.row
  clear p3 p2 p2' ht2 ht3 hs2 hs3 hq2 hq3 hq p1 hqf p4 hG hT d0 d1 z0 z1
  go_wp2
  exact bodyPost_ret (results_cell_row (p:=2) (ty:=62) rfl _ _ w.heap.size 62 #[.int .u64 (v1:Int),.int .u64 (v2:Int)] (0,0) _ rfl hrow Tryz.underlying62 rfl hsz) rfl ⟨v1,v2,a2,e2,rfl,⟨hv1,hv2⟩,HF.out.1,HF.out.2.1,HF.out.2.2⟩
set_option maxRecDepth 100000 in
set_option maxHeartbeats 1600000 in
theorem pmatch_any (p:PlS g h A n c l a e bad w):Calls Tryz.prog 211 #[.pointer (some ⟨g,0,none⟩)] w fun en w'=>
 ∃ (m:Bool) (a' e':Nat) (bad':Bool),en=.returned (.bool m)∧PlS g h A n c l a' e' bad' w'∧Grow2 w w' g h∧Took (matT l a) e bad m a' e' bad':=by
 obtain ⟨c0,c1,-,-⟩:=p.cells
 obtain ⟨⟨a',e',m⟩,hS⟩:∃ x,rawS l a e 1=x:=⟨_,rfl⟩
 have hT:=raw_took hS p.rd.place bad
 have RW:=raw_any h A n c a e l 1 w p.rd (by omega)
 rw [hS] at RW
 have HP:=Lib_hid p
 clear p c1
 go_enter Tryz.func211,Tryz.ntmps211
 go_wp2_with fail
 refine RW.mono ?_
 rintro en w1 ⟨A1,c1,rfl,ho1,hr1⟩
 have p1:=HP.out.step hr1
 have hg1:=hr1.2.grow2 g
 obtain ⟨-,d1,-,y1⟩:=p1.cells
 have hrd1:=Rd.own ho1
 clear RW c0 HP hr1 hS
 rcases hT with ⟨hm,hb,ht⟩ | ⟨cc,hm,he1,he2,hcc,ht1,ht2⟩
 · subst hm
   have HF:Hid (PlS g h A n c l a' e' true (w1.setCell ⟨g,1,none⟩ (.bool true))∧Grow2 w (w1.setCell ⟨g,1,none⟩ (.bool true)) g h∧Took (matT l a) e bad false a' e' true):=⟨p1.spoilt true,hg1.trans (Grow2.set w1 g h 1 _),ht⟩
   clear p1 hg1 ht hb hrd1 ho1
   go_wp2
   go_ret
   exact ⟨false,a',e',true,rfl,HF.out⟩
 · subst hm
   have hcell:=hrd1.byte (k:=0) (by show 0<1; omega)
   obtain ⟨ad,hA,-,hc0⟩:=hcell
   subst hA
   obtain ⟨gg,cap,hv,-,-⟩:=ho1.form (by show 0<1; omega)
   have hag:ad=⟨gg,0,none⟩:=by injection hv with hv; injection hv
   subst hag
   have hc0:w1.cell? ⟨gg,0,none⟩=some (.int .u8 (cc:Int)):=hc0
   by_cases h1:1<cc
   · have h1i:(1:Int)<(cc:Int):=by omega
     have HF:Hid (PlS g h A n c l a' e' true (w1.setCell ⟨g,1,none⟩ (.bool true))∧Grow2 w (w1.setCell ⟨g,1,none⟩ (.bool true)) g h∧Took (matT l a) e bad false a' e' true):=⟨p1.spoilt true,hg1.trans (Grow2.set w1 g h 1 _),ht1 h1⟩
     clear p1 hg1 ht1 ht2 hrd1 ho1 hv hcc he1 he2 h1
     go_wp2
     go_ret
     exact ⟨false,a',e',true,rfl,HF.out⟩
   · have h1i:¬ (1:Int)<(cc:Int):=by omega
     have HF:Hid (PlS g h A n c l a' e' bad w1∧Grow2 w w1 g h∧Took (matT l a) e bad (cc == 1) a' e' bad):=⟨p1,hg1,ht2 (by omega)⟩
     have HB:Hid (((cc:Int) == 1)=(cc == 1)):=Lib_hid (by rw [Bool.eq_iff_iff]; simp; omega)
     clear p1 hg1 ht1 ht2 hrd1 ho1 hv hcc he1 he2 h1
     go_wp2
     go_ret
     exact ⟨cc == 1,a',e',bad,ret_b HB.out,HF.out⟩
theorem pparse4_any (w:World) (B:Nat) (A2:Option Addr) (m c2:Nat) (s:List Nat) (h1:Rd w B 1 A2 m (bs s)) (hB:B≤w.heap.size) (hb8:∀ x∈s,x<256) (hnc:m≤c2∧c2≤9223372036854775807) :
 Calls Tryz.prog 205 #[.slice A2 m c2] w (AnsEnd 65 (ansT (parseT s)) w):=
 pParse_any s A2 m c2 h1.count w fun W hW=>pTakeO_any A2 m c2 (tnode_any A2 m c2 s hb8 hnc 8 (Nat.le_refl _)) 0 B W (h1.below (hW.mono hB)) (Nat.le_trans hB hW.size)
set_option maxRecDepth 100000 in
set_option maxHeartbeats 3200000 in
theorem ppred_any (p:PlS g h A n c l a e bad w):Calls Tryz.prog 176 #[.pointer (some ⟨g,0,none⟩)] w fun en w'=>
 ∃ (u:V) (a' e':Nat) (bad':Bool),en=.returned u.val∧Lies w' w.heap.size w'.heap.size u∧Shp 65 w' w.heap.size u∧PlS g h A n c l a' e' bad' w'∧Grow2 w w' g h∧Took ((txtT l a).bind fun x=>(parseT x.1).map fun t=>(t,x.2)) e bad u.abs a' e' bad':=by
 obtain ⟨c0,-,-,-⟩:=p.cells
 have hsz:(Tryz.prog.info? 65).map (·.size)=some 4:=by kernel_rfl
 have hq1:=heap_alloc_new w (.cells #[.int .i64 0,.int .u64 0,.int .u64 0,.slice none 0 0] 65)
 have hn1:=below_new w (.cells #[.int .i64 0,.int .u64 0,.int .u64 0,.slice none 0 0] 65)
 have p1:=p.kept hn1
 have hgl:=p.gl
 have hhg:=p.lt
 obtain ⟨⟨a',e',s⟩,hS⟩:∃ x,textS l a e=x:=⟨_,rfl⟩
 have hT:=text_took hS bad
 have hb8:∀ x∈s,x<256:=by
  intro x hx
  unfold textS at hS
  split at hS
  · injection hS with _ hS; injection hS with _ hS; rw [← hS] at hx; cases hx
  · split at hS
    · injection hS with _ hS; injection hS with _ hS; rw [← hS] at hx; cases hx
    · injection hS with _ hS; injection hS with _ hS; rw [← hS] at hx; exact p.rd.b8 x (List.mem_of_mem_drop (List.mem_of_mem_take hx))
 have TX:=text_any h A n c a e l (w.alloc (.cells #[.int .i64 0,.int .u64 0,.int .u64 0,.slice none 0 0] 65)) p1.rd
 rw [hS] at TX
 have HB8:=Lib_hid hb8
 clear hS hb8 p c0
 go_enter Tryz.func176,Tryz.ntmps176
 go_upto_region 1 with (fail)
 generalize w.alloc (.cells #[.int .i64 0,.int .u64 0,.int .u64 0,.slice none 0 0] 65)=w1 at *
 obtain ⟨c0,-,-,-⟩:=p1.cells
 have hs1:=lt_of_block hq1
 go_wp2_with fail
 refine TX.mono ?_
 rintro en w2 ⟨A2,c2,rfl,ho2,hr2⟩
 have p2:=p1.step hr2
 have hq2:=(hr2.2.block w.heap.size hs1 (by omega)).trans hq1
 have hG2:Grow2 w w2 g h:=(Grow2.ofB hn1 (a:=g) (b:=h)).trans (hr2.2.grow2 g)
 have PP:=pparse4_any w2 _ A2 s.length c2 s (Rd.own ho2) (Nat.le_refl _) HB8.out (own_cap ho2)
 have hs2:=lt_of_block hq2
 clear TX c0 p1 hr2 ho2 hq1 hn1
 go_wp2_with fail
 refine PP.mono ?_
 rintro en w3 ⟨u,rfl,hua,huL,huS,hb3⟩
 have p3:=p2.kept hb3
 have hq3:=(hb3.block _ hs2).trans hq2
 have hG3:=hG2.trans (Grow2.ofB hb3 (a:=g) (b:=h))
 have hs3:=hb3.size
 have hq4:=heap_alloc_new w3 (.cells #[.int .i64 u.kind,.int .u64 (u.a:Int),.int .u64 (u.b:Int),u.sl] 65)
 have hn4:=below_new w3 (.cells #[.int .i64 u.kind,.int .u64 (u.a:Int),.int .u64 (u.b:Int),u.sl] 65)
 have p4:=p3.kept hn4
 have hq3b:=(hn4.block _ (lt_of_block hq3)).trans hq3
 have hG4:=hG3.trans (Grow2.ofB hn4 (a:=g) (b:=h))
 have hL4:=huL.under hn4
 have hS4:=huS.under (hn4.mono (Nat.le_refl _))
 have hs4:(w3.alloc (.cells #[.int .i64 u.kind,.int .u64 (u.a:Int),.int .u64 (u.b:Int),u.sl] 65)).heap.size > w3.heap.size:=by simp
 have HAN:Hid ((parseT s=some u.abs∧(ansT (parseT s)).2=0)∨(parseT s=none∧(ansT (parseT s)).2=40)):=by
  unfold Hid
  cases hp:parseT s with
  | none=>exact .inr ⟨rfl,rfl⟩
  | some t=>rw [hp] at hua; exact .inl ⟨by rw [hua]; rfl,rfl⟩
 have HFIN:Hid (∀ (W W':World) (bad':Bool),PlS g h A n c l a' e' bad' W→Grow2 w W g h→(∀ k,w2.heap.size≤k→k<w3.heap.size→W.heap[k]? = w3.heap[k]?)→w3.heap.size≤W.heap.size→W.heap[w.heap.size]? = some (.cells #[.int .i64 0,.int .u64 0,.int .u64 0,.slice none 0 0] 65 (0,0))→
  RowSet W W' w.heap.size #[.int .i64 u.kind,.int .u64 (u.a:Int),.int .u64 (u.b:Int),u.sl] 65→Took ((txtT l a).bind fun x=>(parseT x.1).map fun t=>(t,x.2)) e bad u.abs a' e' bad'→
  ∃ (x:V) (a' e':Nat) (bad':Bool),Ending.returned (.agg #[.int .i64 u.kind,.int .u64 (u.a:Int),.int .u64 (u.b:Int),u.sl])=.returned x.val∧Lies W' w.heap.size W'.heap.size x∧Shp 65 W' w.heap.size x∧PlS g h A n c l a' e' bad' W'∧Grow2 w W' g h∧Took ((txtT l a).bind fun x=>(parseT x.1).map fun t=>(t,x.2)) e bad x.abs a' e' bad'):=by
  intro W W' bad' k1 k2 k3 k4 k5 k6 k7
  refine ⟨u,a',e',bad',rfl,?_,?_,k1.aside k6 (by omega) (by omega),⟨k6.os.trans k2.os,k6.tape.trans k2.tape,k6.output.trans k2.output,by rw [k6.size]; exact k2.size,fun k h1 h2 h3=>(k6.other k (by omega)).trans (k2.block k h1 h2 h3)⟩,k7⟩
  · exact (huL.keep fun q q1 q2=>World.cell?_of_block ((k6.other _ (by omega)).trans (k3 _ q1 q2))).more (by omega) (by rw [k6.size]; exact k4)
  · exact (huS.keep fun q q1 q2=>(k6.other _ (by omega)).trans (k3 _ q1 q2)).more (by omega)
 have HTK:Hid (∀ bad',((parseT s=some u.abs∧bad'=bad)∨(parseT s=none∧bad'=true))→Took ((txtT l a).bind fun x=>(parseT x.1).map fun t=>(t,x.2)) e bad u.abs a' e' bad'):=fun bad' hc=>by
  refine Took.bind hT ?_
  rcases hc with ⟨c1,rfl⟩ | ⟨c1,rfl⟩
  · refine ⟨fun hn=>hn,fun hg=>.inl ⟨?_,hg⟩⟩
    show (parseT s).map _=_
    rw [c1]; rfl
  · refine ⟨fun _ hg=>(by cases hg.2),fun _=>.inr ⟨?_,fun hg=>(by cases hg.2)⟩⟩
    show (parseT s).map _=_
    rw [c1]; rfl
 simp only [V.sl] at hq4 hn4 p4 hq3b hG4 hL4 hS4 hs4 HFIN ⊢
 rw [show u.val=.agg #[.int .i64 u.kind,.int .u64 (u.a:Int),.int .u64 (u.b:Int),.slice u.addr u.parts.length u.cap] from rfl]
 go_upto_region 2 with (fail)
 generalize w3.alloc (.cells #[.int .i64 u.kind,.int .u64 (u.a:Int),.int .u64 (u.b:Int),.slice u.addr u.parts.length u.cap] 65)=w4 at *
 obtain ⟨z,hz⟩:∃ z,z=(ansT (parseT s)).2:=⟨_,rfl⟩
 rw [← hz] at HAN ⊢
 clear hz PP hL4 hS4 huL huS hua p3 p2 hq3 hq2 hG3 hG2 HB8
 rcases HAN.out with ⟨h1,rfl⟩ | ⟨h1,rfl⟩
 · have HTK:=Lib_hid (HTK.out bad (.inl ⟨h1,rfl⟩))
   clear HAN h1
   have hrs:=rowset4 (.int .i64 u.kind) (.int .u64 (u.a:Int)) (.int .u64 (u.b:Int)) (.slice u.addr u.parts.length u.cap) hq3b
   have HF:=Lib_hid (HFIN.out w4 _ bad p4 hG4 (fun k k1 k2=>hn4.block k k2) (by omega) hq3b hrs HTK.out)
   have HR:=Lib_hid hrs.row
   obtain ⟨d0,d1,d2,d3⟩:w4.cell? ⟨w3.heap.size,0,none⟩=some (.int .i64 u.kind)∧w4.cell? ⟨w3.heap.size,1,none⟩=some (.int .u64 (u.a:Int))∧w4.cell? ⟨w3.heap.size,2,none⟩=some (.int .u64 (u.b:Int))∧w4.cell? ⟨w3.heap.size,3,none⟩=some (.slice u.addr u.parts.length u.cap):=⟨cell_of_row _ _ 0 _ _ _ hq4,cell_of_row _ _ 1 _ _ _ hq4,cell_of_row _ _ 2 _ _ _ hq4,cell_of_row _ _ 3 _ _ _ hq4⟩
   obtain ⟨b0,b1,b2,b3⟩:w4.cell? ⟨w.heap.size,0,none⟩=some (.int .i64 0)∧w4.cell? ⟨w.heap.size,1,none⟩=some (.int .u64 0)∧w4.cell? ⟨w.heap.size,2,none⟩=some (.int .u64 0)∧w4.cell? ⟨w.heap.size,3,none⟩=some (.slice none 0 0):=⟨cell_of_row _ _ 0 _ _ _ hq3b,cell_of_row _ _ 1 _ _ _ hq3b,cell_of_row _ _ 2 _ _ _ hq3b,cell_of_row _ _ 3 _ _ _ hq3b⟩
   have z0:=frozen_of_row w4 w.heap.size 0 _ _ hq3b
   have z1:=frozen_of_row w4 w.heap.size 1 _ _ hq3b
   have z2:=frozen_of_row w4 w.heap.size 2 _ _ hq3b
   have z3:=frozen_of_row w4 w.heap.size 3 _ _ hq3b
   clear HFIN HTK hrs hT p4 hG4 hq4 hq3b hn4
   generalize hP:put4 w4 w.heap.size (.int .i64 u.kind) (.int .u64 (u.a:Int)) (.int .u64 (u.b:Int)) (.slice u.addr u.parts.length u.cap)=W9 at *
   have HP:=Lib_hid hP
   clear hP
   generalize u.addr=pA at *
   generalize u.parts.length=pn at *
   generalize u.cap=pc at *
   generalize u.kind=pk at *
   generalize (u.a:Int)=pa at *
   generalize (u.b:Int)=pb at *
   go_wp2
   show bodyPost _ _ _ _ _ (put4 w4 w.heap.size (.int .i64 pk) (.int .u64 pa) (.int .u64 pb) (.slice pA pn pc))
   rw [HP.out]
   exact bodyPost_ret (results_cell_row (p:=2) (ty:=65) rfl _ _ w.heap.size 65 #[.int .i64 pk,.int .u64 pa,.int .u64 pb,.slice pA pn pc] (0,0) _ rfl HR.out Tryz.underlying65 rfl hsz) rfl HF.out
 · have HTK:=Lib_hid (HTK.out true (.inr ⟨h1,rfl⟩))
   clear HAN h1
   obtain ⟨-,e1,-,y1⟩:=p4.cells
   have p5:=p4.spoilt true
   have hq5:=(Below.heap_setCell w4 ⟨g,1,none⟩ (.bool true) w.heap.size (by show w.heap.size≠g; omega)).trans hq3b
   have hr5:=(Below.heap_setCell w4 ⟨g,1,none⟩ (.bool true) w3.heap.size (by show w3.heap.size≠g; omega)).trans hq4
   have hG5:=hG4.trans (Grow2.set w4 g h 1 (.bool true))
   have hk5:∀ k,w2.heap.size≤k→k<w3.heap.size→(w4.setCell ⟨g,1,none⟩ (.bool true)).heap[k]? = w3.heap[k]?:=fun k k1 k2=>(Below.heap_setCell w4 ⟨g,1,none⟩ (.bool true) k (by show k≠g; omega)).trans (hn4.block k k2)
   have hz5:w3.heap.size≤(w4.setCell ⟨g,1,none⟩ (.bool true)).heap.size:=by simp [World.setCell]; omega
   go_upto_region 4 with (fail)
   generalize w4.setCell ⟨g,1,none⟩ (.bool true)=w5 at *
   have hrs:=rowset4 (.int .i64 u.kind) (.int .u64 (u.a:Int)) (.int .u64 (u.b:Int)) (.slice u.addr u.parts.length u.cap) hq5
   have HF:=Lib_hid (HFIN.out w5 _ true p5 hG5 hk5 hz5 hq5 hrs HTK.out)
   have HR:=Lib_hid hrs.row
   obtain ⟨d0,d1,d2,d3⟩:w5.cell? ⟨w3.heap.size,0,none⟩=some (.int .i64 u.kind)∧w5.cell? ⟨w3.heap.size,1,none⟩=some (.int .u64 (u.a:Int))∧w5.cell? ⟨w3.heap.size,2,none⟩=some (.int .u64 (u.b:Int))∧w5.cell? ⟨w3.heap.size,3,none⟩=some (.slice u.addr u.parts.length u.cap):=⟨cell_of_row _ _ 0 _ _ _ hr5,cell_of_row _ _ 1 _ _ _ hr5,cell_of_row _ _ 2 _ _ _ hr5,cell_of_row _ _ 3 _ _ _ hr5⟩
   obtain ⟨b0,b1,b2,b3⟩:w5.cell? ⟨w.heap.size,0,none⟩=some (.int .i64 0)∧w5.cell? ⟨w.heap.size,1,none⟩=some (.int .u64 0)∧w5.cell? ⟨w.heap.size,2,none⟩=some (.int .u64 0)∧w5.cell? ⟨w.heap.size,3,none⟩=some (.slice none 0 0):=⟨cell_of_row _ _ 0 _ _ _ hq5,cell_of_row _ _ 1 _ _ _ hq5,cell_of_row _ _ 2 _ _ _ hq5,cell_of_row _ _ 3 _ _ _ hq5⟩
   have z0:=frozen_of_row w5 w.heap.size 0 _ _ hq5
   have z1:=frozen_of_row w5 w.heap.size 1 _ _ hq5
   have z2:=frozen_of_row w5 w.heap.size 2 _ _ hq5
   have z3:=frozen_of_row w5 w.heap.size 3 _ _ hq5
   clear HFIN HTK hrs hT p4 p5 hq5 hr5 hG5 hk5 hz5 hG4 hq4 hq3b hn4
   generalize hP:put4 w5 w.heap.size (.int .i64 u.kind) (.int .u64 (u.a:Int)) (.int .u64 (u.b:Int)) (.slice u.addr u.parts.length u.cap)=W9 at *
   have HP:=Lib_hid hP
   clear hP
   generalize u.addr=pA at *
   generalize u.parts.length=pn at *
   generalize u.cap=pc at *
   generalize u.kind=pk at *
   generalize (u.a:Int)=pa at *
   generalize (u.b:Int)=pb at *
   go_wp2
   show bodyPost _ _ _ _ _ (put4 w5 w.heap.size (.int .i64 pk) (.int .u64 pa) (.int .u64 pb) (.slice pA pn pc))
   rw [HP.out]
   exact bodyPost_ret (results_cell_row (p:=2) (ty:=65) rfl _ _ w.heap.size 65 #[.int .i64 pk,.int .u64 pa,.int .u64 pb,.slice pA pn pc] (0,0) _ rfl HR.out Tryz.underlying65 rfl hsz) rfl HF.out
end
end Go.Proofs.YtinmoknbgnngcaaGreatDoor
