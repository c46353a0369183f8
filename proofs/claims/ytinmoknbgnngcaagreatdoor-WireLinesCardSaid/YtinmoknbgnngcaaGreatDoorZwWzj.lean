/-
  Layer 6: SameRecords. (Out of gen_wzj.py.)
-/
import Derived.Test.YtinmoknbgnngcaaGreatDoorZwWzg
import Derived.Test.YtinmoknbgnngcaaGreatDoorZwVdc
import Derived.Test.YtinmoknbgnngcaaGreatDoorZwVds
namespace Go.Proofs.YtinmoknbgnngcaaGreatDoor
open Go Go.RowKit
set_option linter.unusedVariables false
theorem sameR_self6 (r:Rc):r.sameB r=true:=by unfold Rc.sameB; simp [(sameB_iff r.p r.p).2 rfl]
theorem docsame6_any (r u:Rv) (W:World) (lo hi lo2 hi2:Nat) (hr:RLies W lo hi r) (h1:hi≤W.heap.size) (hu:RLies W lo2 hi2 u) (h2:hi2≤W.heap.size) (he:r.abs=u.abs) (hct:r.p.abs.count≤1000) (hes:r.es.length≤100000) :
 Calls Tryz.prog 23 #[r.val] W fun e w'=>∃ uv,e=.returned uv∧Hid (∀ W',Below w'.heap.size w' W'→Calls Tryz.prog 22 #[uv,u.val] W' fun e w''=>e=.returned (.bool true)∧Below W'.heap.size W' w'')∧Below W.heap.size W w':=by
 refine (drec5_any r W lo hi hr h1 hct hes).mono ?_
 rintro e w' ⟨z,rfl,hza,hzL,hb⟩
 refine ⟨_,rfl,fun W' hW'=>?_,hb⟩
 have hs:=hb.size
 have hs':=hW'.size
 refine (rsame5_any z u W' _ w'.heap.size lo2 hi2 (hzL.under hW') hs' (hu.under ((hb.mono h2).trans (hW'.mono (by omega)))) (by omega)).mono ?_
 rintro e w'' ⟨rfl,hb''⟩
 refine ⟨?_,hb''⟩
 rw [hza,he,sameR_self6]
theorem row11_nth {w:World} {B i:Nat} {A:Option Addr} {rs:List Rv} (h:Rd w B 11 A rs.length (rvCells rs)) (hi:i<rs.length):∃ (b off:Nat) (k2:Int) (t2 x2 wn2 nn2 v2:Nat) (p2:V) (A2:Option Addr) (c2:Nat) (es2:List En),A=some ⟨b,off,none⟩∧rs[i]? = some ⟨k2,t2,x2,wn2,nn2,v2,p2,A2,c2,es2⟩∧b<B∧
 ∀ W:World,W.heap[b]? = w.heap[b]?→W.cell? ⟨b,off+i * 11,none⟩=some (.int .i64 k2)∧W.cell? ⟨b,off+i * 11+1,none⟩=some (.int .u64 (t2:Int))∧W.cell? ⟨b,off+i * 11+2,none⟩=some (.int .u64 (x2:Int))∧W.cell? ⟨b,off+i * 11+3,none⟩=some (.int .u64 (wn2:Int))∧W.cell? ⟨b,off+i * 11+4,none⟩=some (.int .u64 (nn2:Int))∧W.cell? ⟨b,off+i * 11+5,none⟩=some (.int .u64 (v2:Int))∧W.cell? ⟨b,off+i * 11+6,none⟩=some (.int .i64 p2.kind)∧W.cell? ⟨b,off+i * 11+7,none⟩=some (.int .u64 (p2.a:Int))∧W.cell? ⟨b,off+i * 11+8,none⟩=some (.int .u64 (p2.b:Int))∧W.cell? ⟨b,off+i * 11+9,none⟩=some (.slice p2.addr p2.parts.length p2.cap)∧W.cell? ⟨b,off+i * 11+10,none⟩=some (.slice A2 es2.length c2):=by
 have hx:rs[i]? = some rs[i]:=List.getElem?_eq_getElem hi
 obtain ⟨⟨b,off,spot⟩,e,hb,hc⟩:=h.lies (by omega)
 have hspot:spot=none:=by
  have h0:rs[0]? = some (rs[0]'(by omega)):=List.getElem?_eq_getElem (by omega)
  exact World.cell?_spot (a:=⟨b,off,spot⟩) (hc 0 (.int .i64 (rs[0]'(by omega)).kind) ((rvCells_get rs 0 0 _ h0 (by omega)).trans rfl))
 subst hspot
 obtain ⟨r,hr⟩:∃ r,rs[i]=r:=⟨_,rfl⟩
 rw [hr] at hx
 obtain ⟨k2,t2,x2,wn2,nn2,v2,p2,A2,c2,es2⟩:=r
 refine ⟨b,off,k2,t2,x2,wn2,nn2,v2,p2,A2,c2,es2,e,hx,hb,fun W hW=>?_⟩
 have key:∀ j u,j<11→(Rv.arr ⟨k2,t2,x2,wn2,nn2,v2,p2,A2,c2,es2⟩)[j]? = some u→W.cell? ⟨b,off+i * 11+j,none⟩=some u:=fun j u hj hu=>by
  have:=hc (i * 11+j) u ((rvCells_get rs i j _ hx hj).trans hu)
  rw [show (⟨b,off,none⟩:Addr).add (i * 11+j)=⟨b,off+i * 11+j,none⟩ by unfold Addr.add; split <;> simp_all <;> omega] at this
  exact (World.cell?_of_block hW).trans this
 exact ⟨key 0 _ (by omega) rfl,key 1 _ (by omega) rfl,key 2 _ (by omega) rfl,key 3 _ (by omega) rfl,key 4 _ (by omega) rfl,key 5 _ (by omega) rfl,key 6 _ (by omega) rfl,key 7 _ (by omega) rfl,key 8 _ (by omega) rfl,key 9 _ (by omega) rfl,key 10 _ (by omega) rfl⟩
set_option maxRecDepth 100000 in
set_option maxHeartbeats 6400000 in
theorem samerecs6_any (B n c c':Nat) (A A':Option Addr) (rs us:List Rv) (w:World) (hO:OwnRecs B w (.slice A n c) rs) (hU:RecsA w B A' us) (hB:B≤w.heap.size) (hn:rs.length=n) (hn':us.length=n) (hl:n≤100000)
 (he:rs.map Rv.abs=us.map Rv.abs) (hsm:∀ r∈rs,r.p.abs.count≤1000∧r.es.length≤100000) :
 Calls Tryz.prog 12 #[.slice A n c,.slice A' n c'] w fun e w'=>e=.returned (.bool true)∧Below B w w':=by
 have hrd:Rd w w.heap.size 11 A rs.length (rvCells rs):=by
  have h:=hO.row
  rw [hn] at h
  have:=Rd.own h
  rwa [← hn] at this
 have hNP:∀ i,i<n→∃ (b off:Nat) (k2:Int) (t2 x2 wn2 nn2 v2:Nat) (p2:V) (A2:Option Addr) (c2:Nat) (es2:List En),A=some ⟨b,off,none⟩∧rs[i]? = some ⟨k2,t2,x2,wn2,nn2,v2,p2,A2,c2,es2⟩∧b<w.heap.size∧∀ W:World,W.heap[b]? = w.heap[b]?→W.cell? ⟨b,off+i * 11,none⟩=some (.int .i64 k2)∧W.cell? ⟨b,off+i * 11+1,none⟩=some (.int .u64 (t2:Int))∧W.cell? ⟨b,off+i * 11+2,none⟩=some (.int .u64 (x2:Int))∧W.cell? ⟨b,off+i * 11+3,none⟩=some (.int .u64 (wn2:Int))∧W.cell? ⟨b,off+i * 11+4,none⟩=some (.int .u64 (nn2:Int))∧W.cell? ⟨b,off+i * 11+5,none⟩=some (.int .u64 (v2:Int))∧W.cell? ⟨b,off+i * 11+6,none⟩=some (.int .i64 p2.kind)∧W.cell? ⟨b,off+i * 11+7,none⟩=some (.int .u64 (p2.a:Int))∧W.cell? ⟨b,off+i * 11+8,none⟩=some (.int .u64 (p2.b:Int))∧W.cell? ⟨b,off+i * 11+9,none⟩=some (.slice p2.addr p2.parts.length p2.cap)∧W.cell? ⟨b,off+i * 11+10,none⟩=some (.slice A2 es2.length c2):=fun i hi=>row11_nth hrd (by omega)
 have HNP:=Lib_hid hNP
 have HND:Hid (∀ i,i<n→∃ (b off:Nat) (k2:Int) (t2 x2 wn2 nn2 v2:Nat) (p2:V) (A2:Option Addr) (c2:Nat) (es2:List En),A'=some ⟨b,off,none⟩∧us[i]? = some ⟨k2,t2,x2,wn2,nn2,v2,p2,A2,c2,es2⟩∧∀ W,Below B w W→RLies W 0 B ⟨k2,t2,x2,wn2,nn2,v2,p2,A2,c2,es2⟩∧W.cell? ⟨b,off+i * 11,none⟩=some (.int .i64 k2)∧W.cell? ⟨b,off+i * 11+1,none⟩=some (.int .u64 (t2:Int))∧W.cell? ⟨b,off+i * 11+2,none⟩=some (.int .u64 (x2:Int))∧W.cell? ⟨b,off+i * 11+3,none⟩=some (.int .u64 (wn2:Int))∧W.cell? ⟨b,off+i * 11+4,none⟩=some (.int .u64 (nn2:Int))∧W.cell? ⟨b,off+i * 11+5,none⟩=some (.int .u64 (v2:Int))∧W.cell? ⟨b,off+i * 11+6,none⟩=some (.int .i64 p2.kind)∧W.cell? ⟨b,off+i * 11+7,none⟩=some (.int .u64 (p2.a:Int))∧W.cell? ⟨b,off+i * 11+8,none⟩=some (.int .u64 (p2.b:Int))∧W.cell? ⟨b,off+i * 11+9,none⟩=some (.slice p2.addr p2.parts.length p2.cap)∧W.cell? ⟨b,off+i * 11+10,none⟩=some (.slice A2 es2.length c2)):=fun i hi=>hU.nth (by omega)
 have HSM:=Lib_hid hsm
 have HE:Hid (∀ (i:Nat) (r u:Rv),rs[i]? = some r→us[i]? = some u→r.abs=u.abs):=fun i r u h1 h2=>by
  have h:=congrArg (·[i]?) he
  simp only [List.getElem?_map,h1,h2,Option.map_some] at h
  exact Option.some.inj h
 have HN:=Lib_hid hn
 have hla:Hid (∃ m,B≤m∧Lain w (Value.slice A n c).ownBlock w.heap.size m (rs.drop 0)):=⟨B,Nat.le_refl _,hO.lain⟩
 clear hNP hrd hU hsm he hO hn hn'
 go_enter Tryz.func12,Tryz.ntmps12
 go_wp2
 go_loopw [5] (fun z wr=>∃ i:Nat,z=.int .i64 i∧i≤n∧Hid (∃ m,B≤m∧Lain wr (Value.slice A n c).ownBlock w.heap.size m (rs.drop i))∧Hid (∀ k,(Value.slice A n c).ownBlock=some k→wr.heap[k]? = w.heap[k]?)∧Hid (Below B w wr∧w.heap.size≤wr.heap.size)) (fun z _=>n - (intOf z).toNat)
 case atStart=>exact ⟨0,rfl,Nat.zero_le _,hla,Lib_hid fun _ _=>rfl,⟨Below.refl _ _,Nat.le_refl _⟩⟩
 case round=>
  obtain ⟨i,rfl,hi,hln,hrow,hbw⟩:=hrel
  by_cases hlt:i<n
  · have hli:(i:Int)<(n:Int):=by omega
    obtain ⟨b,off,k2,t2,x2,wn2,nn2,v2,p2,A2,c2,es2,rfl,hri,hb,hcs⟩:=HNP.out i hlt
    obtain ⟨b',off',k3,t3,x3,wn3,nn3,v3,p3,A3,c3,es3,rfl,hui,hcs'⟩:=HND.out i hlt
    obtain ⟨m,hm,hLA⟩:=hln.out
    have hil:i<rs.length:=by have:=HN.out; omega
    have hdr:rs.drop i=(⟨k2,t2,x2,wn2,nn2,v2,p2,A2,c2,es2⟩:Rv) :: rs.drop (i+1):=by
     rw [List.drop_eq_getElem_cons hil]
     congr 1
     have:=(List.getElem?_eq_getElem hil).symm.trans hri
     exact Option.some.inj this
    rw [hdr] at hLA
    obtain ⟨m1,m2,hm1,hrin,hap,hLR⟩:=hLA
    have hob:(Value.slice (some ⟨b,off,none⟩) n c).ownBlock=some b:=by simp [Value.ownBlock]
    have hbb:=hrow.out b hob
    have hLh:=hLR.le
    have hsm:=HSM.out _ (List.mem_of_getElem? hri)
    have hrb:=hbw.out.1
    have hrs:=hbw.out.2
    have DR:Hid (∀ W,Below wr.heap.size wr W→Calls Tryz.prog 23 #[.agg #[.int .i64 k2,.int .u64 (t2:Int),.int .u64 (x2:Int),.int .u64 (wn2:Int),.int .u64 (nn2:Int),.int .u64 (v2:Int),.int .i64 p2.kind,.int .u64 (p2.a:Int),.int .u64 (p2.b:Int),.slice p2.addr p2.parts.length p2.cap,.slice A2 es2.length c2]] W fun e w'=>∃ uv,e=.returned uv∧Hid (∀ W',Below w'.heap.size w' W'→Calls Tryz.prog 22 #[uv,.agg #[.int .i64 k3,.int .u64 (t3:Int),.int .u64 (x3:Int),.int .u64 (wn3:Int),.int .u64 (nn3:Int),.int .u64 (v3:Int),.int .i64 p3.kind,.int .u64 (p3.a:Int),.int .u64 (p3.b:Int),.slice p3.addr p3.parts.length p3.cap,.slice A3 es3.length c3]] W' fun e w''=>e=.returned (.bool true)∧Below wr.heap.size wr w'')∧Below wr.heap.size wr w'):=fun W hW=>by
     have hW2:=hW.size
     refine (docsame6_any ⟨k2,t2,x2,wn2,nn2,v2,p2,A2,c2,es2⟩ ⟨k3,t3,x3,wn3,nn3,v3,p3,A3,c3,es3⟩ W m1 m2 0 B (hrin.lies.under (hW.mono (by have:=hrin.hi; omega))) (by have:=hrin.hi; omega) ((hcs' wr hrb).1.under (hW.mono (by omega))) (by omega) (HE.out i _ _ hri hui) hsm.1 hsm.2).mono ?_
     rintro e w' ⟨uv,rfl,hS,hb2⟩
     have hb3:=hW.trans (hb2.mono hW2)
     refine ⟨uv,rfl,fun W' hW'=>?_,hb3⟩
     have hb4:=hb3.trans (hW'.mono hb3.size)
     refine (hS.out W' hW').mono ?_
     rintro e w'' ⟨rfl,hb5⟩
     exact ⟨rfl,hb4.trans (hb5.mono hb4.size)⟩
    have HB4:Hid (∀ W,Below wr.heap.size wr W→(W.cell? ⟨b,off+i * 11,none⟩=some (.int .i64 k2)∧W.cell? ⟨b,off+i * 11+1,none⟩=some (.int .u64 (t2:Int))∧W.cell? ⟨b,off+i * 11+2,none⟩=some (.int .u64 (x2:Int))∧W.cell? ⟨b,off+i * 11+3,none⟩=some (.int .u64 (wn2:Int))∧W.cell? ⟨b,off+i * 11+4,none⟩=some (.int .u64 (nn2:Int))∧W.cell? ⟨b,off+i * 11+5,none⟩=some (.int .u64 (v2:Int))∧W.cell? ⟨b,off+i * 11+6,none⟩=some (.int .i64 p2.kind)∧W.cell? ⟨b,off+i * 11+7,none⟩=some (.int .u64 (p2.a:Int))∧W.cell? ⟨b,off+i * 11+8,none⟩=some (.int .u64 (p2.b:Int))∧W.cell? ⟨b,off+i * 11+9,none⟩=some (.slice p2.addr p2.parts.length p2.cap)∧W.cell? ⟨b,off+i * 11+10,none⟩=some (.slice A2 es2.length c2))∧(W.cell? ⟨b',off'+i * 11,none⟩=some (.int .i64 k3)∧W.cell? ⟨b',off'+i * 11+1,none⟩=some (.int .u64 (t3:Int))∧W.cell? ⟨b',off'+i * 11+2,none⟩=some (.int .u64 (x3:Int))∧W.cell? ⟨b',off'+i * 11+3,none⟩=some (.int .u64 (wn3:Int))∧W.cell? ⟨b',off'+i * 11+4,none⟩=some (.int .u64 (nn3:Int))∧W.cell? ⟨b',off'+i * 11+5,none⟩=some (.int .u64 (v3:Int))∧W.cell? ⟨b',off'+i * 11+6,none⟩=some (.int .i64 p3.kind)∧W.cell? ⟨b',off'+i * 11+7,none⟩=some (.int .u64 (p3.a:Int))∧W.cell? ⟨b',off'+i * 11+8,none⟩=some (.int .u64 (p3.b:Int))∧W.cell? ⟨b',off'+i * 11+9,none⟩=some (.slice p3.addr p3.parts.length p3.cap)∧W.cell? ⟨b',off'+i * 11+10,none⟩=some (.slice A3 es3.length c3))):=fun W hW=>⟨hcs W ((hW.block b (by omega)).trans hbb),(hcs' W (hrb.trans (hW.mono (by omega)))).2⟩
    have HSP:Hid (∀ W,Below wr.heap.size wr W→Calls Tryz.prog 30 #[.agg #[.int .i64 k2,.int .u64 (t2:Int),.int .u64 (x2:Int),.int .u64 (wn2:Int),.int .u64 (nn2:Int),.int .u64 (v2:Int),.int .i64 p2.kind,.int .u64 (p2.a:Int),.int .u64 (p2.b:Int),.slice p2.addr p2.parts.length p2.cap,.slice A2 es2.length c2]] W fun e w'=>e=.returned (.tuple #[])∧Hid (∃ m,B≤m∧Lain w' (Value.slice (some ⟨b,off,none⟩) n c).ownBlock w.heap.size m (rs.drop (i+1)))∧Hid (∀ k,(Value.slice (some ⟨b,off,none⟩) n c).ownBlock=some k→w'.heap[k]? = w.heap[k]?)∧Hid (Below B w w'∧w.heap.size≤w'.heap.size)):=fun W hW=>by
     have hW2:=hW.size
     have hle:=hrin.le
     refine (spoilrec6_any ⟨k2,t2,x2,wn2,nn2,v2,p2,A2,c2,es2⟩ W m1 m2 (hrin.keep hW2 fun k _ h2=>hW.block k (by omega)) hsm.1 (Nat.le_trans hsm.2 (by decide))).mono ?_
     rintro e w' ⟨rfl,hb2,hk2⟩
     have hs2:=hb2.size
     refine ⟨rfl,⟨m2,by omega,hLR.keep (by omega) fun k a1 a2 _=>(hk2 k a1 (by omega)).trans (hW.block k (by omega))⟩,fun k hk=>?_,⟨(hrb.trans (hW.mono (by omega))).trans (hb2.mono (by omega)),by omega⟩⟩
     rw [hob] at hk
     injection hk with hk
     subst hk
     refine Eq.trans ?_ ((hW.block b (by omega)).trans hbb)
     rcases hap b hob with h | h
     · exact hb2.block b h
     · exact hk2 b h (by omega)
    clear hcs hcs' hrin hLR hap hsm hrb hri hui hdr hln hrow hbb hob hla HNP HND HE HSM
    go_upto_region 6 with (fail)
    generalize p2.addr=pA2 at *
    generalize p2.parts.length=pn2 at *
    generalize p2.cap=pc2 at *
    generalize p2.kind=pk2 at *
    generalize (p2.a:Int)=pa2 at *
    generalize (p2.b:Int)=pb2 at *
    generalize p3.addr=pA3 at *
    generalize p3.parts.length=pn3 at *
    generalize p3.cap=pc3 at *
    generalize p3.kind=pk3 at *
    generalize (p3.a:Int)=pa3 at *
    generalize (p3.b:Int)=pb3 at *
    go_region_held3 (fun W=>(W.cell? ⟨b,off+i * 11,none⟩=some (.int .i64 k2)∧W.cell? ⟨b,off+i * 11+1,none⟩=some (.int .u64 (t2:Int))∧W.cell? ⟨b,off+i * 11+2,none⟩=some (.int .u64 (x2:Int))∧W.cell? ⟨b,off+i * 11+3,none⟩=some (.int .u64 (wn2:Int))∧W.cell? ⟨b,off+i * 11+4,none⟩=some (.int .u64 (nn2:Int))∧W.cell? ⟨b,off+i * 11+5,none⟩=some (.int .u64 (v2:Int))∧W.cell? ⟨b,off+i * 11+6,none⟩=some (.int .i64 pk2)∧W.cell? ⟨b,off+i * 11+7,none⟩=some (.int .u64 pa2)∧W.cell? ⟨b,off+i * 11+8,none⟩=some (.int .u64 pb2)∧W.cell? ⟨b,off+i * 11+9,none⟩=some (.slice pA2 pn2 pc2)∧W.cell? ⟨b,off+i * 11+10,none⟩=some (.slice A2 es2.length c2))∧(W.cell? ⟨b',off'+i * 11,none⟩=some (.int .i64 k3)∧W.cell? ⟨b',off'+i * 11+1,none⟩=some (.int .u64 (t3:Int))∧W.cell? ⟨b',off'+i * 11+2,none⟩=some (.int .u64 (x3:Int))∧W.cell? ⟨b',off'+i * 11+3,none⟩=some (.int .u64 (wn3:Int))∧W.cell? ⟨b',off'+i * 11+4,none⟩=some (.int .u64 (nn3:Int))∧W.cell? ⟨b',off'+i * 11+5,none⟩=some (.int .u64 (v3:Int))∧W.cell? ⟨b',off'+i * 11+6,none⟩=some (.int .i64 pk3)∧W.cell? ⟨b',off'+i * 11+7,none⟩=some (.int .u64 pa3)∧W.cell? ⟨b',off'+i * 11+8,none⟩=some (.int .u64 pb3)∧W.cell? ⟨b',off'+i * 11+9,none⟩=some (.slice pA3 pn3 pc3)∧W.cell? ⟨b',off'+i * 11+10,none⟩=some (.slice A3 es3.length c3)))
     (first | exact HB4.out _ (below_like4 (Below.refl _ _) rfl rfl rfl rfl) | exact HB4.out _ ka | exact HB4.out _ kb)
     ((first | (go_at_call 23; ((with_reducible refine (DR.out _ (by exact below_like4 (Below.refl _ _) rfl rfl rfl rfl)).mono ?_); rintro e wa ⟨uv,rfl,ks,ka⟩)) | (go_at_call 22; ((with_reducible refine (ks.out _ (Below.refl _ _)).mono ?_); rintro e wb ⟨rfl,kb⟩))))
    obtain ⟨⟨d0,d1,d2,d3,d4,d5,d6,d7,d8,d9,d10⟩,-⟩:=HB4.out _ kb
    go_wp2_with fail
    refine (HSP.out _ kb).mono ?_
    rintro e w5 ⟨rfl,q1,q2,q3⟩
    clear d0 d1 d2 d3 d4 d5 d6 d7 d8 d9 d10
    go_wp2
    go_roundw
    case rel=>exact ⟨i+1,by go_num,by omega,q1,q2,q3⟩
    case measure=>simp [intOf]; omega
  · obtain rfl:i=n:=by omega
    have HF:=Lib_hid hbw.out.1
    go_wp2
    go_ret
    exact ⟨rfl,HF.out⟩
end Go.Proofs.YtinmoknbgnngcaaGreatDoor
