/-
  Layer 6: which records are no trace; Encode, the program's. (Out of gen_wze.py.)
-/
import Derived.Test.YtinmoknbgnngcaaGreatDoorZwWzc
import Derived.Test.YtinmoknbgnngcaaGreatDoorZwVpw
import Derived.Test.YtinmoknbgnngcaaGreatDoorZwGet
import Derived.Test.YtinmoknbgnngcaaGreatDoorZwFpt
import Derived.Test.YtinmoknbgnngcaaGreatDoorZwVyc
import Derived.StillTailTactics
namespace Go.Proofs.YtinmoknbgnngcaaGreatDoor
open Go Go.RowKit
set_option linter.unusedVariables false
theorem Tryz.infoFR:(Tryz.prog.info? 92).map (fun i=>(i.zero,i.size,i.bytes))=some (some (.agg #[.int .u8 0,.slice none 0 0]),2,32):=by kernel_rfl
structure RecsA (w:World) (B:Nat) (A:Option Addr) (rs:List Rv):Prop where
 row:Rd w B 11 A rs.length (rvCells rs)
 each:∀ r∈rs,RLies w 0 B r
theorem rvCells_get:∀ (l:List Rv) (i j:Nat) (r:Rv),l[i]? = some r→j<11→(rvCells l)[i * 11+j]? = r.arr[j]?
 | [],i,j,r,h,_=>by simp at h
 | r :: l,0,j,q,h,hj=>by
  obtain rfl:r=q:=by simpa using h
  show (r.arr.toList ++ rvCells l)[0 * 11+j]? = _
  rw [List.getElem?_append_left (by simp [Rv.arr]; omega)]
  simp
 | r :: l,i+1,j,q,h,hj=>by
  have h':l[i]? = some q:=by simpa using h
  show (r.arr.toList ++ rvCells l)[(i+1) * 11+j]? = _
  have e:r.arr.toList.length=11:=by simp [Rv.arr]
  rw [List.getElem?_append_right (by rw [e]; omega),e,show (i+1) * 11+j - 11=i * 11+j by omega]
  exact rvCells_get l i j q h' hj
section
variable {w w':World} {B i:Nat} {A:Option Addr} {rs:List Rv}
theorem RecsA.below (h:RecsA w B A rs) (hb:Below B w w'):RecsA w' B A rs:=⟨h.row.below hb,fun r hr=>(h.each r hr).under hb⟩
theorem RecsA.nth (h:RecsA w B A rs) (hi:i<rs.length):∃ (b off:Nat) (k2:Int) (t2 x2 wn2 nn2 v2:Nat) (p2:V) (A2:Option Addr) (c2:Nat) (es2:List En),A=some ⟨b,off,none⟩∧rs[i]? = some ⟨k2,t2,x2,wn2,nn2,v2,p2,A2,c2,es2⟩∧
 ∀ W,Below B w W→RLies W 0 B ⟨k2,t2,x2,wn2,nn2,v2,p2,A2,c2,es2⟩∧W.cell? ⟨b,off+i * 11,none⟩=some (.int .i64 k2)∧W.cell? ⟨b,off+i * 11+1,none⟩=some (.int .u64 (t2:Int))∧W.cell? ⟨b,off+i * 11+2,none⟩=some (.int .u64 (x2:Int))∧W.cell? ⟨b,off+i * 11+3,none⟩=some (.int .u64 (wn2:Int))∧W.cell? ⟨b,off+i * 11+4,none⟩=some (.int .u64 (nn2:Int))∧W.cell? ⟨b,off+i * 11+5,none⟩=some (.int .u64 (v2:Int))∧W.cell? ⟨b,off+i * 11+6,none⟩=some (.int .i64 p2.kind)∧W.cell? ⟨b,off+i * 11+7,none⟩=some (.int .u64 (p2.a:Int))∧W.cell? ⟨b,off+i * 11+8,none⟩=some (.int .u64 (p2.b:Int))∧W.cell? ⟨b,off+i * 11+9,none⟩=some (.slice p2.addr p2.parts.length p2.cap)∧W.cell? ⟨b,off+i * 11+10,none⟩=some (.slice A2 es2.length c2):=by
 have hx:rs[i]? = some rs[i]:=List.getElem?_eq_getElem hi
 obtain ⟨⟨b,off,spot⟩,e,hb,hc⟩:=h.row.lies (by omega)
 have hspot:spot=none:=by
  have h0:rs[0]? = some (rs[0]'(by omega)):=List.getElem?_eq_getElem (by omega)
  exact World.cell?_spot (a:=⟨b,off,spot⟩) (hc 0 (.int .i64 (rs[0]'(by omega)).kind) ((rvCells_get rs 0 0 _ h0 (by omega)).trans rfl))
 subst hspot
 obtain ⟨r,hr⟩:∃ r,rs[i]=r:=⟨_,rfl⟩
 rw [hr] at hx
 have hm:=h.each r (List.mem_of_getElem? hx)
 obtain ⟨k2,t2,x2,wn2,nn2,v2,p2,A2,c2,es2⟩:=r
 refine ⟨b,off,k2,t2,x2,wn2,nn2,v2,p2,A2,c2,es2,e,hx,fun W hW=>⟨hm.under hW,?_⟩⟩
 have key:∀ j u,j<11→(Rv.arr ⟨k2,t2,x2,wn2,nn2,v2,p2,A2,c2,es2⟩)[j]? = some u→W.cell? ⟨b,off+i * 11+j,none⟩=some u:=fun j u hj hu=>by
  have:=hc (i * 11+j) u ((rvCells_get rs i j _ hx hj).trans hu)
  rw [show (⟨b,off,none⟩:Addr).add (i * 11+j)=⟨b,off+i * 11+j,none⟩ by unfold Addr.add; split <;> simp_all <;> omega] at this
  exact (World.cell?_of_block (hW.block b hb)).trans this
 exact ⟨key 0 _ (by omega) rfl,key 1 _ (by omega) rfl,key 2 _ (by omega) rfl,key 3 _ (by omega) rfl,key 4 _ (by omega) rfl,key 5 _ (by omega) rfl,key 6 _ (by omega) rfl,key 7 _ (by omega) rfl,key 8 _ (by omega) rfl,key 9 _ (by omega) rfl,key 10 _ (by omega) rfl⟩
end
def faultN (rs:List Rv):Nat:=if rs.all (fun r=>r.abs.rightB) then 0 else 50
set_option maxRecDepth 100000 in
set_option maxHeartbeats 3200000 in
theorem fault6_any (B n c:Nat) (A:Option Addr) (rs:List Rv) (w:World) (h:RecsA w B A rs) (hB:B≤w.heap.size) (hn:n=rs.length) (hl:n≤65536) :
 Calls Tryz.prog 36 #[.slice A n c] w fun e w'=>e=.returned (.int .i64 (faultN rs:Int))∧Below w.heap.size w w':=by
 have HNTH:Hid (∀ i,i<n→∃ (b off:Nat) (k2:Int) (t2 x2 wn2 nn2 v2:Nat) (p2:V) (A2:Option Addr) (c2:Nat) (es2:List En),A=some ⟨b,off,none⟩∧rs[i]? = some ⟨k2,t2,x2,wn2,nn2,v2,p2,A2,c2,es2⟩∧
  ∀ W,Below w.heap.size w W→RLies W 0 B ⟨k2,t2,x2,wn2,nn2,v2,p2,A2,c2,es2⟩∧W.cell? ⟨b,off+i * 11,none⟩=some (.int .i64 k2)∧W.cell? ⟨b,off+i * 11+1,none⟩=some (.int .u64 (t2:Int))∧W.cell? ⟨b,off+i * 11+2,none⟩=some (.int .u64 (x2:Int))∧W.cell? ⟨b,off+i * 11+3,none⟩=some (.int .u64 (wn2:Int))∧W.cell? ⟨b,off+i * 11+4,none⟩=some (.int .u64 (nn2:Int))∧W.cell? ⟨b,off+i * 11+5,none⟩=some (.int .u64 (v2:Int))∧W.cell? ⟨b,off+i * 11+6,none⟩=some (.int .i64 p2.kind)∧W.cell? ⟨b,off+i * 11+7,none⟩=some (.int .u64 (p2.a:Int))∧W.cell? ⟨b,off+i * 11+8,none⟩=some (.int .u64 (p2.b:Int))∧W.cell? ⟨b,off+i * 11+9,none⟩=some (.slice p2.addr p2.parts.length p2.cap)∧W.cell? ⟨b,off+i * 11+10,none⟩=some (.slice A2 es2.length c2)):=fun i hi=>by
  obtain ⟨b,off,k2,t2,x2,wn2,nn2,v2,p2,A2,c2,es2,e1,e2,e3⟩:=h.nth (show i<rs.length by omega)
  exact ⟨b,off,k2,t2,x2,wn2,nn2,v2,p2,A2,c2,es2,e1,e2,fun W hW=>e3 W (hW.mono hB)⟩
 have HN:=Lib_hid hn
 have q0:¬ (65536:Int)<(n:Int):=by omega
 clear h hn
 go_enter Tryz.func36,Tryz.ntmps36
 go_wp2
 go_loopw [10] (fun z wr=>∃ i:Nat,z=.int .i64 i∧i≤n∧Hid (∀ j r,j<i→rs[j]? = some r→r.abs.rightB=true)∧Below w.heap.size w wr) (fun z _=>n - (intOf z).toNat)
 case atStart=>exact ⟨0,rfl,Nat.zero_le _,fun j r hj=>by omega,Below.refl _ _⟩
 case round=>
  obtain ⟨i,rfl,hi,hall,hbw⟩:=hrel
  by_cases hlt:i<n
  · have hli:(i:Int)<(n:Int):=by omega
    obtain ⟨b,off,k2,t2,x2,wn2,nn2,v2,p2,A2,c2,es2,rfl,hri,hcs⟩:=HNTH.out i hlt
    obtain ⟨hL,d0,d1,d2,d3,d4,d5,d6,d7,d8,d9,d10⟩:=hcs wr hbw
    have hq:=heap_alloc_new wr (.cells #[.int .i64 k2,.int .u64 (t2:Int),.int .u64 (x2:Int),.int .u64 (wn2:Int),.int .u64 (nn2:Int),.int .u64 (v2:Int),.int .i64 p2.kind,.int .u64 (p2.a:Int),.int .u64 (p2.b:Int),.slice p2.addr p2.parts.length p2.cap,.slice A2 es2.length c2] 68)
    have hb1:=below_new wr (.cells #[.int .i64 k2,.int .u64 (t2:Int),.int .u64 (x2:Int),.int .u64 (wn2:Int),.int .u64 (nn2:Int),.int .u64 (v2:Int),.int .i64 p2.kind,.int .u64 (p2.a:Int),.int .u64 (p2.b:Int),.slice p2.addr p2.parts.length p2.cap,.slice A2 es2.length c2] 68)
    have RG:=right5_any ⟨k2,t2,x2,wn2,nn2,v2,p2,A2,c2,es2⟩ (wr.alloc (.cells #[.int .i64 k2,.int .u64 (t2:Int),.int .u64 (x2:Int),.int .u64 (wn2:Int),.int .u64 (nn2:Int),.int .u64 (v2:Int),.int .i64 p2.kind,.int .u64 (p2.a:Int),.int .u64 (p2.b:Int),.slice p2.addr p2.parts.length p2.cap,.slice A2 es2.length c2] 68)) 0 B (hL.under (hb1.mono (Nat.le_trans hB hbw.size))) (by have:=hbw.size; simp; omega)
    have RG:Calls Tryz.prog 67 #[.agg #[.int .i64 k2,.int .u64 (t2:Int),.int .u64 (x2:Int),.int .u64 (wn2:Int),.int .u64 (nn2:Int),.int .u64 (v2:Int),.int .i64 p2.kind,.int .u64 (p2.a:Int),.int .u64 (p2.b:Int),.slice p2.addr p2.parts.length p2.cap,.slice A2 es2.length c2]] (wr.alloc (.cells #[.int .i64 k2,.int .u64 (t2:Int),.int .u64 (x2:Int),.int .u64 (wn2:Int),.int .u64 (nn2:Int),.int .u64 (v2:Int),.int .i64 p2.kind,.int .u64 (p2.a:Int),.int .u64 (p2.b:Int),.slice p2.addr p2.parts.length p2.cap,.slice A2 es2.length c2] 68)) fun e w'=>e=.returned (.bool (Rc.rightB (Rv.abs ⟨k2,t2,x2,wn2,nn2,v2,p2,A2,c2,es2⟩)))∧Below (wr.alloc (.cells #[.int .i64 k2,.int .u64 (t2:Int),.int .u64 (x2:Int),.int .u64 (wn2:Int),.int .u64 (nn2:Int),.int .u64 (v2:Int),.int .i64 p2.kind,.int .u64 (p2.a:Int),.int .u64 (p2.b:Int),.slice p2.addr p2.parts.length p2.cap,.slice A2 es2.length c2] 68)).heap.size (wr.alloc (.cells #[.int .i64 k2,.int .u64 (t2:Int),.int .u64 (x2:Int),.int .u64 (wn2:Int),.int .u64 (nn2:Int),.int .u64 (v2:Int),.int .i64 p2.kind,.int .u64 (p2.a:Int),.int .u64 (p2.b:Int),.slice p2.addr p2.parts.length p2.cap,.slice A2 es2.length c2] 68)) w':=RG
    have HBW1:=Lib_hid (hbw.trans (hb1.mono hbw.size))
    obtain ⟨rb,hrb⟩:∃ rb,Rc.rightB (Rv.abs ⟨k2,t2,x2,wn2,nn2,v2,p2,A2,c2,es2⟩)=rb:=⟨_,rfl⟩
    rw [hrb] at RG
    have HRB:=Lib_hid hrb
    have HRI:=Lib_hid hri
    clear hL hcs hri hrb hb1 hbw
    go_upto_region 6 with (fail)
    clear d0 d1 d2 d3 d4 d5 d6 d7 d8 d9 d10
    generalize wr.alloc (.cells #[.int .i64 k2,.int .u64 (t2:Int),.int .u64 (x2:Int),.int .u64 (wn2:Int),.int .u64 (nn2:Int),.int .u64 (v2:Int),.int .i64 p2.kind,.int .u64 (p2.a:Int),.int .u64 (p2.b:Int),.slice p2.addr p2.parts.length p2.cap,.slice A2 es2.length c2] 68)=w2 at *
    obtain ⟨e0,e1,e2,e3,e4,e5,e6,e7,e8,e9,e10⟩:=rec_cells hq
    go_wp2_with fail
    refine RG.mono ?_
    rintro e w3 ⟨rfl,hb3⟩
    have HB3:=Lib_hid (HBW1.out.trans (hb3.mono HBW1.out.size))
    clear RG hb3 hq e0 e1 e2 e3 e4 e5 e6 e7 e8 e9 e10
    cases rb with
    | false=>
     have HF:Hid (faultN rs=50):=by
      unfold Hid faultN
      rw [if_neg]
      intro h
      have:=List.all_eq_true.1 h _ (List.mem_of_getElem? HRI.out)
      rw [HRB.out] at this
      cases this
     go_wp2
     go_ret
     exact ⟨by rw [HF.out]; rfl,HB3.out⟩
    | true=>
     have HA:Hid (∀ j r,j<i+1→rs[j]? = some r→r.abs.rightB=true):=fun j r hj hr=>by
      by_cases e:j=i
      · subst e
        have h2:=HRI.out.symm.trans hr
        injection h2 with h2
        rw [← h2]; exact HRB.out
      · exact hall.out j r (by omega) hr
     go_wp2
     go_roundw
     case rel=>exact ⟨i+1,by go_num,by omega,HA,HB3.out⟩
     case measure=>simp [intOf]; omega
  · obtain rfl:i=n:=by omega
    have HF:Hid (faultN rs=0):=by
     unfold Hid faultN
     rw [if_pos]
     refine List.all_eq_true.2 fun r hr=>?_
     obtain ⟨j,hj,he⟩:=List.mem_iff_getElem.1 hr
     exact hall.out j r (by have:=HN.out; omega) (by rw [List.getElem?_eq_getElem hj,he])
    go_wp2
    go_ret
    exact ⟨by rw [HF.out]; rfl,hbw⟩
theorem own_apart {w:World} {b b' s s' n n':Nat} {e e':TypeId} {v v':Value} {xs xs':List Value} (h:w.ownsRow b e s v n xs) (h':w.ownsRow b' e' s' v' n' xs') (hne:e≠e') {k:Nat} (hk:v.ownBlock=some k):v'.ownBlock≠some k:=by
 intro hv
 rcases h.2 with ⟨rfl,_⟩ | ⟨j,cap,cur,rfl,_,hh,_⟩
 · simp [Value.ownBlock] at hk
 · rcases h'.2 with ⟨rfl,_⟩ | ⟨j',cap',cur',rfl,_,hh',_⟩
   · simp [Value.ownBlock] at hv
   · have e1:j=k:=by simpa [Value.ownBlock] using hk
     have e2:j'=k:=by simpa [Value.ownBlock] using hv
     subst e1
     subst e2
     rw [hh] at hh'
     injection hh' with hh'
     injection hh' with _ h2
     exact hne h2
def FrP (w:World) (B:Nat) (fs:List FrV) (ds:List (Nat×List Nat)):Prop:=
 fs.length=ds.length∧∀ (i:Nat) (f:FrV) (d:Nat×List Nat),fs[i]? = some f→ds[i]? = some d→f.k=d.1∧d.1<256∧(∀ x∈d.2,x<256)∧f.n=d.2.length∧w.ownsRow B 5 1 (.slice f.A f.n f.c) f.n (bs d.2)
section
variable {w w':World} {B B':Nat} {fs:List FrV} {ds:List (Nat×List Nat)}
theorem FrP.below (h:FrP w B fs ds) (hb:Below w.heap.size w w'):FrP w' B fs ds:=
 ⟨h.1,fun i f d a b=>let ⟨c1,c2,c3,c4,c5⟩:=h.2 i f d a b; ⟨c1,c2,c3,c4,own_below c5 hb (own_lt c5)⟩⟩
theorem FrP.grown {v:Value} {n:Nat} {xs:List Value} (h:FrP w B fs ds) (hv:w.ownsRow B' 92 2 v n xs) (hg:w.grownBy w' v.ownBlock):FrP w' B fs ds:=
 ⟨h.1,fun i f d a b=>let ⟨c1,c2,c3,c4,c5⟩:=h.2 i f d a b; ⟨c1,c2,c3,c4,own_keep c5 fun k hk=>hg.block k (own_lt c5 k hk) (fun e=>own_apart c5 hv (by decide) hk e.symm)⟩⟩
theorem FrP.push (h:FrP w B fs ds) {f:FrV} {d:Nat×List Nat} (hf:f.k=d.1∧d.1<256∧(∀ x∈d.2,x<256)∧f.n=d.2.length∧w.ownsRow B 5 1 (.slice f.A f.n f.c) f.n (bs d.2)):FrP w B (fs ++ [f]) (ds ++ [d]):=by
 refine ⟨by simp [h.1],fun i g e a b=>?_⟩
 by_cases hi:i<fs.length
 · rw [List.getElem?_append_left hi] at a
   rw [List.getElem?_append_left (by rw [← h.1]; exact hi)] at b
   exact h.2 i g e a b
 · rw [List.getElem?_append_right (by omega)] at a
   rw [List.getElem?_append_right (by rw [← h.1]; omega),← h.1] at b
   have h0:i - fs.length=0:=by
    rcases Nat.eq_zero_or_pos (i - fs.length) with h | h
    · exact h
    · rw [List.getElem?_eq_none (by simp; omega)] at a; cases a
   rw [h0] at a b
   injection a with a
   injection b with b
   subst a b
   exact hf
theorem FrP.row (h:FrP w B fs ds):FrRow w w.heap.size fs ds:=
 ⟨h.1,fun i f d a b=>let ⟨c1,c2,c3,c4,c5⟩:=h.2 i f d a b; ⟨c1,c2,Rd.own c5,c3,own_cap c5⟩⟩
end
theorem frAll_bound:∀ ds:List (Nat×List Nat),(∀ d∈ds,d.2.length≤20000)→(frAll ds).length≤20100 * ds.length
 | [],_=>by simp [frAll]
 | d :: ds,h=>by
  have h1:=h d (by simp)
  have h2:=frAll_bound ds fun e he=>h e (by simp [he])
  have h3:=enc_ten (v:=d.2.length) (by omega)
  show (frS d.1 d.2 ++ frAll ds).length≤_
  rw [List.length_append,frS_length,List.length_cons]
  omega
theorem stand_few {w:World} {lo hi:Nat} {r:Rv} (h:RLies w lo hi r) (hl:r.es.length≤100):r.abs.stand.length≤20000:=by
 have key:∀ l:List Nat,(r.abs.standN l).length≤3300 * l.length:=by
  intro l
  induction l with
  | nil=>simp [Rc.standN]
  | cons j l ih=>
   have:=standP_len h hl j
   show (r.abs.standP j ++ r.abs.standN l).length≤_
   rw [List.length_append,List.length_cons]
   omega
 have h1:=key (partsN r.kind 6)
 have h2:=partsN_le r.kind 6
 show (r.abs.standN (partsN r.kind 6)).length≤_
 omega
def frR (r:Rv):Nat×List Nat:=(r.kind.toNat,r.abs.stand)
def EncEnd (rs:List Rv) (w:World) (e:Ending) (w':World):Prop:=
 Below w.heap.size w w'∧(faultN rs=0→∃ A c,e=.returned (.tuple #[.slice A (frAll (rs.map frR)).length c,.int .i64 0])∧w'.ownsRow w.heap.size 5 1 (.slice A (frAll (rs.map frR)).length c) (frAll (rs.map frR)).length (bs (frAll (rs.map frR))))∧
  (faultN rs≠0→e=.returned (.tuple #[.slice none 0 0,.int .i64 50]))
set_option maxRecDepth 100000 in
set_option maxHeartbeats 6400000 in
theorem encode6_any (B n c:Nat) (A:Option Addr) (rs:List Rv) (w:World) (h:RecsA w B A rs) (hB:B≤w.heap.size) (hn:n=rs.length) (hl:n≤1000) (hes:∀ r∈rs,r.es.length≤100) (hT:Tab w) :
 Calls Tryz.prog 19 #[.slice A n c] w (EncEnd rs w):=by
 obtain ⟨i0,hi0,hz0,hz1,hz2⟩:=info_parts Tryz.infoFR
 have FA:=fault6_any B n c A rs w h hB hn (by omega)
 have HNTH:Hid (∀ i,i<n→∃ (b off:Nat) (k2:Int) (t2 x2 wn2 nn2 v2:Nat) (p2:V) (A2:Option Addr) (c2:Nat) (es2:List En),A=some ⟨b,off,none⟩∧rs[i]? = some ⟨k2,t2,x2,wn2,nn2,v2,p2,A2,c2,es2⟩∧
  ∀ W,Below w.heap.size w W→RLies W 0 B ⟨k2,t2,x2,wn2,nn2,v2,p2,A2,c2,es2⟩∧W.cell? ⟨b,off+i * 11,none⟩=some (.int .i64 k2)∧W.cell? ⟨b,off+i * 11+1,none⟩=some (.int .u64 (t2:Int))∧W.cell? ⟨b,off+i * 11+2,none⟩=some (.int .u64 (x2:Int))∧W.cell? ⟨b,off+i * 11+3,none⟩=some (.int .u64 (wn2:Int))∧W.cell? ⟨b,off+i * 11+4,none⟩=some (.int .u64 (nn2:Int))∧W.cell? ⟨b,off+i * 11+5,none⟩=some (.int .u64 (v2:Int))∧W.cell? ⟨b,off+i * 11+6,none⟩=some (.int .i64 p2.kind)∧W.cell? ⟨b,off+i * 11+7,none⟩=some (.int .u64 (p2.a:Int))∧W.cell? ⟨b,off+i * 11+8,none⟩=some (.int .u64 (p2.b:Int))∧W.cell? ⟨b,off+i * 11+9,none⟩=some (.slice p2.addr p2.parts.length p2.cap)∧W.cell? ⟨b,off+i * 11+10,none⟩=some (.slice A2 es2.length c2)):=fun i hi=>by
  obtain ⟨b,off,k2,t2,x2,wn2,nn2,v2,p2,A2,c2,es2,e1,e2,e3⟩:=h.nth (show i<rs.length by omega)
  exact ⟨b,off,k2,t2,x2,wn2,nn2,v2,p2,A2,c2,es2,e1,e2,fun W hW=>e3 W (hW.mono hB)⟩
 have HN:=Lib_hid hn
 have HES:=Lib_hid hes
 have HTB:=Lib_hid hT
 have HST:Hid (∀ r∈rs,r.abs.stand.length≤20000):=fun r hr=>stand_few (h.each r hr) (hes r hr)
 clear h hn hes hT
 go_enter Tryz.func19,Tryz.ntmps19
 go_wp2_with fail
 refine FA.mono ?_
 rintro e w1 ⟨rfl,hb1⟩
 clear FA
 by_cases hf:faultN rs=0
 rotate_left
 · have hf50:faultN rs=50:=by
    unfold faultN at hf ⊢
    split at hf
    · exact absurd rfl hf
    · rename_i hh
      rw [if_neg hh]
   have HF:=Lib_hid hf
   rw [hf50]
   clear hf hf50
   go_wp2
   exact bodyPost_ret (v:=.tuple #[.slice none 0 0,.int .i64 50]) (by simp [results,Tryz.results19,go_sem]) rfl ⟨hb1,fun h=>absurd h HF.out,fun _=>rfl⟩
 · have HF:=Lib_hid hf
   rw [hf]
   clear hf
   go_wp2
   go_loopw [5,17] (fun fv z wr=>∃ (i n' c':Nat) (A':Option Addr) (fs:List FrV),fv=.slice A' n' c'∧z=.int .i64 i∧i≤n∧Hid (n'=fs.length∧n'=i)∧wr.ownsRow w.heap.size 92 2 (.slice A' n' c') n' (frCells fs)∧Hid (FrP wr w.heap.size fs ((rs.take i).map frR))∧Hid (Below w.heap.size w wr)) (fun _ z _=>n - (intOf z).toNat)
   case atStart=>exact ⟨0,0,0,none,[],rfl,rfl,Nat.zero_le _,⟨rfl,rfl⟩,World.ownsRow_nil _ _ _ _,⟨rfl,fun i f d a=>by simp at a⟩,hb1⟩
   case round=>
    clear hb1
    obtain ⟨i,n',c',A',fs,rfl,rfl,hi,hnn,hown,hP,hbw⟩:=hrel
    by_cases hlt:i<n
    · have hli:(i:Int)<(n:Int):=by omega
      obtain ⟨b,off,k2,t2,x2,wn2,nn2,v2,p2,A2,c2,es2,rfl,hri,hcs⟩:=HNTH.out i hlt
      obtain ⟨hL,d0,d1,d2,d3,d4,d5,d6,d7,d8,d9,d10⟩:=hcs wr hbw.out
      have hq:=heap_alloc_new wr (.cells #[.int .i64 k2,.int .u64 (t2:Int),.int .u64 (x2:Int),.int .u64 (wn2:Int),.int .u64 (nn2:Int),.int .u64 (v2:Int),.int .i64 p2.kind,.int .u64 (p2.a:Int),.int .u64 (p2.b:Int),.slice p2.addr p2.parts.length p2.cap,.slice A2 es2.length c2] 68)
      have hb1:=below_new wr (.cells #[.int .i64 k2,.int .u64 (t2:Int),.int .u64 (x2:Int),.int .u64 (wn2:Int),.int .u64 (nn2:Int),.int .u64 (v2:Int),.int .i64 p2.kind,.int .u64 (p2.a:Int),.int .u64 (p2.b:Int),.slice p2.addr p2.parts.length p2.cap,.slice A2 es2.length c2] 68)
      have hbs:=hbw.out.size
      have hrt:Rc.rightB (Rv.abs ⟨k2,t2,x2,wn2,nn2,v2,p2,A2,c2,es2⟩)=true:=by
       have h:=HF.out
       unfold faultN at h
       split at h
       · rename_i hh
         exact List.all_eq_true.1 hh _ (List.mem_of_getElem? hri)
       · cases h
      have hk17:1≤k2∧k2≤7:=(right_shape hrt).1
      have hkk:((k2.toNat:Nat):Int)=k2:=by omega
      have PU:Calls Tryz.prog 37 #[.agg #[.int .i64 k2,.int .u64 (t2:Int),.int .u64 (x2:Int),.int .u64 (wn2:Int),.int .u64 (nn2:Int),.int .u64 (v2:Int),.int .i64 p2.kind,.int .u64 (p2.a:Int),.int .u64 (p2.b:Int),.slice p2.addr p2.parts.length p2.cap,.slice A2 es2.length c2]] (wr.alloc (.cells #[.int .i64 k2,.int .u64 (t2:Int),.int .u64 (x2:Int),.int .u64 (wn2:Int),.int .u64 (nn2:Int),.int .u64 (v2:Int),.int .i64 p2.kind,.int .u64 (p2.a:Int),.int .u64 (p2.b:Int),.slice p2.addr p2.parts.length p2.cap,.slice A2 es2.length c2] 68)) fun e w'=>∃ Ap cp,e=.returned (.tuple #[.agg #[.int .u8 k2,.slice Ap (Rc.stand (Rv.abs ⟨k2,t2,x2,wn2,nn2,v2,p2,A2,c2,es2⟩)).length cp],.int .i64 0])∧w'.ownsRow (wr.alloc (.cells #[.int .i64 k2,.int .u64 (t2:Int),.int .u64 (x2:Int),.int .u64 (wn2:Int),.int .u64 (nn2:Int),.int .u64 (v2:Int),.int .i64 p2.kind,.int .u64 (p2.a:Int),.int .u64 (p2.b:Int),.slice p2.addr p2.parts.length p2.cap,.slice A2 es2.length c2] 68)).heap.size 5 1 (.slice Ap (Rc.stand (Rv.abs ⟨k2,t2,x2,wn2,nn2,v2,p2,A2,c2,es2⟩)).length cp) (Rc.stand (Rv.abs ⟨k2,t2,x2,wn2,nn2,v2,p2,A2,c2,es2⟩)).length (bs (Rc.stand (Rv.abs ⟨k2,t2,x2,wn2,nn2,v2,p2,A2,c2,es2⟩)))∧Below (wr.alloc (.cells #[.int .i64 k2,.int .u64 (t2:Int),.int .u64 (x2:Int),.int .u64 (wn2:Int),.int .u64 (nn2:Int),.int .u64 (v2:Int),.int .i64 p2.kind,.int .u64 (p2.a:Int),.int .u64 (p2.b:Int),.slice p2.addr p2.parts.length p2.cap,.slice A2 es2.length c2] 68)).heap.size (wr.alloc (.cells #[.int .i64 k2,.int .u64 (t2:Int),.int .u64 (x2:Int),.int .u64 (wn2:Int),.int .u64 (nn2:Int),.int .u64 (v2:Int),.int .i64 p2.kind,.int .u64 (p2.a:Int),.int .u64 (p2.b:Int),.slice p2.addr p2.parts.length p2.cap,.slice A2 es2.length c2] 68)) w':=by
       have h:=rput5_any ⟨k2,t2,x2,wn2,nn2,v2,p2,A2,c2,es2⟩ (wr.alloc (.cells #[.int .i64 k2,.int .u64 (t2:Int),.int .u64 (x2:Int),.int .u64 (wn2:Int),.int .u64 (nn2:Int),.int .u64 (v2:Int),.int .i64 p2.kind,.int .u64 (p2.a:Int),.int .u64 (p2.b:Int),.slice p2.addr p2.parts.length p2.cap,.slice A2 es2.length c2] 68)) 0 B (hL.under (hb1.mono (by omega))) (by simp; omega) (HES.out _ (List.mem_of_getElem? hri))
       exact h.mono fun e w' h=>let ⟨Ap,cp,h1,h2⟩:=h.2.2 hrt; ⟨Ap,cp,h1,h2,h.1⟩
      have HFR:Hid ((rs.take (i+1)).map frR=(rs.take i).map frR ++ [(k2.toNat,Rc.stand (Rv.abs ⟨k2,t2,x2,wn2,nn2,v2,p2,A2,c2,es2⟩))]):=by
       unfold Hid
       rw [take_one hri,List.map_append]
       rfl
      have HB8:Hid (k2.toNat<256∧∀ x∈Rc.stand (Rv.abs ⟨k2,t2,x2,wn2,nn2,v2,p2,A2,c2,es2⟩),x<256):=⟨by omega,stand_byteR _⟩
      have HKK:=Lib_hid hkk
      have HOW:=Lib_hid (own_below hown hb1 (own_lt hown))
      have HP1:=Lib_hid (hP.out.below hb1)
      have HBW1:=Lib_hid (hbw.out.trans (hb1.mono hbs))
      clear hL hcs hb1 hrt hk17 hkk hri hown hP hbw
      generalize Rc.stand (Rv.abs ⟨k2,t2,x2,wn2,nn2,v2,p2,A2,c2,es2⟩)=sd at *
      go_upto_region 8 with (fail)
      clear d0 d1 d2 d3 d4 d5 d6 d7 d8 d9 d10
      have hs2:w.heap.size≤(wr.alloc (.cells #[.int .i64 k2,.int .u64 (t2:Int),.int .u64 (x2:Int),.int .u64 (wn2:Int),.int .u64 (nn2:Int),.int .u64 (v2:Int),.int .i64 p2.kind,.int .u64 (p2.a:Int),.int .u64 (p2.b:Int),.slice p2.addr p2.parts.length p2.cap,.slice A2 es2.length c2] 68)).heap.size:=HBW1.out.size
      generalize wr.alloc (.cells #[.int .i64 k2,.int .u64 (t2:Int),.int .u64 (x2:Int),.int .u64 (wn2:Int),.int .u64 (nn2:Int),.int .u64 (v2:Int),.int .i64 p2.kind,.int .u64 (p2.a:Int),.int .u64 (p2.b:Int),.slice p2.addr p2.parts.length p2.cap,.slice A2 es2.length c2] 68)=w2 at *
      obtain ⟨e0,e1,e2,e3,e4,e5,e6,e7,e8,e9,e10⟩:=rec_cells hq
      go_wp2_with fail
      refine PU.mono ?_
      rintro e w3 ⟨Ap,cp,rfl,ho3,hb3⟩
      have hq4:=heap_alloc_new w3 (.cells #[.int .u8 k2,.slice Ap sd.length cp] 92)
      have hb4:=below_new w3 (.cells #[.int .u8 k2,.slice Ap sd.length cp] 92)
      have hb24:=hb3.trans (hb4.mono hb3.size)
      have HOW4:=Lib_hid (own_below HOW.out hb24 (own_lt HOW.out))
      have HP4:=Lib_hid (HP1.out.below hb24)
      have HPY4:=Lib_hid (own_base (b':=w.heap.size) (own_below ho3 hb4 (own_lt ho3)) (fun k hk=>by have:=own_ge ho3 k hk; omega))
      have HBW4:=Lib_hid (HBW1.out.trans (hb24.mono hs2))
      clear PU hb3 hb4 hb24 ho3 hq e0 e1 e2 e3 e4 e5 e6 e7 e8 e9 e10 HOW HP1 HBW1
      go_upto_region 9 with (fail)
      generalize w3.alloc (.cells #[.int .u8 k2,.slice Ap sd.length cp] 92)=w4 at *
      have f0:w4.cell? ⟨w3.heap.size,0,none⟩=some (.int .u8 k2):=cell_of_row _ _ 0 _ _ _ hq4
      have f1:w4.cell? ⟨w3.heap.size,1,none⟩=some (.slice Ap sd.length cp):=cell_of_row _ _ 1 _ _ _ hq4
      have hb5:=below_new w4 (.cells #[.int .u8 k2,.slice Ap sd.length cp] 92)
      have hr5:=rd_row (size:=2) (n:=1) (l:=[.int .u8 k2,.slice Ap sd.length cp]) (heap_alloc_new w4 (.cells #[.int .u8 k2,.slice Ap sd.length cp] 92)) rfl
      have ho5:=own_below HOW4.out hb5 (own_lt HOW4.out)
      have HO5:=Lib_hid ho5
      have HP5:=Lib_hid (HP4.out.below hb5)
      have HPY5:=Lib_hid (own_below HPY4.out hb5 (own_lt HPY4.out))
      have HBW5:=Lib_hid (HBW4.out.trans (hb5.mono HBW4.out.size))
      have hs5:=HBW5.out.size
      have h1c:∀ u∈([.int .u8 k2,.slice Ap sd.length cp]:List Value),u.oneCell'=true:=by
       intro u hu
       simp only [List.mem_cons,List.not_mem_nil,or_false] at hu
       rcases hu with rfl | rfl <;> rfl
      have hm1:n'+1≤maxLen:=by have:=hnn.out.2; unfold maxLen; omega
      have hm2:(n'+1) * 32≤140737488355328:=by have:=hnn.out.2; omega
      clear hb5 hq4 HOW4 HP4 HPY4 HBW4
      go_wp2_with (at_builtin; (refine wpList_app rfl _ _ 106 rfl w.heap.size 92 i0 (.agg #[.int .u8 0,.slice none 0 0]) 2 32 Tryz.underlying106 hi0 hz0 hz1 hz2 rfl (by decide) (.slice A' n' c') n' _ rfl ho5 _ _ 1 1 _ rfl hr5 h1c hm1 hm2 hs5 ?_); intro v' w6 hown' hst; obtain ⟨A7,c7,rfl,_⟩:=own_form hown')
      go_roundw
      case rel=>
       have hfc:frCells (fs ++ [⟨k2.toNat,Ap,sd.length,cp⟩])=frCells fs ++ [.int .u8 k2,.slice Ap sd.length cp]:=by
        simp [frCells,FrV.cells,HKK.out]
       have hpp:FrP w6 w.heap.size (fs ++ [⟨k2.toNat,Ap,sd.length,cp⟩]) ((rs.take i).map frR ++ [(k2.toNat,sd)]):=
        (HP5.out.grown HO5.out hst.grow).push ⟨rfl,HB8.out.1,HB8.out.2,rfl,own_keep HPY5.out fun k hk=>hst.grow.block k (own_lt HPY5.out k hk) (fun e=>own_apart HPY5.out HO5.out (by decide) hk e.symm)⟩
       refine ⟨i+1,n'+1,c7,A7,fs ++ [⟨k2.toNat,Ap,sd.length,cp⟩],rfl,by go_num,by omega,⟨by rw [List.length_append,← hnn.out.1]; rfl,by rw [hnn.out.2]⟩,by rw [hfc]; exact hown',by unfold Hid; rw [HFR.out]; exact hpp,?_⟩
       exact HBW5.out.grown hst.grow HBW5.out.size (fun k hk=>by have:=own_ge HO5.out k hk; omega)
      case measure=>simp [intOf]; omega
    · obtain rfl:i=n:=by omega
      have htk:rs.take i=rs:=List.take_of_length_le (by have:=HN.out; omega)
      have hP2:=hP.out
      rw [htk] at hP2
      have FP:=fput_any wr.heap.size A' n' c' fs (rs.map frR) wr (HTB.out.below hbw.out (HTB.out.1)) (Rd.own hown) hP2.row (Nat.le_refl _) (by have:=hnn.out.2; omega) (by
       have h1:=frAll_bound (rs.map frR) (fun d hd=>by
        obtain ⟨r,hr,rfl⟩:=List.mem_map.1 hd
        exact HST.out r hr)
       rw [List.length_map,← HN.out] at h1
       omega)
      clear hP hP2 hown htk
      go_wp2_with fail
      refine FP.mono ?_
      rintro e w7 ⟨A8,c8,rfl,ho8,hb8⟩
      have HB7:=Lib_hid (hbw.out.trans (hb8.mono hbw.out.size))
      have HO8:=Lib_hid (own_base (b':=w.heap.size) ho8 (fun k hk=>by have:=own_ge ho8 k hk; have:=hbw.out.size; omega))
      clear FP ho8 hb8
      go_wp2
      exact bodyPost_ret (v:=.tuple #[.slice A8 (frAll (rs.map frR)).length c8,.int .i64 0]) (by simp [results,Tryz.results19,go_sem]) rfl ⟨HB7.out,fun _=>⟨_,_,rfl,HO8.out⟩,fun h=>absurd HF.out h⟩
theorem enCells_set0:∀ (es:List En) (i:Nat) (e:En) (x:Nat),es[i]? = some e→(enCells es).set (i * 4) (.int .u64 (x:Int))=enCells (es.set i ⟨x,e.w,e.n,e.m⟩)
 | [],i,e,x,h=>by simp at h
 | y :: es,0,e,x,h=>by
  obtain rfl:y=e:=by simpa using h
  simp [enCells,En.cells]
 | y :: es,i+1,e,x,h=>by
  have ih:=enCells_set0 es i e x (by simpa using h)
  show (y.cells ++ enCells es).set ((i+1) * 4) _=y.cells ++ enCells (es.set i _)
  have hy:y.cells.length=4:=rfl
  rw [List.set_append_right _ _ (by omega),hy,show (i+1) * 4 - 4=i * 4 by omega,ih]
theorem enCells_set3:∀ (es:List En) (i:Nat) (e:En) (m:Bool),es[i]? = some e→(enCells es).set (i * 4+3) (.bool m)=enCells (es.set i ⟨e.x,e.w,e.n,m⟩)
 | [],i,e,m,h=>by simp at h
 | y :: es,0,e,m,h=>by
  obtain rfl:y=e:=by simpa using h
  simp [enCells,En.cells]
 | y :: es,i+1,e,m,h=>by
  have ih:=enCells_set3 es i e m (by simpa using h)
  show (y.cells ++ enCells es).set ((i+1) * 4+3) _=y.cells ++ enCells (es.set i _)
  have hy:y.cells.length=4:=rfl
  rw [List.set_append_right _ _ (by omega),hy,show (i+1) * 4+3 - 4=i * 4+3 by omega,ih]
def SpT (lo m2:Nat) (w w':World):Prop:=Below lo w w'∧∀ k,m2≤k→k<w.heap.size→w'.heap[k]? = w.heap[k]?
theorem SpT.set {lo m2 g:Nat} {w w':World} (h:SpT lo m2 w w') (h1:lo≤g) (h2:g<m2) (i:Nat) (v:Value):SpT lo m2 w (w'.setCell ⟨g,i,none⟩ v):=
 ⟨h.1.setCell (p:=⟨g,i,none⟩) h1 v,fun k a b=>(Below.heap_setCell w' ⟨g,i,none⟩ v k (by show k≠g; omega)).trans (h.2 k a b)⟩
theorem SpT.drew {lo m2:Nat} {w w':World} (h:SpT lo m2 w w'):SpT lo m2 w w'.drew:=⟨below_drew_ h.1 (n:=1),h.2⟩
theorem own_row {w:World} {b s n k:Nat} {e:TypeId} {v:Value} {xs:List Value} (h:w.ownsRow b e s v n xs) (hk:v.ownBlock=some k):∃ arr,w.heap[k]? = some (.cells arr e (0,0)):=by
 rcases h.2 with ⟨rfl,_⟩ | ⟨j,cap,cur,rfl,_,hh,_⟩
 · simp [Value.ownBlock] at hk
 · have e1:j=k:=by simpa [Value.ownBlock] using hk
   subst e1
   exact ⟨_,hh⟩
set_option maxRecDepth 100000 in
set_option maxHeartbeats 3200000 in
theorem spoilrec6_any (r:Rv) (w:World) (lo m2:Nat) (h:RecIn w lo m2 r) (hct:r.p.abs.count≤1000) (hes:r.es.length≤1000000) :
 Calls Tryz.prog 30 #[r.val] w fun e w'=>e=.returned (.tuple #[])∧SpT lo m2 w w':=by
 obtain ⟨w0,h1,-,h4,h6',h8⟩:=h.made
 have hle:=h.le
 have hhi:=h.hi
 have h5:Shp 65 w lo r.p:=h4.keep fun g a b=>h8 g a (by omega)
 have h6:=own_keep h6' fun k hk=>h8 k (own_ge h6' k hk) (by have:=own_lt h6' k hk; omega)
 have h3:w0.heap.size≤w.heap.size:=by omega
 have hlo:lo≤w.heap.size:=by omega
 have H6:Hid (∀ j,(Value.slice r.A r.es.length r.c).ownBlock=some j→j<m2∧lo≤j):=fun j hj=>⟨by have:=own_lt h6' j hj; omega,own_ge h6' j hj⟩
 have HM2:Hid (w0.heap.size=m2∧m2≤w.heap.size):=⟨h1,hhi⟩
 clear h6' h8 h h1
 obtain ⟨k,t,x,wn,nn,v,p,Ae,ce,es⟩:=r
 have hx1:=heap_alloc_new w (.cells (Rv.mk k t x wn nn v p Ae ce es).arr 68)
 have hb1:=below_new w (.cells (Rv.mk k t x wn nn v p Ae ce es).arr 68)
 obtain ⟨w1,hw1⟩:∃ w1,w1=w.alloc (.cells (Rv.mk k t x wn nn v p Ae ce es).arr 68):=⟨_,rfl⟩
 rw [← hw1] at hx1 hb1
 have hl1:lo≤w1.heap.size:=Nat.le_trans hlo hb1.size
 have SP:=spoil_expr p w0 w1 lo p.kind p.a p.b h4 (h5.under hb1) (Nat.le_trans h3 hb1.size) hl1 hct
 have hown1:=own_below h6 hb1 (own_lt h6)
 have HLT:Hid (∀ j,(Value.slice Ae es.length ce).ownBlock=some j→j<m2∧lo≤j):=H6
 have hcap:=own_cap h6
 have HW0:Hid (w0.heap.size≤w.heap.size∧lo≤w.heap.size):=⟨h3,hlo⟩
 simp only [Rv.val,Rv.arr,Rv.sl,V.sl] at hx1 SP hw1 ⊢
 clear h4 h5 h6 hct h3 H6
 generalize p.addr=pA at *
 generalize p.parts.length=pn at *
 generalize p.cap=pc at *
 generalize p.kind=pk at *
 generalize (p.a:Int)=pa at *
 generalize (p.b:Int)=pb at *
 go_enter Tryz.func30,Tryz.ntmps30
 go_upto_region 1 with (fail)
 rw [← hw1]
 clear hw1
 obtain ⟨c0,c1,c2,c3,c4,c5,c6,c7,c8,c9,c10⟩:=rec_cells hx1
 go_wp2_with fail
 refine SP.mono ?_
 rintro e w2 ⟨rfl,hs⟩
 have hsz1:w.heap.size<w1.heap.size:=lt_of_block hx1
 have hx2:=(hs.keep w.heap.size hsz1 (by have:=HW0.out; omega)).trans hx1
 have hown2:=own_keep hown1 (w':=w2) fun j hj=>by
  obtain ⟨arr,ha⟩:=own_row hown1 hj
  exact hs.typ j arr _ (by decide) ha
 have hb2:SpT lo m2 w w2:=⟨(hb1.mono hlo).trans hs.below,fun k a b=>(hs.keep k (by omega) (.inr (by have:=HM2.out.1; omega))).trans (hb1.block k b)⟩
 clear SP c0 c1 c2 c3 c4 c5 c6 c7 c8 c9 c10 hs hown1 hx1 hb1
 obtain ⟨en,hen⟩:∃ en,en=es.length:=⟨_,rfl⟩
 rw [← hen] at hx2 hown2 HLT hes hcap
 have HEN:=Lib_hid hen
 clear hen
 go_wp2
 go_loopw [2] (fun z wr=>∃ (i:Nat) (fs:List En),z=.int .i64 i∧i≤en∧Hid (fs.length=en)∧wr.heap[w.heap.size]? = some (.cells #[.int .i64 k,.int .u64 (t:Int),.int .u64 (x:Int),.int .u64 (wn:Int),.int .u64 (nn:Int),.int .u64 (v:Int),.int .i64 pk,.int .u64 pa,.int .u64 pb,.slice pA pn pc,.slice Ae en ce] 68 (0,0))∧
  wr.ownsRow lo 125 4 (.slice Ae en ce) en (enCells fs)∧SpT lo m2 w wr) (fun z _=>en - (intOf z).toNat)
 case atStart=>exact ⟨0,es,rfl,Nat.zero_le _,HEN.out.symm,hx2,hown2,hb2⟩
 case round=>
  clear hx2 hown2 hb2
  obtain ⟨i,fs,rfl,hi1,hfl,hxr,hown,hbr⟩:=hrel
  have c10:wr.cell? ⟨w.heap.size,10,none⟩=some (.slice Ae en ce):=cell_of_row wr _ 10 _ _ _ hxr
  by_cases hlt:i<en
  · obtain ⟨g,cap,hv,hgw,hgl⟩:=hown.form (by omega)
    have hA:Ae=some ⟨g,0,none⟩:=by injection hv
    subst hA
    obtain ⟨e,he⟩:∃ e,fs[i]? = some e:=⟨_,List.getElem?_eq_getElem (by rw [hfl.out]; exact hlt)⟩
    have hg2:g<m2:=(HLT.out g rfl).1
    have hgx:g<w.heap.size:=by have:=HM2.out.2; omega
    have hc:∀ j u,j<4→e.cells[j]? = some u→wr.cell? ⟨g,i * 4+j,none⟩=some u:=fun j u hj hu=>by
     rw [hown.cellAt (i * 4+j) (by omega),enCells_get fs i j e he hj]; exact hu
    have d0:wr.cell? ⟨g,i * 4,none⟩=some (.int .u64 (e.x:Int)):=hc 0 _ (by omega) rfl
    have z0:=hown.frozenAt (i * 4)
    obtain ⟨nx,hnx⟩:∃ nx:Nat,IntKind.u64.wrap ((e.x:Int)+1)=(nx:Int):=⟨(IntKind.u64.wrap ((e.x:Int)+1)).toNat,by
     have h:0≤IntKind.u64.wrap ((e.x:Int)+1):=by
      have e1:IntKind.u64.wrap ((e.x:Int)+1)=((e.x:Int)+1) % 18446744073709551616:=rfl
      rw [e1]
      omega
     omega⟩
    have ST:=hown.stored (i * 4) (.int .u64 (nx:Int))
    rw [enCells_set0 fs i e nx he] at ST
    have he2:(fs.set i ⟨nx,e.w,e.n,e.m⟩)[i]? = some ⟨nx,e.w,e.n,e.m⟩:=by rw [List.getElem?_set_self (by rw [hfl.out]; exact hlt)]
    have d3:(wr.setCell ⟨g,i * 4,none⟩ (.int .u64 (nx:Int))).cell? ⟨g,i * 4+3,none⟩=some (.bool e.m):=by
     rw [ST.1.cellAt (i * 4+3) (by omega),enCells_get _ i 3 _ he2 (by omega)]; rfl
    have z3:=ST.1.frozenAt (i * 4+3)
    have hx3:=(Below.heap_setCell wr ⟨g,i * 4,none⟩ (.int .u64 (nx:Int)) w.heap.size (by show w.heap.size≠g; omega)).trans hxr
    have ST2:=ST.1.stored (i * 4+3) (.bool (!e.m))
    rw [enCells_set3 _ i _ (!e.m) he2] at ST2
    have HST:=Lib_hid (And.intro ST ST2)
    have hb3:=hbr.set hgw hg2 (i * 4) (.int .u64 (nx:Int))
    have hgl2:g<(wr.setCell ⟨g,i * 4,none⟩ (.int .u64 (nx:Int))).heap.size:=by simpa [World.setCell] using hgl
    have hx4:=(Below.heap_setCell (wr.setCell ⟨g,i * 4,none⟩ (.int .u64 (nx:Int))) ⟨g,i * 4+3,none⟩ (.bool (!e.m)) w.heap.size (by show w.heap.size≠g; omega)).trans hx3
    have hb4:=hb3.set hgw hg2 (i * 4+3) (.bool (!e.m))
    have HX4:=Lib_hid (And.intro hx4 (And.intro hb4 ST2.1))
    have HFL:Hid (((fs.set i ⟨nx,e.w,e.n,e.m⟩).set i ⟨nx,e.w,e.n,!e.m⟩).length=en):=Lib_hid (by rw [List.length_set,List.length_set]; exact hfl.out)
    have hlen4:i * 4+3<9223372036854775807:=by have:=hcap; omega
    clear ST ST2 hc he he2 hown hb3 hb4 hx4 hbr HST hv
    go_upto_region 6 with (fail)
    have c10':(wr.setCell ⟨g,i * 4,none⟩ (.int .u64 (nx:Int))).cell? ⟨w.heap.size,10,none⟩=some (.slice (some ⟨g,0,none⟩) en ce):=cell_of_row _ _ 10 _ _ _ hx3
    generalize hW3:wr.setCell ⟨g,i * 4,none⟩ (.int .u64 (nx:Int))=w3 at *
    have hii:(i:Int)<(en:Int):=by omega
    have hi0:(0:Int)≤(i:Int):=by omega
    clear c10 d0 z0 hxr hx3 hW3
    go_wp2
    go_still_tail 12,(by kernel_rfl)
    go_wp2
    go_roundw
    case rel=>exact ⟨i+1,_,by go_num,by omega,HFL,HX4.out.1,own_keep HX4.out.2.2 fun _ _=>rfl,HX4.out.2.1.drew⟩
    case measure=>simp [intOf]; omega
  · obtain rfl:i=en:=by omega
    go_wp2
    go_end0
    exact ⟨rfl,hbr⟩
end Go.Proofs.YtinmoknbgnngcaaGreatDoor
