/-
  Layer 6: Lines, the document's. (Out of gen_wzi.py, wzi.txt.)
-/
import Derived.Test.YtinmoknbgnngcaaGreatDoorZwVcm
import Derived.Test.YtinmoknbgnngcaaGreatDoorZwVdl
import Derived.Test.YtinmoknbgnngcaaGreatDoorZwTft
import GoSem.Claim
namespace Go.Proofs.YtinmoknbgnngcaaGreatDoor
open Go Go.RowKit
set_option linter.unusedVariables false
theorem Tryz.infoDR:(Tryz.prog.info? 60).map (fun i=>(i.zero,i.size,i.bytes))=some (some (.agg #[.int .i64 0,.int .u64 0,.int .u64 0,.int .u64 0,.int .u64 0,.int .u64 0,.int .i64 0,.int .u64 0,.int .u64 0,.slice none 0 0,.slice none 0 0]),11,120):=by kernel_rfl
structure OwnDs (B:Nat) (w:World) (v:Value) (rs:List Rv):Prop where
 row:w.ownsRow B 60 11 v rs.length (rvCells rs)
 each:∀ r∈rs,∃ m1 m2,B≤m1∧m2≤w.heap.size∧RLies w m1 m2 r∧∀ k,v.ownBlock=some k→k<m1∨m2≤k
section
variable {w w':World} {B:Nat} {v v':Value} {rs:List Rv} {r:Rv}
theorem OwnDs.nil (w:World) (B:Nat):OwnDs B w (.slice none 0 0) []:=⟨World.ownsRow_nil _ _ _ _,by simp⟩
theorem OwnDs.kept (h:OwnDs B w v rs) (hs:w.heap.size≤w'.heap.size) (hk:∀ k,B≤k→k<w.heap.size→w'.heap[k]? = w.heap[k]?):OwnDs B w' v rs:=
 ⟨own_keep h.row fun k e=>hk k (own_ge h.row k e) (own_lt h.row k e),fun r hr=>by
  obtain ⟨m1,m2,h1,h2,h3,h4⟩:=h.each r hr
  exact ⟨m1,m2,h1,Nat.le_trans h2 hs,h3.keep fun p a b=>World.cell?_of_block (hk p.block (by omega) (by omega)),h4⟩⟩
theorem OwnDs.below (h:OwnDs B w v rs) (hb:Below w.heap.size w w'):OwnDs B w' v rs:=h.kept hb.size fun k _ b=>hb.block k b
theorem OwnDs.push {w1:World} {m1 m2:Nat} (h:OwnDs B w v rs) (hB:B≤w.heap.size) (hb:Below w.heap.size w w1) (hr:RLies w1 m1 m2 r) (h1:w.heap.size≤m1) (h2:m2≤w1.heap.size) (hst:Stp w1 w' v v')
 (row:w'.ownsRow B 60 11 v' (rs.length+1) (rvCells (rs ++ [r]))):OwnDs B w' v' (rs ++ [r]):=by
 have hv:∀ k,v.ownBlock=some k→k<w.heap.size:=own_lt h.row
 have hs:=hb.size
 have hrow:∀ k,v'.ownBlock=some k→v.ownBlock=some k∨w1.heap.size≤k:=fun k e=>by
  rcases hst.row with h1 | ⟨j,h1,h2⟩
  · exact .inl (h1 ▸ e)
  · rw [h1] at e; injection e with e; exact .inr (by omega)
 refine ⟨by rw [List.length_append]; exact row,fun x hx=>?_⟩
 have key:∀ {x:Rv} {n1 n2:Nat},RLies w1 n1 n2 x→n2≤w1.heap.size→(∀ k,v.ownBlock=some k→k<n1∨n2≤k)→RLies w' n1 n2 x:=fun hx h2 h3=>
  hx.keep fun p a b=>World.cell?_of_block (hst.grow.block p.block (by omega) (fun e=>by have:=h3 _ e.symm; omega))
 rcases List.mem_append.1 hx with hx | hx
 · obtain ⟨n1,n2,g1,g2,g3,g4⟩:=h.each x hx
   refine ⟨n1,n2,g1,by have:=hst.grow.size; omega,key (g3.under (hb.mono g2)) (by omega) g4,fun k e=>?_⟩
   rcases hrow k e with e | e
   · exact g4 k e
   · exact .inr (by omega)
 · obtain rfl:x=r:=by simpa using hx
   refine ⟨m1,m2,by omega,by have:=hst.grow.size; omega,key hr h2 fun k e=>.inl (by have:=hv k e; omega),fun k e=>?_⟩
   rcases hrow k e with e | e
   · exact .inl (by have:=hv k e; omega)
   · exact .inr (by omega)
theorem OwnDs.down {B':Nat} (h:OwnDs B w v rs) (hB:B'≤B):OwnDs B' w v rs:=
 ⟨own_base h.row fun k hk=>by have:=own_ge h.row k hk; omega,fun r hr=>by
  obtain ⟨m1,m2,h1,h2⟩:=h.each r hr
  exact ⟨m1,m2,by omega,h2⟩⟩
end
def DLnsEnd (s:List UInt8) (w:World) (e:Ending) (w':World):Prop:=
 ∃ (A:Option Addr) (c:Nat) (rs:List Rv),e=.returned (.tuple #[.slice A rs.length c,.int .i64 ((totL s).2.1:Int),.int .i64 ((totL s).2.2:Int)])∧rs.map Rv.abs=(totL s).1∧OwnDs w.heap.size w' (.slice A rs.length c) rs∧Below w.heap.size w w'
set_option maxRecDepth 100000 in
set_option maxHeartbeats 6400000 in
theorem dlines6_any (s:List UInt8) (w:World) (hl:s.length≤900) :
 Calls Tryz.prog 24 #[.string ⟨s.toArray⟩] w (DLnsEnd s w):=by
 obtain ⟨i0,hi,hz0,hz1,hz2⟩:=info_parts Tryz.infoDR
 have CU:=rcuts_any s 10 w (by omega)
 rw [show (((10:UInt8).toNat:Nat):Int)=10 from rfl] at CU
 have hne:=cutsL_ne 10 s
 have hLn:=cutsL_len 10 s
 have HML:Hid (∀ x∈lnsL s,x.length≤900):=fun x hx=>by
  have:x∈cutsL 10 s:=by
   unfold lnsL at hx
   split at hx
   · exact List.dropLast_subset _ hx
   · exact hx
  have:=cutsL_mem 10 s x this
  omega
 have hML:(lnsL s).length≤901:=by
  unfold lnsL
  split
  · rw [List.length_dropLast]; omega
  · omega
 have HLS:Hid (lnsL s=if (cutsL 10 s).getLast? = some [] then (cutsL 10 s).dropLast else cutsL 10 s):=rfl
 have HDL:Hid (∀ (x:List UInt8) (W:World),x.length≤900→Calls Tryz.prog 46 #[.string ⟨x.toArray⟩] W fun e w'=>∃ (k2:Int) (t2 x2 wn2 nn2 v2:Nat) (p2:V) (A2:Option Addr) (c2:Nat) (es2:List En),e=.returned (.tuple #[.agg #[.int .i64 k2,.int .u64 (t2:Int),.int .u64 (x2:Int),.int .u64 (wn2:Int),.int .u64 (nn2:Int),.int .u64 (v2:Int),.int .i64 p2.kind,.int .u64 (p2.a:Int),.int .u64 (p2.b:Int),.slice p2.addr p2.parts.length p2.cap,.slice A2 es2.length c2],.int .i64 ((ansR (lineB x)).2:Int)])∧(⟨k2,t2,x2,wn2,nn2,v2,p2,A2,c2,es2⟩:Rv).abs=(ansR (lineB x)).1∧RLies w' W.heap.size w'.heap.size (⟨k2,t2,x2,wn2,nn2,v2,p2,A2,c2,es2⟩:Rv)∧Below W.heap.size W w'):=fun x W hx=>by
  have h:=dline5_any x W hx
  rw [lineD_eq] at h
  exact h.mono fun e w' ⟨⟨k2,t2,x2,wn2,nn2,v2,p2,A2,c2,es2⟩,h1,h2,h3,h4⟩=>⟨k2,t2,x2,wn2,nn2,v2,p2,A2,c2,es2,h1,h2,h3,h4⟩
 have HTT:Hid (goL (lnsL s) 0 []=totL s):=rfl
 generalize cutsL 10 s=L at *
 generalize lnsL s=M at *
 go_enter Tryz.func24,Tryz.ntmps24
 go_wp2_with fail
 refine CU.mono ?_
 rintro e w1 ⟨A,cap,rfl,hown,hb1⟩
 obtain ⟨m,hm⟩:∃ m,L.length=m+1:=⟨L.length - 1,by have:0<L.length:=List.length_pos_iff.2 hne; omega⟩
 obtain ⟨g,cap',hv,hgg,hgl⟩:=hown.form (by omega)
 injection hv with hv1 hv2 hv3
 subst hv1 hv3
 have hcap:=own_cap hown
 have hcells:∀ (i:Nat) (x:List UInt8),L[i]? = some x→w1.cell? ⟨g,i,none⟩=some (.string ⟨x.toArray⟩):=fun i x hx=>by
  have:=hown.cells (g:=g) rfl i (.string ⟨x.toArray⟩) (by unfold strs; rw [List.getElem?_map,hx]; rfl)
  rw [show (⟨g,0,none⟩:Addr).add i=⟨g,i,none⟩ by unfold Addr.add; split <;> simp_all] at this
  exact this
 obtain ⟨la,hla⟩:∃ la,L.getLast? = some la:=by
  cases h:L.getLast? with
  | none=>exact absurd (List.getLast?_eq_none_iff.1 h) hne
  | some x=>exact ⟨x,rfl⟩
 have hlm:L[m]? = some la:=by rw [List.getLast?_eq_getElem?,show L.length - 1=m by omega] at hla; exact hla
 have d0:=hcells m la hlm
 rw [hm] at hown hcap ⊢
 have hwm:IntKind.i64.wrap (((m+1:Nat):Int) - 1)=(m:Int):=by rw [show ((m+1:Nat):Int) - 1=(m:Int) by omega]; exact IntWalk.i64_in _ (by omega)
 have hmn:(m:Int)<((m+1:Nat):Int):=by omega
 have hm0:(0:Int)≤(m:Int):=by omega
 have hgw:w.heap.size≤g∧g<w1.heap.size:=⟨hgg,hgl⟩
 by_cases hle:la=[]
 · subst hle
   have hMl:m=M.length:=by rw [HLS.out,hla,if_pos rfl,List.length_dropLast]; omega
   have hMc:∀ (i:Nat) (x:List UInt8),M[i]? = some x→w1.cell? ⟨g,i,none⟩=some (.string ⟨x.toArray⟩):=fun i x hx=>hcells i x (by
    rw [HLS.out,hla,if_pos rfl] at hx
    have hi:i<L.dropLast.length:=(List.getElem?_eq_some_iff.1 hx).1
    rw [List.getElem?_dropLast] at hx
    split at hx
    · exact hx
    · cases hx)
   have HMC:=Lib_hid hMc
   have HMl:=Lib_hid hMl
   have HBS:Hid (w.heap.size≤g∧g<w1.heap.size∧Below w.heap.size w w1):=⟨hgg,hgl,hb1⟩
   have hmc:m≤cap:=by omega
   clear hMl hMc hcells hown hla hlm hne hLn HLS hm hgg hgl hgw CU hb1
   go_wp2
   have hMl:=HMl.out
   subst hMl
   go_loopw [6,7] (fun v z wr=>∃ (i:Nat) (A':Option Addr) (cap':Nat) (rs:List Rv),v=.slice A' rs.length cap'∧z=.int .i64 i∧i≤M.length∧rs.length≤i∧Hid (goL (M.drop i) i (rs.map Rv.abs)=totL s)∧Hid (OwnDs w1.heap.size wr (.slice A' rs.length cap') rs)∧Hid (Below w1.heap.size w1 wr)) (fun _ z _=>M.length - (intOf z).toNat)
   case atStart=>exact ⟨0,none,0,[],rfl,rfl,Nat.zero_le _,Nat.le_refl _,HTT.out,Lib_hid (OwnDs.nil _ _),Lib_hid (Below.refl _ _)⟩
   case round=>
    obtain ⟨i,A',cap',rs,rfl,rfl,hi1,hri,hgo,hown,hbw⟩:=hrel
    by_cases hlt:i<M.length
    · have hil:(i:Int)<(M.length:Int):=by omega
      have hx:M[i]? = some M[i]:=List.getElem?_eq_getElem hlt
      have dx:wr.cell? ⟨g,i,none⟩=some (.string ⟨(M[i]).toArray⟩):=(World.cell?_of_block (hbw.out.block g HBS.out.2.1)).trans (HMC.out i _ hx)
      have hdr:M.drop i=M[i] :: M.drop (i+1):=List.drop_eq_getElem_cons hlt
      have HG0:Hid (goL (M[i] :: M.drop (i+1)) i (rs.map Rv.abs)=totL s):=by unfold Hid; rw [← hdr]; exact hgo.out
      have hxl:=HML.out _ (List.getElem_mem hlt)
      have hwi:IntKind.i64.wrap ((i:Int)+1)=(i:Int)+1:=IntWalk.i64_in _ (by omega)
      clear hx hdr hgo
      generalize M[i]=x at *
      by_cases hmu:Mute x
      · have HG:Hid (goL (M.drop (i+1)) (i+1) (rs.map Rv.abs)=totL s):=by unfold Hid; rw [← HG0.out,goL_mute hmu]
        cases x with
        | nil=>
         go_wp2
         go_roundw
         case rel=>exact ⟨i+1,A',cap',rs,rfl,by go_num,by omega,by omega,HG,hown,hbw⟩
         case measure=>simp [intOf]; omega
        | cons c x=>
         have hc:c=35:=by
          rcases hmu with h | h
          · cases h
          · simpa using h
         subst hc
         have hix:=ix_str (35 :: x) 0 (by simp)
         have hne:((35 :: x:List UInt8) == [])=false:=by simp
         have h35:((((35 :: x:List UInt8)[0]'(by simp)).toNat:Nat):Int)=35:=rfl
         rw [h35] at hix
         have hl0:(0:Int)<(((35 :: x:List UInt8).length:Nat):Int):=by rw [List.length_cons]; omega
         go_wp2
         go_roundw
         case rel=>exact ⟨i+1,A',cap',rs,rfl,by go_num,by omega,by omega,HG,hown,hbw⟩
         case measure=>simp [intOf]; omega
      · skip
        obtain ⟨c,x,rfl⟩:=List.exists_cons_of_ne_nil (fun e=>hmu (.inl e))
        have hc:c≠35:=fun e=>hmu (.inr (by rw [e]; rfl))
        have hne:((c :: x:List UInt8) == [])=false:=by simp
        have h35:(((((⟨(c :: x).toArray⟩:ByteArray)[0]'(by show 0<(c :: x).toArray.size; simp)).toNat:Nat):Int) == 35)=false:=by
         show ((c.toNat:Int) == 35)=false
         have:c.toNat≠35:=fun e=>hc (by rw [← UInt8.toNat_inj]; exact e)
         simp
         omega
        have hl0:(0:Int)<(((c :: x:List UInt8).length:Nat):Int):=by rw [List.length_cons]; omega
        have PC:=HDL.out (c :: x) wr hxl
        clear hc
        cases hlb:lineB (c :: x) with
        | none=>
         rw [hlb,show (ansR (none:Option Rc)).2=50 from rfl] at PC
         have HT:Hid (totL s=([],i+1,50)):=by
          unfold Hid
          rw [← HG0.out,goL_none hmu hlb]
         clear hlb hmu
         go_wp2_with fail
         refine PC.mono ?_
         rintro e w4 ⟨k2,t2,x2,wn2,nn2,v2,p2,A2,c2,es2,rfl,-,-,hb4⟩
         have hb5:=below_new w4 (.cells #[.int .i64 k2,.int .u64 (t2:Int),.int .u64 (x2:Int),.int .u64 (wn2:Int),.int .u64 (nn2:Int),.int .u64 (v2:Int),.int .i64 p2.kind,.int .u64 (p2.a:Int),.int .u64 (p2.b:Int),.slice p2.addr p2.parts.length p2.cap,.slice A2 es2.length c2] 60)
         have HF:Hid (DLnsEnd s w (.returned (.tuple #[.slice none 0 0,.int .i64 ((i:Int)+1),.int .i64 50])) (w4.alloc (.cells #[.int .i64 k2,.int .u64 (t2:Int),.int .u64 (x2:Int),.int .u64 (wn2:Int),.int .u64 (nn2:Int),.int .u64 (v2:Int),.int .i64 p2.kind,.int .u64 (p2.a:Int),.int .u64 (p2.b:Int),.slice p2.addr p2.parts.length p2.cap,.slice A2 es2.length c2] 60))):=by
          have hbz:=HBS.out.2.2
          have h1:=hbz.trans (hbw.out.mono hbz.size)
          have h2:=h1.trans (hb4.mono h1.size)
          exact ⟨none,0,[],by rw [HT.out]; rfl,by rw [HT.out]; rfl,OwnDs.nil _ _,h2.trans (hb5.mono h2.size)⟩
         clear hb4 hb5
         go_wp2
         exact bodyPost_ret (v:=.tuple #[.slice none 0 0,.int .i64 ((i:Int)+1),.int .i64 50]) (by simp [results,Tryz.results24,go_sem]) rfl HF.out
        | some rr=>
         rw [hlb,show (ansR (some rr)).2=0 from rfl,show (ansR (some rr)).1=rr from rfl] at PC
         have HG:Hid (goL (M.drop (i+1)) (i+1) (rs.map Rv.abs ++ [rr])=totL s):=by
          unfold Hid
          rw [← HG0.out,goL_some hmu hlb]
         clear hlb hmu
         go_wp2_with fail
         refine PC.mono ?_
         rintro e w4 ⟨k2,t2,x2,wn2,nn2,v2,p2,A2,c2,es2,rfl,hra,hrl,hb4⟩
         have hb5:=below_new w4 (.cells #[.int .i64 k2,.int .u64 (t2:Int),.int .u64 (x2:Int),.int .u64 (wn2:Int),.int .u64 (nn2:Int),.int .u64 (v2:Int),.int .i64 p2.kind,.int .u64 (p2.a:Int),.int .u64 (p2.b:Int),.slice p2.addr p2.parts.length p2.cap,.slice A2 es2.length c2] 60)
         have hq5:=heap_alloc_new w4 (.cells #[.int .i64 k2,.int .u64 (t2:Int),.int .u64 (x2:Int),.int .u64 (wn2:Int),.int .u64 (nn2:Int),.int .u64 (v2:Int),.int .i64 p2.kind,.int .u64 (p2.a:Int),.int .u64 (p2.b:Int),.slice p2.addr p2.parts.length p2.cap,.slice A2 es2.length c2] 60)
         have HB5:Hid (Below wr.heap.size wr (w4.alloc (.cells #[.int .i64 k2,.int .u64 (t2:Int),.int .u64 (x2:Int),.int .u64 (wn2:Int),.int .u64 (nn2:Int),.int .u64 (v2:Int),.int .i64 p2.kind,.int .u64 (p2.a:Int),.int .u64 (p2.b:Int),.slice p2.addr p2.parts.length p2.cap,.slice A2 es2.length c2] 60))):=hb4.trans (hb5.mono hb4.size)
         have HRL:Hid (RLies (w4.alloc (.cells #[.int .i64 k2,.int .u64 (t2:Int),.int .u64 (x2:Int),.int .u64 (wn2:Int),.int .u64 (nn2:Int),.int .u64 (v2:Int),.int .i64 p2.kind,.int .u64 (p2.a:Int),.int .u64 (p2.b:Int),.slice p2.addr p2.parts.length p2.cap,.slice A2 es2.length c2] 60)) wr.heap.size w4.heap.size (⟨k2,t2,x2,wn2,nn2,v2,p2,A2,c2,es2⟩:Rv)∧w4.heap.size≤(w4.alloc (.cells #[.int .i64 k2,.int .u64 (t2:Int),.int .u64 (x2:Int),.int .u64 (wn2:Int),.int .u64 (nn2:Int),.int .u64 (v2:Int),.int .i64 p2.kind,.int .u64 (p2.a:Int),.int .u64 (p2.b:Int),.slice p2.addr p2.parts.length p2.cap,.slice A2 es2.length c2] 60)).heap.size):=⟨hrl.under hb5,hb5.size⟩
         have HRA:Hid (((rs ++ [(⟨k2,t2,x2,wn2,nn2,v2,p2,A2,c2,es2⟩:Rv)]).map Rv.abs)=rs.map Rv.abs ++ [rr]):=by unfold Hid; rw [List.map_append,← hra]; rfl
         clear PC hb4 hb5 hrl hra
         go_upto_region 10 with (fail)
         generalize w4.alloc (.cells #[.int .i64 k2,.int .u64 (t2:Int),.int .u64 (x2:Int),.int .u64 (wn2:Int),.int .u64 (nn2:Int),.int .u64 (v2:Int),.int .i64 p2.kind,.int .u64 (p2.a:Int),.int .u64 (p2.b:Int),.slice p2.addr p2.parts.length p2.cap,.slice A2 es2.length c2] 60)=w5 at *
         obtain ⟨d0,d1,d2,d3,d4,d5,d6,d7,d8,d9,d10⟩:=rec_cells hq5
         have hb56:=below_new w5 (.cells #[.int .i64 k2,.int .u64 (t2:Int),.int .u64 (x2:Int),.int .u64 (wn2:Int),.int .u64 (nn2:Int),.int .u64 (v2:Int),.int .i64 p2.kind,.int .u64 (p2.a:Int),.int .u64 (p2.b:Int),.slice p2.addr p2.parts.length p2.cap,.slice A2 es2.length c2] 60)
         have HB6:Hid (Below wr.heap.size wr (w5.alloc (.cells #[.int .i64 k2,.int .u64 (t2:Int),.int .u64 (x2:Int),.int .u64 (wn2:Int),.int .u64 (nn2:Int),.int .u64 (v2:Int),.int .i64 p2.kind,.int .u64 (p2.a:Int),.int .u64 (p2.b:Int),.slice p2.addr p2.parts.length p2.cap,.slice A2 es2.length c2] 60))):=HB5.out.trans (hb56.mono HB5.out.size)
         have ho6:=own_below hown.out.row HB6.out (own_lt hown.out.row)
         have hr6:=rd_row (size:=11) (n:=1) (l:=[.int .i64 k2,.int .u64 (t2:Int),.int .u64 (x2:Int),.int .u64 (wn2:Int),.int .u64 (nn2:Int),.int .u64 (v2:Int),.int .i64 p2.kind,.int .u64 (p2.a:Int),.int .u64 (p2.b:Int),.slice p2.addr p2.parts.length p2.cap,.slice A2 es2.length c2]) (heap_alloc_new w5 (.cells #[.int .i64 k2,.int .u64 (t2:Int),.int .u64 (x2:Int),.int .u64 (wn2:Int),.int .u64 (nn2:Int),.int .u64 (v2:Int),.int .i64 p2.kind,.int .u64 (p2.a:Int),.int .u64 (p2.b:Int),.slice p2.addr p2.parts.length p2.cap,.slice A2 es2.length c2] 60)) rfl
         have h1c:=rv_one [(⟨k2,t2,x2,wn2,nn2,v2,p2,A2,c2,es2⟩:Rv)]
         have hm1:rs.length+1≤maxLen:=by unfold maxLen; omega
         have hm2:(rs.length+1) * 120≤140737488355328:=by omega
         have HRL6:Hid (RLies (w5.alloc (.cells #[.int .i64 k2,.int .u64 (t2:Int),.int .u64 (x2:Int),.int .u64 (wn2:Int),.int .u64 (nn2:Int),.int .u64 (v2:Int),.int .i64 p2.kind,.int .u64 (p2.a:Int),.int .u64 (p2.b:Int),.slice p2.addr p2.parts.length p2.cap,.slice A2 es2.length c2] 60)) wr.heap.size w4.heap.size (⟨k2,t2,x2,wn2,nn2,v2,p2,A2,c2,es2⟩:Rv)∧w4.heap.size≤(w5.alloc (.cells #[.int .i64 k2,.int .u64 (t2:Int),.int .u64 (x2:Int),.int .u64 (wn2:Int),.int .u64 (nn2:Int),.int .u64 (v2:Int),.int .i64 p2.kind,.int .u64 (p2.a:Int),.int .u64 (p2.b:Int),.slice p2.addr p2.parts.length p2.cap,.slice A2 es2.length c2] 60)).heap.size):=⟨HRL.out.1.under (hb56.mono HRL.out.2),Nat.le_trans HRL.out.2 hb56.size⟩
         have hs6:w1.heap.size≤(w5.alloc (.cells #[.int .i64 k2,.int .u64 (t2:Int),.int .u64 (x2:Int),.int .u64 (wn2:Int),.int .u64 (nn2:Int),.int .u64 (v2:Int),.int .i64 p2.kind,.int .u64 (p2.a:Int),.int .u64 (p2.b:Int),.slice p2.addr p2.parts.length p2.cap,.slice A2 es2.length c2] 60)).heap.size:=(hbw.out.trans (HB6.out.mono hbw.out.size)).size
         clear hq5 hb56 HB5 HRL
         go_wp2_with (at_builtin; (refine wpList_app rfl _ _ 37 rfl w1.heap.size 60 i0 (.agg #[.int .i64 0,.int .u64 0,.int .u64 0,.int .u64 0,.int .u64 0,.int .u64 0,.int .i64 0,.int .u64 0,.int .u64 0,.slice none 0 0,.slice none 0 0]) 11 120 Tryz.underlying37 hi hz0 hz1 hz2 rfl (by decide) (.slice A' rs.length cap') rs.length _ rfl ho6 _ _ 1 1 (rvCells [(⟨k2,t2,x2,wn2,nn2,v2,p2,A2,c2,es2⟩:Rv)]) rfl hr6 h1c hm1 hm2 hs6 ?_); intro v' w7 hown' hst; obtain ⟨A7,c7,rfl,_⟩:=own_form hown')
         go_roundw
         case rel=>
          have hP:=OwnDs.push hown.out hbw.out.size HB6.out HRL6.out.1 (Nat.le_refl _) HRL6.out.2 hst (by rw [rvCells_append]; exact hown')
          have hB7:=hbw.out.trans (HB6.out.mono hbw.out.size)
          exact ⟨i+1,A7,c7,rs ++ [(⟨k2,t2,x2,wn2,nn2,v2,p2,A2,c2,es2⟩:Rv)],by rw [List.length_append]; rfl,by go_num,by omega,by rw [List.length_append,List.length_singleton]; omega,Lib_hid (by rw [HRA.out]; exact HG.out),Lib_hid (by rw [List.length_append]; exact hP),Lib_hid (hB7.trans ((hst.below hB7.size fun k hk=>own_ge ho6 k hk).mono (Nat.le_refl _)))⟩
         case measure=>simp [intOf]; omega
    · obtain rfl:i=M.length:=by omega
      have HF:Hid (DLnsEnd s w (.returned (.tuple #[.slice A' rs.length cap',.int .i64 (M.length:Int),.int .i64 0])) wr):=by
       have hg:=hgo.out
       rw [List.drop_length,goL] at hg
       exact ⟨A',cap',rs,by rw [← hg]; rfl,by rw [← hg],hown.out.down HBS.out.2.2.size,HBS.out.2.2.trans (hbw.out.mono HBS.out.2.2.size)⟩
      go_wp2
      exact bodyPost_ret (v:=.tuple #[.slice A' rs.length cap',.int .i64 (M.length:Int),.int .i64 0]) (by simp [results,Tryz.results24,go_sem]) rfl HF.out
 · have hMl:m+1=M.length:=by rw [HLS.out,hla,if_neg (by simpa using hle)]; omega
   have hMc:∀ (i:Nat) (x:List UInt8),M[i]? = some x→w1.cell? ⟨g,i,none⟩=some (.string ⟨x.toArray⟩):=fun i x hx=>hcells i x (by
    rw [HLS.out,hla,if_neg (by simpa using hle)] at hx
    exact hx)
   have HMC:=Lib_hid hMc
   have HMl:=Lib_hid hMl
   have HBS:Hid (w.heap.size≤g∧g<w1.heap.size∧Below w.heap.size w w1):=⟨hgg,hgl,hb1⟩
   have hq:(la == [])=false:=by simpa using hle
   clear hMl hMc hcells hown hla hlm hne hLn HLS hm hgg hgl hgw CU hb1 hle
   go_wp2
   rw [HMl.out] at *
   go_loopw [6,7] (fun v z wr=>∃ (i:Nat) (A':Option Addr) (cap':Nat) (rs:List Rv),v=.slice A' rs.length cap'∧z=.int .i64 i∧i≤M.length∧rs.length≤i∧Hid (goL (M.drop i) i (rs.map Rv.abs)=totL s)∧Hid (OwnDs w1.heap.size wr (.slice A' rs.length cap') rs)∧Hid (Below w1.heap.size w1 wr)) (fun _ z _=>M.length - (intOf z).toNat)
   case atStart=>exact ⟨0,none,0,[],rfl,rfl,Nat.zero_le _,Nat.le_refl _,HTT.out,Lib_hid (OwnDs.nil _ _),Lib_hid (Below.refl _ _)⟩
   case round=>
    obtain ⟨i,A',cap',rs,rfl,rfl,hi1,hri,hgo,hown,hbw⟩:=hrel
    by_cases hlt:i<M.length
    · have hil:(i:Int)<(M.length:Int):=by omega
      have hx:M[i]? = some M[i]:=List.getElem?_eq_getElem hlt
      have dx:wr.cell? ⟨g,i,none⟩=some (.string ⟨(M[i]).toArray⟩):=(World.cell?_of_block (hbw.out.block g HBS.out.2.1)).trans (HMC.out i _ hx)
      have hdr:M.drop i=M[i] :: M.drop (i+1):=List.drop_eq_getElem_cons hlt
      have HG0:Hid (goL (M[i] :: M.drop (i+1)) i (rs.map Rv.abs)=totL s):=by unfold Hid; rw [← hdr]; exact hgo.out
      have hxl:=HML.out _ (List.getElem_mem hlt)
      have hwi:IntKind.i64.wrap ((i:Int)+1)=(i:Int)+1:=IntWalk.i64_in _ (by omega)
      clear hx hdr hgo
      generalize M[i]=x at *
      by_cases hmu:Mute x
      · have HG:Hid (goL (M.drop (i+1)) (i+1) (rs.map Rv.abs)=totL s):=by unfold Hid; rw [← HG0.out,goL_mute hmu]
        cases x with
        | nil=>
         go_wp2
         go_roundw
         case rel=>exact ⟨i+1,A',cap',rs,rfl,by go_num,by omega,by omega,HG,hown,hbw⟩
         case measure=>simp [intOf]; omega
        | cons c x=>
         have hc:c=35:=by
          rcases hmu with h | h
          · cases h
          · simpa using h
         subst hc
         have hix:=ix_str (35 :: x) 0 (by simp)
         have hne:((35 :: x:List UInt8) == [])=false:=by simp
         have h35:((((35 :: x:List UInt8)[0]'(by simp)).toNat:Nat):Int)=35:=rfl
         rw [h35] at hix
         have hl0:(0:Int)<(((35 :: x:List UInt8).length:Nat):Int):=by rw [List.length_cons]; omega
         go_wp2
         go_roundw
         case rel=>exact ⟨i+1,A',cap',rs,rfl,by go_num,by omega,by omega,HG,hown,hbw⟩
         case measure=>simp [intOf]; omega
      · skip
        obtain ⟨c,x,rfl⟩:=List.exists_cons_of_ne_nil (fun e=>hmu (.inl e))
        have hc:c≠35:=fun e=>hmu (.inr (by rw [e]; rfl))
        have hne:((c :: x:List UInt8) == [])=false:=by simp
        have h35:(((((⟨(c :: x).toArray⟩:ByteArray)[0]'(by show 0<(c :: x).toArray.size; simp)).toNat:Nat):Int) == 35)=false:=by
         show ((c.toNat:Int) == 35)=false
         have:c.toNat≠35:=fun e=>hc (by rw [← UInt8.toNat_inj]; exact e)
         simp
         omega
        have hl0:(0:Int)<(((c :: x:List UInt8).length:Nat):Int):=by rw [List.length_cons]; omega
        have PC:=HDL.out (c :: x) wr hxl
        clear hc
        cases hlb:lineB (c :: x) with
        | none=>
         rw [hlb,show (ansR (none:Option Rc)).2=50 from rfl] at PC
         have HT:Hid (totL s=([],i+1,50)):=by
          unfold Hid
          rw [← HG0.out,goL_none hmu hlb]
         clear hlb hmu
         go_wp2_with fail
         refine PC.mono ?_
         rintro e w4 ⟨k2,t2,x2,wn2,nn2,v2,p2,A2,c2,es2,rfl,-,-,hb4⟩
         have hb5:=below_new w4 (.cells #[.int .i64 k2,.int .u64 (t2:Int),.int .u64 (x2:Int),.int .u64 (wn2:Int),.int .u64 (nn2:Int),.int .u64 (v2:Int),.int .i64 p2.kind,.int .u64 (p2.a:Int),.int .u64 (p2.b:Int),.slice p2.addr p2.parts.length p2.cap,.slice A2 es2.length c2] 60)
         have HF:Hid (DLnsEnd s w (.returned (.tuple #[.slice none 0 0,.int .i64 ((i:Int)+1),.int .i64 50])) (w4.alloc (.cells #[.int .i64 k2,.int .u64 (t2:Int),.int .u64 (x2:Int),.int .u64 (wn2:Int),.int .u64 (nn2:Int),.int .u64 (v2:Int),.int .i64 p2.kind,.int .u64 (p2.a:Int),.int .u64 (p2.b:Int),.slice p2.addr p2.parts.length p2.cap,.slice A2 es2.length c2] 60))):=by
          have hbz:=HBS.out.2.2
          have h1:=hbz.trans (hbw.out.mono hbz.size)
          have h2:=h1.trans (hb4.mono h1.size)
          exact ⟨none,0,[],by rw [HT.out]; rfl,by rw [HT.out]; rfl,OwnDs.nil _ _,h2.trans (hb5.mono h2.size)⟩
         clear hb4 hb5
         go_wp2
         exact bodyPost_ret (v:=.tuple #[.slice none 0 0,.int .i64 ((i:Int)+1),.int .i64 50]) (by simp [results,Tryz.results24,go_sem]) rfl HF.out
        | some rr=>
         rw [hlb,show (ansR (some rr)).2=0 from rfl,show (ansR (some rr)).1=rr from rfl] at PC
         have HG:Hid (goL (M.drop (i+1)) (i+1) (rs.map Rv.abs ++ [rr])=totL s):=by
          unfold Hid
          rw [← HG0.out,goL_some hmu hlb]
         clear hlb hmu
         go_wp2_with fail
         refine PC.mono ?_
         rintro e w4 ⟨k2,t2,x2,wn2,nn2,v2,p2,A2,c2,es2,rfl,hra,hrl,hb4⟩
         have hb5:=below_new w4 (.cells #[.int .i64 k2,.int .u64 (t2:Int),.int .u64 (x2:Int),.int .u64 (wn2:Int),.int .u64 (nn2:Int),.int .u64 (v2:Int),.int .i64 p2.kind,.int .u64 (p2.a:Int),.int .u64 (p2.b:Int),.slice p2.addr p2.parts.length p2.cap,.slice A2 es2.length c2] 60)
         have hq5:=heap_alloc_new w4 (.cells #[.int .i64 k2,.int .u64 (t2:Int),.int .u64 (x2:Int),.int .u64 (wn2:Int),.int .u64 (nn2:Int),.int .u64 (v2:Int),.int .i64 p2.kind,.int .u64 (p2.a:Int),.int .u64 (p2.b:Int),.slice p2.addr p2.parts.length p2.cap,.slice A2 es2.length c2] 60)
         have HB5:Hid (Below wr.heap.size wr (w4.alloc (.cells #[.int .i64 k2,.int .u64 (t2:Int),.int .u64 (x2:Int),.int .u64 (wn2:Int),.int .u64 (nn2:Int),.int .u64 (v2:Int),.int .i64 p2.kind,.int .u64 (p2.a:Int),.int .u64 (p2.b:Int),.slice p2.addr p2.parts.length p2.cap,.slice A2 es2.length c2] 60))):=hb4.trans (hb5.mono hb4.size)
         have HRL:Hid (RLies (w4.alloc (.cells #[.int .i64 k2,.int .u64 (t2:Int),.int .u64 (x2:Int),.int .u64 (wn2:Int),.int .u64 (nn2:Int),.int .u64 (v2:Int),.int .i64 p2.kind,.int .u64 (p2.a:Int),.int .u64 (p2.b:Int),.slice p2.addr p2.parts.length p2.cap,.slice A2 es2.length c2] 60)) wr.heap.size w4.heap.size (⟨k2,t2,x2,wn2,nn2,v2,p2,A2,c2,es2⟩:Rv)∧w4.heap.size≤(w4.alloc (.cells #[.int .i64 k2,.int .u64 (t2:Int),.int .u64 (x2:Int),.int .u64 (wn2:Int),.int .u64 (nn2:Int),.int .u64 (v2:Int),.int .i64 p2.kind,.int .u64 (p2.a:Int),.int .u64 (p2.b:Int),.slice p2.addr p2.parts.length p2.cap,.slice A2 es2.length c2] 60)).heap.size):=⟨hrl.under hb5,hb5.size⟩
         have HRA:Hid (((rs ++ [(⟨k2,t2,x2,wn2,nn2,v2,p2,A2,c2,es2⟩:Rv)]).map Rv.abs)=rs.map Rv.abs ++ [rr]):=by unfold Hid; rw [List.map_append,← hra]; rfl
         clear PC hb4 hb5 hrl hra
         go_upto_region 10 with (fail)
         generalize w4.alloc (.cells #[.int .i64 k2,.int .u64 (t2:Int),.int .u64 (x2:Int),.int .u64 (wn2:Int),.int .u64 (nn2:Int),.int .u64 (v2:Int),.int .i64 p2.kind,.int .u64 (p2.a:Int),.int .u64 (p2.b:Int),.slice p2.addr p2.parts.length p2.cap,.slice A2 es2.length c2] 60)=w5 at *
         obtain ⟨d0,d1,d2,d3,d4,d5,d6,d7,d8,d9,d10⟩:=rec_cells hq5
         have hb56:=below_new w5 (.cells #[.int .i64 k2,.int .u64 (t2:Int),.int .u64 (x2:Int),.int .u64 (wn2:Int),.int .u64 (nn2:Int),.int .u64 (v2:Int),.int .i64 p2.kind,.int .u64 (p2.a:Int),.int .u64 (p2.b:Int),.slice p2.addr p2.parts.length p2.cap,.slice A2 es2.length c2] 60)
         have HB6:Hid (Below wr.heap.size wr (w5.alloc (.cells #[.int .i64 k2,.int .u64 (t2:Int),.int .u64 (x2:Int),.int .u64 (wn2:Int),.int .u64 (nn2:Int),.int .u64 (v2:Int),.int .i64 p2.kind,.int .u64 (p2.a:Int),.int .u64 (p2.b:Int),.slice p2.addr p2.parts.length p2.cap,.slice A2 es2.length c2] 60))):=HB5.out.trans (hb56.mono HB5.out.size)
         have ho6:=own_below hown.out.row HB6.out (own_lt hown.out.row)
         have hr6:=rd_row (size:=11) (n:=1) (l:=[.int .i64 k2,.int .u64 (t2:Int),.int .u64 (x2:Int),.int .u64 (wn2:Int),.int .u64 (nn2:Int),.int .u64 (v2:Int),.int .i64 p2.kind,.int .u64 (p2.a:Int),.int .u64 (p2.b:Int),.slice p2.addr p2.parts.length p2.cap,.slice A2 es2.length c2]) (heap_alloc_new w5 (.cells #[.int .i64 k2,.int .u64 (t2:Int),.int .u64 (x2:Int),.int .u64 (wn2:Int),.int .u64 (nn2:Int),.int .u64 (v2:Int),.int .i64 p2.kind,.int .u64 (p2.a:Int),.int .u64 (p2.b:Int),.slice p2.addr p2.parts.length p2.cap,.slice A2 es2.length c2] 60)) rfl
         have h1c:=rv_one [(⟨k2,t2,x2,wn2,nn2,v2,p2,A2,c2,es2⟩:Rv)]
         have hm1:rs.length+1≤maxLen:=by unfold maxLen; omega
         have hm2:(rs.length+1) * 120≤140737488355328:=by omega
         have HRL6:Hid (RLies (w5.alloc (.cells #[.int .i64 k2,.int .u64 (t2:Int),.int .u64 (x2:Int),.int .u64 (wn2:Int),.int .u64 (nn2:Int),.int .u64 (v2:Int),.int .i64 p2.kind,.int .u64 (p2.a:Int),.int .u64 (p2.b:Int),.slice p2.addr p2.parts.length p2.cap,.slice A2 es2.length c2] 60)) wr.heap.size w4.heap.size (⟨k2,t2,x2,wn2,nn2,v2,p2,A2,c2,es2⟩:Rv)∧w4.heap.size≤(w5.alloc (.cells #[.int .i64 k2,.int .u64 (t2:Int),.int .u64 (x2:Int),.int .u64 (wn2:Int),.int .u64 (nn2:Int),.int .u64 (v2:Int),.int .i64 p2.kind,.int .u64 (p2.a:Int),.int .u64 (p2.b:Int),.slice p2.addr p2.parts.length p2.cap,.slice A2 es2.length c2] 60)).heap.size):=⟨HRL.out.1.under (hb56.mono HRL.out.2),Nat.le_trans HRL.out.2 hb56.size⟩
         have hs6:w1.heap.size≤(w5.alloc (.cells #[.int .i64 k2,.int .u64 (t2:Int),.int .u64 (x2:Int),.int .u64 (wn2:Int),.int .u64 (nn2:Int),.int .u64 (v2:Int),.int .i64 p2.kind,.int .u64 (p2.a:Int),.int .u64 (p2.b:Int),.slice p2.addr p2.parts.length p2.cap,.slice A2 es2.length c2] 60)).heap.size:=(hbw.out.trans (HB6.out.mono hbw.out.size)).size
         clear hq5 hb56 HB5 HRL
         go_wp2_with (at_builtin; (refine wpList_app rfl _ _ 37 rfl w1.heap.size 60 i0 (.agg #[.int .i64 0,.int .u64 0,.int .u64 0,.int .u64 0,.int .u64 0,.int .u64 0,.int .i64 0,.int .u64 0,.int .u64 0,.slice none 0 0,.slice none 0 0]) 11 120 Tryz.underlying37 hi hz0 hz1 hz2 rfl (by decide) (.slice A' rs.length cap') rs.length _ rfl ho6 _ _ 1 1 (rvCells [(⟨k2,t2,x2,wn2,nn2,v2,p2,A2,c2,es2⟩:Rv)]) rfl hr6 h1c hm1 hm2 hs6 ?_); intro v' w7 hown' hst; obtain ⟨A7,c7,rfl,_⟩:=own_form hown')
         go_roundw
         case rel=>
          have hP:=OwnDs.push hown.out hbw.out.size HB6.out HRL6.out.1 (Nat.le_refl _) HRL6.out.2 hst (by rw [rvCells_append]; exact hown')
          have hB7:=hbw.out.trans (HB6.out.mono hbw.out.size)
          exact ⟨i+1,A7,c7,rs ++ [(⟨k2,t2,x2,wn2,nn2,v2,p2,A2,c2,es2⟩:Rv)],by rw [List.length_append]; rfl,by go_num,by omega,by rw [List.length_append,List.length_singleton]; omega,Lib_hid (by rw [HRA.out]; exact HG.out),Lib_hid (by rw [List.length_append]; exact hP),Lib_hid (hB7.trans ((hst.below hB7.size fun k hk=>own_ge ho6 k hk).mono (Nat.le_refl _)))⟩
         case measure=>simp [intOf]; omega
    · obtain rfl:i=M.length:=by omega
      have HF:Hid (DLnsEnd s w (.returned (.tuple #[.slice A' rs.length cap',.int .i64 (M.length:Int),.int .i64 0])) wr):=by
       have hg:=hgo.out
       rw [List.drop_length,goL] at hg
       exact ⟨A',cap',rs,by rw [← hg]; rfl,by rw [← hg],hown.out.down HBS.out.2.2.size,HBS.out.2.2.trans (hbw.out.mono HBS.out.2.2.size)⟩
      go_wp2
      exact bodyPost_ret (v:=.tuple #[.slice A' rs.length cap',.int .i64 (M.length:Int),.int .i64 0]) (by simp [results,Tryz.results24,go_sem]) rfl HF.out
theorem made_lit {w:World} (cs:Array Value) (l:List Nat) (hcs:cs.toList=bs l) (hn2:l.length≤1000) :
 Made 5 l w (.returned (.slice (some ⟨w.heap.size,0,none⟩) l.length l.length)) (w.alloc (.cells cs 5)):=by
 refine ⟨_,_,rfl,?_,(Below.refl _ _).alloc (Nat.le_refl _) _⟩
 rw [← hcs]
 exact World.ownsRow_lit w cs l.length (Nat.le_refl _) (by unfold maxLen; omega) (by have:=congrArg List.length hcs; rw [bs_length] at this; simpa using this)
theorem made_lit_at {w:World} {A:Option Addr} (cs:Array Value) (l:List Nat) (hA:A=some ⟨w.heap.size,0,none⟩) {n m:Nat} (hn:n=l.length) (hm:m=l.length) (hcs:cs.toList=bs l) (hn2:l.length≤1000) :
 Made 5 l w (.returned (.slice A n m)) (w.alloc (.cells cs 5)):=by
 subst hA hn hm
 exact made_lit cs l hcs hn2
theorem Made.onto {E:TypeId} {ys:List Nat} {w w1 w':World} {e:Ending} (h:Made E ys w1 e w') (hb:Below w.heap.size w w1):Made E ys w e w':=by
 obtain ⟨A,c,he,ho,h2⟩:=h
 exact ⟨A,c,he,own_base ho (fun k hk=>Nat.le_trans hb.size (own_ge ho k hk)),hb.trans (h2.mono hb.size)⟩
end Go.Proofs.YtinmoknbgnngcaaGreatDoor
namespace Go.Proofs.YtinmoknbgnngcaaGreatDoor
end Go.Proofs.YtinmoknbgnngcaaGreatDoor
namespace Go.Proofs.YtinmoknbgnngcaaGreatDoor
set_option linter.unusedSimpArgs false
def tbl:List Nat:=[0,498536548,997073096,651767980,1994146192,1802195444,1303535960,1342533948,3988292384,4027552580,3604390888,3412177804,2607071920,2262029012,2685067896,3183342108]
def tb (k:Nat):Nat:=tbl.getD k 0
def nib (v:Nat):Nat:=(v / 16) ^^^ tb (v % 16)
def byt (v c:Nat):Nat:=nib (nib (v ^^^ c))
def regs (v:Nat) (l:List Nat):Nat:=l.foldl byt v
def neg (v:Nat):Nat:=4294967295 - v
def crcN (l:List Nat):Nat:=neg (regs 4294967295 l)
theorem tb_lt (k:Nat):tb k<4294967296:=by
 unfold tb
 by_cases h:k<16
 · have:∀ k:Fin 16,tbl.getD k.1 0<4294967296:=by decide
   exact this ⟨k,h⟩
 · rw [List.getD_eq_getElem?_getD,List.getElem?_eq_none (by simp [tbl]; omega)]; decide
theorem nib_lt {v:Nat} (h:v<4294967296):nib v<4294967296:=by
 have:v / 16<2 ^ 32:=by omega
 exact Nat.xor_lt_two_pow (n:=32) this (tb_lt _)
theorem byt_lt {v c:Nat} (h:v<4294967296) (hc:c<256):byt v c<4294967296:=
 nib_lt (nib_lt (Nat.xor_lt_two_pow (n:=32) h (by omega)))
theorem regs_append (v:Nat) (l m:List Nat):regs v (l ++ m)=regs (regs v l) m:=by simp [regs]
theorem regs_lt:∀ (l:List Nat) {v:Nat},v<4294967296→(∀ c∈l,c<256)→regs v l<4294967296
 | [],_,h,_=>h
 | c :: l,_,h,hl=>regs_lt l (byt_lt h (hl c (by simp))) fun x hx=>hl x (by simp [hx])
theorem neg_neg {v:Nat} (h:v<4294967296):neg (neg v)=v:=by unfold neg; omega
theorem neg_lt (v:Nat):neg v<4294967296:=by unfold neg; omega
theorem crcN_lt (l:List Nat):crcN l<4294967296:=neg_lt _
theorem crcN_append (m l:List Nat) (hm:∀ c∈m,c<256):crcN (m ++ l)=neg (regs (neg (crcN m)) l):=by
 unfold crcN
 rw [regs_append,neg_neg (regs_lt m (by omega) hm)]
theorem crcN_nil:crcN []=0:=rfl
theorem xor_nat (a b:Nat):BitVec.ofNat 32 (a ^^^ b)=BitVec.ofNat 32 a ^^^ BitVec.ofNat 32 b:=by
 apply BitVec.eq_of_getLsbD_eq
 intro i hi
 simp [BitVec.getLsbD_ofNat,hi]
end Go.Proofs.YtinmoknbgnngcaaGreatDoor
