/-
  The contract of the program's reader.frame: what stands at the reader's place.
-/
import Derived.Test.YtinmoknbgnngcaaGreatDoorZwFcl
import Derived.Test.YtinmoknbgnngcaaGreatDoorZwFpt
import Derived.Deep.RegionHeld3
import Derived.RegionTactic
import Derived.Handy
import Derived.Deep.DeepCutAuto
import Derived.Deep.CutBlock
namespace Go.Proofs.YtinmoknbgnngcaaGreatDoor
open Go Go.RowKit
set_option linter.unusedVariables false
def FrEnd (r:FG) (g:Nat) (w:World) (e:Ending) (w':World):Prop:=
 match r with
 | .bad r=>e=.returned (.tuple #[.agg #[.int .u8 0,.slice none 0 0],.int .i64 (r:Int)])∧Below w.heap.size w w'
 | .good k p nx=>∃ A' c',e=.returned (.tuple #[.agg #[.int .u8 (k:Int),.slice A' p.length c'],.int .i64 0])∧w'.ownsRow w.heap.size 5 1 (.slice A' p.length c') p.length (bs p)∧
  ∃ w1,Below w.heap.size w w1∧Below w.heap.size (w1.setCell ⟨g,1,none⟩ (.int .i64 (nx:Int))) w'
theorem below_put2 {w W:World} (h:Below w.heap.size w W) (x y:Value):Below w.heap.size w ((W.setCell ⟨w.heap.size,0,none⟩ x).setCell ⟨w.heap.size,1,none⟩ y):=
 (h.setCell (p:=⟨w.heap.size,0,none⟩) (Nat.le_refl _) _).setCell (p:=⟨w.heap.size,1,none⟩) (Nat.le_refl _) _
set_option maxRecDepth 100000 in
theorem frame_out (g:Nat) (A:Option Addr) (n c:Nat) (a:Int) (w:World) (c0:w.cell? ⟨g,0,none⟩=some (.slice A n c)) (c1:w.cell? ⟨g,1,none⟩=some (.int .i64 a)) (h:a<0∨(n:Int)≤a) :
 Calls Tryz.prog 88 #[.pointer (some ⟨g,0,none⟩)] w (FrEnd (.bad 1) g w):=by
 have hg:=World.block_lt_of_cell? w _ c0
 simp only at hg
 by_cases h0:a<0
 · go_enter Tryz.func88,Tryz.ntmps88
   go_wp2
   go_quiet (fail)
   go_wp2
   exact bodyPost_ret (v:=.tuple #[.agg #[.int .u8 0,.slice none 0 0],.int .i64 1]) (by simp [results,Tryz.results88,go_sem]) rfl ⟨rfl,below_put2 (below_drew_ (below_new _ _)) _ _⟩
 · have hn:(n:Int)≤a:=by omega
   have hd:decide (a<0)=false:=by simpa using h0
   go_enter Tryz.func88,Tryz.ntmps88
   go_wp2
   go_quiet (fail)
   go_wp2
   exact bodyPost_ret (v:=.tuple #[.agg #[.int .u8 0,.slice none 0 0],.int .i64 1]) (by simp [results,Tryz.results88,go_sem]) rfl ⟨rfl,below_put2 (below_drew_ (below_new _ _)) _ _⟩
structure Rdr (w:World) (B g:Nat) (A:Option Addr) (n c:Nat) (l:List Nat) (a:Nat):Prop where
 c0:w.cell? ⟨g,0,none⟩=some (.slice A n c)
 c1:w.cell? ⟨g,1,none⟩=some (.int .i64 (a:Int))
 f1:w.frozen? ⟨g,1,none⟩=false
 rd:Rd w B 1 A n (bs l)
 b8:∀ x∈l,x<256
 nc:n≤c∧c≤9223372036854775807
 n47:n≤1000000000
 hB:B≤w.heap.size
 hBg:B≤g
theorem vget_quiet {B:Nat} {A:Option Addr} {n c:Nat} {l:List Nat} {a:Int} {w:World} {j k:Nat} (x y z:Nat) (hx:getS l a=(x,y,z)) (h:Rd w B 1 A n (bs l)) (hb:∀ x∈l,x<256) (hn:n≤c) (hc:c≤9223372036854775807) :
 Calls Tryz.prog 112 #[.slice A n c,.int .i64 a] (w.drewN (j+k)) fun e w''=>e=.returned (.tuple #[.int .u64 x,.int .i64 y,.int .i64 z])∧∃ q,w''=w.drewN (j+q):=by
 have G:=get_any B A n c l a (w.drewN (j+k)) (h.keep fun p _=>World.cell?_of_block rfl) hb hn hc
 rw [hx] at G
 refine G.mono ?_
 rintro e w' ⟨h1,rfl⟩
 exact ⟨h1,k,rfl⟩
set_option maxRecDepth 100000 in
theorem frame_bad (B g:Nat) (A:Option Addr) (n c:Nat) (l:List Nat) (a:Nat) (w:World) (h:Rdr w B g A n c l a) (ha:a<n) (x y z:Nat) (hx:getS l ((a+1:Nat):Int)=(x,y,z)) (hz:z=10∨z=4∨(z=0∧n<y+4+x)) :
 Calls Tryz.prog 88 #[.pointer (some ⟨g,0,none⟩)] w (FrEnd (frN l a) g w):=by
 obtain ⟨c0,c1,f1,hr,hb8,hnc,hn47,hB,hBg⟩:=h
 have hln:l.length=n:=hr.count
 have hg:=World.block_lt_of_cell? w _ c0
 simp only at hg
 have hr2:Rd (w.alloc (.cells #[.int .u8 0,.slice none 0 0] 92)) B 1 A n (bs l):=hr.alloc hB _
 have hF:=getS_form hb8 (by omega) hx
 have hd0:decide ((a:Int)<0)=false:=by simp
 have hd1:decide ((n:Int)≤(a:Int))=false:=by simp; omega
 have hx':getS l ((a:Int)+1)=(x,y,z):=hx
 have hwr:IntKind.i64.wrap ((a:Int)+1)=(a:Int)+1:=IntWalk.i64_in _ (by omega)
 rcases hz with rfl | rfl | ⟨rfl,hz⟩
 · rw [frN_len hx]
   have HX:=Lib_hid hx'
   have HB:=Lib_hid hb8
   clear hx hx' hF hln hb8 hr
   go_enter Tryz.func88,Tryz.ntmps88
   go_wp2
   go_quiet (fail)
   go_wp2
   go_quiet ((go_at_call 112; exact vget_quiet x y 10 HX.out hr2 HB.out hnc.1 hnc.2))
   go_wp2
   exact bodyPost_ret (v:=.tuple #[.agg #[.int .u8 0,.slice none 0 0],.int .i64 2]) (by simp [results,Tryz.results88,go_sem]) rfl ⟨rfl,below_put2 (below_drew_ (below_new _ _)) _ _⟩
 · rw [frN_short hx (by omega) (.inl (by omega))]
   have hxl:(x:Int)≤0:=by omega
   have hyl:(y:Int)≤0:=by omega
   have HX:=Lib_hid hx'
   have HB:=Lib_hid hb8
   clear hx hx' hF hln hb8 hr
   go_enter Tryz.func88,Tryz.ntmps88
   go_wp2
   go_quiet (fail)
   go_wp2
   go_quiet ((go_at_call 112; exact vget_quiet x y 4 HX.out hr2 HB.out hnc.1 hnc.2))
   go_wp2
   exact bodyPost_ret (v:=.tuple #[.agg #[.int .u8 0,.slice none 0 0],.int .i64 1]) (by simp [results,Tryz.results88,go_sem]) rfl ⟨rfl,below_put2 (below_drew_ (below_new _ _)) _ _⟩
 · rw [frN_short hx (by omega) (.inr (by omega))]
   have hxl:(x:Int)≤18446744073709551615:=by omega
   have hyl:(y:Int)≤n:=by omega
   by_cases hy:n<y+4
   · have hy':(n:Int) - y - 4<0:=by omega
     have HX:=Lib_hid hx'
     have HB:=Lib_hid hb8
     clear hx hx' hF hln hb8 hr
     go_enter Tryz.func88,Tryz.ntmps88
     go_wp2
     go_quiet (fail)
     go_wp2
     go_quiet ((go_at_call 112; exact vget_quiet x y 0 HX.out hr2 HB.out hnc.1 hnc.2))
     go_wp2
     exact bodyPost_ret (v:=.tuple #[.agg #[.int .u8 0,.slice none 0 0],.int .i64 1]) (by simp [results,Tryz.results88,go_sem]) rfl ⟨rfl,below_put2 (below_drew_ (below_new _ _)) _ _⟩
   · have hy':(0:Int)≤(n:Int) - y - 4:=by omega
     have hz':(n:Int) - y - 4<x:=by omega
     have HX:=Lib_hid hx'
     have HB:=Lib_hid hb8
     clear hx hx' hF hln hb8 hr
     go_enter Tryz.func88,Tryz.ntmps88
     go_wp2
     go_quiet (fail)
     go_wp2
     go_quiet ((go_at_call 112; exact vget_quiet x y 0 HX.out hr2 HB.out hnc.1 hnc.2))
     go_wp2
     exact bodyPost_ret (v:=.tuple #[.agg #[.int .u8 0,.slice none 0 0],.int .i64 1]) (by simp [results,Tryz.results88,go_sem]) rfl ⟨rfl,below_put2 (below_drew_ (below_new _ _)) _ _⟩
theorem below_like {B:Nat} {a b b':World} (h:Below B a b) (e1:b'.os=b.os) (e2:b'.tape=b.tape) (e3:b'.output=b.output) (e4:b'.heap=b.heap):Below B a b':=
 ⟨e1.trans h.os,e2.trans h.tape,e3.trans h.output,by rw [e4]; exact h.size,fun i hi=>by rw [e4]; exact h.block i hi⟩
structure FrFin (w W:World) (g s k:Nat) (a:Nat) (Ax:Option Addr) (m cx:Nat) (pl:List Nat):Prop where
 b:Below w.heap.size w W
 own:W.ownsRow (w.heap.size+1) 5 1 (.slice Ax m cx) m (bs pl)
 s0:W.cell? ⟨s,0,none⟩=some (.int .u8 (k:Int))
 s1:W.cell? ⟨s,1,none⟩=some (.slice Ax m cx)
 h0:W.cell? ⟨w.heap.size,0,none⟩=some (.int .u8 0)
 h1:W.cell? ⟨w.heap.size,1,none⟩=some (.slice none 0 0)
 f0:W.frozen? ⟨w.heap.size,0,none⟩=false
 f1:W.frozen? ⟨w.heap.size,1,none⟩=false
 g1:W.cell? ⟨g,1,none⟩=some (.int .i64 (a:Int))
 gf:W.frozen? ⟨g,1,none⟩=false
 lt:w.heap.size<s
 gl:g<w.heap.size
theorem fr_fin {w W1:World} {g s k a m cx:Nat} {Ax:Option Addr} {pl:List Nat} (hb:Below w.heap.size w W1) (hs:W1.heap[s]? = some (.cells #[.int .u8 0,.slice none 0 0] 92 (0,0))) (hle:w.heap.size<s)
 (ho:W1.ownsRow (w.heap.size+1) 5 1 (.slice Ax m cx) m (bs pl)) (hne:(Value.slice Ax m cx).ownBlock≠some s) (hg:g<w.heap.size) (c1:w.cell? ⟨g,1,none⟩=some (.int .i64 (a:Int))) (f1:w.frozen? ⟨g,1,none⟩=false)
 (h0:W1.heap[w.heap.size]? = some (.cells #[.int .u8 0,.slice none 0 0] 92 (0,0))) :
 FrFin w ((W1.setCell ⟨s,0,none⟩ (.int .u8 (k:Int))).setCell ⟨s,1,none⟩ (.slice Ax m cx)) g s k a Ax m cx pl:=by
 have hg2:=grown_two W1 s 0 1 (.int .u8 (k:Int)) (.slice Ax m cx)
 have hB:=hb.grown hg2 hb.size (fun j hj=>by injection hj with hj; omega)
 have hS:=Joins.block_setCell (i:=1) (Joins.block_setCell (i:=0) hs (.int .u8 (k:Int))) (.slice Ax m cx)
 have hH:=(hg2.block w.heap.size (Array.getElem?_eq_some_iff.1 h0).1 (fun e=>by injection e with e; omega)).trans h0
 exact ⟨hB,own_keep ho fun j hj=>hg2.block j (own_lt ho j hj) (fun e=>hne (by rw [hj]; exact e)),Joins.cell_of_block hS 0,Joins.cell_of_block hS 1,Joins.cell_of_block hH 0,Joins.cell_of_block hH 1,frozen_of_row _ _ 0 _ _ hH,frozen_of_row _ _ 1 _ _ hH,
  (hB.cell (p:=⟨g,1,none⟩) hg).trans c1,(hB.frozen (p:=⟨g,1,none⟩) hg).trans f1,hle,hg⟩
theorem fr_fin1 {w W1:World} {g k a m cx:Nat} {Ax:Option Addr} {pl:List Nat} (hb:Below w.heap.size w W1) (hle:w.heap.size<W1.heap.size)
 (ho:W1.ownsRow (w.heap.size+1) 5 1 (.slice Ax m cx) m (bs pl)) (hg:g<w.heap.size) (c1:w.cell? ⟨g,1,none⟩=some (.int .i64 (a:Int))) (f1:w.frozen? ⟨g,1,none⟩=false)
 (h0:W1.heap[w.heap.size]? = some (.cells #[.int .u8 0,.slice none 0 0] 92 (0,0))) :
 FrFin w (W1.alloc (.cells #[.int .u8 (k:Int),.slice Ax m cx] 92)) g W1.heap.size k a Ax m cx pl:=by
 have hB:=hb.alloc hb.size (.cells #[.int .u8 (k:Int),.slice Ax m cx] 92)
 have hS:=heap_alloc_new W1 (.cells #[.int .u8 (k:Int),.slice Ax m cx] 92)
 have hH:=(heap_alloc_old W1 (.cells #[.int .u8 (k:Int),.slice Ax m cx] 92) hle).trans h0
 exact ⟨hB,own_below ho (below_new _ _) (own_lt ho),Joins.cell_of_block hS 0,Joins.cell_of_block hS 1,Joins.cell_of_block hH 0,Joins.cell_of_block hH 1,frozen_of_row _ _ 0 _ _ hH,frozen_of_row _ _ 1 _ _ hH,
  (hB.cell (p:=⟨g,1,none⟩) hg).trans c1,(hB.frozen (p:=⟨g,1,none⟩) hg).trans f1,hle,hg⟩
set_option maxRecDepth 100000 in
set_option maxHeartbeats 1600000 in
theorem frame_fit (B g:Nat) (A:Option Addr) (n c:Nat) (l:List Nat) (a:Nat) (w:World) (hT:Tab w) (h:Rdr w B g A n c l a) (ha:a<n) (x y:Nat) (hx:getS l ((a+1:Nat):Int)=(x,y,0)) (hz:y+4+x≤n) :
 Calls Tryz.prog 88 #[.pointer (some ⟨g,0,none⟩)] w (FrEnd (frN l a) g w):=by
 obtain ⟨c0,c1,f1,hr,hb8,hnc,hn47,hB,hBg⟩:=h
 have hln:l.length=n:=hr.count
 have hg:=World.block_lt_of_cell? w _ c0
 simp only at hg
 obtain ⟨hhd,hay,hpl,hx64⟩:=fr_head hb8 (by omega) hx (by omega)
 have hd0:decide ((a:Int)<0)=false:=by simp
 have hd1:decide ((n:Int)≤(a:Int))=false:=by simp; omega
 have hx':getS l ((a:Int)+1)=(x,y,0):=hx
 have hwr:IntKind.i64.wrap ((a:Int)+1)=(a:Int)+1:=IntWalk.i64_in _ (by omega)
 obtain ⟨W0,hW0⟩:∃ W0,W0=w.alloc (.cells #[.int .u8 0,.slice none 0 0] 92):=⟨_,rfl⟩
 have hb0:Below w.heap.size w W0:=by rw [hW0]; exact below_new _ _
 have hsz0:W0.heap.size=w.heap.size+1:=by rw [hW0]; simp
 have hh0:W0.heap[w.heap.size]? = some (.cells #[.int .u8 0,.slice none 0 0] 92 (0,0)):=by rw [hW0]; exact heap_alloc_new _ _
 have hr0:Rd W0 B 1 A n (bs l):=hr.below (hb0.mono hB)
 have hT0:Tab W0:=hT.below hb0 hT.1
 have d0:W0.cell? ⟨g,0,none⟩=some (.slice A n c):=(hb0.cell (p:=⟨g,0,none⟩) hg).trans c0
 have d1:W0.cell? ⟨g,1,none⟩=some (.int .i64 (a:Int)):=(hb0.cell (p:=⟨g,1,none⟩) hg).trans c1
 have g1:W0.frozen? ⟨g,1,none⟩=false:=(hb0.frozen (p:=⟨g,1,none⟩) hg).trans f1
 have HX:=Lib_hid hx'
 have HB:=Lib_hid hb8
 have HW0:Hid (w.alloc (.cells #[.int .u8 0,.slice none 0 0] 92)=W0):=hW0.symm
 have hr2:Rd (w.alloc (.cells #[.int .u8 0,.slice none 0 0] 92)) B 1 A n (bs l):=hW0 ▸ hr0
 have HLN:=Lib_hid hln
 have hy1:(y:Int)+4+x≤n:=by omega
 have hleft:(x:Int)≤(n:Int) - y - 4:=by omega
 obtain ⟨t,ht⟩:∃ t,t=y+x:=⟨_,rfl⟩
 obtain ⟨t4,ht4⟩:∃ t4,t4=t+4:=⟨_,rfl⟩
 have ET:Hid ((y:Int)+(x:Int)=(t:Int)):=by unfold Hid; omega
 have ET4:Hid ((t:Int)+4=(t4:Int)):=by unfold Hid; omega
 obtain ⟨A2,hs2,r2⟩:=slice_lh (j:=t) (k:=t4) hr0 (by omega) (by omega) hnc.1
 obtain ⟨A3,hs3,r3⟩:=slice_lh (j:=a) (k:=t) hr0 (by omega) (by omega) hnc.1
 obtain ⟨A4,hs4,r4⟩:=slice_lh (j:=y) (k:=t) hr0 (by omega) (by omega) hnc.1
 rw [← bs_take,← bs_drop] at r2 r3 r4
 rw [show t4 - t=4 by omega] at hs2 r2
 rw [show t - y=x by omega] at hs4 r4
 have q2:(l.take t4).drop t=(l.drop (y+x)).take 4:=by rw [List.drop_take,ht,show t4 - (y+x)=4 by omega]
 have q3:(l.take t).drop a=frB (l.getD a 0) ((l.drop y).take x):=by rw [← hhd,List.drop_take,ht]
 have q4:(l.take t).drop y=(l.drop y).take x:=by rw [List.drop_take,show t - y=x by omega]
 rw [q2] at r2
 rw [q3] at r3
 rw [q4] at r4
 have hp8:∀ u∈(l.drop y).take x,u<256:=fun u hu=>hb8 u (List.mem_of_mem_drop (List.mem_of_mem_take hu))
 have hk8:l.getD a 0<256:=by
  rw [List.getD_eq_getElem?_getD,List.getElem?_eq_getElem (by omega)]
  exact hb8 _ (List.getElem_mem (by omega))
 have hf8:=frB_byte hk8 hp8
 have hc8:∀ u∈(l.drop (y+x)).take 4,u<256:=fun u hu=>hb8 u (List.mem_of_mem_drop (List.mem_of_mem_take hu))
 obtain ⟨ad,rfl,hadB,had⟩:=hr0.byte (k:=a) ha
 have FY:=fun he=>frN_good (l:=l) (a:=a) hx (by omega) he
 have FN:=fun he=>frN_bad (l:=l) (a:=a) hx (by omega) he
 have hcl:=crcN_lt (frB (l.getD a 0) ((l.drop y).take x))
 have CK:Hid (∀ W:World,W.heap=W0.heap→Calls Tryz.prog 102 #[.slice A3 (t - a) (c - a)] W (Made 5 (le4 (crcN (frB (l.getD a 0) ((l.drop y).take x)))) W)):=fun W hW=>
  fcheck_any B A3 (t - a) (c - a) _ W ⟨by rw [hW]; exact hT0.1,fun k hk=>(World.cell?_of_block (by rw [hW])).trans (hT0.2 k hk)⟩ (r3.keep fun p hp=>World.cell?_of_block (by rw [hW])) hf8 (by omega) (by omega) (by rw [hW]; omega)
 have KB:Hid (∀ W w8:World,W.heap=W0.heap→Below W.heap.size W w8→∀ p:Addr,p.block<W0.heap.size→w8.cell? p=W0.cell? p):=fun W w8 h1 h2 p hp=>
  (h2.cell (by rw [h1]; exact hp)).trans (World.cell?_of_block (by rw [h1]))
 have EQ:Hid (∀ (W w8 w8':World) (A8:Option Addr) (c8:Nat),W.heap=W0.heap→Below W.heap.size W w8→w8'.heap=w8.heap→w8.ownsRow W.heap.size 5 1 (.slice A8 (le4 (crcN (frB (l.getD a 0) ((l.drop y).take x)))).length c8) (le4 (crcN (frB (l.getD a 0) ((l.drop y).take x)))).length (bs (le4 (crcN (frB (l.getD a 0) ((l.drop y).take x)))))→
  Calls Tryz.prog 113 #[.slice A2 4 (c - t),.slice A8 (le4 (crcN (frB (l.getD a 0) ((l.drop y).take x)))).length c8] w8' fun e w'=>e=.returned (.bool (eqB ((l.drop (y+x)).take 4) (le4 (crcN (frB (l.getD a 0) ((l.drop y).take x))))))∧w8'=w'):=fun W w8 w8' A8 c8 h1 h2 h3 h4=>
  equal_any B w8.heap.size A2 A8 _ _ _ _ _ _ w8' (r2.keep fun p hp=>(World.cell?_of_block (by rw [h3])).trans (KB.out W w8 h1 h2 p (by omega))) ((Rd.own h4).keep fun p hp=>World.cell?_of_block (by rw [h3])) hc8 (le4_byte _)
 have HK8:=Lib_hid hk8
 have HP8:=Lib_hid hp8
 have HPL:=Lib_hid hpl
 have HFY:=Lib_hid FY
 have HFN:=Lib_hid FN
 have HAY:=Lib_hid hay
 have HT:=Lib_hid ht
 have HT4:=Lib_hid ht4
 have HHD:=Lib_hid hhd
 have HS4:=Lib_hid hs4
 have S0:Hid (∀ W:World,W.heap=W0.heap→W.cell? ⟨g,0,none⟩=some (.slice (some ad) n c)∧W.cell? ⟨g,1,none⟩=some (.int .i64 (a:Int))):=fun W hW=>⟨(World.cell?_of_block (by rw [hW])).trans d0,(World.cell?_of_block (by rw [hW])).trans d1⟩
 have S8:Hid (∀ W w8 w8':World,W.heap=W0.heap→Below W.heap.size W w8→w8'.heap=w8.heap→w8'.cell? ⟨g,0,none⟩=some (.slice (some ad) n c)∧w8'.cell? ⟨g,1,none⟩=some (.int .i64 (a:Int))):=fun W w8 w8' h1 h2 h3=>
  ⟨(World.cell?_of_block (by rw [h3])).trans ((KB.out W w8 h1 h2 _ (by show g<_; omega)).trans d0),(World.cell?_of_block (by rw [h3])).trans ((KB.out W w8 h1 h2 _ (by show g<_; omega)).trans d1)⟩
 have hby:=had
 clear hx hx' hr hW0 hln q2 q3 q4 hp8 hk8 hf8 hc8 FY FN hpl hay hhd r2 r3 had hs4 ht ht4
 generalize l.getD a 0=k at *
 generalize (l.drop y).take x=pl at *
 generalize (l.drop (y+x)).take 4=ck at *
 generalize crcN (frB k pl)=s at *
 cases he:eqB ck (le4 s) with
 | false=>
  have HE:=Lib_hid he
  clear he
  rw [HFN.out HE.out]
  go_enter Tryz.func88,Tryz.ntmps88
  go_wp2
  go_quiet (fail)
  go_wp2
  go_quiet ((go_at_call 112; exact vget_quiet x y 0 HX.out hr2 HB.out hnc.1 hnc.2))
  go_upto_region 11 with (fail)
  rw [HW0.out,ET.out,ET4.out]
  go_region_held3 (fun W=>W.cell? ⟨g,0,none⟩=some (.slice (some ad) n c)∧W.cell? ⟨g,1,none⟩=some (.int .i64 (a:Int))) (first | exact S8.out _ _ _ (by rfl) hb8 (by rfl) | exact S0.out _ (by rfl))
   ((first | (go_at_call 102; refine (CK.out _ (by rfl)).mono ?_; rintro e w8 ⟨A8,c8,rfl,ho8,hb8⟩) | (go_at_call 113; refine (EQ.out _ _ _ _ _ (by rfl) hb8 (by rfl) ho8).mono ?_; rw [HE.out]; rintro e w9 ⟨rfl,rfl⟩)))
  have hh8:w8.heap[w.heap.size]? = some (.cells #[.int .u8 0,.slice none 0 0] 92 (0,0)):=(hb8.block w.heap.size (by show w.heap.size<W0.heap.size; omega)).trans hh0
  have e0:w8.cell? ⟨w.heap.size,0,none⟩=some (.int .u8 0):=Joins.cell_of_block hh8 0
  have e1:w8.cell? ⟨w.heap.size,1,none⟩=some (.slice none 0 0):=Joins.cell_of_block hh8 1
  have z0:=frozen_of_row w8 w.heap.size 0 _ _ hh8
  have z1:=frozen_of_row w8 w.heap.size 1 _ _ hh8
  have hbw:Below w.heap.size w w8:=(below_drew_ hb0).trans (hb8.mono (by show w.heap.size≤W0.heap.size; omega))
  clear hh8 hb8 ho8 S0 S8 KB EQ CK
  go_wp2
  exact bodyPost_ret (v:=.tuple #[.agg #[.int .u8 0,.slice none 0 0],.int .i64 3]) (by simp [results,Tryz.results88,go_sem,e0,e1]) rfl ⟨rfl,below_put2 hbw _ _⟩
 | true=>
  have HE:=Lib_hid he
  clear he
  rw [HFY.out HE.out]
  go_enter Tryz.func88,Tryz.ntmps88
  go_wp2
  go_quiet (fail)
  go_wp2
  go_quiet ((go_at_call 112; exact vget_quiet x y 0 HX.out hr2 HB.out hnc.1 hnc.2))
  go_upto_region 11 with (fail)
  rw [HW0.out,ET.out,ET4.out]
  go_region_held3 (fun W=>W.cell? ⟨g,0,none⟩=some (.slice (some ad) n c)∧W.cell? ⟨g,1,none⟩=some (.int .i64 (a:Int))) (first | exact S8.out _ _ _ (by rfl) hb8 (by rfl) | exact S0.out _ (by rfl))
   ((first | (go_at_call 102; refine (CK.out _ (by rfl)).mono ?_; rintro e w8 ⟨A8,c8,rfl,ho8,hb8⟩) | (go_at_call 113; refine (EQ.out _ _ _ _ _ (by rfl) hb8 (by rfl) ho8).mono ?_; rw [HE.out]; rintro e w9 ⟨rfl,rfl⟩)))
  have hh8:w8.heap[w.heap.size]? = some (.cells #[.int .u8 0,.slice none 0 0] 92 (0,0)):=(hb8.block w.heap.size (by show w.heap.size<W0.heap.size; omega)).trans hh0
  have hbw:Below w.heap.size w w8:=(below_drew_ hb0).trans (hb8.mono (by show w.heap.size≤W0.heap.size; omega))
  have hk8':=KB.out _ w8 (by rfl) hb8
  have r4':Rd w8 B 1 A4 x (bs pl):=r4.keep fun p hp=>hk8' p (by omega)
  have hby':w8.cell? (ad.add a)=some (.int .u8 (k:Int)):=(hk8' _ (by rw [add_block]; omega)).trans hby
  have u0:=S8.out _ w8 w8 (by rfl) hb8 rfl
  have hsz8:W0.heap.size≤w8.heap.size:=hb8.size
  clear hb8 ho8 S0 S8 KB EQ CK hk8' hby
  have S1:Hid (∀ W:World,Below w8.heap.size w8 W→W.cell? ⟨g,0,none⟩=some (.slice (some ad) n c)∧W.cell? ⟨g,1,none⟩=some (.int .i64 (a:Int))∧W.cell? (ad.add a)=some (.int .u8 (k:Int))):=fun W hW=>
   ⟨(hW.cell (p:=⟨g,0,none⟩) (by show g<_; omega)).trans u0.1,(hW.cell (p:=⟨g,1,none⟩) (by show g<_; omega)).trans u0.2,(hW.cell (by rw [add_block]; omega)).trans hby'⟩
  have CL:∀ W:World,Below w8.heap.size w8 W→Calls Tryz.prog 52 #[.slice A4 x (c - y)] W (fun e w'=>∃ A' c',e=.returned (.slice A' pl.length c')∧w'.ownsRow W.heap.size 5 1 (.slice A' pl.length c') pl.length (bs pl)∧Below W.heap.size W w'∧Below w8.heap.size w8 w'):=fun W hW=>
   (bclone_any B A4 x (c - y) pl W (r4'.below (hW.mono (by omega))) (by omega)).mono fun e w' ⟨A',c',h1,h2,h3⟩=>⟨A',c',h1,h2,h3,hW.trans (h3.mono hW.size)⟩
  have CA:=Lib_hid (CL w8.drew (below_like (Below.refl _ _) rfl rfl rfl rfl))
  have CB:=Lib_hid (CL (w8.alloc (.cells #[.int .u8 0,.slice none 0 0] 92)).drew (below_like (below_new _ _) rfl rfl rfl rfl))
  have HS4':=fun wx=>HS4.out wx
  clear CL
  go_wp2
  go_region_held3 (fun W=>W.cell? ⟨g,0,none⟩=some (.slice (some ad) n c)∧W.cell? ⟨g,1,none⟩=some (.int .i64 (a:Int))∧W.cell? (ad.add a)=some (.int .u8 (k:Int)))
   (first | exact S1.out _ (below_like (Below.refl _ _) rfl rfl rfl rfl) | exact S1.out _ (below_like (below_new _ _) rfl rfl rfl rfl) | exact S1.out _ (below_like hby rfl rfl rfl rfl) | exact S1.out _ (below_like (hby.alloc hby.size _) rfl rfl rfl rfl) | exact S1.out _ (below_like (((hby.alloc hby.size _).setCell (p:=⟨wx.heap.size,0,none⟩) hby.size _).setCell (p:=⟨wx.heap.size,1,none⟩) hby.size _) rfl rfl rfl rfl) | exact S1.out _ (below_like ((hby.setCell (p:=⟨w8.heap.size,0,none⟩) (Nat.le_refl _) _).setCell (p:=⟨w8.heap.size,1,none⟩) (Nat.le_refl _) _) rfl rfl rfl rfl))
   ((first | (go_at_call 52; ((with_reducible refine CA.out.mono ?_); rintro e wx ⟨Ax,cx,rfl,hox,hbx,hby⟩)) | (go_at_call 52; ((with_reducible refine CB.out.mono ?_); rintro e wx ⟨Ax,cx,rfl,hox,hbx,hby⟩; have hhx:=(hbx.block w8.heap.size (by simp)).trans (heap_alloc_new w8 _); have e0:=cell_of_row wx w8.heap.size 0 _ _ _ hhx; have e1:=cell_of_row wx w8.heap.size 1 _ _ _ hhx; have z0:=frozen_of_row wx w8.heap.size 0 _ _ hhx; have z1:=frozen_of_row wx w8.heap.size 1 _ _ hhx))))
  · have FF:=fr_fin1 (k:=k) (a:=a) (hbw.trans (hby.mono (by omega))) (by have:=hby.size; omega)
     (own_base hox fun j hj=>by have h9:=own_ge hox j hj; change w8.heap.size≤_ at h9; omega) hg c1 f1 ((hby.block w.heap.size (by omega)).trans hh8)
    generalize wx.alloc (.cells #[.int .u8 (k:Int),.slice Ax pl.length cx] 92)=WF at *
    generalize wx.heap.size=s10 at *
    clear hox hbx hby
    obtain ⟨fb,fown,q0,q1,p0,p1,z0',z1',v1,vf,flt,fgl⟩:=FF
    have W2b:=fun x:Value=>(grown_set WF g 1 x)
    have n0:∀ x,(WF.setCell ⟨g,1,none⟩ x).cell? ⟨s10,0,none⟩=some (.int .u8 (k:Int)):=fun x=>(World.cell?_setCell_far _ _ _ _ (by show g≠s10; omega)).trans q0
    have n1:∀ x,(WF.setCell ⟨g,1,none⟩ x).cell? ⟨s10,1,none⟩=some (.slice Ax pl.length cx):=fun x=>(World.cell?_setCell_far _ _ _ _ (by show g≠s10; omega)).trans q1
    have m0:∀ x,(WF.setCell ⟨g,1,none⟩ x).cell? ⟨w.heap.size,0,none⟩=some (.int .u8 0):=fun x=>(World.cell?_setCell_far _ _ _ _ (by show g≠w.heap.size; omega)).trans p0
    have m1:∀ x,(WF.setCell ⟨g,1,none⟩ x).cell? ⟨w.heap.size,1,none⟩=some (.slice none 0 0):=fun x=>(World.cell?_setCell_far _ _ _ _ (by show g≠w.heap.size; omega)).trans p1
    have fown2:∀ x,(WF.setCell ⟨g,1,none⟩ x).ownsRow (w.heap.size+1) 5 1 (.slice Ax pl.length cx) pl.length (bs pl):=fun x=>own_keep fown fun j hj=>(grown_set WF g 1 x).block j (own_lt fown j hj) (fun e=>by injection e with e; have:=own_ge fown j hj; omega)
    have N0:=n0 (.int .i64 (t4:Int))
    have N1:=n1 (.int .i64 (t4:Int))
    have M0:=m0 (.int .i64 (t4:Int))
    have M1:=m1 (.int .i64 (t4:Int))
    have M2:(WF.setCell ⟨g,1,none⟩ (.int .i64 (t4:Int))).heap.size=WF.heap.size:=by simp
    have FO:=fown2 (.int .i64 (t4:Int))
    have Z0:(WF.setCell ⟨g,1,none⟩ (.int .i64 (t4:Int))).frozen? ⟨w.heap.size,0,none⟩=false:=by rw [World.frozen?_setCell]; exact z0'
    have Z1:(WF.setCell ⟨g,1,none⟩ (.int .i64 (t4:Int))).frozen? ⟨w.heap.size,1,none⟩=false:=by rw [World.frozen?_setCell]; exact z1'
    have HM2:=Lib_hid M2
    have HFO:=Lib_hid FO
    clear n0 n1 m0 m1 fown2 W2b M2 FO q0 q1 p0 p1 z0' z1'
    go_upto_region 15 with (fail)
    generalize hWG:WF.setCell ⟨g,1,none⟩ (.int .i64 (t4:Int))=WG at *
    have HWG:=Lib_hid hWG
    clear hWG
    go_wp2
    have hg2:=grown_two WG w.heap.size 0 1 (.int .u8 (k:Int)) (.slice Ax pl.length cx)
    have e4:t4=y+x+4:=by rw [HT4.out,HT.out]
    have hz9:w.heap.size≤WG.heap.size:=by rw [HM2.out]; exact fb.size
    have fo:=own_keep HFO.out fun j hj=>hg2.block j (own_lt HFO.out j hj) (fun e=>by injection e with e; have:=own_ge HFO.out j hj; omega)
    refine bodyPost_ret (v:=.tuple #[.agg #[.int .u8 (k:Int),.slice Ax pl.length cx],.int .i64 0]) (by simp [results,Tryz.results88,go_sem,M0,M1]) rfl ⟨Ax,cx,rfl,own_base fo (fun j hj=>by have:=own_ge fo j hj; omega),WF,fb,?_⟩
    rw [← e4,HWG.out]
    exact ((Below.refl w.heap.size WG).grown hg2 hz9 (fun j hj=>by injection hj with hj; omega))
  · have FF:=fr_fin (k:=k) (a:=a) (hbw.trans (hby.mono (by omega))) hhx (by omega)
     (own_base hox fun j hj=>by have:=own_ge hox j hj; simp at this; omega) (fun e=>by have h9:=own_ge hox _ e; change (w8.alloc _).heap.size≤_ at h9; rw [World.size_alloc] at h9; omega) hg c1 f1
     ((hby.block w.heap.size (by omega)).trans hh8)
    generalize (wx.setCell ⟨w8.heap.size,0,none⟩ (.int .u8 (k:Int))).setCell ⟨w8.heap.size,1,none⟩ (.slice Ax pl.length cx)=WF at *
    generalize w8.heap.size=s10 at *
    clear hox hbx hby hhx e0 e1 z0 z1
    obtain ⟨fb,fown,q0,q1,p0,p1,z0',z1',v1,vf,flt,fgl⟩:=FF
    have W2b:=fun x:Value=>(grown_set WF g 1 x)
    have n0:∀ x,(WF.setCell ⟨g,1,none⟩ x).cell? ⟨s10,0,none⟩=some (.int .u8 (k:Int)):=fun x=>(World.cell?_setCell_far _ _ _ _ (by show g≠s10; omega)).trans q0
    have n1:∀ x,(WF.setCell ⟨g,1,none⟩ x).cell? ⟨s10,1,none⟩=some (.slice Ax pl.length cx):=fun x=>(World.cell?_setCell_far _ _ _ _ (by show g≠s10; omega)).trans q1
    have m0:∀ x,(WF.setCell ⟨g,1,none⟩ x).cell? ⟨w.heap.size,0,none⟩=some (.int .u8 0):=fun x=>(World.cell?_setCell_far _ _ _ _ (by show g≠w.heap.size; omega)).trans p0
    have m1:∀ x,(WF.setCell ⟨g,1,none⟩ x).cell? ⟨w.heap.size,1,none⟩=some (.slice none 0 0):=fun x=>(World.cell?_setCell_far _ _ _ _ (by show g≠w.heap.size; omega)).trans p1
    have fown2:∀ x,(WF.setCell ⟨g,1,none⟩ x).ownsRow (w.heap.size+1) 5 1 (.slice Ax pl.length cx) pl.length (bs pl):=fun x=>own_keep fown fun j hj=>(grown_set WF g 1 x).block j (own_lt fown j hj) (fun e=>by injection e with e; have:=own_ge fown j hj; omega)
    have N0:=n0 (.int .i64 (t4:Int))
    have N1:=n1 (.int .i64 (t4:Int))
    have M0:=m0 (.int .i64 (t4:Int))
    have M1:=m1 (.int .i64 (t4:Int))
    have M2:(WF.setCell ⟨g,1,none⟩ (.int .i64 (t4:Int))).heap.size=WF.heap.size:=by simp
    have FO:=fown2 (.int .i64 (t4:Int))
    have Z0:(WF.setCell ⟨g,1,none⟩ (.int .i64 (t4:Int))).frozen? ⟨w.heap.size,0,none⟩=false:=by rw [World.frozen?_setCell]; exact z0'
    have Z1:(WF.setCell ⟨g,1,none⟩ (.int .i64 (t4:Int))).frozen? ⟨w.heap.size,1,none⟩=false:=by rw [World.frozen?_setCell]; exact z1'
    have HM2:=Lib_hid M2
    have HFO:=Lib_hid FO
    clear n0 n1 m0 m1 fown2 W2b M2 FO q0 q1 p0 p1 z0' z1'
    go_upto_region 15 with (fail)
    generalize hWG:WF.setCell ⟨g,1,none⟩ (.int .i64 (t4:Int))=WG at *
    have HWG:=Lib_hid hWG
    clear hWG
    go_wp2
    have hg2:=grown_two WG w.heap.size 0 1 (.int .u8 (k:Int)) (.slice Ax pl.length cx)
    have e4:t4=y+x+4:=by rw [HT4.out,HT.out]
    have hz9:w.heap.size≤WG.heap.size:=by rw [HM2.out]; exact fb.size
    have fo:=own_keep HFO.out fun j hj=>hg2.block j (own_lt HFO.out j hj) (fun e=>by injection e with e; have:=own_ge HFO.out j hj; omega)
    refine bodyPost_ret (v:=.tuple #[.agg #[.int .u8 (k:Int),.slice Ax pl.length cx],.int .i64 0]) (by simp [results,Tryz.results88,go_sem,M0,M1]) rfl ⟨Ax,cx,rfl,own_base fo (fun j hj=>by have:=own_ge fo j hj; omega),WF,fb,?_⟩
    rw [← e4,HWG.out]
    exact ((Below.refl w.heap.size WG).grown hg2 hz9 (fun j hj=>by injection hj with hj; omega))
theorem frame_any (B g:Nat) (A:Option Addr) (n c:Nat) (l:List Nat) (a:Int) (w:World) (hT:Tab w) (c0:w.cell? ⟨g,0,none⟩=some (.slice A n c)) (c1:w.cell? ⟨g,1,none⟩=some (.int .i64 a)) (f1:w.frozen? ⟨g,1,none⟩=false)
 (hr:Rd w B 1 A n (bs l)) (hb8:∀ x∈l,x<256) (hnc:n≤c∧c≤9223372036854775807) (hn:n≤1000000000) (hB:B≤w.heap.size) (hBg:B≤g) :
 Calls Tryz.prog 88 #[.pointer (some ⟨g,0,none⟩)] w (FrEnd (frG l a) g w):=by
 have hln:l.length=n:=hr.count
 by_cases ho:a<0∨(n:Int)≤a
 · rw [frG_out (by rw [hln]; exact ho)]
   exact frame_out g A n c a w c0 c1 ho
 · obtain ⟨a,rfl⟩:∃ k:Nat,a=k:=⟨a.toNat,by omega⟩
   rw [frG_in (by omega)]
   have h:Rdr w B g A n c l a:=⟨c0,c1,f1,hr,hb8,hnc,hn,hB,hBg⟩
   obtain ⟨⟨x,y,z⟩,hx⟩:∃ q,getS l ((a+1:Nat):Int)=q:=⟨_,rfl⟩
   by_cases hz:z=10∨z=4∨(z=0∧n<y+4+x)
   · exact frame_bad B g A n c l a w h (by omega) x y z hx hz
   · have:z=0:=by
      rcases getS_form hb8 (by omega) hx with h1 | h1 <;> omega
     subst this
     exact frame_fit B g A n c l a w hT h (by omega) x y hx (by omega)
theorem frN_rule {l:List Nat} {a r:Nat} (h:frN l a=.bad r):r=1∨r=2∨r=3:=by
 unfold frN at h
 split at h
 · injection h with h; omega
 · split at h
   · injection h with h; omega
   · split at h
     · cases h
     · injection h with h; omega
set_option maxRecDepth 100000 in
theorem all_any (B:Nat) (A:Option Addr) (n c:Nat) (l:List Nat) (w:World) (hr:Rd w B 1 A n (bs l)) (hn:n≤1000000000) :
 Calls Tryz.prog 28 #[.slice A n c] w fun e w'=>∃ A' c',e=.returned (.func (.func 53) #[.agg #[.slice A' l.length c',.int .i64 0]] #[])∧w'.ownsRow w.heap.size 5 1 (.slice A' l.length c') l.length (bs l)∧Below w.heap.size w w':=by
 go_enter Tryz.func28,Tryz.ntmps28
 go_wp2_with fail
 refine (bclone_any B A n c l w hr (by omega)).mono ?_
 rintro e w1 ⟨A1,c1,rfl,ho1,hb1⟩
 go_wp2_with fail
 go_ret
 exact ⟨A1,c1,rfl,own_below ho1 (below_new _ _) (own_lt ho1),hb1.alloc hb1.size _⟩
end Go.Proofs.YtinmoknbgnngcaaGreatDoor
namespace Go.Proofs.YtinmoknbgnngcaaGreatDoor
open Go Go.RowKit
def evs (l:List Nat):Nat→Nat→List (Nat×List Nat×Nat×Nat)×Nat×Nat
 | 0,a=>([],a,0)
 | f+1,a=>if l.length≤a then ([],a,0) else
  match frN l a with
  | .bad r=>([],a,r)
  | .good k p nx=>((k,p,a,nx) :: (evs l f nx).1,(evs l f nx).2)
def splitS (l:List Nat):List (Nat×List Nat×Nat×Nat)×Nat×Nat:=evs l (l.length+1) 0
section
variable {l:List Nat} {f a:Nat}
theorem evs_end (h:l.length≤a):evs l (f+1) a=([],a,0):=by rw [evs,if_pos h]
theorem evs_bad {r:Nat} (h:a<l.length) (h2:frN l a=.bad r):evs l (f+1) a=([],a,r):=by rw [evs,if_neg (by omega),h2]
theorem evs_good {k nx:Nat} {p:List Nat} (h:a<l.length) (h2:frN l a=.good k p nx):evs l (f+1) a=((k,p,a,nx) :: (evs l f nx).1,(evs l f nx).2):=by rw [evs,if_neg (by omega),h2]
end
def At (l:List Nat) (ds:List (Nat×List Nat×Nat×Nat)) (a:Nat):Prop:=
 a≤l.length∧∃ f,l.length<a+f∧splitS l=(ds ++ (evs l f a).1,(evs l f a).2)
theorem At.zero (l:List Nat):At l [] 0:=⟨Nat.zero_le _,l.length+1,by omega,by unfold splitS; simp⟩
theorem At.step {l:List Nat} {ds:List (Nat×List Nat×Nat×Nat)} {a k nx:Nat} {p:List Nat} (hb:∀ x∈l,x<256) (h:At l ds a) (ha:a<l.length) (h2:frN l a=.good k p nx):At l (ds ++ [(k,p,a,nx)]) nx∧a<nx:=by
 obtain ⟨h1,f,hf,hs⟩:=h
 obtain ⟨e1,e2,_⟩:=frN_stands hb ha h2
 rw [frS_length] at e1
 obtain ⟨f,rfl⟩:∃ g,f=g+1:=⟨f - 1,by omega⟩
 rw [evs_good ha h2] at hs
 exact ⟨⟨e2,f,by omega,by rw [hs]; simp⟩,by omega⟩
theorem At.bad {l:List Nat} {ds:List (Nat×List Nat×Nat×Nat)} {a r:Nat} (h:At l ds a) (ha:a<l.length) (h2:frN l a=.bad r):splitS l=(ds,a,r):=by
 obtain ⟨h1,f,hf,hs⟩:=h
 obtain ⟨f,rfl⟩:∃ g,f=g+1:=⟨f - 1,by omega⟩
 rw [evs_bad ha h2] at hs
 simpa using hs
theorem At.fin {l:List Nat} {ds:List (Nat×List Nat×Nat×Nat)} (h:At l ds l.length):splitS l=(ds,l.length,0):=by
 obtain ⟨h1,f,hf,hs⟩:=h
 obtain ⟨f,rfl⟩:∃ g,f=g+1:=⟨f - 1,by omega⟩
 rw [evs_end (Nat.le_refl _)] at hs
 simpa using hs
theorem At.pre {l:List Nat} {ds:List (Nat×List Nat×Nat×Nat)} {a:Nat} (h:At l ds a):∃ rest e,splitS l=(ds ++ rest,e):=by
 obtain ⟨_,f,_,hs⟩:=h
 exact ⟨_,_,hs⟩
end Go.Proofs.YtinmoknbgnngcaaGreatDoor
