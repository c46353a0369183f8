/-
  Layer 4: what bytes are taken as, plainly; the program's taker.number, kind and many.
-/
import Derived.Test.YtinmoknbgnngcaaGreatDoorZwTnq
import Derived.Test.YtinmoknbgnngcaaGreatDoorZwGet
import Derived.Test.YtinmoknbgnngcaaGreatDoorZwBse
import Derived.Test.YtinmoknbgnngcaaGreatDoorZwTex
import Derived.Test.YtinmoknbgnngcaaGreatDoorZwVlj
import Derived.Test.YtinmoknbgnngcaaGreatDoorZwTcf
import Derived.Test.YtinmoknbgnngcaaGreatDoorZwTqk
namespace Go.Proofs.YtinmoknbgnngcaaGreatDoor
open Go Go.RowKit
set_option linter.unusedVariables false
def numT (l:List Nat) (a:Nat):Option (Nat×Nat):=if (getS l (a:Int)).2.2=0 then some ((getS l (a:Int)).1,(getS l (a:Int)).2.1) else none
def numsT (l:List Nat):Nat→Nat→Option (List Nat×Nat)
 | 0,a=>some ([],a)
 | j+1,a=>(numsT l j a).bind fun (vs,r)=>(numT l r).map fun (v,r')=>(vs ++ [v],r')
def cntT (l:List Nat) (k r:Nat):Option (Nat×Nat):=if 6≤k then numT l r else some (if k=5 then 1 else 0,r)
def manyT (f:Nat→Option (T×Nat)):Nat→Nat→Option (List T×Nat)
 | 0,a=>some ([],a)
 | n+1,a=>(f a).bind fun (t,a')=>(manyT f n a').map fun (ts,r)=>(t :: ts,r)
def kindT (l:List Nat) (a:Nat):Nat×Nat:=if a<l.length then (l.getD a 0,a+1) else (0,a)
def tkS (l:List Nat):Nat→Nat→Option (T×Nat)
 | 0,_=>none
 | d+1,a=>if (kindT l a).1=0∨7<(kindT l a).1 then none else
  (numsT l (numN (kindT l a).1) (kindT l a).2).bind fun (vs,r1)=>(cntT l (kindT l a).1 r1).bind fun (n,r2)=>(manyT (tkS l d) n r2).map fun (ts,r3)=>(.node (kindT l a).1 (vs.getD 0 0) (vs.getD 1 0) ts,r3)
def TkrC (m:Int) (A:Option Addr) (n c:Nat) (a:Int) (bad:Bool):Obj:=.cells #[.int .i64 m,.slice A n c,.int .i64 a,.bool bad] 318 (0,0)
theorem vget_quiet4 {B:Nat} {A:Option Addr} {n c:Nat} {l:List Nat} {a:Int} {w:World} {k:Nat} (x y z:Nat) (hx:getS l a=(x,y,z)) (h:Rd w B 1 A n (bs l)) (hb:∀ x∈l,x<256) (hn:n≤c) (hc:c≤9223372036854775807) :
 Calls Tryz.prog 112 #[.slice A n c,.int .i64 a] (w.drewN k) fun e w''=>e=.returned (.tuple #[.int .u64 x,.int .i64 y,.int .i64 z])∧∃ q,w''=w.drewN q:=by
 have G:=get_any B A n c l a (w.drewN k) (h.keep fun p _=>World.cell?_of_block rfl) hb hn hc
 rw [hx] at G
 refine G.mono ?_
 rintro e w' ⟨h1,rfl⟩
 exact ⟨h1,k,rfl⟩
def TNumEnd (m:Int) (A:Option Addr) (n c:Nat) (l:List Nat) (a:Nat) (bad:Bool) (g:Nat) (w:World) (e:Ending) (w':World):Prop:=
 w.grownBy w' (some g)∧((∃ v r,numT l a=some (v,r)∧e=.returned (.int .u64 (v:Int))∧w'.heap[g]? = some (TkrC m A n c (r:Int) bad))∨(numT l a=none∧e=.returned (.int .u64 0)∧w'.heap[g]? = some (TkrC m A n c (a:Int) true)))
set_option maxRecDepth 100000 in
set_option maxHeartbeats 1600000 in
theorem tnumber_any (m:Int) (A:Option Addr) (n c:Nat) (l:List Nat) (a:Nat) (bad:Bool) (B g:Nat) (w:World) (hg:w.heap[g]? = some (TkrC m A n c (a:Int) bad)) (hr:Rd w B 1 A n (bs l)) (hb8:∀ x∈l,x<256) (hnc:n≤c∧c≤9223372036854775807) :
 Calls Tryz.prog 265 #[.pointer (some ⟨g,0,none⟩)] w (TNumEnd m A n c l a bad g w):=by
 have hgl:=(Array.getElem?_eq_some_iff.1 hg).1
 obtain ⟨x,y,z,hx⟩:∃ x y z,getS l (a:Int)=(x,y,z):=⟨_,_,_,rfl⟩
 have c1:=cell_of_row w _ 1 _ _ _ hg
 have c2:=cell_of_row w _ 2 _ _ _ hg
 have z2:=frozen_of_row w g 2 _ _ hg
 have z3:=frozen_of_row w g 3 _ _ hg
 have c3:=cell_of_row w _ 3 _ _ _ hg
 simp at c1 c2 c3
 have HX:=Lib_hid hx
 have HB:=Lib_hid hb8
 have hnum:numT l a=if z=0 then some (x,y) else none:=by unfold numT; rw [hx]
 have HNU:=Lib_hid hnum
 have HNE:Hid (∀ (w':World) (e:Ending),w.grownBy w' (some g)→((∃ v r,numT l a=some (v,r)∧e=.returned (.int .u64 (v:Int))∧w'.heap[g]? = some (TkrC m A n c (r:Int) bad))∨(numT l a=none∧e=.returned (.int .u64 0)∧w'.heap[g]? = some (TkrC m A n c (a:Int) true)))→TNumEnd m A n c l a bad g w e w'):=fun w' e h1 h2=>⟨h1,h2⟩
 have HG:=Lib_hid hg
 have QG:Hid (∀ q,(w.drewN q).heap[g]? = some (TkrC m A n c (a:Int) bad)):=fun q=>hg
 have QR:Hid (∀ q,w.grownBy (w.drewN q) (some g)):=fun q=>grow_below (below_drew_ (Below.refl _ _)) (some g)
 by_cases hz:z=0
 · subst hz
   have hz0:((0:Int) != 0)=false:=by decide
   clear hx hb8 hnum hg
   go_enter Tryz.func265,Tryz.ntmps265
   go_wp2
   go_quiet ((go_at_call 112; exact vget_quiet4 x y 0 HX.out hr HB.out hnc.1 hnc.2))
   have HB2:Hid (((w.drewN nq).setCell ⟨g,2,none⟩ (.int .i64 (y:Int))).heap[g]? = some (TkrC m A n c (y:Int) bad)):=Joins.block_setCell (i:=2) (QG.out nq) _
   have HX:Hid (TNumEnd m A n c l a bad g w (.returned (.int .u64 (x:Int))) ((w.drewN nq).setCell ⟨g,2,none⟩ (.int .i64 (y:Int)))):=HNE.out _ _ ((QR.out nq).trans (grow_set _ g 2 _)) (.inl ⟨x,y,by simpa using HNU.out,rfl,HB2.out⟩)
   go_wp2_with fail
   go_ret
   exact HX.out
 · have hz0:((z:Int) != 0)=true:=by simpa using hz
   have HZ:=Lib_hid hz
   have hz1:¬ (z:Int)=0:=by omega
   have hz3:((z:Int) == 0)=false:=by simpa using hz
   clear hx hb8 hnum hg hz
   go_enter Tryz.func265,Tryz.ntmps265
   go_wp2
   go_quiet ((go_at_call 112; exact vget_quiet4 x y z HX.out hr HB.out hnc.1 hnc.2))
   have HB2:Hid (((w.drewN nq).setCell ⟨g,3,none⟩ (.bool true)).heap[g]? = some (TkrC m A n c (a:Int) true)):=Joins.block_setCell (i:=3) (QG.out nq) _
   have HX:Hid (TNumEnd m A n c l a bad g w (.returned (.int .u64 0)) ((w.drewN nq).setCell ⟨g,3,none⟩ (.bool true))):=HNE.out _ _ ((QR.out nq).trans (grow_set _ g 3 _)) (.inr ⟨by rw [HNU.out,if_neg HZ.out],rfl,HB2.out⟩)
   go_wp2_with fail
   go_ret
   exact HX.out
theorem tmany_num (m:Int) (A:Option Addr) (n c:Nat) (l:List Nat) (a:Nat) (bad:Bool) (B g:Nat) (w:World) (hg:w.heap[g]? = some (TkrC m A n c (a:Int) bad)) (hr:Rd w B 1 A n (bs l)) (hb8:∀ x∈l,x<256) (hnc:n≤c∧c≤9223372036854775807) :
 Calls Tryz.prog 266 #[.pointer (some ⟨g,0,none⟩),.int .i64 2] w (TNumEnd m A n c l a bad g w):=by
 have TN:=tnumber_any m A n c l a bad B g w hg hr hb8 hnc
 have HT:Hid (∀ e w',TNumEnd m A n c l a bad g w e w'→∃ v:Nat,e=.returned (.int .u64 (v:Int))∧TNumEnd m A n c l a bad g w (.returned (.int .u64 (v:Int))) w'):=fun e w' h=>by
  have h':=h
  obtain ⟨-,⟨v,r,-,rfl,-⟩ | ⟨-,rfl,-⟩⟩:=h'
  · exact ⟨v,rfl,h⟩
  · exact ⟨0,rfl,h⟩
 have TN:Calls Tryz.prog 265 #[.pointer (some ⟨g,0,none⟩)] w (fun e w'=>∃ v:Nat,e=.returned (.int .u64 (v:Int))∧TNumEnd m A n c l a bad g w (.returned (.int .u64 (v:Int))) w'):=TN.mono fun e w' h=>HT.out e w' h
 clear hg hr hb8
 go_enter Tryz.func266,Tryz.ntmps266
 go_wp2_with fail
 refine TN.mono ?_
 rintro e w1 ⟨v,rfl,h⟩
 go_wp2_with fail
 go_ret
 exact h
theorem tmany_fix (p:Nat) (hp:p≤1) (g:Nat) (w:World) :
 Calls Tryz.prog 266 #[.pointer (some ⟨g,0,none⟩),.int .i64 (p:Int)] w fun e w'=>e=.returned (.int .u64 (p:Int))∧w=w':=by
 have h2:((p:Int) == 2)=false:=by simp; omega
 have hw:IntKind.u64.wrap (p:Int)=p:=IntWalk.u64_in _ (by omega)
 go_enter Tryz.func266,Tryz.ntmps266
 go_wp2_with fail
 go_ret
 exact ⟨rfl,rfl⟩
def TKindEnd (m:Int) (A:Option Addr) (n c:Nat) (l:List Nat) (a:Nat) (bad:Bool) (g:Nat) (w:World) (e:Ending) (w':World):Prop:=
 e=.returned (.int .i64 ((kindT l a).1:Nat))∧w.grownBy w' (some g)∧w'.heap[g]? = some (TkrC m A n c ((kindT l a).2:Nat) bad)
set_option maxRecDepth 100000 in
set_option maxHeartbeats 1600000 in
theorem tkind_any (m:Int) (A:Option Addr) (n c:Nat) (l:List Nat) (a:Nat) (bad:Bool) (B g:Nat) (w:World) (hg:w.heap[g]? = some (TkrC m A n c (a:Int) bad)) (hr:Rd w B 1 A n (bs l)) (hB:B≤g) (hb8:∀ x∈l,x<256) (hnc:n≤c∧c≤9223372036854775807) :
 Calls Tryz.prog 264 #[.pointer (some ⟨g,0,none⟩)] w (TKindEnd m A n c l a bad g w):=by
 have hgl:=(Array.getElem?_eq_some_iff.1 hg).1
 have hln:l.length=n:=hr.count
 have c1:=cell_of_row w _ 1 _ _ _ hg
 have c2:=cell_of_row w _ 2 _ _ _ hg
 have z2:=frozen_of_row w g 2 _ _ hg
 simp at c1 c2
 have HG:=Lib_hid hg
 by_cases ha:a<n
 · have hk:kindT l a=(l.getD a 0,a+1):=by unfold kindT; rw [if_pos (by omega)]
   have hle:decide ((n:Int)≤(a:Int))=false:=by simp; omega
   obtain ⟨ad,rfl,hadB,hby⟩:=hr.byte ha
   have hx8:l.getD a 0<256:=by
    rw [List.getD_eq_getElem?_getD,List.getElem?_eq_getElem (by omega)]
    exact hb8 _ (List.getElem_mem _)
   have hwr:IntKind.i64.wrap ((a:Int)+1)=(a:Int)+1:=IntWalk.i64_in _ (by omega)
   have hwr2:IntKind.i64.wrap ((a:Int)+1 - 1)=(a:Int):=by rw [show (a:Int)+1 - 1=a by omega]; exact IntWalk.i64_in _ (by omega)
   have hlt:(a:Int)<(n:Int):=by omega
   have h0:(0:Int)≤(a:Int):=by omega
   have QG:Hid (∀ q,(w.drewN q).heap[g]? = some (TkrC m (some ad) n c (a:Int) bad)):=fun q=>hg
   have QR:Hid (∀ q,w.grownBy (w.drewN q) (some g)):=fun q=>grow_below (below_drew_ (Below.refl _ _)) (some g)
   have HE:Hid (∀ q,TKindEnd m (some ad) n c l a bad g w (.returned (.int .i64 ((l.getD a 0:Nat):Int))) (((w.drewN q).setCell ⟨g,2,none⟩ (.int .i64 ((a:Int)+1))))):=fun q=>by
    unfold TKindEnd
    rw [hk]
    exact ⟨rfl,(QR.out q).trans (grow_set _ g 2 _),Joins.block_setCell (i:=2) (QG.out q) _⟩
   have hwc:IntKind.i64.wrap ((l.getD a 0:Nat):Int)=((l.getD a 0:Nat):Int):=IntWalk.i64_in _ (by omega)
   have HBY:Hid (∀ q v,((w.drewN q).setCell ⟨g,2,none⟩ v).cell? (ad.add a)=some (.int .u8 ((l.getD a 0:Nat):Int))):=fun q v=>by
    refine (World.cell?_of_block (Below.heap_setCell (w.drewN q) ⟨g,2,none⟩ v _ ?_)).trans hby
    rw [add_block]; show ad.block≠g; omega
   clear hg hr hb8 hk hby
   generalize l.getD a 0=x at *
   go_enter Tryz.func264,Tryz.ntmps264
   go_wp2
   go_quiet (fail)
   go_upto_region 4 with (fail)
   have hg2:((w.drewN nq).setCell ⟨g,2,none⟩ (.int .i64 ((a:Int)+1))).heap[g]? = some (TkrC m (some ad) n c ((a:Int)+1) bad):=Joins.block_setCell (i:=2) (QG.out nq) _
   have b0:=HBY.out nq (.int .i64 ((a:Int)+1))
   have e1:=cell_of_row _ _ 1 _ _ _ hg2
   have e2:=cell_of_row _ _ 2 _ _ _ hg2
   simp at e1 e2
   have HF:=Lib_hid (HE.out nq)
   have e0:=cell_of_row _ _ 0 _ _ _ hg2
   clear hg2 c1 c2 z2
   generalize (w.drewN nq).setCell ⟨g,2,none⟩ (.int .i64 ((a:Int)+1))=w2 at *
   have HF2:Hid (∀ q,TKindEnd m (some ad) n c l a bad g w (.returned (.int .i64 ((x:Nat):Int))) (w2.drewN q)):=fun q=>
    ⟨HF.out.1,HF.out.2.1.trans (grow_below (below_drew_ (Below.refl _ _)) (some g)),HF.out.2.2⟩
   clear HF HE
   go_quiet (fail)
   go_wp2_with fail
   go_ret
   exact HF2.out _
 · have hk:kindT l a=(0,a):=by unfold kindT; rw [if_neg (by omega)]
   have hle:decide ((n:Int)≤(a:Int))=true:=by simp; omega
   have HF:Hid (∀ q,TKindEnd m A n c l a bad g w (.returned (.int .i64 0)) (w.drewN q)):=fun q=>by
    unfold TKindEnd
    rw [hk]
    exact ⟨rfl,grow_below (below_drew_ (Below.refl _ _)) (some g),hg⟩
   clear hg hr hb8 hk
   go_enter Tryz.func264,Tryz.ntmps264
   go_wp2
   go_quiet (fail)
   go_wp2_with fail
   go_ret
   exact HF.out _
theorem size_byte (wx:World):((sizeOf 5).run Tryz.prog wx)=.ok 1 wx:=by
 obtain ⟨i0,hi,hz0,hz1,hz2⟩:=info_parts Tryz.info5
 simp [sizeOf,typeInfo,hi,hz1]
theorem elem_bytes:Tryz.prog.elem 22=5:=by kernel_rfl
theorem bs_take (l:List Nat) (k:Nat):bs (l.take k)=(bs l).take k:=by simp [bs,List.map_take]
theorem bs_drop (l:List Nat) (k:Nat):bs (l.drop k)=(bs l).drop k:=by simp [bs,List.map_drop]
theorem slice_lo {w:World} {B n c j:Nat} {A:Option Addr} {xs:List Value} (h:Rd w B 1 A n xs) (hj:j≤n) (hn:n≤c) :
 ∃ A2,(∀ wx,(Instr.slice 22 (.slice A n c) (some (.int .i64 (j:Int))) none none).run Tryz.prog wx=.ok (.slice A2 (n - j) (c - j)) wx)∧Rd w B 1 A2 (n - j) (xs.drop j):=by
 have r:=h.cut (cap:=c) (k:=j) hj hn
 simp only [Nat.mul_one] at r
 refine ⟨_,?_,r⟩
 intro wx
 rw [run_slice_l wx 22 A n c (by rw [elem_bytes]; exact Tryz.underlying22) .i64 j (by omega) (by omega),elem_bytes,size_byte]
 simp [sliced,Result.andThen]
theorem slice_lh {w:World} {B n c j k:Nat} {A:Option Addr} {xs:List Value} (h:Rd w B 1 A n xs) (hj:j≤k) (hk:k≤n) (hn:n≤c) :
 ∃ A2,(∀ wx,(Instr.slice 22 (.slice A n c) (some (.int .i64 (j:Int))) (some (.int .i64 (k:Int))) none).run Tryz.prog wx=.ok (.slice A2 (k - j) (c - j)) wx)∧Rd w B 1 A2 (k - j) ((xs.take k).drop j):=by
 have r:=(h.take hk).cut (cap:=c) (k:=j) hj (by omega)
 simp only [Nat.mul_one] at r
 refine ⟨_,?_,r⟩
 intro wx
 rw [run_slice_lh wx 22 A n c (by rw [elem_bytes]; exact Tryz.underlying22) .i64 .i64 j k (by omega) (by omega) (by omega),elem_bytes,size_byte]
 simp [sliced,Result.andThen]
theorem got_put {r:List Nat} {v k:Nat} (hb:∀ x∈r,x<256) (h:got r=.num v k):k≤r.length∧enc v=r.take k∧v<18446744073709551616:=by
 have find:∀ m,m≤10→m≤r.length→AllMore r m∨∃ k,k<m∧AllMore r k∧r.getD k 0<128:=by
  intro m
  induction m with
  | zero=>intro _ _; exact .inl (AllMore.zero r)
  | succ m ih=>
   intro h1 h2
   rcases ih (by omega) (by omega) with h | ⟨k,hk,hM,hc⟩
   · by_cases hc:128≤r.getD m 0
     · exact .inl (h.succ hc)
     · exact .inr ⟨m,by omega,h,by omega⟩
   · exact .inr ⟨k,by omega,hM,hc⟩
 by_cases h10:10≤r.length
 · rcases find 10 (by omega) h10 with hM | ⟨j,hj,hM,hc⟩
   · rw [got_ten hM h10] at h; cases h
   · have G:=got_by hb hM hj (by omega) hc _ rfl
     rw [G] at h
     split at h
     · rename_i he
       injection h with h1 h2
       subst h1 h2
       exact ⟨by omega,he,Nat.mod_lt _ (by decide)⟩
     · cases h
 · rcases find r.length (by omega) (Nat.le_refl _) with hM | ⟨j,hj,hM,hc⟩
   · rw [got_short hM (by omega) rfl] at h; cases h
   · have G:=got_by hb hM (by omega) (by omega) hc _ rfl
     rw [G] at h
     split at h
     · rename_i he
       injection h with h1 h2
       subst h1 h2
       exact ⟨by omega,he,Nat.mod_lt _ (by decide)⟩
     · cases h
theorem scan_err4:∀ (k i v:Nat) (r:List Nat) (e:Nat),scan k i v r=.err e→e=4∨e=10:=by
 intro k
 induction k with
 | zero=>intro i v r e hh; simp [scan] at hh; omega
 | succ k ih=>
  intro i v r e hh
  cases r with
  | nil=>simp [scan] at hh; omega
  | cons c r=>
   simp only [scan] at hh
   split at hh
   · exact ih _ _ _ _ hh
   · split at hh
     · cases hh
     · simp at hh; omega
theorem numT_lt {l:List Nat} (hb:∀ x∈l,x<256) {a v r:Nat} (h:numT l a=some (v,r)):v<18446744073709551616∧a+1≤r∧r≤l.length:=by
 unfold numT at h
 split at h
 · rename_i hz
   injection h with h
   injection h with h1 h2
   unfold getS at hz h1 h2
   split at hz
   · cases hz
   · rename_i ho
     rw [if_neg ho] at h1 h2
     rw [Int.toNat_natCast] at hz h1 h2
     cases hg:got (l.drop a) with
     | num x k=>
      rw [hg] at h1 h2
      simp only [ans] at h1 h2
      subst h1 h2
      obtain ⟨q1,q2,q3⟩:=got_put (fun x hx=>hb x (List.mem_of_mem_drop hx)) hg
      rw [List.length_drop] at q1
      have hp:=enc_pos x
      rw [q2,List.length_take,List.length_drop] at hp
      exact ⟨q3,by omega,by omega⟩
     | err e=>
      rw [hg] at hz
      simp only [ans] at hz
      rcases scan_err4 _ _ _ _ _ hg with h | h <;> omega
 · cases h
structure NmT (l:List Nat) (r:Nat) (bad:Bool) (j a b ss:Nat) (bb:Bool):Prop where
 bd:bad=true→bb=true
 ok:bad=false→(∃ vs,numsT l j r=some (vs,ss)∧vs.length=j∧bb=false∧a=vs.getD 0 0∧b=vs.getD 1 0)∨(numsT l j r=none∧bb=true)
 a64:a<18446744073709551616
 b64:b<18446744073709551616
def NumTR (l:List Nat) (ss:Nat) (bb:Bool) (v s2:Nat) (b2:Bool):Prop:=(numT l ss=some (v,s2)∧b2=bb)∨(numT l ss=none∧v=0∧s2=ss∧b2=true)
section
variable {l:List Nat} {r ss s2 a b v j:Nat} {bad bb b2:Bool}
theorem NmT.zero (l:List Nat) (r:Nat) (bad:Bool):NmT l r bad 0 0 0 r bad:=⟨fun h=>h,fun h=>.inl ⟨[],rfl,rfl,h,rfl,rfl⟩,by omega,by omega⟩
theorem NumTR.lt (hb:∀ x∈l,x<256) (h:NumTR l ss bb v s2 b2):v<18446744073709551616:=by
 rcases h with ⟨h,_⟩ | ⟨_,rfl,rfl,_⟩
 · exact (numT_lt hb h).1
 · omega
theorem NmT.next (hb:∀ x∈l,x<256) (h:NmT l r bad j a b ss bb) (hn:NumTR l ss bb v s2 b2):(j=0→NmT l r bad 1 v b s2 b2)∧(j=1→NmT l r bad 2 a v s2 b2):=by
 have hv:=hn.lt hb
 have hbd:bad=true→b2=true:=fun h1=>by
  rcases hn with ⟨_,e⟩ | ⟨_,_,_,e⟩
  · rw [e]; exact h.bd h1
  · exact e
 have hok:bad=false→(∃ vs,numsT l (j+1) r=some (vs ++ [v],s2)∧vs.length=j∧b2=false∧a=vs.getD 0 0∧b=vs.getD 1 0)∨(numsT l (j+1) r=none∧b2=true):=fun h1=>by
  have hu:numsT l (j+1) r=(numsT l j r).bind fun x=>(numT l x.2).map fun y=>(x.1 ++ [y.1],y.2):=rfl
  rcases h.ok h1 with ⟨vs,e1,e2,e3,e4,e5⟩ | ⟨e1,e2⟩
  · rw [e1,Option.bind_some] at hu
    simp only at hu
    rcases hn with ⟨e,eb⟩ | ⟨e,_,_,eb⟩
    · exact .inl ⟨vs,by rw [hu,e]; rfl,e2,by rw [eb,e3],e4,e5⟩
    · exact .inr ⟨by rw [hu,e]; rfl,eb⟩
  · refine .inr ⟨by rw [hu,e1]; rfl,?_⟩
    rcases hn with ⟨_,e⟩ | ⟨_,_,_,e⟩
    · rw [e,e2]
    · exact e
 refine ⟨fun h0=>?_,fun h0=>?_⟩
 · subst h0
   refine ⟨hbd,fun h1=>?_,hv,h.b64⟩
   rcases hok h1 with ⟨vs,e1,e2,e3,e4,e5⟩ | h2
   · obtain rfl:vs=[]:=List.eq_nil_of_length_eq_zero e2
     exact .inl ⟨[v],e1,rfl,e3,rfl,e5⟩
   · exact .inr h2
 · subst h0
   refine ⟨hbd,fun h1=>?_,h.a64,hv⟩
   rcases hok h1 with ⟨vs,e1,e2,e3,e4,e5⟩ | h2
   · obtain ⟨x,rfl⟩:∃ x,vs=[x]:=by
      match vs,e2 with
      | [x],_=>exact ⟨x,rfl⟩
     exact .inl ⟨[x,v],e1,rfl,e3,e4,rfl⟩
   · exact .inr h2
end
structure TdR (l:List Nat) (d m s:Nat) (bad:Bool) (w w':World) (k:Int) (a b n c m':Nat) (A:Option Addr) (s':Nat) (bad':Bool):Prop where
 bd:bad=true→bad'=true∧m'≤m+1
 ok:bad=false→m'≤34∧((∃ t us,tkS l d s=some (t,s')∧m+t.count≤32∧bad'=false∧m'=m+t.count∧(V.node k a b A c us).abs=t∧us.length=n∧Lies w' w.heap.size w'.heap.size (.node k a b A c us)∧Shp 65 w' w.heap.size (.node k a b A c us))∨
  ((∀ t r,tkS l d s=some (t,r)→32<m+t.count)∧bad'=true))
def TdEnd (Ab:Option Addr) (nb cb:Nat) (l:List Nat) (d m s:Nat) (bad:Bool) (g:Nat) (w:World) (e:Ending) (w':World):Prop:=
 ∃ (k:Int) (a b n c m':Nat) (A:Option Addr) (s':Nat) (bad':Bool),e=.returned (.agg #[.int .i64 k,.int .u64 (a:Int),.int .u64 (b:Int),.slice A n c])∧w.grownBy w' (some g)∧w'.heap[g]? = some (TkrC (m':Int) Ab nb cb (s':Int) bad')∧TdR l d m s bad w w' k a b n c m' A s' bad'
def TakeOK (Ab:Option Addr) (nb cb:Nat) (l:List Nat) (d:Nat):Prop:=∀ (m s:Nat) (bad:Bool) (B g:Nat) (w:World),w.heap[g]? = some (TkrC (m:Int) Ab nb cb (s:Int) bad)→Rd w B 1 Ab nb (bs l)→B≤g→(bad=false→m≤32)→m≤100→
 Calls Tryz.prog 250 #[.pointer (some ⟨g,0,none⟩),.int .i64 ((9 - d:Nat):Int)] w (TdEnd Ab nb cb l d m s bad g w)
structure PtT (l:List Nat) (d m s:Nat) (bad:Bool) (B2 kd a b:Nat) (W:World) (v:Value) (mm left ss:Nat) (bb:Bool):Prop where
 bd:bad=true→bb=true∧mm≤m+1
 ok:bad=false→mm≤34∧((∃ us,TRow 65 B2 v us W∧bb=false∧mm=m+1+T.countL (V.absL us)∧mm≤32∧tkS l (d+1) s=(manyT (tkS l d) left ss).map fun x=>(.node kd a b (V.absL us ++ x.1),x.2))∨
  ((∀ t r,tkS l (d+1) s=some (t,r)→32<m+t.count)∧bb=true))
section
variable {l:List Nat} {d m s B2 kd a b r:Nat} {bad bb:Bool}
theorem tkS_succ (h:kindT l s=(kd,r)) (h0:kd≠0) (h7:kd≤7):tkS l (d+1) s=(numsT l (numN kd) r).bind fun x=>(cntT l kd x.2).bind fun y=>(manyT (tkS l d) y.1 y.2).map fun z=>(.node kd (x.1.getD 0 0) (x.1.getD 1 0) z.1,z.2):=by
 show (if (kindT l s).1=0∨7<(kindT l s).1 then none else _)=_
 rw [h,if_neg (by omega)]
theorem PtT.start {ss N s2:Nat} {b2:Bool} (hk:kindT l s=(kd,r)) (h1:1≤kd) (h7:kd≤7) (hm:m+1≤32) (h:NmT l r bad (numN kd) a b ss bb)
 (hc:(cntT l kd ss=some (N,s2)∧b2=bb)∨(cntT l kd ss=none∧b2=true)) (W:World):PtT l d m s bad B2 kd a b W (.slice none 0 0) (m+1) N s2 b2:=by
 have hu:=tkS_succ (d:=d) hk (by omega) h7
 refine ⟨fun hb=>⟨?_,by omega⟩,fun hb=>⟨by omega,?_⟩⟩
 · rcases hc with ⟨_,e⟩ | ⟨_,e⟩
   · rw [e]; exact h.bd hb
   · exact e
 rcases h.ok hb with ⟨vs,e1,e2,e3,e4,e5⟩ | ⟨e1,e2⟩
 · rw [e1,Option.bind_some] at hu
   simp only at hu
   rcases hc with ⟨e,eb⟩ | ⟨e,eb⟩
   · rw [e,Option.bind_some] at hu
     refine .inl ⟨[],TRow.nil _ _ _,by rw [eb,e3],by simp [V.absL,T.countL],by omega,?_⟩
     rw [hu,e4,e5]
     simp [V.absL]
   · refine .inr ⟨fun t q hq=>?_,eb⟩
     rw [hu,e] at hq
     cases hq
 · refine .inr ⟨fun t q hq=>?_,?_⟩
   · rw [hu,e1] at hq
     cases hq
   · rcases hc with ⟨_,e⟩ | ⟨_,e⟩
     · rw [e,e2]
     · exact e
theorem PtT.step {w8 w9 W w4:World} {v v':Value} {mm left ss:Nat} {k2:Int} {a2 b2 n2 c2 m' s':Nat} {A2:Option Addr} {bad':Bool} (h:PtT l d m s bad B2 kd a b W v mm (left+1) ss false)
 (hn:TdR l d mm ss false w8 w9 k2 a2 b2 n2 c2 m' A2 s' bad')
 (hT:∀ us us2,TRow 65 B2 v us W→us2.length=n2→Lies w9 w8.heap.size w9.heap.size (.node k2 a2 b2 A2 c2 us2)→Shp 65 w9 w8.heap.size (.node k2 a2 b2 A2 c2 us2)→TRow 65 B2 v' (us ++ [.node k2 a2 b2 A2 c2 us2]) w4) :
 PtT l d m s bad B2 kd a b w4 v' m' left s' bad':=by
 have hbf:bad=false:=by
  cases hb:bad with
  | false=>rfl
  | true=>have:=(h.bd hb).1; cases this
 refine ⟨(fun hb=>by rw [hbf] at hb; cases hb),fun hb=>?_⟩
 obtain ⟨h1,h2⟩:=h.ok hb
 obtain ⟨n1,n2'⟩:=hn.ok rfl
 refine ⟨n1,?_⟩
 rcases h2 with ⟨us,hR,-,hmm,h32,hspec⟩ | ⟨-,hx⟩
 · have hu:manyT (tkS l d) (left+1) ss=(tkS l d ss).bind fun x=>(manyT (tkS l d) left x.2).map fun y=>(x.1 :: y.1,y.2):=rfl
   rcases n2' with ⟨t,us2,e1,e2,e3,e4,e5,e6,hL,hS⟩ | ⟨hno,hbad⟩
   · refine .inl ⟨us ++ [.node k2 a2 b2 A2 c2 us2],hT us us2 hR e6 hL hS,e3,?_,by omega,?_⟩
     · rw [e4,hmm,show V.absL (us ++ [.node k2 a2 b2 A2 c2 us2])=V.absL us ++ [t] by rw [absL_map,List.map_append,← absL_map,List.map_cons,List.map_nil,e5],countL_append]
       simp [T.countL]
       omega
     · rw [hspec,hu,e1]
       simp only [Option.bind_some]
       cases manyT (tkS l d) left s' with
       | none=>rfl
       | some x=>simp [absL_map,e5]
   · refine .inr ⟨fun t r hl=>?_,hbad⟩
     rw [hspec,hu] at hl
     obtain ⟨⟨ts1,r1⟩,hl,he⟩:=Option.map_eq_some_iff.1 hl
     obtain ⟨⟨t1,r'⟩,h3,h4⟩:=Option.bind_eq_some_iff.1 hl
     obtain ⟨⟨ts',r2⟩,h5,he2⟩:=Option.map_eq_some_iff.1 h4
     injection he with e1 e2
     injection he2 with e3 e4
     subst e1 e3
     have:=hno _ _ h3
     simp only [T.count,countL_append,T.countL]
     omega
 · cases hx
theorem PtT.fin {w W w':World} {n c mm left ss:Nat} {A:Option Addr} (h:PtT l d m s bad B2 kd a b W (.slice A n c) mm left ss bb) (he:bb=false→left=0) (hkd:kd≤7) (ha:a<18446744073709551616) (hb:b<18446744073709551616)
 (hwB:w.heap.size≤B2) (hs:W.heap.size≤w'.heap.size) (hk:∀ g,B2≤g→g<W.heap.size→w'.heap[g]? = W.heap[g]?):TdR l (d+1) m s bad w w' kd a b n c mm A ss bb:=by
 refine ⟨h.bd,fun hbf=>?_⟩
 obtain ⟨h1,h2⟩:=h.ok hbf
 refine ⟨h1,?_⟩
 rcases h2 with ⟨us,hT,e0,e1,e2,e3⟩ | h2
 · obtain ⟨hn,hL,hS⟩:=(hT.keep hs hk).tree (k:=kd) (a:=a) (b:=b) (by omega) ha hb
   have hl0:=he e0
   subst hl0
   refine .inl ⟨_,us,by rw [e3]; simp [manyT]; rfl,by rw [T.count]; omega,e0,by rw [T.count]; omega,by rw [V.abs],hn.symm,hL.more hwB (Nat.le_refl _),hS.more hwB⟩
 · exact .inr h2
theorem TdR.none0 {w w':World} {s' m':Nat} (hm:m'≤m+1) (hm2:bad=false→m≤32) (hno:bad=false→∀ t r,tkS l d s=some (t,r)→32<m+t.count):TdR l d m s bad w w' 0 0 0 0 0 m' Option.none s' true:=
 ⟨fun _=>⟨rfl,by omega⟩,fun hb=>⟨by have:=hm2 hb; omega,.inr ⟨hno hb,rfl⟩⟩⟩
end
section
variable {l:List Nat}
end
def numO (l:List Nat) (o:Option Nat):Nat×Option Nat:=match o.bind (numT l) with
 | some (v,r)=>(v,some r)
 | none=>(0,none)
def F1 (l:List Nat) (kd s a:Nat) (o:Option Nat):Prop:=if 2≤kd∧kd≤4 then (a,o)=numO l (some (s+1)) else a=0∧o=some (s+1)
def F2 (l:List Nat) (kd b:Nat) (o o2:Option Nat):Prop:=if kd=4 then (b,o2)=numO l o else b=0∧o2=o
def tkI (l:List Nat) (s:Int):Option (T×Nat):=if s<0 then none else tkS l 8 s.toNat
def takeT (l:List Nat) (s:Int):Option (T×Nat):=(tkI l s).bind fun x=>if x.1.rightB then some x else none
def ansK:Option (T×Nat)→T×Nat×Nat
 | some (t,r)=>(t,r,0)
 | none=>(.node 0 0 0 [],0,40)
def TkEnd (E:TypeId) (o:T×Nat×Nat) (w:World) (e:Ending) (w':World):Prop:=
 ∃ u:V,e=.returned (.tuple #[.agg #[.int .i64 u.kind,.int .u64 (u.a:Int),.int .u64 (u.b:Int),.slice u.addr u.parts.length u.cap],.int .i64 (o.2.1:Int),.int .i64 (o.2.2:Int)])∧u.abs=o.1∧Lies w' w.heap.size w'.heap.size u∧Shp E w' w.heap.size u∧Below w.heap.size w w'
def parseT (l:List Nat):Option T:=(takeT l 0).bind fun x=>if x.2=l.length then some x.1 else none
set_option maxRecDepth 100000 in
theorem pparse_ret {Q:Ending→World→Prop} {W:World} {h0:Nat} {z:Int} {x0 x1 x2 x3:Value} (HR2:W.heap[h0]? = some (.cells #[x0,x1,x2,x3] 65 (0,0))) (HF2:Q (.returned (.tuple #[.agg #[x0,x1,x2,x3],.int .i64 z])) W)
 (tmps:Array Value) (h2:tmps.getD 2 undef=.pointer (some ⟨h0,0,none⟩)) (h3:tmps.getD 3 undef=.int .i64 z):bodyPost Tryz.prog Tryz.f205 Q .ret {tmps:=tmps,defers:=[]} W:=by
 rw [Array.getD_eq_getD_getElem?] at h2 h3
 have d0:=cell_of_row W _ 0 _ _ _ HR2
 have d1:=cell_of_row W _ 1 _ _ _ HR2
 have d2:=cell_of_row W _ 2 _ _ _ HR2
 have d3:=cell_of_row W _ 3 _ _ _ HR2
 simp at d0 d1 d2 d3
 exact bodyPost_ret (v:=.tuple #[.agg #[x0,x1,x2,x3],.int .i64 z]) (by simp [results,Tryz.results205,go_sem,h2,h3,d0,d1,d2,d3]) rfl HF2
set_option maxRecDepth 100000 in
set_option maxHeartbeats 3200000 in
theorem pParse_any (l:List Nat) (Ab:Option Addr) (nb cb:Nat) (hln:l.length=nb) (w:World) (hTk:∀ W,Below w.heap.size w W→Calls Tryz.prog 220 #[.slice Ab nb cb,.int .i64 0] W (TkEnd 65 (ansK (takeT l 0)) W)) :
 Calls Tryz.prog 205 #[.slice Ab nb cb] w (AnsEnd 65 (ansT (parseT l)) w):=by
 obtain ⟨w1,hw1⟩:∃ w1,w1=w.alloc (.cells #[.int .i64 0,.int .u64 0,.int .u64 0,.slice none 0 0] 65):=⟨_,rfl⟩
 have q1:=heap_alloc_new w (.cells #[.int .i64 0,.int .u64 0,.int .u64 0,.slice none 0 0] 65)
 have b1:=below_new w (.cells #[.int .i64 0,.int .u64 0,.int .u64 0,.slice none 0 0] 65)
 have s1:w1.heap.size=w.heap.size+1:=by rw [hw1]; simp
 rw [← hw1] at q1 b1
 have TK0:=hTk w1 b1
 obtain ⟨t,r,z,ho⟩:∃ t r z,ansK (takeT l 0)=(t,r,z):=⟨_,_,_,rfl⟩
 rw [ho] at TK0
 have TK:Calls Tryz.prog 220 #[.slice Ab nb cb,.int .i64 0] w1 fun e w'=>∃ u:V,e=.returned (.tuple #[.agg #[.int .i64 u.kind,.int .u64 (u.a:Int),.int .u64 (u.b:Int),.slice u.addr u.parts.length u.cap],.int .i64 (r:Int),.int .i64 (z:Int)])∧u.abs=t∧Lies w' w1.heap.size w'.heap.size u∧Shp 65 w' w1.heap.size u∧Below w1.heap.size w1 w':=TK0
 have hpo:(z=0∧r=nb→ansT (parseT l)=(t,0))∧(¬ (z=0∧r=nb)→ansT (parseT l)=(.node 0 0 0 [],40)):=by
  unfold parseT
  cases h:takeT l 0 with
  | none=>
   rw [h] at ho
   injection ho with _ ho
   injection ho with _ ho
   refine ⟨fun h=>by omega,fun _=>rfl⟩
  | some x=>
   obtain ⟨t',r'⟩:=x
   rw [h] at ho
   injection ho with e1 ho
   injection ho with e2 e3
   subst e1 e2 e3
   refine ⟨fun h=>?_,fun h=>?_⟩
   · rw [Option.bind_some,if_pos (show r'=l.length by omega)]; rfl
   · rw [Option.bind_some,if_neg (show ¬ r'=l.length by omega)]; rfl
 have HPO:=Lib_hid hpo
 clear hpo TK0 ho hTk
 generalize ansT (parseT l)=o at *
 have HBADEND:Hid (∀ W:World,W.heap[w.heap.size]? = some (.cells #[.int .i64 0,.int .u64 0,.int .u64 0,.slice none 0 0] 65 (0,0))→Below w.heap.size w W→¬ (z=0∧r=nb)→
  AnsEnd 65 o w (.returned (.tuple #[.agg #[.int .i64 0,.int .u64 0,.int .u64 0,.slice none 0 0],.int .i64 40])) (put4 W w.heap.size (.int .i64 0) (.int .u64 0) (.int .u64 0) (.slice none 0 0))∧
  (put4 W w.heap.size (.int .i64 0) (.int .u64 0) (.int .u64 0) (.slice none 0 0)).heap[w.heap.size]? = some (.cells #[.int .i64 0,.int .u64 0,.int .u64 0,.slice none 0 0] 65 (0,0))):=by
  intro W h1 h2 h3
  rw [HPO.out.2 h3]
  exact ⟨⟨.node 0 0 0 none 0 [],rfl,by simp [V.abs,V.absL],zero_lies _ _ _,zero_shp _ _ _,put4_below h2 (Nat.le_refl _) _ _ _ _⟩,put4_row h1 _ _ _ _⟩
 subst hw1
 go_enter Tryz.func205,Tryz.ntmps205
 go_upto_region 1 with (fail)
 generalize w.alloc (.cells #[.int .i64 0,.int .u64 0,.int .u64 0,.slice none 0 0] 65)=w1 at *
 go_wp2_with fail
 refine TK.mono ?_
 rintro e w2 ⟨u,rfl,hu,hL,hS,hb2⟩
 have s2:=hb2.size
 have q2:=(hb2.block w.heap.size (by omega)).trans q1
 have hbw2:=b1.trans (hb2.mono (by omega))
 have b3:=below_new w2 (.cells #[.int .i64 u.kind,.int .u64 (u.a:Int),.int .u64 (u.b:Int),.slice u.addr u.parts.length u.cap] 65)
 have r3:=heap_alloc_new w2 (.cells #[.int .i64 u.kind,.int .u64 (u.a:Int),.int .u64 (u.b:Int),.slice u.addr u.parts.length u.cap] 65)
 have q3:=(b3.block w.heap.size (by omega)).trans q2
 have hbw3:=hbw2.trans (b3.mono (by omega))
 have HLS:=Lib_hid (And.intro hu (And.intro (hL.under b3) (hS.under b3)))
 have hs3:=b3.size
 clear TK hb2 hL hS hu q2 hbw2 b3 q1 b1
 go_upto_region 2 with (fail)
 generalize w2.alloc (.cells #[.int .i64 u.kind,.int .u64 (u.a:Int),.int .u64 (u.b:Int),.slice u.addr u.parts.length u.cap] 65)=w3 at *
 have e0:=cell_of_row w3 _ 0 _ _ _ q3
 have e1:=cell_of_row w3 _ 1 _ _ _ q3
 have e2:=cell_of_row w3 _ 2 _ _ _ q3
 have e3:=cell_of_row w3 _ 3 _ _ _ q3
 have y0:=frozen_of_row w3 w.heap.size 0 _ _ q3
 have y1:=frozen_of_row w3 w.heap.size 1 _ _ q3
 have y2:=frozen_of_row w3 w.heap.size 2 _ _ q3
 have y3:=frozen_of_row w3 w.heap.size 3 _ _ q3
 simp at e0 e1 e2 e3
 by_cases hz:z=0
 · subst hz
   by_cases hr:r=nb
   · subst hr
     have f0:=cell_of_row w3 _ 0 _ _ _ r3
     have f1:=cell_of_row w3 _ 1 _ _ _ r3
     have f2:=cell_of_row w3 _ 2 _ _ _ r3
     have f3:=cell_of_row w3 _ 3 _ _ _ r3
     simp at f0 f1 f2 f3
     have HX:Hid (AnsEnd 65 o w (.returned (.tuple #[.agg #[.int .i64 u.kind,.int .u64 (u.a:Int),.int .u64 (u.b:Int),.slice u.addr u.parts.length u.cap],.int .i64 0])) (put4 w3 w.heap.size (.int .i64 u.kind) (.int .u64 (u.a:Int)) (.int .u64 (u.b:Int)) (.slice u.addr u.parts.length u.cap))∧
      (put4 w3 w.heap.size (.int .i64 u.kind) (.int .u64 (u.a:Int)) (.int .u64 (u.b:Int)) (.slice u.addr u.parts.length u.cap)).heap[w.heap.size]? = some (.cells #[.int .i64 u.kind,.int .u64 (u.a:Int),.int .u64 (u.b:Int),.slice u.addr u.parts.length u.cap] 65 (0,0))):=by
      obtain ⟨hu,hL4,hS4⟩:=HLS.out
      rw [HPO.out.1 ⟨rfl,rfl⟩]
      refine ⟨⟨u,rfl,hu,?_,?_,put4_below hbw3 (Nat.le_refl _) _ _ _ _⟩,put4_row q3 _ _ _ _⟩
      · rw [put4_size]
        exact (hL4.keep fun p h1 _=>World.cell?_of_block (put4_else w3 (by omega) _ _ _ _)).more (by omega) (by omega)
      · exact (Shp.keepL _ hL4 hS4 fun g' h1 _=>put4_else w3 (by omega) _ _ _ _).more (by omega)
     clear q3 r3 hbw3 HLS HBADEND HPO
     generalize u.addr=uA at *
     generalize u.cap=uc at *
     generalize u.parts.length=un at *
     generalize u.kind=uk at *
     generalize (u.a:Int)=ua at *
     generalize (u.b:Int)=ub at *
     go_wp2_with fail
     show bodyPost _ _ _ _ _ (put4 w3 w.heap.size (.int .i64 uk) (.int .u64 ua) (.int .u64 ub) (.slice uA un uc))
     have HX2:=HX.out
     clear HX e0 e1 e2 e3 y0 y1 y2 y3 f0 f1 f2 f3
     generalize put4 w3 w.heap.size (.int .i64 uk) (.int .u64 ua) (.int .u64 ub) (.slice uA un uc)=W2 at *
     exact pparse_ret (z:=0) HX2.2 HX2.1 _ rfl rfl
   · have HX:=Lib_hid (HBADEND.out w3 q3 hbw3 (fun h=>hr h.2))
     have hrI:¬ (r:Int)=(nb:Int):=by omega
     have hrB:((r:Int) == (nb:Int))=false:=by simp; omega
     have hrC:((r:Int) != (nb:Int))=true:=by simp; omega
     clear q3 r3 hbw3 HLS HBADEND HPO
     generalize u.addr=uA at *
     generalize u.cap=uc at *
     generalize u.parts.length=un at *
     generalize u.kind=uk at *
     generalize (u.a:Int)=ua at *
     generalize (u.b:Int)=ub at *
     go_wp2_with fail
     show bodyPost _ _ _ _ _ (put4 w3 w.heap.size (.int .i64 0) (.int .u64 0) (.int .u64 0) (.slice none 0 0))
     have HX2:=HX.out
     clear HX e0 e1 e2 e3 y0 y1 y2 y3
     generalize put4 w3 w.heap.size (.int .i64 0) (.int .u64 0) (.int .u64 0) (.slice none 0 0)=W2 at *
     exact pparse_ret (z:=40) HX2.2 HX2.1 _ rfl rfl
 · have HX:=Lib_hid (HBADEND.out w3 q3 hbw3 (fun h=>hz h.1))
   have hrI:¬ (z:Int)=0:=by omega
   have hrB:((z:Int) == 0)=false:=by simp; omega
   have hrC:((z:Int) != 0)=true:=by simp; omega
   clear q3 r3 hbw3 HLS HBADEND HPO
   generalize u.addr=uA at *
   generalize u.cap=uc at *
   generalize u.parts.length=un at *
   generalize u.kind=uk at *
   generalize (u.a:Int)=ua at *
   generalize (u.b:Int)=ub at *
   go_wp2_with fail
   show bodyPost _ _ _ _ _ (put4 w3 w.heap.size (.int .i64 0) (.int .u64 0) (.int .u64 0) (.slice none 0 0))
   have HX2:=HX.out
   clear HX e0 e1 e2 e3 y0 y1 y2 y3
   generalize put4 w3 w.heap.size (.int .i64 0) (.int .u64 0) (.int .u64 0) (.slice none 0 0)=W2 at *
   exact pparse_ret (z:=40) HX2.2 HX2.1 _ rfl rfl
theorem numT_some {l:List Nat} (hb:∀ x∈l,x<256) {a v r:Nat} (h:numT l a=some (v,r)):v<18446744073709551616∧l.drop a=enc v ++ l.drop r∧r=a+(enc v).length∧r≤l.length:=by
 have hlt:=numT_lt hb h
 unfold numT at h
 split at h
 · rename_i hz
   injection h with h
   injection h with h1 h2
   unfold getS at hz h1 h2
   split at hz
   · cases hz
   · rename_i ho
     rw [if_neg ho] at h1 h2
     rw [Int.toNat_natCast] at hz h1 h2
     cases hg:got (l.drop a) with
     | num x k=>
      rw [hg] at h1 h2
      simp only [ans] at h1 h2
      subst h1 h2
      obtain ⟨q1,q2,q3⟩:=got_put (fun x hx=>hb x (List.mem_of_mem_drop hx)) hg
      rw [List.length_drop] at q1
      have hlen:(enc x).length=k:=by rw [q2,List.length_take,List.length_drop]; omega
      refine ⟨q3,?_,by omega,by omega⟩
      rw [q2,← List.drop_drop,List.take_append_drop]
     | err e=>
      rw [hg] at hz
      simp only [ans] at hz
      rcases scan_err4 _ _ _ _ _ hg with h | h <;> omega
 · cases h
end Go.Proofs.YtinmoknbgnngcaaGreatDoor
