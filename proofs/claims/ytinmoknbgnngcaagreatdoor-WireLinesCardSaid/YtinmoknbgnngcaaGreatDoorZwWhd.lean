/-
  Layer 6: works: the chapter's examples. (Out of gen_wzk.py.)
-/
import Derived.Test.YtinmoknbgnngcaaGreatDoorZwVcm
import Derived.Test.YtinmoknbgnngcaaGreatDoorZwWzg
import Derived.Test.YtinmoknbgnngcaaGreatDoorZwWzh
import Derived.Test.YtinmoknbgnngcaaGreatDoorZwCmb
import Derived.Test.YtinmoknbgnngcaaGreatDoorZwWzj
import Derived.Test.YtinmoknbgnngcaaGreatDoorRows
import Derived.Test.YtinmoknbgnngcaaGreatDoorZwTft
import Derived.Test.YtinmoknbgnngcaaGreatDoorZwFpt
import Derived.Test.YtinmoknbgnngcaaGreatDoorTie
import Derived.ProofKit
import Derived.LaidMore
import Derived.OpenShut
import Derived.Stop.Joined
import Derived.Stop.LaidErr
import Derived.Lib.LaidTab
import Derived.Lay
import Derived.Test.YtinmoknbgnngcaaGreatDoorProg
import Derived.Deep.Slices
import Derived.Deep.Fields
import Derived.ChangeSame
import Derived.ChangeOld
import Derived.Test.YtinmoknbgnngcaaGreatDoorZwVmk
import Derived.Test.YtinmoknbgnngcaaGreatDoorZwBse
import Derived.ShutString
import Derived.SevenTiedAt
import Derived.WalkKit
import Derived.Below
import Derived.Shelf.Vars
import Derived.Handed
namespace Go.Proofs.YtinmoknbgnngcaaGreatDoor
open Go Go.RowKit
set_option linter.unusedVariables false
theorem goP_bad6 {r:Rc} {l:List UInt8} {i:Nat} {is:List Nat} (h:r.setP i l=none):goP r l (i :: is)=none:=by
 show (r.setP i l).bind _=none
 rw [h]; rfl
theorem goP_go6 {r r':Rc} {l l':List UInt8} {i:Nat} {is:List Nat} (h:r.setP i l=some (r',l')):goP r l (i :: is)=goP r' l' is:=by
 show (r.setP i l).bind _=_
 rw [h]; rfl
theorem numW_one6 {n:Nat} (h:n<10):numW [UInt8.ofNat (48+n)]=some n:=by
 rw [← dec1 h]; exact numW_dec (by omega)
theorem setP_none06 {r:Rc} {l:List UInt8} (h:numW (wordW l)=none):r.setP 0 l=none:=by
 show (numW (wordW l)).map _=_
 rw [h]; rfl
theorem setP_num06 {r:Rc} {l:List UInt8} {n:Nat} (h:wordW l=[UInt8.ofNat (48+n)]) (hn:n<10):r.setP 0 l=some ({r with t:=n},leftW l):=by
 show (numW (wordW l)).map _=_
 rw [h,numW_one6 hn]; rfl
def rX (k:Int):Rv:=⟨k,1,0,0,0,0,.node 0 0 0 none 0 [],none,0,[]⟩
def bX:List Nat:=frAll ([rX 1,rX 6].map frR)
set_option maxRecDepth 100000 in
theorem bX_len:bX.length=14:=by decide +kernel
set_option maxRecDepth 100000 in
theorem bX_low:∀ x∈bX,x<256:=by decide +kernel
set_option maxRecDepth 100000 in
theorem bX_split:splitS bX=([(1,[1],0,7),(6,[1],7,14)],14,0):=by decide +kernel
set_option maxRecDepth 100000 in
theorem bX_cut:splitS (bX.take 10)=([(1,[1],0,7)],7,1):=by decide +kernel
theorem ansX1:ansP 1 [1]=((rX 1).abs,0):=by rfl
theorem ansX6:ansP 6 [1]=((rX 6).abs,0):=by rfl
theorem faultX:faultN [rX 1,rX 6]=0:=by rfl
theorem totX:totD bX=([((rX 1).abs,0,7),((rX 6).abs,7,14)],14,0):=by
 have h:decL [(1,[1],0,7),(6,[1],7,14)]=([((rX 1).abs,0,7),((rX 6).abs,7,14)],none):=by
  simp only [decL,ansX1,ansX6,if_true]
 unfold totD
 rw [bX_split]
 simp only [h]
theorem totXc:totD (bX.take 10)=([((rX 1).abs,0,7)],7,1):=by
 have h:decL [(1,[1],0,7)]=([((rX 1).abs,0,7)],none):=by
  simp only [decL,ansX1,if_true]
 unfold totD
 rw [bX_cut]
 simp only [h]
theorem numW_x:numW [120]=none:=by rfl
theorem linesX1:∃ r,lineB [98,101,103,105,110,32,49]=some r:=by
 refine ⟨{Rc.zero 1 with t:=1},?_⟩
 show endP (goP (Rc.zero 1) [32,49] (partsN 1 6))=_
 rw [partsN_of]
 show endP (goP (Rc.zero 1) [32,49] [0])=_
 rw [goP_go6 (setP_num06 (n:=1) rfl (by decide))]
 rfl
theorem linesX2:lineB [99,111,109,109,105,116,32,120]=none:=by
 show endP (goP (Rc.zero 6) [32,120] (partsN 6 6))=none
 rw [partsN_of]
 show endP (goP (Rc.zero 6) [32,120] [0])=none
 rw [goP_bad6 (setP_none06 (by show numW [120]=none; exact numW_x))]
 rfl
theorem totXl:totL [98,101,103,105,110,32,49,10,35,10,10,99,111,109,109,105,116,32,120]=([],4,50):=by
 obtain ⟨r,hr⟩:=linesX1
 show goL [[98,101,103,105,110,32,49],[35],[],[99,111,109,109,105,116,32,120]] 0 []=_
 rw [goL_some (by intro h; rcases h with h | h <;> cases h) hr,goL_mute (.inr rfl),goL_mute (.inl rfl),goL_none (by intro h; rcases h with h | h <;> cases h) linesX2]
theorem placed_cell {B:Nat} {w:World} {g n c:Nat} {ps:List (Rv×Nat×Nat)} (h:OwnPl B w (.slice (some ⟨g,0,none⟩) n c) ps) (j:Nat) (u:Value) (hu:(wpCells ps)[j]? = some u):w.cell? ⟨g,j,none⟩=some u:=by
 have h2:=h.row.cells (g:=g) rfl j u hu
 rw [show (⟨g,0,none⟩:Addr).add j=⟨g,j,none⟩ by unfold Addr.add; split <;> simp_all] at h2
 exact h2
set_option maxRecDepth 100000 in
set_option maxHeartbeats 6400000 in
theorem works6_any (B:Nat) (w:World) (hE:EnvM B w) (hT:Tab w) (hB:B≤w.heap.size):Calls Tryz.prog 6 #[] w fun e w'=>e=.returned (.bool true)∧Below w.heap.size w w':=by
 have EN:Hid (∀ W g,Below w.heap.size w W→W.heap[g]? = some (.cells #[.int .i64 1,.int .u64 1,.int .u64 0,.int .u64 0,.int .u64 0,.int .u64 0,.int .i64 0,.int .u64 0,.int .u64 0,.slice none 0 0,.slice none 0 0,.int .i64 6,.int .u64 1,.int .u64 0,.int .u64 0,.int .u64 0,.int .u64 0,.int .i64 0,.int .u64 0,.int .u64 0,.slice none 0 0,.slice none 0 0] 68 (0,0))→Calls Tryz.prog 19 #[.slice (some ⟨g,0,none⟩) 2 2] W fun e w'=>∃ g1 c1,e=.returned (.tuple #[.slice (some ⟨g1,0,none⟩) 14 c1,.int .i64 0])∧14≤c1∧Hid (w'.ownsRow W.heap.size 5 1 (.slice (some ⟨g1,0,none⟩) 14 c1) 14 (bs bX))∧Below W.heap.size W w'):=fun W g hW hg=>by
  have hgl:=lt_of_block hg
  have hL:∀ k:Int,-9223372036854775808≤k∧k≤9223372036854775807→RLies W 0 W.heap.size (rX k):=fun k hk=>⟨hk,by show ((1:Nat):Int)≤_; omega,by show ((0:Nat):Int)≤_; omega,by show ((0:Nat):Int)≤_; omega,by show ((0:Nat):Int)≤_; omega,by show ((0:Nat):Int)≤_; omega,lies_zero _ _ _,Rd.zero,(by simp [rX]),(by intro e he; cases he),(by intro ad e; cases e)⟩
  have hrd:Rd W (g+1) 11 (some ⟨g,0,none⟩) 2 (rvCells [rX 1,rX 6]):=rd_row (size:=11) (n:=2) (l:=rvCells [rX 1,rX 6]) hg rfl
  have hA:RecsA W W.heap.size (some ⟨g,0,none⟩) [rX 1,rX 6]:=⟨hrd.more (by omega),by
   intro r hr
   simp only [List.mem_cons,List.not_mem_nil,or_false] at hr
   rcases hr with rfl | rfl
   · exact hL 1 ⟨by decide,by decide⟩
   · exact hL 6 ⟨by decide,by decide⟩⟩
  refine (encode6_any W.heap.size 2 2 (some ⟨g,0,none⟩) [rX 1,rX 6] W hA (Nat.le_refl _) rfl (by decide) (by
   intro r hr
   simp only [List.mem_cons,List.not_mem_nil,or_false] at hr
   rcases hr with rfl | rfl <;> exact Nat.zero_le _) (hT.below hW hT.1)).mono ?_
  rintro e w' ⟨hb,h1,-⟩
  obtain ⟨A,c,e1,e2⟩:=h1 faultX
  change Ending at e
  rw [show frAll ([rX 1,rX 6].map frR)=bX from rfl,bX_len] at e1 e2
  obtain ⟨g1,c1,hv,hgg,hgl⟩:=e2.form (by omega)
  injection hv with hv1 hv2 hv3
  subst hv1 hv3
  exact ⟨g1,c,e1,(own_cap e2).1,e2,hb⟩
 have D1:Hid (∀ W g1 c1,Below w.heap.size w W→Rd W W.heap.size 1 (some ⟨g1,0,none⟩) 14 (bs bX)→Calls Tryz.prog 9 #[.slice (some ⟨g1,0,none⟩) 14 c1] W fun e w'=>∃ g2 c2,e=.returned (.tuple #[.slice (some ⟨g2,0,none⟩) 2 c2,.int .i64 14,.int .i64 0])∧g2<w'.heap.size∧
  Hid (w'.cell? ⟨g2,11,none⟩=some (.int .i64 0)∧w'.cell? ⟨g2,12,none⟩=some (.int .i64 7)∧w'.cell? ⟨g2,24,none⟩=some (.int .i64 7)∧w'.cell? ⟨g2,25,none⟩=some (.int .i64 14)∧w'.cell? ⟨g2,13,none⟩=some (.int .i64 6))∧Below W.heap.size W w'):=fun W g1 c1 hW hr=>by
  refine (decode6_any W.heap.size (some ⟨g1,0,none⟩) 14 c1 bX W (hT.below hW hT.1) hr bX_low (Nat.le_refl _) (by decide)).mono ?_
  rintro e w' ⟨A,c,ps,rfl,hps,ho,hb⟩
  rw [totX] at hps ⊢
  obtain ⟨p,q,rfl⟩:∃ p q,ps=[p,q]:=by
   have hl:ps.length=2:=by have:=congrArg List.length hps; rwa [List.length_map] at this
   match ps,hl with
   | [p,q],_=>exact ⟨p,q,rfl⟩
  obtain ⟨g2,c2,hv,hgg,hgl⟩:=ho.row.form (by show 0<2; omega)
  injection hv with hv1 hv2 hv3
  subst hv1 hv3
  obtain ⟨⟨k,t,x,wn,nn,v,pp,Ae,ce,es⟩,f,tt⟩:=p
  obtain ⟨⟨k',t',x',wn',nn',v',pp',Ae',ce',es'⟩,f',tt'⟩:=q
  simp only [List.map_cons,List.map_nil,List.cons.injEq,and_true,absP,Prod.mk.injEq] at hps
  obtain ⟨⟨ha,rfl,rfl⟩,ha',rfl,rfl⟩:=hps
  have hk:k'=6:=congrArg Rc.kind ha'
  subst hk
  exact ⟨g2,c,rfl,hgl,⟨placed_cell ho 11 _ rfl,placed_cell ho 12 _ rfl,placed_cell ho 24 _ rfl,placed_cell ho 25 _ rfl,placed_cell ho 13 _ rfl⟩,hb⟩
 have D2:Hid (∀ W g1 c1,Below w.heap.size w W→Rd W W.heap.size 1 (some ⟨g1,0,none⟩) 14 (bs bX)→Calls Tryz.prog 9 #[.slice (some ⟨g1,0,none⟩) 10 c1] W fun e w'=>∃ g2 c2,e=.returned (.tuple #[.slice (some ⟨g2,0,none⟩) 1 c2,.int .i64 7,.int .i64 1])∧g2<w'.heap.size∧
  Hid (w'.cell? ⟨g2,1,none⟩=some (.int .u64 1))∧Below W.heap.size W w'):=fun W g1 c1 hW hr=>by
  have hr2:=hr.take (k:=10) (by omega)
  rw [Nat.mul_one,show (bs bX).take 10=bs (bX.take 10) from List.map_take.symm] at hr2
  refine (decode6_any W.heap.size (some ⟨g1,0,none⟩) 10 c1 (bX.take 10) W (hT.below hW hT.1) hr2 (fun x hx=>bX_low x (List.mem_of_mem_take hx)) (Nat.le_refl _) (by decide)).mono ?_
  rintro e w' ⟨A,c,ps,rfl,hps,ho,hb⟩
  rw [totXc] at hps ⊢
  obtain ⟨p,rfl⟩:∃ p,ps=[p]:=by
   have hl:ps.length=1:=by have:=congrArg List.length hps; rwa [List.length_map] at this
   match ps,hl with
   | [p],_=>exact ⟨p,rfl⟩
  obtain ⟨g2,c2,hv,hgg,hgl⟩:=ho.row.form (by show 0<1; omega)
  injection hv with hv1 hv2 hv3
  subst hv1 hv3
  obtain ⟨⟨k,t,x,wn,nn,v,pp,Ae,ce,es⟩,f,tt⟩:=p
  simp only [List.map_cons,List.map_nil,List.cons.injEq,and_true,absP,Prod.mk.injEq] at hps
  obtain ⟨ha,rfl,rfl⟩:=hps
  have hk:t=1:=congrArg Rc.t ha
  subst hk
  exact ⟨g2,c,rfl,hgl,placed_cell ho 1 _ rfl,hb⟩
 have L1:Hid (∀ W,Below w.heap.size w W→Calls Tryz.prog 25 #[.string ⟨#[98,101,103,105,110,32,49,10,35,10,10,99,111,109,109,105,116,32,120]⟩] W fun e w'=>∃ A c,e=.returned (.tuple #[.slice A 0 c,.int .i64 4,.int .i64 50])∧Below W.heap.size W w'):=fun W hW=>by
  refine (wlines_any B [98,101,103,105,110,32,49,10,35,10,10,99,111,109,109,105,116,32,120] W (hE.under hW hB) (by have:=hW.size; omega) (by decide)).mono ?_
  rintro e w' ⟨A,c,rs,rfl,hrs,-,hb⟩
  rw [totXl] at hrs ⊢
  obtain rfl:rs=[]:=by simpa using hrs
  exact ⟨A,c,rfl,hb⟩
 clear hE hT hB
 go_enter Tryz.func6,Tryz.ntmps6
 have hg0:=heap_alloc_new w (.cells #[.int .i64 1,.int .u64 1,.int .u64 0,.int .u64 0,.int .u64 0,.int .u64 0,.int .i64 0,.int .u64 0,.int .u64 0,.slice none 0 0,.slice none 0 0,.int .i64 6,.int .u64 1,.int .u64 0,.int .u64 0,.int .u64 0,.int .u64 0,.int .i64 0,.int .u64 0,.int .u64 0,.slice none 0 0,.slice none 0 0] 68)
 have hn0:=below_new w (.cells #[.int .i64 1,.int .u64 1,.int .u64 0,.int .u64 0,.int .u64 0,.int .u64 0,.int .i64 0,.int .u64 0,.int .u64 0,.slice none 0 0,.slice none 0 0,.int .i64 6,.int .u64 1,.int .u64 0,.int .u64 0,.int .u64 0,.int .u64 0,.int .i64 0,.int .u64 0,.int .u64 0,.slice none 0 0,.slice none 0 0] 68)
 have E1:=EN.out _ _ hn0 hg0
 have HS0:Hid (w.heap.size≤(w.alloc (.cells #[.int .i64 1,.int .u64 1,.int .u64 0,.int .u64 0,.int .u64 0,.int .u64 0,.int .i64 0,.int .u64 0,.int .u64 0,.slice none 0 0,.slice none 0 0,.int .i64 6,.int .u64 1,.int .u64 0,.int .u64 0,.int .u64 0,.int .u64 0,.int .i64 0,.int .u64 0,.int .u64 0,.slice none 0 0,.slice none 0 0] 68)).heap.size):=hn0.size
 have HN0:=Lib_hid hn0
 clear EN hg0 hn0
 go_wp2_with fail
 refine E1.mono ?_
 rintro e w1 ⟨g1,c1,rfl,hc1,ho1,hb1⟩
 have hbw1:=HN0.out.trans (hb1.mono HS0.out)
 have E2:=D1.out w1 g1 c1 hbw1 (Rd.own ho1.out)
 have HBW1:=Lib_hid hbw1
 clear E1 hb1 hbw1 D1 HN0 HS0
 go_wp2_with fail
 refine E2.mono ?_
 rintro e w2 ⟨g2,c2,rfl,hg2,hcs2,hb2⟩
 have hbw2:=HBW1.out.trans (hb2.mono HBW1.out.size)
 have E3:=D2.out w2 g1 c1 hbw2 ((Rd.own (own_below ho1.out hb2 (own_lt ho1.out))))
 have HBW2:=Lib_hid hbw2
 clear E2 hb2 hbw2 D2 ho1 HBW1
 have h10:(10:Int)≤(c1:Int):=by omega
 go_wp2_with fail
 refine E3.mono ?_
 rintro e w3 ⟨g3,c3,rfl,hg3,hcs3,hb3⟩
 have hbw3:=HBW2.out.trans (hb3.mono HBW2.out.size)
 have E4:=L1.out w3 hbw3
 have hk2:∀ j u,w2.cell? ⟨g2,j,none⟩=some u→w3.cell? ⟨g2,j,none⟩=some u:=fun j u h=>(World.cell?_of_block (hb3.block g2 hg2)).trans h
 have hcs2':=Lib_hid (And.intro (hk2 _ _ hcs2.out.1) (And.intro (hk2 _ _ hcs2.out.2.1) (And.intro (hk2 _ _ hcs2.out.2.2.1) (And.intro (hk2 _ _ hcs2.out.2.2.2.1) (hk2 _ _ hcs2.out.2.2.2.2)))))
 have hg23:=Nat.lt_of_lt_of_le hg2 hb3.size
 have HBW3:=Lib_hid hbw3
 clear E3 hb3 hbw3 L1 HBW2 hk2 hcs2 hg2 h10
 go_wp2_with fail
 refine E4.mono ?_
 rintro e w4 ⟨A4,c4,rfl,hb4⟩
 have hk:∀ g j u,g<w3.heap.size→w3.cell? ⟨g,j,none⟩=some u→w4.cell? ⟨g,j,none⟩=some u:=fun g j u hg h=>(World.cell?_of_block (hb4.block g hg)).trans h
 obtain ⟨a1,a2,a3,a4,a5⟩:=hcs2'.out
 have b1:=hk _ _ _ hg23 a1
 have b2:=hk _ _ _ hg23 a2
 have b3:=hk _ _ _ hg23 a3
 have b4:=hk _ _ _ hg23 a4
 have b5:=hk _ _ _ hg23 a5
 have b6:=hk _ _ _ hg3 hcs3.out
 have HF:=Lib_hid (HBW3.out.trans (hb4.mono HBW3.out.size))
 clear hk a1 a2 a3 a4 a5 hcs2' hcs3 hb4 HBW3 E4
 go_wp2
 go_ret
 exact ⟨rfl,HF.out⟩
theorem lineD_small6 {s:List UInt8} {r:Rc} (h:lineD s=some r):r.p.count≤s.length+1∧r.es.length≤s.length+1:=by
 unfold lineD at h
 split at h
 · cases h
 · obtain ⟨r',h1,h2⟩:=Option.bind_eq_some_iff.1 h
   split at h2
   · injection h2 with h2
     subst h2
     have hz:(T.node 0 0 0 []).count=1:=by decide
     unfold looseL at h1
     repeat' split at h1
     · injection h1 with h1; subst h1
       exact ⟨by show (T.node 0 0 0 []).count≤_; omega,by show (0:Nat)≤_; omega⟩
     · injection h1 with h1; subst h1
       exact ⟨by show (T.node 0 0 0 []).count≤_; omega,by show (0:Nat)≤_; omega⟩
     · injection h1 with h1; subst h1
       exact ⟨by show (T.node 0 0 0 []).count≤_; omega,by show (0:Nat)≤_; omega⟩
     · obtain ⟨p,h3,h4⟩:=Option.bind_eq_some_iff.1 h1
       obtain ⟨es,h5,rfl⟩:=Option.map_eq_some_iff.1 h4
       refine ⟨?_,?_⟩
       · have hc:=readT_count h3
         have hl:((cutsL 32 s).getD 2 []).length≤s.length:=by
          rw [List.getD_eq_getElem?_getD]
          cases hg:(cutsL 32 s)[2]? with
          | none=>simp
          | some y=>exact cutsL_mem 32 s y (List.mem_of_getElem? hg)
         show p.count≤_
         omega
       · have h6:=lentsL_len h5
         have h7:=cutsL_len 32 s
         rw [List.length_drop] at h6
         show es.length≤_
         omega
     · injection h1 with h1; subst h1
       exact ⟨by show (T.node 0 0 0 []).count≤_; omega,by show (0:Nat)≤_; omega⟩
   · cases h2
theorem goL_all {P:Rc→Prop}:∀ (ls:List (List UInt8)) (n:Nat) (acc:List Rc),(∀ x∈ls,∀ r,lineB x=some r→P r)→(∀ r∈acc,P r)→∀ r∈(goL ls n acc).1,P r
 | [],n,acc,_,ha,r,hr=>ha r hr
 | x :: ls,n,acc,hx,ha,r,hr=>by
  by_cases hm:Mute x
  · rw [goL_mute hm] at hr
    exact goL_all ls _ acc (fun y hy=>hx y (List.mem_cons_of_mem _ hy)) ha r hr
  · cases hb:lineB x with
    | none=>rw [goL_none hm hb] at hr; cases hr
    | some q=>
     rw [goL_some hm hb] at hr
     refine goL_all ls _ _ (fun y hy=>hx y (List.mem_cons_of_mem _ hy)) (fun y hy=>?_) r hr
     rcases List.mem_append.1 hy with h | h
     · exact ha y h
     · obtain rfl:y=q:=by simpa using h
       exact hx x (by simp) y hb
theorem lnsL_mem {s x:List UInt8} (h:x∈lnsL s):x.length≤s.length:=by
 have h2:x∈cutsL 10 s:=by
  unfold lnsL at h
  split at h
  · exact List.dropLast_subset _ h
  · exact h
 exact cutsL_mem 10 s x h2
theorem totL_small {s:List UInt8} (hl:s.length≤900):∀ r∈(totL s).1,r.p.count≤1000∧r.es.length≤100000:=by
 refine goL_all _ _ _ (fun x hx r hr=>?_) (by simp)
 have h1:=lnsL_mem hx
 rw [← lineD_eq] at hr
 obtain ⟨h2,h3⟩:=lineD_small6 hr
 omega
set_option maxRecDepth 100000 in
set_option maxHeartbeats 3200000 in
theorem wirelines_any (B:Nat) (s:List UInt8) (w:World) (hE:EnvM B w) (hT:Tab w) (hB:B≤w.heap.size) :
 Calls Tryz.prog 5 #[.string ⟨s.toArray⟩] w fun e w'=>e=.returned (.bool true)∧Below w.heap.size w w':=by
 have WK:Hid (∀ W,Below w.heap.size w W→Calls Tryz.prog 6 #[] W fun e w'=>e=.returned (.bool true)∧Below W.heap.size W w'):=fun W hW=>works6_any B W (hE.under hW hB) (hT.below hW hT.1) (Nat.le_trans hB hW.size)
 by_cases hl:s.length≤600
 · have q:¬ (600:Int)<(s.length:Int):=by omega
   have DL:=dlines6_any s w (by omega)
   have PL:Hid (∀ W,Below w.heap.size w W→Calls Tryz.prog 25 #[.string ⟨s.toArray⟩] W (LnsEnd s W)):=fun W hW=>wlines_any B s W (hE.under hW hB) (Nat.le_trans hB hW.size) (by omega)
   have HSM:Hid (∀ r∈(totL s).1,r.p.count≤1000∧r.es.length≤100000):=totL_small (by omega)
   have HTL:Hid ((totL s).1.length≤s.length+1):=by
    have h1:∀ (ls:List (List UInt8)) (n:Nat) (acc:List Rc),(goL ls n acc).1.length≤ls.length+acc.length:=by
     intro ls
     induction ls with
     | nil=>intro n acc; rw [goL]; simp
     | cons x ls ih=>
      intro n acc
      by_cases hm:Mute x
      · rw [goL_mute hm]; have:=ih (n+1) acc; simp; omega
      · cases hb:lineB x with
        | none=>rw [goL_none hm hb]; simp
        | some q=>rw [goL_some hm hb]; have:=ih (n+1) (acc ++ [q]); simp at this ⊢; omega
    have h2:=h1 (lnsL s) 0 []
    have h3:(lnsL s).length≤(cutsL 10 s).length:=by
     unfold lnsL
     split
     · rw [List.length_dropLast]; omega
     · exact Nat.le_refl _
    have h4:=cutsL_len 10 s
    show (goL (lnsL s) 0 []).1.length≤_
    simp at h2
    omega
   clear hE hT
   unfold DLnsEnd at DL
   unfold LnsEnd at PL
   generalize totL s=T at *
   obtain ⟨T1,T2,T3⟩:=T
   simp only at DL PL HSM HTL
   go_enter Tryz.func5,Tryz.ntmps5
   go_wp2_with fail
   refine DL.mono ?_
   rintro e w1 ⟨A,c,us,rfl,hus,hoD,hb1⟩
   have PL1:=PL.out w1 hb1
   have HUS:=Lib_hid hus
   have HOD:=Lib_hid hoD
   have HB1:=Lib_hid hb1
   clear DL PL hus hoD hb1
   go_wp2_with fail
   refine PL1.mono ?_
   rintro e w2 ⟨A2,c2,rs,rfl,hrs,hoP,hb2⟩
   have hlen:us.length=rs.length:=by
    have h1:=congrArg List.length HUS.out
    have h2:=congrArg List.length hrs
    rw [List.length_map] at h1 h2
    omega
   have hll:rs.length≤100000:=by
    have h2:=congrArg List.length hrs
    rw [List.length_map] at h2
    have:=HTL.out
    omega
   have SR:=samerecs6_any w1.heap.size rs.length c2 c A2 A rs us w2 hoP ⟨by have h:=Rd.own HOD.out.row; exact h.below hb2,fun r hr=>by
    obtain ⟨m1,m2,h1,h2,h3,_⟩:=HOD.out.each r hr
    exact (h3.more (Nat.zero_le _) h2).under hb2⟩ hb2.size rfl hlen hll (hrs.trans HUS.out.symm) (fun r hr=>HSM.out r.abs (by rw [← hrs]; exact List.mem_map_of_mem hr))
   have hbw2:=HB1.out.trans (hb2.mono HB1.out.size)
   have WK2:Hid (∀ W,Below w1.heap.size w2 W→Calls Tryz.prog 6 #[] W fun e w'=>e=.returned (.bool true)∧Below w.heap.size w w'):=fun W hW=>by
    have hbW:=hbw2.trans (hW.mono HB1.out.size)
    exact (WK.out W hbW).mono fun e w' h=>⟨h.1,hbW.trans (h.2.mono hbW.size)⟩
   rw [hlen]
   clear PL1 HUS HOD HB1 HSM HTL hrs hoP hb2 hbw2 WK hlen hll
   go_wp2_with fail
   refine SR.mono ?_
   rintro e w3 ⟨rfl,hb3⟩
   have WK3:=WK2.out w3 hb3
   clear SR WK2 hb3
   go_wp2_with fail
   refine WK3.mono ?_
   rintro e w4 ⟨rfl,hb4⟩
   have HF:=Lib_hid hb4
   clear hb4 WK3
   go_wp2
   go_ret
   exact ⟨rfl,HF.out⟩
 · have q:(600:Int)<(s.length:Int):=by omega
   go_enter Tryz.func5,Tryz.ntmps5
   go_wp2_with fail
   refine (WK.out w (Below.refl _ _)).mono ?_
   rintro e w1 ⟨rfl,hb⟩
   go_wp2
   go_ret
   exact ⟨rfl,hb⟩
end Go.Proofs.YtinmoknbgnngcaaGreatDoor
namespace Go.Proofs.YtinmoknbgnngcaaGreatDoor
open Go.ChangeShapes Go.WideShapes Go.ChangeAt Go.RowKit Go
set_option linter.unusedVariables false
abbrev laidL:List (String×DataW Unit):=[("math/bits.deBruijn32tab",Rows.laid_math_bits_deBruijn32tab),("math/bits.deBruijn64tab",Rows.laid_math_bits_deBruijn64tab),("internal/strconv.uint64pow10",Rows.laid_internal_strconv_uint64pow10),("unicode/utf8.acceptRanges",Rows.laid_unicode_utf8_acceptRanges),("strconv.ErrRange",Rows.laid_strconv_ErrRange),("strconv.ErrSyntax",Rows.laid_strconv_ErrSyntax),("alibi/crc.halves",Rows.laid_alibi_crc_halves),("unicode/utf8.first",Rows.laid_unicode_utf8_first)]
theorem var_keep {P:Program} {W w':World} {n:String} {cs:Array Value} (h:W.var? P n=some cs) (hk:∀ g,g<W.heap.size→w'.heap[g]? = W.heap[g]?):w'.var? P n=some cs:=by
 unfold World.var? at *
 obtain ⟨g,hg,h2⟩:=Option.bind_eq_some_iff.1 h
 rw [hg,Option.bind_some]
 cases ho:W.heap[g]? with
 | none=>rw [ho] at h2; cases h2
 | some o=>
  rw [hk g (Array.getElem?_eq_some_iff.1 ho).1,ho]
  rw [ho] at h2
  exact h2
theorem gPow:Tryz.prog.globalNamed "internal/strconv.uint64pow10" = some 2:=by kernel_rfl
theorem tPow:(Tryz.prog.globals[2]?).map (·.type)=some 323:=by kernel_rfl
theorem gSyn:Tryz.prog.globalNamed "strconv.ErrSyntax" = some 3:=by kernel_rfl
theorem tSyn:(Tryz.prog.globals[3]?).map (·.type)=some 114:=by kernel_rfl
theorem gRng:Tryz.prog.globalNamed "strconv.ErrRange" = some 4:=by kernel_rfl
theorem tRng:(Tryz.prog.globals[4]?).map (·.type)=some 114:=by kernel_rfl
theorem starE : "*" ++ "errors.errorString" = "*errors.errorString":=by decide
theorem rowES (u:TypeId) (h:Tryz.prog.typeName? 3 u=some "*errors.errorString"):u=333:=
 typeName_ptr_named (nm:="errors.errorString") (by rw [starE]; kernel_rfl) (by kernel_rfl) (by decide) u (by rw [starE]; exact h)
theorem env_of_laid {W:World} (h:laidMetH Tryz.prog laidL W):Env W.heap.size W:=by
 rw [MakeChecks.laidMetH_plain _ _ _ (by kernel_rfl)] at h
 have h1:Lib.TabIs Tryz.prog W "internal/strconv.uint64pow10" .u64 Lib.pow10Tab:=
  Lib.tabIs_of_head gPow tPow Tryz.underlying323 Tryz.underlying52 (by kernel_rfl) (by kernel_rfl) (show laidMet Tryz.prog (("internal/strconv.uint64pow10",Lib.tabData .u64 Lib.pow10Tab) :: _) W from h.tail.tail)
 obtain ⟨a0,s0,hv0,-,-,-⟩:=laid_sentinel h.tail.tail.tail.tail gRng tRng Tryz.underlying114 rowES Tryz.underlying333 Tryz.underlying335 rfl rfl Tryz.underlying9 (by kernel_rfl) (by kernel_rfl)
 obtain ⟨a1,s1,hv1,-,-,-⟩:=laid_sentinel h.tail.tail.tail.tail.tail gSyn tSyn Tryz.underlying114 rowES Tryz.underlying333 Tryz.underlying335 rfl rfl Tryz.underlying9 (by kernel_rfl) (by kernel_rfl)
 exact fun w' hk=>⟨var_keep h1 hk,⟨_,_,var_keep hv1 hk⟩,⟨_,_,var_keep hv0 hk⟩⟩
theorem gHalves:Tryz.prog.globalNamed "alibi/crc.halves" = some 1:=by kernel_rfl
theorem tHalves:(Tryz.prog.globals[1]?).map (·.type)=some 292:=by kernel_rfl
theorem tab_of_laid {W:World} (h:laidMetH Tryz.prog laidL W):Tab W:=by
 rw [MakeChecks.laidMetH_plain _ _ _ (by kernel_rfl)] at h
 have hT:Lib.TabIs Tryz.prog W "alibi/crc.halves" .u32 (tbl.map fun (n:Nat)=>(n:Int)):=
  Lib.tabIs_of_head gHalves tHalves Tryz.underlying292 Tryz.underlying154 (by kernel_rfl) (by kernel_rfl) h.tail.tail.tail.tail.tail.tail
 have hc:∀ k,k<16→W.cell? ⟨1,k,none⟩=some (.int .u32 (tb k:Nat)):=by
  intro k hk
  rw [hT.cell gHalves k (by simpa [tbl] using hk)]
  unfold tb
  have:k<(tbl.map fun (n:Nat)=>(n:Int)).length:=by simpa [tbl] using hk
  simp [List.getD_eq_getElem?_getD,show k<tbl.length from hk]
 exact ⟨World.block_lt_of_cell? W _ (hc 0 (by decide)),hc⟩
end Go.Proofs.YtinmoknbgnngcaaGreatDoor
namespace Go.Proofs.YtinmoknbgnngcaaGreatDoor
open Go Go.RowKit Go.Deep Go.ChangeShapes Go.WideShapes
set_option linter.unusedVariables false
section
variable {H:Type} {enc:TypeId×Value→H} {w:World} {base:Nat} {held:Bool}
end
section
variable {H:Type} {enc:TypeId×Value→H} {w:World} {base:Nat} {held:Bool}
end
end Go.Proofs.YtinmoknbgnngcaaGreatDoor
namespace Go.Proofs.YtinmoknbgnngcaaGreatDoor
open Go Go.RowKit
end Go.Proofs.YtinmoknbgnngcaaGreatDoor
namespace Go.Proofs.YtinmoknbgnngcaaGreatDoor
open Go Go.RowKit Go.Deep Go.ChangeShapes Go.WideShapes Go.ChangeAt
open Go.ChangeMaps (open_string shut_string)
set_option linter.unusedVariables false
theorem ownH:ownKnob Tryz.prog.godebug=none:=by kernel_rfl
theorem maxlen_intH {W:World} (h:W.ShapedOpen Tryz.prog):∃ m:Int,W.cell? ⟨0,0,none⟩=some (.int .i64 m):=
 cell_of_shapedOpen_int (zero:=#[.int .i64 0]) h (by decide +kernel) (by kernel_rfl) rfl (by kernel_rfl) (by kernel_rfl) Tryz.underlying3
theorem pos_of_cellH {W:World} {g:Nat} {x:Value} (h:W.cell? ⟨g,0,none⟩=some x):0<W.heap.size:=by
 rcases Nat.eq_zero_or_pos W.heap.size with h0 | h0
 · have h1:W.heap[g]? = none:=Array.getElem?_eq_none (by omega)
   simp [World.cell?,h1] at h
 · exact h0
theorem handedH {H:Type} {enc:TypeId×Value→H} {C:Checked} {os:Os} {f:FuncId} {fn:Func} {s:ChangeSpec} {apart fresh handsOn again:Bool} {X:World→Array Value→Prop}
 (hX:∀ (w w':World) (args:Array Value),w.heap=w'.heap→X w args→X w' args) (own:ownKnob C.prog.godebug=none) (started:os.Started) (noInit:C.prog.inits.idxOf? f=none) (hfn:C.prog.funcs[f]? = some fn)
 (witness:∃ (w:World) (tape:Tape) (i:Input),w.os=os∧(w.forCall tape i).Shaped C.prog∧i.vars=[]∧Input.okWide C.prog (w.forCall tape i) .any w.heap.size f i∧
  ((s.pre enc C.prog fn [] apart (w.forCall tape i).memory i.args∧X (w.forCall tape i).memory i.args)∧sizedMet enc C.prog fn (OpenSpec.ofChange s) apart (w.forCall tape i).memory i.args)∧Assume.holds {} C.prog (lone (Frame.enter C.prog f i.args .normal) [] (w.forCall tape i)))
 (walk:∀ (W:World) (base:Nat) (args:Array Value) (ds gs:List (DataW H)) (before:List MemPlace),(∀ (j:Nat) t v,fn.params[j]? = some t→args[j]? = some v→Value.okWide C.prog W .any base t v)→
  DataW.Whole enc C.prog fn.params.toList s.vars apart W args.toList ds gs before→X W args→W.ShapedOpen C.prog→Calls C.prog f args W fun e W'=>∃ v,e=.returned v∧s.post enc C.prog fn apart fresh handsOn again W args v W') :
 ReturnsInHanded {} C os f .any (fun w args=>(s.pre enc C.prog fn [] apart w args∧X w args)∧sizedMet enc C.prog fn (OpenSpec.ofChange s) apart w args) (s.post enc C.prog fn apart fresh handsOn again):=
 returnsInHanded_of_calls own started noInit witness fun w tape i _ hs _ hok hp _=>by
  obtain ⟨⟨⟨ds,gs,before,hw,_⟩,hx⟩,_⟩:=hp
  have hval:∀ (j:Nat) t v,fn.params[j]? = some t→i.args[j]? = some v→Value.okWide C.prog (w.forCall tape i) .any w.heap.size t v:=by
   obtain ⟨_,_,_,fn',hfn',_,_,_,_,hv⟩:=hok
   rw [Option.some.inj (hfn.symm.trans hfn')]
   exact hv
  refine (walk (w.forCall tape i) w.heap.size i.args ds gs before hval (DataW.Whole.of_heap (by rfl) hw) (hX _ _ _ (by rfl) hx) hs).mono ?_
  rintro e W' ⟨v,rfl,hq⟩
  exact ChangeSpec.post_blind hq
section
variable {H:Type} {enc:TypeId×Value→H} {w:World} {base:Nat} {held:Bool}
end
end Go.Proofs.YtinmoknbgnngcaaGreatDoor
