/-
  Layer 4: the program's reader.kind.
-/
import Derived.Test.YtinmoknbgnngcaaGreatDoorZwTnm
import Derived.Lib.Join
import Derived.Lib.ItoaLen
import Derived.Test.YtinmoknbgnngcaaGreatDoorZwTft
import Derived.Test.YtinmoknbgnngcaaGreatDoorZwTrw
import Derived.Deep.RegionHeld3
namespace Go.Proofs.YtinmoknbgnngcaaGreatDoor
open Go Go.RowKit
set_option linter.unusedVariables false
def wordL (k:Nat):List UInt8:=(wordA k).toList
def kindS (s:List UInt8):Nat×List UInt8:=
 match [1,2,3,4,5,6,7].find? (fun k=>Lib.hasPrefix s (wordL k)) with
 | some k=>(k,Lib.trimPrefix s (wordL k))
 | none=>(0,s)
theorem kindS_at {s:List UInt8} {j:Nat} (h1:1≤j) (h7:j≤7) (hn:∀ i,1≤i→i<j→Lib.hasPrefix s (wordL i)=false) (hy:Lib.hasPrefix s (wordL j)=true):kindS s=(j,Lib.trimPrefix s (wordL j)):=by
 have:j=1∨j=2∨j=3∨j=4∨j=5∨j=6∨j=7:=by omega
 unfold kindS
 rcases this with rfl | rfl | rfl | rfl | rfl | rfl | rfl <;> simp_all
theorem kindS_none {s:List UInt8} (hn:∀ i,1≤i→i<8→Lib.hasPrefix s (wordL i)=false):kindS s=(0,s):=by
 unfold kindS
 rw [List.find?_eq_none.2 (by
  intro k hk
  simp only [List.mem_cons,List.not_mem_nil,or_false] at hk
  rw [hn k (by omega) (by omega)]; simp)]
theorem kindS_le (s:List UInt8):(kindS s).1≤7∧(kindS s).2.length≤s.length∧((kindS s).1≠0→(kindS s).2.length<s.length):=by
 unfold kindS
 cases h:[1,2,3,4,5,6,7].find? (fun k=>Lib.hasPrefix s (wordL k)) with
 | none=>simp
 | some k=>
  have hk:=List.mem_of_find?_eq_some h
  have hp:Lib.hasPrefix s (wordL k)=true:=by simpa using List.find?_some h
  simp only [List.mem_cons,List.not_mem_nil,or_false] at hk
  have hl:Lib.trimPrefix s (wordL k)=s.drop (wordL k).length:=by unfold Lib.trimPrefix; rw [if_pos hp]
  have hw:1≤(wordL k).length∧(wordL k).length≤s.length:=by
   refine ⟨by rcases hk with rfl | rfl | rfl | rfl | rfl | rfl | rfl <;> decide,?_⟩
   unfold Lib.hasPrefix at hp
   exact (List.isPrefixOf_iff_prefix.1 hp).length_le
  simp only
  rw [hl,List.length_drop]
  omega
theorem trim_no {s x:List UInt8} (h:Lib.hasPrefix s x=false):Lib.trimPrefix s x=s:=by unfold Lib.trimPrefix; rw [h]; rfl
def KindEnd4 (m:Int) (s:List UInt8) (bad:Bool) (g:Nat) (w:World) (e:Ending) (w':World):Prop:=
 e=.returned (.int .i64 ((kindS s).1:Nat))∧w.grownBy w' (some g)∧w'.heap[g]? = some (RdrC m (kindS s).2 bad)
set_option maxRecDepth 100000 in
set_option maxHeartbeats 1600000 in
theorem pkind_any (m:Int) (s:List UInt8) (bad:Bool) (g:Nat) (w:World) (hg:w.heap[g]? = some (RdrC m s bad)) :
 Calls Tryz.prog 251 #[.pointer (some ⟨g,0,none⟩)] w (KindEnd4 m s bad g w):=by
 have hgl:=(Array.getElem?_eq_some_iff.1 hg).1
 have KD:=kinds_any w
 have HX:Hid (∀ (j:Nat),1≤j→j≤7→∀ wx,(Instr.index 289 (.agg kindsA) (.int .i64 (j:Int))).run Tryz.prog wx=.ok (.agg #[.string ⟨(wordL j).toArray⟩,.int .i64 (partN j:Nat),.func (.func (numF j)) #[] #[],.func (.func (fitF j)) #[] #[],.func (.func (askF j)) #[] #[]]) wx):=by
  intro j h1 h7
  have:j=1∨j=2∨j=3∨j=4∨j=5∨j=6∨j=7:=by omega
  rcases this with rfl | rfl | rfl | rfl | rfl | rfl | rfl <;> exact fun wx=>by kernel_rfl
 have HX0:Hid (∀ wx,(Instr.index 289 (.agg kindsA) (.int .i64 0)).run Tryz.prog wx=.ok (.agg #[.string ⟨#[]⟩,.int .i64 0,.nilFunc,.nilFunc,.nilFunc]) wx):=fun wx=>by kernel_rfl
 have HW:Hid (∀ j,1≤j→j≤7→(wordL j == [])=false):=by
  intro j h1 h7
  have:j=1∨j=2∨j=3∨j=4∨j=5∨j=6∨j=7:=by omega
  rcases this with rfl | rfl | rfl | rfl | rfl | rfl | rfl <;> decide
 generalize kindsA=ka at *
 go_enter Tryz.func251,Tryz.ntmps251
 go_wp2_with fail
 refine KD.mono ?_
 rintro e w1 ⟨rfl,hb1⟩
 have hg1:=(hb1.block g hgl).trans hg
 have hgr1:=grow_below hb1 (some g)
 clear KD hb1
 go_wp2
 go_loopw [6] (fun z W=>∃ j:Nat,z=.int .i64 j∧j≤8∧Hid (∀ i,1≤i→i<j→Lib.hasPrefix s (wordL i)=false)∧W.heap[g]? = some (RdrC m s bad)∧w.grownBy W (some g)) (fun z _=>8 - (intOf z).toNat)
 case atStart=>exact ⟨0,rfl,by omega,Lib_hid (fun i h1 h2=>by omega),hg1,hgr1⟩
 case round=>
  clear hg1 hgr1
  obtain ⟨j,rfl,hj,hno,hgW,hgr⟩:=hrel
  rename World=>W
  by_cases h8:j<8
  · by_cases h0:j=0
    · subst h0
      have hx:=HX0.out
      have hnew:=below_new W (.cells #[.string ⟨#[]⟩,.int .i64 0,.nilFunc,.nilFunc,.nilFunc] 268)
      have hg2:=(hnew.block g (Array.getElem?_eq_some_iff.1 hgW).1).trans hgW
      have hgr2:=hgr.trans (grow_below hnew (some g))
      clear hgW hgr hnew
      go_wp2
      go_roundw
      case rel=>exact ⟨1,by go_num,by omega,Lib_hid (fun i h1 h2=>by omega),hg2,hgr2⟩
      case measure=>simp [intOf]
    · have hx:=HX.out j (by omega) (by omega)
      have hw:=HW.out j (by omega) (by omega)
      have hwb:wordL j≠[]:=by intro e; rw [e] at hw; simp at hw
      have hnew:=below_new W (.cells #[.string ⟨(wordL j).toArray⟩,.int .i64 (partN j:Nat),.func (.func (numF j)) #[] #[],.func (.func (fitF j)) #[] #[],.func (.func (askF j)) #[] #[]] 268)
      have hg2:=(hnew.block g (Array.getElem?_eq_some_iff.1 hgW).1).trans hgW
      have hgr2:=hgr.trans (grow_below hnew (some g))
      have MK:=mark_any m s (wordL j) bad g _ hg2
      have HHIT:Hid (Lib.hasPrefix s (wordL j)=true→kindS s=(j,Lib.trimPrefix s (wordL j))):=fun h=>kindS_at (by omega) (by omega) hno.out h
      have HMISS:Hid (Lib.hasPrefix s (wordL j)=false→∀ i,1≤i→i<j+1→Lib.hasPrefix s (wordL i)=false):=fun h i h1 h2=>by
       rcases Nat.lt_or_ge i j with h3 | h3
       · exact hno.out i h1 h3
       · obtain rfl:i=j:=by omega
         exact h
      have HTN:Hid (Lib.hasPrefix s (wordL j)=false→Lib.trimPrefix s (wordL j)=s):=trim_no
      clear hgW hgr hnew hg2
      generalize wordL j=wd at *
      generalize partN j=pn at *
      generalize numF j=f1 at *
      generalize fitF j=f2 at *
      generalize askF j=f3 at *
      go_wp2_with fail
      refine MK.mono ?_
      rintro e w3 ⟨rfl,hgr3,hg3⟩
      have hgr4:=hgr2.trans hgr3
      clear MK hgr2 hgr3
      cases hp:Lib.hasPrefix s wd with
      | true=>
       have HF:Hid (KindEnd4 m s bad g w (.returned (.int .i64 (j:Int))) w3):=by
        have:=HHIT.out hp
        refine ⟨by rw [this],hgr4,by rw [this]; exact hg3⟩
       clear hg3 HHIT HMISS HTN
       go_wp2_with fail
       go_ret
       exact HF.out
      | false=>
       have HM:=Lib_hid (HMISS.out hp)
       rw [HTN.out hp] at hg3
       clear HHIT HMISS HTN
       go_wp2_with fail
       go_roundw
       case rel=>exact ⟨j+1,by go_num,by omega,HM,hg3,hgr4⟩
       case measure=>simp [intOf]; omega
  · obtain rfl:j=8:=by omega
    have HF:Hid (KindEnd4 m s bad g w (.returned (.int .i64 0)) W):=by
     have:=kindS_none hno.out
     refine ⟨by rw [this]; rfl,hgr,by rw [this]; exact hgW⟩
    go_wp2
    go_ret
    exact HF.out
mutual
def T.tell:T→List UInt8
 | .node k a b ps=>wordL k.toNat ++ Lib.join ((numsL k a b).map Lib.decDigits) [61] ++ (if 6≤k then [40] ++ Lib.join (T.tellL ps) [44] ++ [41] else Lib.join (T.tellL ps) [])
def T.tellL:List T→List (List UInt8)
 | []=>[]
 | p :: ps=>p.tell :: T.tellL ps
end
theorem tellL_append:∀ (xs ys:List T),T.tellL (xs ++ ys)=T.tellL xs ++ T.tellL ys
 | [],ys=>by simp [T.tellL]
 | x :: xs,ys=>by rw [List.cons_append,T.tellL,T.tellL,tellL_append xs ys,List.cons_append]
theorem tellL_length:∀ xs:List T,(T.tellL xs).length=xs.length
 | []=>by simp [T.tellL]
 | x :: xs=>by rw [T.tellL,List.length_cons,List.length_cons,tellL_length xs]
theorem tellL_take {ps:List V} {i:Nat} {p:V} (h:ps[i]? = some p):T.tellL (V.absL (ps.take (i+1)))=T.tellL (V.absL (ps.take i)) ++ [p.abs.tell]:=by
 rw [absL_take h,tellL_append]; simp [T.tellL]
theorem join_snoc (xs:List (List UInt8)) (x sep:List UInt8):Lib.join (xs ++ [x]) sep=Lib.join xs sep ++ (if xs=[] then [] else sep) ++ x:=by
 cases xs with
 | nil=>simp [Lib.join_one,Lib.join_nil]
 | cons y r=>
  rw [List.cons_append,Lib.join_cons,Lib.join_cons,if_neg (by simp)]
  simp [Lib.joinTail,List.append_assoc]
theorem join_len (xs:List (List UInt8)) (sep:List UInt8):(Lib.join xs sep).length≤Lib.lens xs+sep.length * xs.length:=by
 cases xs with
 | nil=>simp [Lib.join_nil]
 | cons x r=>
  rw [Lib.join_length,List.length_cons,Nat.mul_succ]
  omega
theorem wordL_len (n:Nat):(wordL n).length≤3:=by
 unfold wordL wordA
 repeat (first | split | decide)
theorem lens_nums {l:List Nat} (h:∀ x∈l,x<18446744073709551616):Lib.lens (l.map Lib.decDigits)≤20 * l.length:=by
 induction l with
 | nil=>simp [Lib.lens]
 | cons x l ih=>
  have h1:=Lib.nDigits_le20 x (h x (by simp))
  have h2:=ih fun y hy=>h y (by simp [hy])
  rw [← Lib.decDigits_length] at h1
  simp only [Lib.lens,List.map_cons,List.sum_cons,List.length_cons] at h2 ⊢
  omega
theorem tellN_len (k:Int) {a b:Nat} (ha:a<18446744073709551616) (hb:b<18446744073709551616):(Lib.join ((numsL k a b).map Lib.decDigits) [61]).length≤42:=by
 have h1:=join_len ((numsL k a b).map Lib.decDigits) [61]
 have h2:=lens_nums (nums_in (k:=k) ha hb)
 have h3:=numN_le k
 rw [nums_len] at h2
 rw [List.length_map,nums_len] at h1
 simp at h1
 omega
theorem tells_sum {w:World} {lo hi:Nat} (l:List V) (h:∀ p∈l,p.abs.tell.length+1≤50 * p.abs.count):Lib.lens (T.tellL (V.absL l))+l.length≤50 * T.countL (V.absL l):=by
 induction l with
 | nil=>simp [V.absL,T.tellL,Lib.lens,T.countL]
 | cons p l ih2=>
  have h1:=h p (by simp)
  have h2:=ih2 fun q hq=>h q (by simp [hq])
  simp only [Lib.lens] at h2
  simp only [V.absL,T.tellL,T.countL,Lib.lens,List.map_cons,List.sum_cons,List.length_cons]
  omega
theorem tells_join {l:List V} {sep:List UInt8} (hs:sep.length≤1) (h:Lib.lens (T.tellL (V.absL l))+l.length≤50 * T.countL (V.absL l)):(Lib.join (T.tellL (V.absL l)) sep).length≤50 * T.countL (V.absL l):=by
 have h1:=join_len (T.tellL (V.absL l)) sep
 rw [tellL_length,absL_length] at h1
 have h2:=Nat.mul_le_mul_right l.length hs
 omega
theorem tell_len {w:World} {lo hi:Nat}:∀ v:V,Lies w lo hi v→v.abs.tell.length+1≤50 * v.abs.count:=by
 refine V.ind fun k a b A c ps ih hL=>?_
 obtain ⟨hlen,hcap',hk,ha,hb⟩:=hL.caps
 rw [V.count_node,V.abs,T.tell]
 have h1:=tells_sum (w:=w) (lo:=lo) (hi:=hi) ps fun p hp=>ih p hp (hL.part hp)
 have h2:=tells_join (l:=ps) (sep:=[44]) (by decide) h1
 have h3:=tells_join (l:=ps) (sep:=[]) (by decide) h1
 have h4:=wordL_len k.toNat
 have h5:=tellN_len k ha hb
 split <;> simp only [List.length_append,List.length_cons,List.length_nil] <;> omega
def strs (xs:List (List UInt8)):List Value:=xs.map fun x=>.string ⟨x.toArray⟩
theorem strs_length (xs:List (List UInt8)):(strs xs).length=xs.length:=by simp [strs]
theorem strs_append (xs ys:List (List UInt8)):strs (xs ++ ys)=strs xs ++ strs ys:=by simp [strs]
theorem strs_one (xs:List (List UInt8)):∀ u∈strs xs,u.oneCell'=true:=by
 intro u hu
 obtain ⟨x,_,rfl⟩:=List.mem_map.1 hu
 rfl
theorem new_str (w:World) (E:TypeId) (x:List UInt8):Rd (w.alloc (.cells #[.string ⟨x.toArray⟩] E)) (w.heap.size+1) 1 (some ⟨w.heap.size,0,none⟩) 1 (strs [x]):=by
 refine ⟨rfl,fun _=>⟨_,rfl,by simp,fun j u hu=>?_⟩⟩
 have hr:=heap_alloc_new w (.cells #[.string ⟨x.toArray⟩] E)
 have e:(⟨w.heap.size,0,none⟩:Addr).add j=⟨w.heap.size,j,none⟩:=by unfold Addr.add; split <;> simp_all
 rw [e,cell_of_row _ _ j _ _ _ hr]
 have hv:strs [x]=[.string ⟨x.toArray⟩]:=rfl
 rw [hv] at hu
 rw [← hu]
 simp
set_option maxRecDepth 100000 in
set_option maxHeartbeats 1600000 in
theorem tstand_any:∀ (v:V) (w:World) (lo hi B:Nat) (A':Option Addr) (n c':Nat) (xs:List Nat),Lies w lo hi v→hi≤w.heap.size→B≤w.heap.size→v.abs.allB=true→w.ownsRow B 5 1 (.slice A' n c') n (bs xs)→
 (∀ g,(Value.slice A' n c').ownBlock=some g→g<lo∨hi≤g)→xs.length+31 * v.abs.count≤1000000→Calls Tryz.prog 204 #[.slice A' n c',v.val] w (Grew 5 B (.slice A' n c') (bs (xs ++ v.abs.stand)) w):=by
 refine V.ind fun k a b A c ps ih w lo hi B A' n c' xs hL hhi hB hall ho hfar hlen=>?_
 obtain ⟨hcl,hcap',hkr,ha,hb⟩:=hL.caps
 rw [V.all_node,Bool.and_eq_true] at hall
 rw [V.count_node] at hlen
 have hk:1≤k∧k≤7:=by
  have:=hall.2
  unfold fitsB at this
  split at this; omega
  split at this; omega
  split at this; omega
  split at this; omega
  split at this; omega
  cases this
 obtain ⟨kn,rfl⟩:∃ kn:Nat,k=kn:=⟨k.toNat,by omega⟩
 have hnx:xs.length=n:=by have:=ho.1; rw [bs_length] at this; omega
 have hlc:ps.length≤T.countL (V.absL ps):=by have:=length_le_countL (V.absL ps); rwa [absL_length] at this
 obtain ⟨i0,hi0,hz0,hz1,hz2⟩:=info_parts Tryz.info5
 have HA:Hid (∀ (i:Nat) (p:V),ps[i]? = some p→p.abs.allB=true):=fun i p hp=>by
  cases h:p.abs.allB with
  | true=>rfl
  | false=>rw [allL_bad hp h] at hall; cases hall.1
 have IH:Hid (∀ (i:Nat) (p:V),ps[i]? = some p→∀ (W:World) (A':Option Addr) (n c':Nat) (ys:List Nat),Lies W lo hi p→hi≤W.heap.size→B≤W.heap.size→W.ownsRow B 5 1 (.slice A' n c') n (bs ys)→
  (∀ g,(Value.slice A' n c').ownBlock=some g→g<lo∨hi≤g)→ys.length+31 * p.abs.count≤1000000→Calls Tryz.prog 204 #[.slice A' n c',.agg #[.int .i64 p.kind,.int .u64 (p.a:Int),.int .u64 (p.b:Int),.slice p.addr p.parts.length p.cap]] W (Grew 5 B (.slice A' n c') (bs (ys ++ p.abs.stand)) W)):=
  fun i p hp W A' n c' ys h1 h2 h3 h4 h5 h6=>ih p (List.mem_of_getElem? hp) W lo hi B A' n c' ys h1 h2 h3 (HA.out i p hp) h4 h5 h6
 have hbx:=heap_alloc_new w (.cells #[.int .i64 (kn:Int),.int .u64 (a:Int),.int .u64 (b:Int),.slice A ps.length c] 65)
 have hb0:=below_new w (.cells #[.int .i64 (kn:Int),.int .u64 (a:Int),.int .u64 (b:Int),.slice A ps.length c] 65)
 have KD:=kindof_any kn (w.alloc (.cells #[.int .i64 (kn:Int),.int .u64 (a:Int),.int .u64 (b:Int),.slice A ps.length c] 65))
 have hcn:=call_num hk
 have NA:=Lib_hid (fun g wx=>nums_any kn hk g wx)
 have HK:=Lib_hid hk
 have HL:=Lib_hid hL
 have HS:Hid ((V.node kn a b A c ps).abs.stand=[kn] ++ (numsL kn a b).flatMap enc ++ (if 6≤kn then enc ps.length else []) ++ T.standL (V.absL ps)):=by unfold Hid; rw [V.abs,T.stand,absL_length,Int.toNat_natCast,show (if (6:Int)≤(kn:Int) then enc ps.length else [])=(if 6≤kn then enc ps.length else []) by split <;> split <;> first | rfl | omega]; simp [List.append_assoc]
 have HPN:Hid (partN kn=2↔6≤kn):=by
  unfold partN Hid
  split
  · omega
  · split <;> omega
 rw [kindAt_eq hk,show isKind kn=true by unfold isKind; simp; omega] at KD
 clear ih hL hall
 simp only [V.val,V.kind,V.a,V.b,V.sl,V.addr,V.parts,V.cap]
 generalize (V.node kn a b A c ps).abs.stand=res at *
 generalize hPN:partN kn=pn at *
 generalize wordA kn=wd at *
 generalize numF kn=f1 at *
 generalize fitF kn=f2 at *
 generalize askF kn=f3 at *
 have hkb:IntKind.u8.wrap (kn:Int)=(kn:Int):=by rw [IntKind.wrap_u8]; omega
 go_enter Tryz.func204,Tryz.ntmps204
 go_wp2_with fail
 refine KD.mono ?_
 rintro e w1 ⟨rfl,hb1⟩
 have hbw1:=hb0.trans (hb1.mono hb0.size)
 have hx1:=(hb1.block w.heap.size (by simp)).trans hbx
 have hsz1:w.heap.size<w1.heap.size:=by have:=hb1.size; simp at this; omega
 obtain ⟨w2,hw2⟩:∃ w2,w2=w1.alloc (.cells #[.string ⟨wd⟩,.int .i64 (pn:Nat),.func (.func f1) #[] #[],.func (.func f2) #[] #[],.func (.func f3) #[] #[]] 268):=⟨_,rfl⟩
 have hb2:=hbw1.alloc hbw1.size (.cells #[.string ⟨wd⟩,.int .i64 (pn:Nat),.func (.func f1) #[] #[],.func (.func f2) #[] #[],.func (.func f3) #[] #[]] 268)
 have hx2:=(heap_alloc_old w1 (.cells #[.string ⟨wd⟩,.int .i64 (pn:Nat),.func (.func f1) #[] #[],.func (.func f2) #[] #[],.func (.func f3) #[] #[]] 268) hsz1).trans hx1
 have hk2:=heap_alloc_new w1 (.cells #[.string ⟨wd⟩,.int .i64 (pn:Nat),.func (.func f1) #[] #[],.func (.func f2) #[] #[],.func (.func f3) #[] #[]] 268)
 have hsz2:w2.heap.size=w1.heap.size+1:=by rw [hw2]; simp
 rw [← hw2] at hb2 hx2 hk2
 have hI2:StI (fun g=>g=w.heap.size∨g=w1.heap.size∨(lo≤g∧g<hi)) B w2 (.slice A' n c') xs (.slice A' n c') n w2:=by
  refine ⟨own_below ho hb2 (own_lt ho),Stp.refl _ _,fun g hg hx=>?_,fun g hx=>?_⟩
  · have:=own_lt ho g hg
    have:=hfar g hg
    omega
  · omega
 have HI2:=Lib_hid hI2
 have HB2:=Lib_hid hb2
 have c0:=cell_of_row w2 _ 0 _ _ _ hx2
 simp at c0
 subst hw2
 have HSZ2:=Lib_hid hsz2
 clear KD hb0 hb1 hbx hbw1 hx1 hb2 ho hI2 hsz2
 go_upto_region 2 with (fail)
 generalize w1.alloc _=w2 at *
 have hm1:n+1≤maxLen:=by unfold maxLen; omega
 have hm2:(n+1) * 1≤140737488355328:=by omega
 go_upto_region 3 with (at_builtin; (refine wpList_app rfl _ _ 22 rfl B 5 i0 (.int .u8 0) 1 1 Tryz.underlying22 hi0 hz0 hz1 hz2 rfl (by decide) (.slice A' n c') n (bs xs) rfl (own_below HI2.out.own (below_new w2 _) (own_lt HI2.out.own)) (w2.heap.size+1) (some ⟨w2.heap.size,0,none⟩) 1 1 (bs [kn]) rfl (Rd.new1 w2 kn 5) (bs_one _) hm1 hm2 (by have:=HB2.out.size; simp; omega) ?_); intro v5 w5 ho5 hs5; rw [← bs_append] at ho5; obtain ⟨A5,c5,rfl,_⟩:=own_form ho5)
 have hI5:=(HI2.out.under (below_new w2 _)).next hs5 ho5
 have hk5:=(hI5.kept w1.heap.size (.inr (.inl rfl))).trans hk2
 have hx5:=(hI5.kept w.heap.size (.inl rfl)).trans hx2
 have hL5:Lies w5 lo hi (V.node kn a b A c ps):=HL.out.keep fun p h1 h2=>(World.cell?_of_block (hI5.kept p.block (.inr (.inr ⟨h1,h2⟩)))).trans (HB2.out.cell (by omega))
 have hbw5:=HB2.out.size
 have hs25:=hI5.stp.grow.size
 have d2:=cell_of_row w5 _ 2 _ _ _ hk5
 simp at d2
 have HI5:=Lib_hid hI5
 clear ho5 hs5 hI5 c0 hx2 hk2
 go_wp2_with fail
 refine (NA.out w.heap.size w5).mono ?_
 rintro e w6 ⟨AN,rfl,hb6,hptr⟩
 have hI6a:=HI5.out.under hb6
 have hs56:=hb6.size
 have hI6:=hI6a.from (X':=fun g=>g=w.heap.size∨g=w1.heap.size∨(lo≤g∧g<hi)∨∃ pb,0<numN kn∧AN=some ⟨pb,0,none⟩∧g=pb) (by
  rintro g (h | h | h | ⟨pb,hn,h1,rfl⟩)
  · exact .inl (.inl h)
  · exact .inl (.inr (.inl h))
  · exact .inl (.inr (.inr h))
  · obtain ⟨pb',h2,h3,h4,_⟩:=hptr 0 hn
    have e:g=pb':=by rw [h1] at h2; injection h2 with h2; injection h2
    subst e
    refine .inr ⟨fun e=>?_,h4⟩
    have:=own_lt HI5.out.own g e
    omega)
 obtain ⟨X6,hm0,hm1,hm2,hm3,hI6⟩:∃ X6:Nat→Prop,X6 w.heap.size∧X6 w1.heap.size∧(∀ g,lo≤g→g<hi→X6 g)∧(∀ pb,0<numN kn→AN=some ⟨pb,0,none⟩→X6 pb)∧StI X6 B w6 (.slice A5 (n+1) c5) (xs ++ [kn]) (.slice A5 (n+1) c5) (n+1) w6:=
  ⟨_,.inl rfl,.inr (.inl rfl),fun g h1 h2=>.inr (.inr (.inl ⟨h1,h2⟩)),fun pb h1 h2=>.inr (.inr (.inr ⟨pb,h1,h2,rfl⟩)),hI6⟩
 have HST:Hid (Stp w w6 (.slice A' n c') (.slice A5 (n+1) c5)):=(Stp.new HB2.out _).trans (HI5.out.stp.trans (Stp.new hb6 _))
 have HX:=Lib_hid (And.intro hm0 (And.intro hm1 (And.intro hm2 hm3)))
 clear hm0 hm1 hm2 hm3
 have hk6:=(hb6.block _ (Array.getElem?_eq_some_iff.1 hk5).1).trans hk5
 have hx6:=(hb6.block _ (Array.getElem?_eq_some_iff.1 hx5).1).trans hx5
 have hL6:=hL5.under (hb6.mono (by omega))
 have hlN:=nums_len kn a b
 have hinN:=nums_in (k:=kn) ha hb
 have hN2:=numN_le kn
 have HC:Hid (∀ (j x:Nat),(numsL kn a b)[j]? = some x→w6.cell? ⟨w.heap.size,j+1,none⟩=some (.int .u64 (x:Int))∧(x:Int)≤18446744073709551615):=by
  intro j x hx
  refine ⟨?_,by have:=hinN x (List.mem_of_getElem? hx); omega⟩
  unfold numsL at hx
  rw [List.getElem?_take] at hx
  split at hx
  · match j,hx with
    | 0,hx=>simp at hx; subst hx; exact (cell_of_row w6 _ 1 _ _ _ hx6).trans rfl
    | 1,hx=>simp at hx; subst hx; exact (cell_of_row w6 _ 2 _ _ _ hx6).trans rfl
  · cases hx
 have HNL:=Lib_hid (And.intro hlN (enc_sum hinN))
 have HP:=Lib_hid hptr
 have HKX:=Lib_hid (And.intro hk6 (And.intro hx6 hL6))
 have HI6:=Lib_hid hI6
 clear hlN hinN hptr hk6 hx6 hL6 hI6 hI6a hk5 hx5 hL5 d2 hb6
 generalize hnn:numsL kn a b=nums at *
 generalize hNN:numN kn=N at *
 go_wp2
 go_loopw [0,27] (fun bv z W=>∃ (j n':Nat) (A'':Option Addr) (c'':Nat),z=.int .i64 j∧bv=.slice A'' n' c''∧j≤N∧n'≤n+1+10 * j∧Hid (StI X6 B w6 (.slice A5 (n+1) c5) (xs ++ [kn] ++ (nums.take j).flatMap enc) (.slice A'' n' c'') n' W)) (fun _ z _=>N - (intOf z).toNat)
 case atStart=>exact ⟨0,n+1,A5,c5,rfl,rfl,Nat.zero_le _,by omega,by simpa using HI6⟩
 case round=>
  obtain ⟨j,n',A'',c'',rfl,rfl,hj,hn',hI⟩:=hrel
  rename World=>W
  by_cases hlt:j<N
  · obtain ⟨x,hx⟩:∃ x,nums[j]? = some x:=⟨_,List.getElem?_eq_getElem (by rw [HNL.out.1]; exact hlt)⟩
    obtain ⟨pb,rfl,hp1,hp2,hp3⟩:=HP.out j hlt
    obtain ⟨hc1,hx64⟩:=HC.out j x hx
    have d0:=(World.cell?_of_block (a:=⟨pb,j,none⟩) (hI.out.kept pb (HX.out.2.2.2 pb (by omega) rfl))).trans hp3
    have d1:=(World.cell?_of_block (a:=⟨w.heap.size,j+1,none⟩) (hI.out.kept w.heap.size HX.out.1)).trans hc1
    have PU:=put_any x W hx64
    have hten:=enc_ten (v:=x) (by omega)
    have hp1:n'+(enc x).length≤maxLen:=by unfold maxLen; omega
    have hp2:(n'+(enc x).length) * 1≤140737488355328:=by omega
    have HXJ:=Lib_hid hx
    have hsB:B≤W.heap.size:=by have:=hI.out.stp.grow.size; have:=HST.out.grow.size; omega
    clear hp3 hc1 hx
    go_wp2_with (first | (go_at_call 101; refine PU.mono ?_; rintro e w7 ⟨A7,c7,rfl,ho7,hb7⟩) | (at_builtin; (refine wpList_app rfl _ _ 22 rfl B 5 i0 (.int .u8 0) 1 1 Tryz.underlying22 hi0 hz0 hz1 hz2 rfl (by decide) (.slice A'' n' c'') n' _ rfl (hI.out.under hb7).own w7.heap.size A7 (enc x).length c7 (bs (enc x)) rfl (Rd.own ho7) (bs_one _) hp1 hp2 (by have:=hb7.size; omega) ?_); intro v8 w8 ho8 hs8; rw [← bs_append] at ho8; obtain ⟨A8,c8,rfl,_⟩:=own_form ho8))
    have hI8:=(hI.out.under hb7).next hs8 ho8
    rw [List.append_assoc,show (nums.take j).flatMap enc ++ enc x=(nums.take (j+1)).flatMap enc by rw [take_one HXJ.out,List.flatMap_append]; simp] at hI8
    have HI8:=Lib_hid hI8
    clear hI8 ho8 hs8 hb7 ho7 d0 d1 PU
    go_wp2
    go_roundw
    case rel=>exact ⟨j+1,_,A8,c8,by go_num,rfl,by omega,by omega,HI8⟩
    case measure=>simp [intOf]; omega
  · obtain rfl:j=N:=by omega
    rw [show nums.take j=nums from List.take_of_length_le (by rw [HNL.out.1]; exact Nat.le_refl _)] at hI
    have k7:=(hI.out.kept w1.heap.size HX.out.2.1).trans HKX.out.1
    have d1:=cell_of_row W _ 1 _ _ _ k7
    have x7:=(hI.out.kept w.heap.size HX.out.1).trans HKX.out.2.1
    have x3:=cell_of_row W _ 3 _ _ _ x7
    simp at d1 x3
    clear k7 x7
    go_upto_if 40 with (fail)
    go_cut [0] from 40 to 47 (fun bv W'=>∃ (n':Nat) (A'':Option Addr) (c'':Nat),bv=.slice A'' n' c''∧n'≤n+31∧Hid (StI X6 B w6 (.slice A5 (n+1) c5) (xs ++ [kn] ++ nums.flatMap enc ++ (if 6≤kn then enc ps.length else [])) (.slice A'' n' c'') n' W'))
    case first=>
     by_cases h6:6≤kn
     · have hpn:pn=2:=HPN.out.2 h6
       have hb:(((pn:Nat):Int) == 2)=true:=by simp [hpn]
       clear hpn
       have PU:=put_any ps.length W (by omega)
       have hten:=enc_ten (v:=ps.length) (by omega)
       have hp1:n'+(enc ps.length).length≤maxLen:=by unfold maxLen; omega
       have hp2:(n'+(enc ps.length).length) * 1≤140737488355328:=by omega
       have hsB:B≤W.heap.size:=by have:=hI.out.stp.grow.size; have:=HST.out.grow.size; omega
       have hwr:IntKind.u64.wrap (ps.length:Int)=(ps.length:Int):=by rw [IntKind.wrap_u64]; omega
       go_wp2_with (first | (go_at_call 101; refine PU.mono ?_; rintro e w7 ⟨A7,c7,rfl,ho7,hb7⟩) | (at_builtin; (refine wpList_app rfl _ _ 22 rfl B 5 i0 (.int .u8 0) 1 1 Tryz.underlying22 hi0 hz0 hz1 hz2 rfl (by decide) (.slice A'' n' c'') n' _ rfl (hI.out.under hb7).own w7.heap.size A7 (enc ps.length).length c7 (bs (enc ps.length)) rfl (Rd.own ho7) (bs_one _) hp1 hp2 (by have:=hb7.size; omega) ?_); intro v8 w8 ho8 hs8; rw [← bs_append] at ho8; obtain ⟨A8,c8,rfl,_⟩:=own_form ho8))
       have hI8:=(hI.out.under hb7).next hs8 ho8
       have HI8:=Lib_hid hI8
       clear hI8 ho8 hs8 hb7 ho7 PU
       go_meet
       exact ⟨_,A8,c8,rfl,by omega,by rw [if_pos h6]; exact HI8⟩
     · have hpn:¬ pn=2:=fun e=>h6 (HPN.out.1 e)
       have hb:(((pn:Nat):Int) == 2)=false:=by simp; omega
       go_wp2_with fail
       go_meet
       exact ⟨_,A'',c'',rfl,by omega,by rw [if_neg h6,List.append_nil]; exact hI⟩
    case rest=>
     obtain ⟨n9,A9,c9,rfl,hn9,hI9⟩:=hcut
     clear hI d1
     generalize hpre:xs ++ [kn] ++ nums.flatMap enc ++ (if 6≤kn then enc ps.length else [])=pre at *
     have hpl:pre.length=n9:=by have:=hI9.out.own.1; rw [bs_length] at this; omega
     have x3:wc.cell? ⟨w.heap.size,3,none⟩=some (.slice A ps.length c):=(World.cell?_of_block (a:=⟨w.heap.size,3,none⟩) (hI9.out.kept w.heap.size HX.out.1)).trans ((cell_of_row w6 _ 3 _ _ _ HKX.out.2.1).trans rfl)
     have HPB:Hid (∀ i,i≤ps.length→(T.standL (V.absL (ps.take i))).length≤31 * T.countL (V.absL (ps.take i))):=by
      intro i
      induction i with
      | zero=>intro _; simp [V.absL,T.standL]
      | succ i ih=>
       intro hi
       obtain ⟨p,hp⟩:∃ p,ps[i]? = some p:=⟨_,List.getElem?_eq_getElem (by omega)⟩
       rw [standL_take hp,countL_take hp,List.length_append]
       have h1:=ih (by omega)
       have h2:=stand_len p (HL.out.part (List.mem_of_getElem? hp))
       omega
     have HPR:=Lib_hid hpre
     clear hpre
     go_wp2
     go_loopw [0,51] (fun bv z W=>∃ (i n':Nat) (A'':Option Addr) (c'':Nat),z=.int .i64 i∧bv=.slice A'' n' c''∧i≤ps.length∧Hid (StI X6 B w6 (.slice A5 (n+1) c5) (pre ++ T.standL (V.absL (ps.take i))) (.slice A'' n' c'') n' W)) (fun _ z _=>ps.length - (intOf z).toNat)
     case atStart=>exact ⟨0,n9,A9,c9,rfl,rfl,Nat.zero_le _,by simpa [V.absL,T.standL] using hI9⟩
     case round=>
      obtain ⟨i,n',A'',c'',rfl,rfl,hi1,hI⟩:=hrel
      rename World=>W
      by_cases hlt:i<ps.length
      · have hLW:Lies W lo hi (V.node kn a b A c ps):=HKX.out.2.2.keep fun p h1 h2=>World.cell?_of_block (hI.out.kept p.block (HX.out.2.2.1 _ h1 h2))
        obtain ⟨bb,off,p,rfl,hbb,hlb,hp,hLp,d0,d1,d2,d3⟩:=hLW.nth hlt
        have hsw:w.heap.size≤W.heap.size:=by have:=hI.out.stp.grow.size; have:=HST.out.grow.size; omega
        have CH:Hid (∀ W',Below W.heap.size W W'→Calls Tryz.prog 204 #[.slice A'' n' c'',.agg #[.int .i64 p.kind,.int .u64 (p.a:Int),.int .u64 (p.b:Int),.slice p.addr p.parts.length p.cap]] W' (Grew 5 B (.slice A'' n' c'') (bs ((pre ++ T.standL (V.absL (ps.take i))) ++ p.abs.stand)) W')):=fun W' hW'=>by
         refine IH.out i p hp W' A'' n' c'' _ (hLp.under (hW'.mono (by omega))) (by have:=hW'.size; omega) (by have:=hW'.size; omega) (hI.out.under hW').own (fun g hg=>?_) ?_
         · have:=hI.out.far g hg
           rcases Nat.lt_or_ge g lo with h1 | h1
           · exact .inl h1
           · rcases Nat.lt_or_ge g hi with h2 | h2
             · exact absurd (HX.out.2.2.1 g h1 h2) this
             · exact .inr h2
         · have h1:=HPB.out i (by omega)
           have h2:=count_le hp
           rw [List.length_append]
           omega
        have HPP:=Lib_hid hp
        have hps:p.sl=.slice p.addr p.parts.length p.cap:=rfl
        rw [hps] at d3
        clear hLW hLp hp hps
        generalize p.addr=pA at *
        generalize p.cap=pc at *
        generalize p.parts.length=pl at *
        go_wp2_with fail
        refine (CH.out _ (below_new W _)).mono ?_
        rintro e w8 ⟨A8,n8,c8,rfl,ho8,hs8⟩
        have hI8:=(hI.out.under (below_new W _)).next hs8 ho8
        rw [List.append_assoc,← standL_take HPP.out] at hI8
        have HI8:=Lib_hid hI8
        clear hI8 ho8 hs8 CH d0 d1 d2 d3
        go_wp2
        go_roundw
        case rel=>exact ⟨i+1,_,A8,c8,by go_num,rfl,by omega,HI8⟩
        case measure=>simp [intOf]; omega
      · obtain rfl:i=ps.length:=by omega
        have HF:Hid (Grew 5 B (.slice A' n c') (bs (xs ++ res)) w (.returned (.slice A'' n' c'')) W):=by
         refine ⟨A'',n',c'',rfl,?_,HST.out.trans hI.out.stp⟩
         have:=hI.out.own
         rw [List.take_length] at this
         rw [HS.out,show xs ++ ([kn] ++ nums.flatMap enc ++ (if 6≤kn then enc ps.length else []) ++ T.standL (V.absL ps))=pre ++ T.standL (V.absL ps) by rw [← HPR.out]; simp [List.append_assoc]]
         exact this
        go_wp2
        go_ret
        exact HF.out
def T.put (t:T):List Nat:=if t.rightB then t.stand else []
theorem right_all {t:T} (h:t.rightB=true):t.allB=true∧t.count≤32:=by
 unfold T.rightB at h
 simp only [Bool.and_eq_true,decide_eq_true_eq] at h
 exact ⟨h.1.1,h.2⟩
theorem pput_any (v:V) (w:World) (lo hi:Nat) (hL:Lies w lo hi v) (hhi:hi≤w.heap.size) :
 Calls Tryz.prog 174 #[v.val] w (Made 5 v.abs.put w):=by
 have hbx:=heap_alloc_new w (.cells #[.int .i64 v.kind,.int .u64 (v.a:Int),.int .u64 (v.b:Int),v.sl] 65)
 have hb0:=below_new w (.cells #[.int .i64 v.kind,.int .u64 (v.a:Int),.int .u64 (v.b:Int),v.sl] 65)
 have hhi1:hi≤(w.alloc (.cells #[.int .i64 v.kind,.int .u64 (v.a:Int),.int .u64 (v.b:Int),v.sl] 65)).heap.size:=by have:=hb0.size; omega
 have RR:=pright_any v _ lo hi (hL.under (hb0.mono hhi)) hhi1
 have hPut:Hid (v.abs.put=if v.abs.rightB then v.abs.stand else []):=rfl
 have SS:Hid (∀ W,Below w.heap.size w W→v.abs.rightB=true→Calls Tryz.prog 204 #[.slice none 0 0,v.val] W (Grew 5 W.heap.size (.slice none 0 0) (bs v.abs.stand) W)):=fun W hW hr=>by
  have:=tstand_any v W lo hi W.heap.size none 0 0 [] (hL.under (hW.mono hhi)) (by have:=hW.size; omega) (Nat.le_refl _) (right_all hr).1 (own_none _ _ _) (by intro g hg; cases hg) (by have:=(right_all hr).2; simp; omega)
  simpa using this
 have e0:=cell_of_row (w.alloc (.cells #[.int .i64 v.kind,.int .u64 (v.a:Int),.int .u64 (v.b:Int),v.sl] 65)) _ 0 _ _ _ hbx
 simp only [V.val,V.sl] at RR SS hbx hb0 ⊢
 generalize v.abs.put=res at *
 generalize v.abs.stand=st at *
 generalize v.abs.rightB=r at *
 generalize v.kind=x0 at *
 generalize (v.a:Int)=x1 at *
 generalize (v.b:Int)=x2 at *
 generalize v.addr=pA at *
 generalize v.parts.length=pn at *
 generalize v.cap=pc at *
 clear e0 hL hhi1
 go_enter Tryz.func174,Tryz.ntmps174
 go_wp2_with fail
 refine RR.mono ?_
 rintro e w1 ⟨rfl,hb1⟩
 have hbw:=hb0.trans (hb1.mono hb0.size)
 have hx1:=(hb1.block w.heap.size (by simp)).trans hbx
 have c0:=cell_of_row w1 _ 0 _ _ _ hx1
 have c1:=cell_of_row w1 _ 1 _ _ _ hx1
 have c2:=cell_of_row w1 _ 2 _ _ _ hx1
 have c3:=cell_of_row w1 _ 3 _ _ _ hx1
 simp at c0 c1 c2 c3
 clear hbx hb0 hb1 hx1 RR
 cases r with
 | true=>
  have CS:=SS.out w1 hbw rfl
  have HP:Hid (res=st):=hPut.out.trans (if_pos rfl)
  clear hPut
  go_wp2_with fail
  refine CS.mono ?_
  rintro e w2 ⟨A2,n2,c2',rfl,ho2,hs2⟩
  have HF:Hid (Made 5 res w (.returned (.slice A2 n2 c2')) w2):=by
   rw [HP.out]
   exact made_iff.2 ⟨A2,n2,c2',rfl,own_base ho2 fun k hk=>by have:=own_ge ho2 k hk; have:=hbw.size; omega,hbw.trans (hs2.below hbw.size fun k hk=>by cases hk)⟩
  clear CS ho2 hs2
  go_wp2
  go_ret
  exact HF.out
 | false=>
  have HF:Hid (Made 5 res w (.returned (.slice none 0 0)) w1):=by
   rw [hPut.out,if_neg (by simp)]
   exact made_iff.2 ⟨none,0,0,rfl,own_none _ _ _,hbw⟩
  clear hPut
  go_wp2
  go_ret
  exact HF.out
theorem Tryz.infoS:(Tryz.prog.info? 9).map (fun i=>(i.zero,i.size,i.bytes))=some (some (.string ⟨#[]⟩),1,16):=by kernel_rfl
theorem bcat (x y:List UInt8):(⟨x.toArray⟩:ByteArray) ++ ⟨y.toArray⟩=⟨(x ++ y).toArray⟩:=by
 apply ByteArray.ext
 simp
def T.text (t:T):List UInt8:=if t.rightB then t.tell else []
end Go.Proofs.YtinmoknbgnngcaaGreatDoor
