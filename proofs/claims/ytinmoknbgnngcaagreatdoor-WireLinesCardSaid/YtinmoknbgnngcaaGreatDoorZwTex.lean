/-
  Layer 4: the document's value.
-/
import Derived.Test.YtinmoknbgnngcaaGreatDoorZwTqj
import Derived.Test.YtinmoknbgnngcaaGreatDoorZwTqc
import Derived.Test.YtinmoknbgnngcaaGreatDoorZwBse
import Derived.Lib.SmallJoins
import Derived.Test.YtinmoknbgnngcaaGreatDoorZwTrw
import Derived.Test.YtinmoknbgnngcaaGreatDoorZwTcf
import Derived.Great.BuildSlice
import Derived.Deep.DeepCutAuto
import Derived.Deep.CutBlock
import Derived.Deep.RegionHeld3
import Derived.Deep.RegionLaw
namespace Go.Proofs.YtinmoknbgnngcaaGreatDoor
open Go Go.RowKit
set_option linter.unusedVariables false
def ValEnd (s:List UInt8) (w:World) (e:Ending) (w':World):Prop:=
 Below w.heap.size w w'∧∃ (v:Nat) (r:List UInt8) (ok:Bool),e=.returned (.tuple #[.int .u64 (v:Int),.string ⟨r.toArray⟩,.bool ok])∧v<18446744073709551616∧(ok=true→numS s=some (v,r))∧(ok=false→numS s=none)
set_option maxRecDepth 100000 in
set_option maxHeartbeats 3200000 in
theorem rvalue_any (s:List UInt8) (hl:s.length≤1000000) (w:World):Calls Tryz.prog 129 #[.string ⟨s.toArray⟩] w (ValEnd s w):=by
 go_enter Tryz.func129,Tryz.ntmps129
 go_wp2
 go_loop [5,6] (fun x z=>∃ n i:Nat,x=.int .u64 n∧z=.int .i64 i∧i≤s.length∧DgI s i n) (fun _ z=>s.length - (intOf z).toNat)
 case atStart=>exact ⟨0,0,rfl,rfl,Nat.zero_le _,DgI.zero s⟩
 case round=>
  obtain ⟨n,i,rfl,rfl,hi1,hD⟩:=hrel
  by_cases hlt:i<s.length
  · have hil:(i:Int)<(s.length:Int):=by omega
    have hix:=ix_str s i hlt
    obtain ⟨c,hc⟩:∃ c,s[i]? = some c:=⟨_,List.getElem?_eq_getElem hlt⟩
    have hce:s[i]=c:=(List.getElem?_eq_some_iff.1 hc).2
    rw [hce] at hix
    have HC:=Lib_hid hc
    clear hc hce
    have hc8:=c.toNat_lt
    by_cases h48:48≤c.toNat
    · by_cases h57:c.toNat≤57
      · have hd:=Lib_hid ((isDig_iff c).2 ⟨h48,h57⟩)
        have hn:=hD.lt
        have i48:(48:Int)≤(c.toNat:Int):=by omega
        have i57:(c.toNat:Int)≤57:=by omega
        have hD:=Lib_hid hD
        have HSTEP:Hid (n * 10+(c.toNat - 48)≤18446744073709551615→DgI s (i+1) (n * 10+(c.toNat - 48))):=fun h=>hD.out.step HC.out hd.out h
        have HOV:Hid (18446744073709551615<n * 10+(c.toNat - 48)→numS s=none):=fun h=>hD.out.over HC.out hd.out h
        clear hc8
        generalize c.toNat=cn at *
        obtain ⟨dg,rfl⟩:∃ dg:Nat,cn=48+dg:=⟨cn - 48,by omega⟩
        rw [show ((48+dg:Nat):Int)=48+(dg:Int) by omega] at hix i48 i57
        simp only [Nat.add_sub_cancel_left] at HSTEP HOV
        have hw8:IntKind.u8.wrap (48+(dg:Int) - 48)=(dg:Int):=by rw [IntKind.wrap_u8]; omega
        by_cases hov:18446744073709551615<n * 10+dg
        · have hX:Hid (ValEnd s w (.returned (.tuple #[.int .u64 0,.string ⟨s.toArray⟩,.bool false])) w):=⟨Below.refl _ _,0,s,false,rfl,by omega,(fun h=>by cases h),fun _=>HOV.out hov⟩
          have hcmp:(18446744073709551615 - (dg:Int)) / 10<(n:Int):=by omega
          clear HSTEP HOV hov h48 h57 hD hd HC
          go_wp2_with fail
          go_ret3
          exact hX.out
        · have hcmp:¬ (18446744073709551615 - (dg:Int)) / 10<(n:Int):=by omega
          have hST:=Lib_hid (HSTEP.out (by omega))
          have hm1:(n:Int) * 10+(dg:Int)≤18446744073709551615:=by omega
          clear HSTEP HOV hov h48 h57 hD hd HC
          go_wp2_with fail
          go_round
          case rel=>exact ⟨n * 10+dg,i+1,by go_num,by go_num,by omega,hST.out⟩
          case measure=>simp [intOf]; omega
      · have i57:¬ (c.toNat:Int)≤57:=by omega
        have i48:(48:Int)≤(c.toNat:Int):=by omega
        have hnd:∀ c',s[i]? = some c'→isDig c'=false:=fun c' h=>by
         rw [HC.out] at h
         injection h with h
         subst h
         cases hd:isDig c with
         | false=>rfl
         | true=>have:=(isDig_iff c).1 hd; omega
        generalize c.toNat=cn at *
        have HD:=Lib_hid (hD.done hi1 hnd)
        have hlt:=hD.lt
        have hsd:=sl_drop s i hi1
        have hst:=sl_take s i hi1
        by_cases hi0:0<i
        · have hid:decide ((0:Int)<(i:Int))=true:=by simp; omega
          have hid2:decide (0<i)=true:=by simp; omega
          have DG:Hid (∀ k,Calls Tryz.prog 64 #[.int .u64 n] (w.drewN k) fun e w''=>e=.returned (.string ⟨(Lib.decDigits n).toArray⟩)∧∃ q,w''=w.drewN q):=fun k=>(rdigits_any n (w.drewN k) (by omega)).mono fun e w'' ⟨h1,h2⟩=>⟨h1,k,h2⟩
          have HX:Hid (∀ W:World,Below w.heap.size w W→ValEnd s w (.returned (.tuple #[.int .u64 (n:Int),.string ⟨(s.drop i).toArray⟩,.bool (Lib.decDigits n == s.take i)])) W):=by
           intro W hW
           refine ⟨hW,n,s.drop i,_,rfl,by omega,fun h=>?_,fun h=>?_⟩
           · rw [HD.out,if_pos ⟨hi0,by simpa using h⟩]
           · rw [HD.out,if_neg (fun h2=>by rw [h2.2] at h; simp at h)]
          clear HD hD hnd HC h48 h57
          generalize Lib.decDigits n=dd at *
          generalize s.take i=tk at *
          generalize s.drop i=dr at *
          go_wp2_with fail
          go_quiet ((go_at_call 64; exact DG.out _))
          all_goals
           go_wp2_with fail
           go_ret3
           exact HX.out _ (by exact below_drew_ (Below.refl _ _))
        · have hi00:i=0:=by omega
          have hid:decide ((0:Int)<(i:Int))=false:=by simp; omega
          have hid2:decide (0<i)=false:=by simp; omega
          have HX:Hid (∀ W:World,Below w.heap.size w W→ValEnd s w (.returned (.tuple #[.int .u64 (n:Int),.string ⟨(s.drop i).toArray⟩,.bool false])) W):=by
           intro W hW
           refine ⟨hW,n,s.drop i,_,rfl,by omega,(fun h=>by cases h),fun h=>?_⟩
           rw [HD.out,if_neg (fun h2=>hi0 h2.1)]
          clear HD hD hi00 hnd HC h48 h57
          generalize s.take i=tk at *
          generalize s.drop i=dr at *
          go_wp2_with fail
          go_quiet (fail)
          go_wp2_with fail
          go_ret3
          exact HX.out _ (by exact below_drew_ (Below.refl _ _))
    · have i48:¬ (48:Int)≤(c.toNat:Int):=by omega
      have hnd:∀ c',s[i]? = some c'→isDig c'=false:=fun c' h=>by
       rw [HC.out] at h
       injection h with h
       subst h
       cases hd:isDig c with
       | false=>rfl
       | true=>have:=(isDig_iff c).1 hd; omega
      generalize c.toNat=cn at *
      have HD:=Lib_hid (hD.done hi1 hnd)
      have hlt:=hD.lt
      have hsd:=sl_drop s i hi1
      have hst:=sl_take s i hi1
      by_cases hi0:0<i
      · have hid:decide ((0:Int)<(i:Int))=true:=by simp; omega
        have hid2:decide (0<i)=true:=by simp; omega
        have DG:Hid (∀ k,Calls Tryz.prog 64 #[.int .u64 n] (w.drewN k) fun e w''=>e=.returned (.string ⟨(Lib.decDigits n).toArray⟩)∧∃ q,w''=w.drewN q):=fun k=>(rdigits_any n (w.drewN k) (by omega)).mono fun e w'' ⟨h1,h2⟩=>⟨h1,k,h2⟩
        have HX:Hid (∀ W:World,Below w.heap.size w W→ValEnd s w (.returned (.tuple #[.int .u64 (n:Int),.string ⟨(s.drop i).toArray⟩,.bool (Lib.decDigits n == s.take i)])) W):=by
         intro W hW
         refine ⟨hW,n,s.drop i,_,rfl,by omega,fun h=>?_,fun h=>?_⟩
         · rw [HD.out,if_pos ⟨hi0,by simpa using h⟩]
         · rw [HD.out,if_neg (fun h2=>by rw [h2.2] at h; simp at h)]
        clear HD hD hnd HC h48
        generalize Lib.decDigits n=dd at *
        generalize s.take i=tk at *
        generalize s.drop i=dr at *
        go_wp2_with fail
        go_quiet ((go_at_call 64; exact DG.out _))
        all_goals
         go_wp2_with fail
         go_ret3
         exact HX.out _ (by exact below_drew_ (Below.refl _ _))
      · have hi00:i=0:=by omega
        have hid:decide ((0:Int)<(i:Int))=false:=by simp; omega
        have hid2:decide (0<i)=false:=by simp; omega
        have HX:Hid (∀ W:World,Below w.heap.size w W→ValEnd s w (.returned (.tuple #[.int .u64 (n:Int),.string ⟨(s.drop i).toArray⟩,.bool false])) W):=by
         intro W hW
         refine ⟨hW,n,s.drop i,_,rfl,by omega,(fun h=>by cases h),fun h=>?_⟩
         rw [HD.out,if_neg (fun h2=>hi0 h2.1)]
        clear HD hD hi00 hnd HC h48
        generalize s.take i=tk at *
        generalize s.drop i=dr at *
        go_wp2_with fail
        go_quiet (fail)
        go_wp2_with fail
        go_ret3
        exact HX.out _ (by exact below_drew_ (Below.refl _ _))
  · have hil:¬ (i:Int)<(s.length:Int):=by omega
    have hnd:∀ c',s[i]? = some c'→isDig c'=false:=fun c' h=>by have:=(List.getElem?_eq_some_iff.1 h).1; omega
    have HD:=Lib_hid (hD.done hi1 hnd)
    have hlt:=hD.lt
    have hsd:=sl_drop s i hi1
    have hst:=sl_take s i hi1
    by_cases hi0:0<i
    · have hid:decide ((0:Int)<(i:Int))=true:=by simp; omega
      have hid2:decide (0<i)=true:=by simp; omega
      have DG:Hid (∀ k,Calls Tryz.prog 64 #[.int .u64 n] (w.drewN k) fun e w''=>e=.returned (.string ⟨(Lib.decDigits n).toArray⟩)∧∃ q,w''=w.drewN q):=fun k=>(rdigits_any n (w.drewN k) (by omega)).mono fun e w'' ⟨h1,h2⟩=>⟨h1,k,h2⟩
      have HX:Hid (∀ W:World,Below w.heap.size w W→ValEnd s w (.returned (.tuple #[.int .u64 (n:Int),.string ⟨(s.drop i).toArray⟩,.bool (Lib.decDigits n == s.take i)])) W):=by
       intro W hW
       refine ⟨hW,n,s.drop i,_,rfl,by omega,fun h=>?_,fun h=>?_⟩
       · rw [HD.out,if_pos ⟨hi0,by simpa using h⟩]
       · rw [HD.out,if_neg (fun h2=>by rw [h2.2] at h; simp at h)]
      clear HD hD hnd
      generalize Lib.decDigits n=dd at *
      generalize s.take i=tk at *
      generalize s.drop i=dr at *
      go_wp2_with fail
      go_quiet ((go_at_call 64; exact DG.out _))
      all_goals
       go_wp2_with fail
       go_ret3
       exact HX.out _ (by exact below_drew_ (Below.refl _ _))
    · have hi00:i=0:=by omega
      have hid:decide ((0:Int)<(i:Int))=false:=by simp; omega
      have hid2:decide (0<i)=false:=by simp; omega
      have HX:Hid (∀ W:World,Below w.heap.size w W→ValEnd s w (.returned (.tuple #[.int .u64 (n:Int),.string ⟨(s.drop i).toArray⟩,.bool false])) W):=by
       intro W hW
       refine ⟨hW,n,s.drop i,_,rfl,by omega,(fun h=>by cases h),fun h=>?_⟩
       rw [HD.out,if_neg (fun h2=>hi0 h2.1)]
      clear HD hD hi00 hnd
      generalize s.take i=tk at *
      generalize s.drop i=dr at *
      go_wp2_with fail
      go_quiet (fail)
      go_wp2_with fail
      go_ret3
      exact HX.out _ (by exact below_drew_ (Below.refl _ _))
def numsS:Nat→List UInt8→Option (List Nat×List UInt8)
 | 0,s=>some ([],s)
 | j+1,s=>(numsS j s).bind fun (vs,r)=>
  if j=0 then (numS r).map fun (v,r')=>(vs ++ [v],r')
  else if Lib.hasPrefix r [61] then (numS (Lib.trimPrefix r [61])).map fun (v,r')=>(vs ++ [v],r') else none
section
variable (f:List UInt8→Option (T×List UInt8))
def moreS:Nat→List UInt8→Option (List T×List UInt8)
 | 0,_=>none
 | n+1,r=>if Lib.hasPrefix r [44] then (f (Lib.trimPrefix r [44])).bind fun (t,r')=>(moreS n r').map fun (ts,r2)=>(t :: ts,r2)
  else if Lib.hasPrefix r [41] then some ([],Lib.trimPrefix r [41]) else none
def listS (s:List UInt8):Option (List T×List UInt8):=
 if Lib.hasPrefix s [40] then
  if Lib.hasPrefix (Lib.trimPrefix s [40]) [41] then some ([],Lib.trimPrefix (Lib.trimPrefix s [40]) [41])
  else (f (Lib.trimPrefix s [40])).bind fun (t,r')=>(moreS f (r'.length+1) r').map fun (ts,r2)=>(t :: ts,r2)
 else none
def partsS (k:Nat) (r:List UInt8):Option (List T×List UInt8):=
 if k=5 then (f r).map fun (t,r')=>([t],r') else if 6≤k then listS f r else some ([],r)
end
def rdS:Nat→List UInt8→Option (T×List UInt8)
 | 0,_=>none
 | d+1,s=>if (kindS s).1=0 then none else
  (numsS (numN (kindS s).1) (kindS s).2).bind fun (vs,r1)=>(partsS (rdS d) (kindS s).1 r1).map fun (ts,r2)=>(.node (kindS s).1 (vs.getD 0 0) (vs.getD 1 0) ts,r2)
theorem trim_le (s x:List UInt8):(Lib.trimPrefix s x).length≤s.length:=by
 unfold Lib.trimPrefix
 split
 · rw [List.length_drop]; omega
 · exact Nat.le_refl _
theorem trim_lt {s:List UInt8} {c:UInt8} (h:Lib.hasPrefix s [c]=true):(Lib.trimPrefix s [c]).length<s.length:=by
 have hl:1≤s.length:=by
  unfold Lib.hasPrefix at h
  exact (List.isPrefixOf_iff_prefix.1 h).length_le
 unfold Lib.trimPrefix
 rw [if_pos h,List.length_drop]
 simp
 omega
theorem numsS_len:∀ (j:Nat) (s:List UInt8) (vs:List Nat) (r:List UInt8),numsS j s=some (vs,r)→vs.length=j∧r.length≤s.length∧∀ v∈vs,v<18446744073709551616
 | 0,s,vs,r,h=>by
  unfold numsS at h
  injection h with h
  injection h with h1 h2
  subst h1 h2
  simp
 | j+1,s,vs,r,h=>by
  unfold numsS at h
  obtain ⟨⟨vs0,r0⟩,h0,h⟩:=Option.bind_eq_some_iff.1 h
  obtain ⟨i1,i2,i3⟩:=numsS_len j s vs0 r0 h0
  have key:∀ q,q.length≤r0.length→((numS q).map fun (x:Nat×List UInt8)=>(vs0 ++ [x.1],x.2))=some (vs,r)→vs.length=j+1∧r.length≤s.length∧∀ v∈vs,v<18446744073709551616:=by
   intro q hq hm
   obtain ⟨⟨v,r'⟩,hv,he⟩:=Option.map_eq_some_iff.1 hm
   injection he with h1 h2
   subst h1 h2
   obtain ⟨l1,l2⟩:=numS_lt hv
   refine ⟨by simp [i1],by simp only; omega,fun x hx=>?_⟩
   rcases List.mem_append.1 hx with hx | hx
   · exact i3 x hx
   · obtain rfl:x=v:=by simpa using hx
     exact l1
  simp only at h
  split at h
  · exact key r0 (Nat.le_refl _) h
  · split at h
    · exact key _ (trim_le _ _) h
    · cases h
theorem moreS_len {f:List UInt8→Option (T×List UInt8)} (hf:∀ s t r,f s=some (t,r)→r.length<s.length):∀ (n:Nat) (s:List UInt8) (ts:List T) (r:List UInt8),moreS f n s=some (ts,r)→r.length<s.length
 | 0,s,ts,r,h=>by cases h
 | n+1,s,ts,r,h=>by
  unfold moreS at h
  split at h
  · rename_i h44
    obtain ⟨⟨t,r'⟩,h1,h⟩:=Option.bind_eq_some_iff.1 h
    obtain ⟨⟨ts',r2⟩,h2,he⟩:=Option.map_eq_some_iff.1 h
    injection he with e1 e2
    subst e1 e2
    have:=hf _ _ _ h1
    have:=moreS_len hf n r' ts' r2 h2
    have:=trim_lt h44
    simp only at *
    omega
  · split at h
    · rename_i h41
      injection h with h
      injection h with e1 e2
      subst e1 e2
      exact trim_lt h41
    · cases h
theorem moreS_fuel {f:List UInt8→Option (T×List UInt8)} (hf:∀ s t r,f s=some (t,r)→r.length<s.length):∀ (n m:Nat) (s:List UInt8),s.length+1≤n→s.length+1≤m→moreS f n s=moreS f m s
 | 0,m,s,h,_=>by omega
 | n+1,0,s,_,h=>by omega
 | n+1,m+1,s,hn,hm=>by
  unfold moreS
  split
  · rename_i h44
    have:=trim_lt h44
    cases hfs:f (Lib.trimPrefix s [44]) with
    | none=>rfl
    | some tr=>
     obtain ⟨t,r⟩:=tr
     have:=hf _ _ _ hfs
     simp only [Option.bind_some]
     rw [moreS_fuel hf n m r (by omega) (by omega)]
  · rfl
theorem listS_len {f:List UInt8→Option (T×List UInt8)} (hf:∀ s t r,f s=some (t,r)→r.length<s.length) {s:List UInt8} {ts:List T} {r:List UInt8} (h:listS f s=some (ts,r)):r.length<s.length:=by
 unfold listS at h
 split at h
 · rename_i h40
   have:=trim_lt h40
   split at h
   · rename_i h41
     injection h with h
     injection h with e1 e2
     subst e1 e2
     have:=trim_lt h41
     omega
   · obtain ⟨⟨t,r'⟩,h1,h⟩:=Option.bind_eq_some_iff.1 h
     obtain ⟨⟨ts',r2⟩,h2,he⟩:=Option.map_eq_some_iff.1 h
     injection he with e1 e2
     subst e1 e2
     have:=hf _ _ _ h1
     have:=moreS_len hf _ _ _ _ h2
     simp only at *
     omega
 · cases h
theorem rdS_len:∀ (d:Nat) (s:List UInt8) (t:T) (r:List UInt8),rdS d s=some (t,r)→r.length<s.length
 | 0,s,t,r,h=>by cases h
 | d+1,s,t,r,h=>by
  unfold rdS at h
  split at h
  · cases h
  · rename_i hk
    obtain ⟨⟨vs,r1⟩,h1,h⟩:=Option.bind_eq_some_iff.1 h
    obtain ⟨⟨ts,r2⟩,h2,he⟩:=Option.map_eq_some_iff.1 h
    injection he with e1 e2
    subst e1 e2
    have h3:=(numsS_len _ _ _ _ h1).2.1
    have h4:=(kindS_le s).2.2 hk
    unfold partsS at h2
    split at h2
    · obtain ⟨⟨t',r'⟩,h5,he⟩:=Option.map_eq_some_iff.1 h2
      injection he with e1 e2
      subst e2
      have:=rdS_len d _ _ _ h5
      simp only at *
      omega
    · split at h2
      · have:=listS_len (rdS_len d) h2
        simp only at *
        omega
      · injection h2 with h2
        injection h2 with e1 e2
        subst e2
        simp only at *
        omega
def put4 (w:World) (g:Nat) (a b c d:Value):World:=(((w.setCell ⟨g,0,none⟩ a).setCell ⟨g,1,none⟩ b).setCell ⟨g,2,none⟩ c).setCell ⟨g,3,none⟩ d
theorem put4_row {w:World} {g:Nat} {t:TypeId} {x0 x1 x2 x3:Value} (h:w.heap[g]? = some (.cells #[x0,x1,x2,x3] t (0,0))) (a b c d:Value):(put4 w g a b c d).heap[g]? = some (.cells #[a,b,c,d] t (0,0)):=by
 have h1:=Joins.block_setCell (i:=0) h a
 have h2:=Joins.block_setCell (i:=1) h1 b
 have h3:=Joins.block_setCell (i:=2) h2 c
 have h4:=Joins.block_setCell (i:=3) h3 d
 exact h4
theorem put4_else (w:World) {g k:Nat} (h:k≠g) (a b c d:Value):(put4 w g a b c d).heap[k]? = w.heap[k]?:=by
 unfold put4
 rw [Below.heap_setCell _ _ _ _ h,Below.heap_setCell _ _ _ _ h,Below.heap_setCell _ _ _ _ h,Below.heap_setCell _ _ _ _ h]
theorem put4_size (w:World) (g:Nat) (a b c d:Value):(put4 w g a b c d).heap.size=w.heap.size:=by simp [put4,World.setCell]
theorem put4_below {w0 w:World} {B g:Nat} (h:Below B w0 w) (hg:B≤g) (a b c d:Value):Below B w0 (put4 w g a b c d):=
 (((h.setCell (p:=⟨g,0,none⟩) hg a).setCell (p:=⟨g,1,none⟩) hg b).setCell (p:=⟨g,2,none⟩) hg c).setCell (p:=⟨g,3,none⟩) hg d
theorem Tryz.infoR:(Tryz.prog.info? 57).map (fun i=>(i.zero,i.size,i.bytes))=some (some (.agg #[.int .i64 0,.int .u64 0,.int .u64 0,.slice none 0 0]),4,48):=by kernel_rfl
theorem new_val (w:World) (E:TypeId) (u:V):Rd (w.alloc (.cells #[.int .i64 u.kind,.int .u64 (u.a:Int),.int .u64 (u.b:Int),u.sl] E)) (w.heap.size+1) 4 (some ⟨w.heap.size,0,none⟩) 1 (vCells [u]):=by
 refine ⟨by rw [vCells_length]; rfl,fun _=>⟨_,rfl,by simp,fun j x hx=>?_⟩⟩
 have hr:=heap_alloc_new w (.cells #[.int .i64 u.kind,.int .u64 (u.a:Int),.int .u64 (u.b:Int),u.sl] E)
 have e:(⟨w.heap.size,0,none⟩:Addr).add j=⟨w.heap.size,j,none⟩:=by unfold Addr.add; split <;> simp_all
 rw [e,cell_of_row _ _ j _ _ _ hr]
 have hv:vCells [u]=[.int .i64 u.kind,.int .u64 (u.a:Int),.int .u64 (u.b:Int),u.sl]:=rfl
 rw [hv] at hx
 rw [← hx]
 simp
set_option maxRecDepth 100000 in
set_option maxHeartbeats 1600000 in
theorem dexpr_any:∀ (v:V) (w:World) (lo hi:Nat),Lies w lo hi v→hi≤w.heap.size→v.abs.count≤1000→Calls Tryz.prog 44 #[v.val] w (MadeT 57 v.abs w):=by
 refine V.ind fun k a b A c ps ih w lo hi hL hhi hct=>?_
 obtain ⟨hlen,hcap',hk,ha,hb⟩:=hL.caps
 have hlc:ps.length≤1000:=by
  rw [V.count_node] at hct
  have:=length_le_countL (V.absL ps)
  rw [absL_length] at this
  omega
 have IH:Hid (∀ (i:Nat) (p:V),ps[i]? = some p→∀ W,Below w.heap.size w W→Calls Tryz.prog 44 #[p.val] W (MadeT 57 p.abs W)):=fun i p hp W hW=>ih p (List.mem_of_getElem? hp) W lo hi ((hL.part (List.mem_of_getElem? hp)).under (hW.mono hhi)) (Nat.le_trans hhi hW.size) (hL.small hct hp).1
 have HL:Hid (∀ W,Below w.heap.size w W→Lies W lo hi (.node k a b A c ps)):=fun W hW=>hL.under (hW.mono hhi)
 have HK:=Lib_hid (And.intro hk (And.intro ha hb))
 clear ih hL hct
 show Calls Tryz.prog 44 #[.agg #[.int .i64 k,.int .u64 (a:Int),.int .u64 (b:Int),.slice A ps.length c]] w _
 obtain ⟨i0,hi0,hz0,hz1,hz2⟩:=info_parts Tryz.infoR
 have r1:=heap_alloc_new w (.cells #[.int .i64 k,.int .u64 (a:Int),.int .u64 (b:Int),.slice A ps.length c] 65)
 have b1:=below_new w (.cells #[.int .i64 k,.int .u64 (a:Int),.int .u64 (b:Int),.slice A ps.length c] 65)
 obtain ⟨w1,hw1⟩:∃ w1,w1=w.alloc (.cells #[.int .i64 k,.int .u64 (a:Int),.int .u64 (b:Int),.slice A ps.length c] 65):=⟨_,rfl⟩
 have s1:w1.heap.size=w.heap.size+1:=by rw [hw1]; simp
 rw [← hw1] at r1 b1
 have r2:=heap_alloc_new w1 (.cells #[.int .i64 0,.int .u64 0,.int .u64 0,.slice none 0 0] 57)
 have b2:=below_new w1 (.cells #[.int .i64 0,.int .u64 0,.int .u64 0,.slice none 0 0] 57)
 obtain ⟨w2,hw2⟩:∃ w2,w2=w1.alloc (.cells #[.int .i64 0,.int .u64 0,.int .u64 0,.slice none 0 0] 57):=⟨_,rfl⟩
 have s2:w2.heap.size=w.heap.size+2:=by rw [hw2]; simp [s1]
 rw [← hw2,s1] at r2 b2
 have r3:=heap_alloc_new w2 (.cells #[.int .i64 k,.int .u64 (a:Int),.int .u64 (b:Int),.slice none 0 0] 57)
 have b3:=below_new w2 (.cells #[.int .i64 k,.int .u64 (a:Int),.int .u64 (b:Int),.slice none 0 0] 57)
 obtain ⟨w3,hw3⟩:∃ w3,w3=w2.alloc (.cells #[.int .i64 k,.int .u64 (a:Int),.int .u64 (b:Int),.slice none 0 0] 57):=⟨_,rfl⟩
 have s3:w3.heap.size=w.heap.size+3:=by rw [hw3]; simp [s2]
 rw [← hw3,s2] at r3 b3
 have r12:=(b2.block _ (by omega)).trans r1
 have r13:=(b3.block _ (by omega)).trans r12
 have r23:=(b3.block _ (by omega)).trans r2
 have hbw:=(b1.trans (b2.mono (by omega))).trans (b3.mono (by omega))
 have HQ:=Lib_hid (And.intro r13 (And.intro r23 (And.intro r3 (And.intro hbw s3))))
 have e0:=cell_of_row w2 _ 0 _ _ _ r12
 have e1:=cell_of_row w2 _ 1 _ _ _ r12
 have e2:=cell_of_row w2 _ 2 _ _ _ r12
 simp at e0 e1 e2
 subst hw3 hw2 hw1
 clear r1 r2 r3 r12 r13 r23 b1 b2 b3 hbw s3
 go_enter Tryz.func44,Tryz.ntmps44
 go_upto_region 2 with (fail)
 obtain ⟨hq1,hq2,hq3,hbw,hs4⟩:=HQ.out
 clear HQ e0 e1 e2 s1 s2
 generalize ((w.alloc _).alloc _).alloc (.cells #[.int .i64 k,.int .u64 (a:Int),.int .u64 (b:Int),.slice none 0 0] 57)=w4 at *
 have H0:Hid (TRow 57 (w.heap.size+3) (.slice none 0 0) [] w4):=TRow.nil _ _ _
 have HQ2:=Lib_hid hq2
 clear hq2
 go_wp2
 go_loopw [4] (fun z W=>∃ (i:Nat) (us:List V) (A':Option Addr) (c':Nat),z=.int .i64 i∧i≤ps.length∧Hid (us.length=i∧V.absL us=V.absL (ps.take i))∧Hid (TRow 57 (w.heap.size+3) (.slice A' i c') us W)∧
  W.heap[w.heap.size]? = some (.cells #[.int .i64 k,.int .u64 (a:Int),.int .u64 (b:Int),.slice A ps.length c] 65 (0,0))∧
  Hid (W.heap[w.heap.size+1]? = some (.cells #[.int .i64 0,.int .u64 0,.int .u64 0,.slice none 0 0] 57 (0,0)))∧
  W.heap[w.heap.size+2]? = some (.cells #[.int .i64 k,.int .u64 (a:Int),.int .u64 (b:Int),.slice A' i c'] 57 (0,0))∧w.heap.size+3≤W.heap.size∧Below w.heap.size w W) (fun z _=>ps.length - (intOf z).toNat)
 case atStart=>exact ⟨0,[],none,0,rfl,Nat.zero_le _,Lib_hid ⟨rfl,by simp [V.absL]⟩,H0,hq1,HQ2,hq3,by omega,hbw⟩
 case round=>
  clear hq1 HQ2 hq3 H0 hs4 hbw
  obtain ⟨i,us,A',c',rfl,hi1,hus,hrow,hq1,hq2,hq3,hsz,hbw⟩:=hrel
  rename World=>W
  have c3:=cell_of_row W _ 3 _ _ _ hq1
  simp at c3
  by_cases hlt:i<ps.length
  · obtain ⟨bb,off,p,rfl,hbb,hlb,hp,hLp,d0,d1,d2,d3⟩:=(HL.out W hbw).nth hlt
    have g3:=cell_of_row W _ 3 _ _ _ hq3
    simp at g3
    have CH:Hid (∀ W':World,Below W.heap.size W W'→Calls Tryz.prog 44 #[.agg #[.int .i64 p.kind,.int .u64 (p.a:Int),.int .u64 (p.b:Int),.slice p.addr p.parts.length p.cap]] W' fun e w'=>∃ u:V,e=.returned (.agg #[.int .i64 u.kind,.int .u64 (u.a:Int),.int .u64 (u.b:Int),.slice u.addr u.parts.length u.cap])∧u.abs=p.abs∧Lies w' W'.heap.size w'.heap.size u∧Shp 57 w' W'.heap.size u∧Below W'.heap.size W' w'):=fun W' hW'=>(IH.out i p hp W' (hbw.trans (hW'.mono hbw.size))).mono fun e w' ⟨u,he,hr⟩=>⟨u,he,hr⟩
    have S8:Hid (∀ W':World,(∀ g,g<w.heap.size+1→W'.heap[g]? = W.heap[g]?)→W'.cell? ⟨w.heap.size,3,none⟩=some (.slice (some ⟨bb,off,none⟩) ps.length c)∧
     W'.cell? ⟨bb,off+i * 4,none⟩=some (.int .i64 p.kind)∧W'.cell? ⟨bb,off+i * 4+1,none⟩=some (.int .u64 (p.a:Int))∧W'.cell? ⟨bb,off+i * 4+2,none⟩=some (.int .u64 (p.b:Int))∧W'.cell? ⟨bb,off+i * 4+3,none⟩=some (.slice p.addr p.parts.length p.cap)):=by
     intro W' hk
     have key:∀ g j,g<w.heap.size+1→W'.cell? ⟨g,j,none⟩=W.cell? ⟨g,j,none⟩:=fun g j hg=>World.cell?_of_block (a:=⟨g,j,none⟩) (hk g hg)
     exact ⟨(key _ _ (by omega)).trans c3,(key _ _ (by omega)).trans d0,(key _ _ (by omega)).trans d1,(key _ _ (by omega)).trans d2,(key _ _ (by omega)).trans d3⟩
    have HP:=Lib_hid hp
    have hoi:=hrow.out.own
    rw [hus.out.1] at hoi
    have hcp:=own_cap hoi
    have hm1:i+1≤maxLen:=by unfold maxLen; omega
    have hm2:(i+1) * 48≤140737488355328:=by omega
    have HO:Hid (∀ w2:World,Below W.heap.size W w2→w2.ownsRow (w.heap.size+3) 57 4 (.slice A' i c') i (vCells us)):=fun w2 h2=>by
     have:=own_below hrow.out.own h2 (own_lt hrow.out.own)
     rwa [hus.out.1] at this
    have HE:Hid (∀ (w2 w3 w5:World) (u:V) (v':Value),Below W.heap.size W w2→u.abs=p.abs→Lies w2 W.heap.size w2.heap.size u→Shp 57 w2 W.heap.size u→Below w2.heap.size w2 w3→Stp w3 w5 (.slice A' i c') v'→
     w5.ownsRow (w.heap.size+3) 57 4 v' (i+1) (vCells us ++ vCells [u])→
     ((us ++ [u]).length=i+1∧V.absL (us ++ [u])=V.absL (ps.take (i+1)))∧TRow 57 (w.heap.size+3) v' (us ++ [u]) w5∧(∀ g,g<w.heap.size+3→w5.heap[g]? = W.heap[g]?)∧w.heap.size+3≤w5.heap.size∧Below w.heap.size w w5):=by
     intro w2 w3 w5 u v' hb2 hua huL huS hb3 hst ho
     have hge:=own_ge hrow.out.own
     have hs2:=hb2.size
     have hs3:=hb3.size
     refine ⟨⟨by simp [hus.out.1],?_⟩,?_,fun g hg=>?_,by have:=hst.grow.size; omega,?_⟩
     · rw [absL_take HP.out,absL_map,List.map_append,← absL_map,hus.out.2,List.map_cons,List.map_nil,hua]
     · have:=hrow.out.push (w2:=w2) (w3:=w3) (w4:=w5) (v':=v') (u:=u) hsz hb2 huL huS hb3 hst (by rw [hus.out.1]; exact ho)
       exact this
     · exact (hst.grow.block g (by omega) (fun e=>by have:=hge g e.symm; omega)).trans ((hb3.block g (by omega)).trans (hb2.block g (by omega)))
     · exact ((hbw.trans (hb2.mono hbw.size)).trans (hb3.mono (by have:=hbw.size; omega))).trans (hst.below (by have:=hbw.size; omega) fun k hk=>by have:=hge k hk; omega)
    have HQ:=Lib_hid (And.intro hq1 (And.intro hq2.out hq3))
    have HV:Hid (∀ (w2:World) (u:V),Rd (w2.alloc (.cells #[.int .i64 u.kind,.int .u64 (u.a:Int),.int .u64 (u.b:Int),.slice u.addr u.parts.length u.cap] 57)) (w2.heap.size+1) 4 (some ⟨w2.heap.size,0,none⟩) 1 (vCells [u])):=fun w2 u=>new_val w2 _ u
    clear hus hrow hoi hq1 hq2 hq3 d0 d1 d2 d3 hp hLp
    go_wp2
    clear c3
    obtain ⟨s0,s1',s2',s3',s4'⟩:=S8.out W.drew (fun _ _=>rfl)
    have g3':W.drew.cell? ⟨w.heap.size+2,3,none⟩=some (.slice A' i c'):=g3
    have gl:w.heap.size+2<W.drew.heap.size:=by show _<W.heap.size; omega
    clear g3
    go_region_law
     ((first
       | ((refine step_app rfl (.tmp 20) (.tmp 27) 55 rfl (w.heap.size+3) 57 i0 (.agg #[.int .i64 0,.int .u64 0,.int .u64 0,.slice none 0 0]) 4 48 Tryz.underlying55 hi0 hz0 hz1 hz2 rfl (by decide) (.slice A' i c') i (vCells us) rfl (own_below (HO.out w2 hb2) (below_new w2 _) (own_lt (HO.out w2 hb2))) (w2.heap.size+1) (some ⟨w2.heap.size,0,none⟩) 1 1 (vCells [u]) rfl (HV.out w2 u) (v_one _) hm1 hm2 (by have:=hb2.size; simp; omega) ?_); intro v5 w5 ho5 hs5; have hx:=HE.out w2 _ w5 u v5 hb2 hua huL huS (below_new w2 _) hs5 ho5; obtain ⟨A5,c5,rfl,_⟩:=own_form ho5; have hk5:=hx.2.2.1; have hq5:=(hk5 (w.heap.size+2) (by omega)).trans HQ.out.2.2; have g5:=cell_of_row w5 _ 3 _ _ _ hq5; have z5:=frozen_of_row w5 _ 3 _ _ hq5; simp at g5)
       | (go_simp; refine (CH.out _ (by exact below_like4 (Below.refl _ _) rfl rfl rfl rfl)).mono ?_; rintro e w2 ⟨u,rfl,hua,huL,huS,hb2'⟩; dsimp only; have hb2:Below W.heap.size W w2:=⟨hb2'.os,hb2'.tape,hb2'.output,hb2'.size,hb2'.block⟩; have hk2:∀ g,g<w.heap.size+3→w2.heap[g]? = W.heap[g]?:=(fun g hg=>hb2.block g (by omega)); have g2:w2.cell? ⟨w.heap.size+2,3,none⟩=some (.slice A' i c'):=(World.cell?_of_block (a:=⟨w.heap.size+2,3,none⟩) (hk2 (w.heap.size+2) (by omega))).trans g3'; have gl2:w.heap.size+2<w2.heap.size:=(by have:=hb2.size; omega); obtain ⟨t0,t1,t2,t3,t4⟩:=S8.out w2 (fun g hg=>hk2 g (by omega)))))
    all_goals
     have hr6:=hx.2.1.keep (w':=w5.setCell ⟨w.heap.size+2,3,none⟩ (.slice A5 (i+1) c5)) (by simp [World.setCell]) (fun g hg _=>Below.heap_setCell w5 ⟨w.heap.size+2,3,none⟩ _ g (by show g≠w.heap.size+2; omega))
     have q61:=(Below.heap_setCell w5 ⟨w.heap.size+2,3,none⟩ (.slice A5 (i+1) c5) w.heap.size (by show w.heap.size≠w.heap.size+2; omega)).trans ((hk5 _ (by omega)).trans HQ.out.1)
     have q62:=(Below.heap_setCell w5 ⟨w.heap.size+2,3,none⟩ (.slice A5 (i+1) c5) (w.heap.size+1) (by show w.heap.size+1≠w.heap.size+2; omega)).trans ((hk5 _ (by omega)).trans HQ.out.2.1)
     have q63:=Joins.block_setCell (i:=3) hq5 (.slice A5 (i+1) c5)
     have b6:=hx.2.2.2.2.setCell (p:=⟨w.heap.size+2,3,none⟩) (by show w.heap.size≤w.heap.size+2; omega) (.slice A5 (i+1) c5)
     have s6:w.heap.size+3≤(w5.setCell ⟨w.heap.size+2,3,none⟩ (.slice A5 (i+1) c5)).heap.size:=by have:=hx.2.2.2.1; simpa [World.setCell] using this
     have HR6:=Lib_hid (And.intro hr6 (And.intro hx.1 (And.intro q61 (And.intro q62 (And.intro q63 (And.intro s6 b6))))))
     clear hr6 q61 q62 q63 b6 s6 hx hk5 hq5 g5 z5 ho5 hs5 hua huL huS hb2 hb2' hk2 g2 gl2 t0 t1 t2 t3 t4 s0 s1' s2' s3' s4' g3' gl CH HE HO HV S8
     generalize w5.setCell ⟨w.heap.size+2,3,none⟩ (.slice A5 (i+1) c5)=w6 at *
     go_wp2
     go_roundw
     case rel=>exact ⟨i+1,us ++ [u],A5,c5,by go_num,by omega,HR6.out.2.1,HR6.out.1,HR6.out.2.2.1,HR6.out.2.2.2.1,HR6.out.2.2.2.2.1,HR6.out.2.2.2.2.2.1,HR6.out.2.2.2.2.2.2⟩
     case measure=>simp [intOf]; omega
  · obtain rfl:i=ps.length:=by omega
    obtain ⟨-,hLi,hSh⟩:=hrow.out.tree (k:=k) (a:=a) (b:=b) HK.out.1 HK.out.2.1 HK.out.2.2
    have hul:=hus.out.1
    have hcp:ps.length≤c':=by have:=hrow.out.own; rw [hul] at this; exact (own_cap this).1
    have HF:Hid (MadeT 57 (V.node k a b A c ps).abs w (.returned (.agg #[.int .i64 k,.int .u64 (a:Int),.int .u64 (b:Int),.slice A' ps.length c'])) (put4 W (w.heap.size+1) (.int .i64 k) (.int .u64 (a:Int)) (.int .u64 (b:Int)) (.slice A' ps.length c'))):=by
     refine ⟨.node k a b A' c' us,by rw [← hul]; rfl,?_,?_,?_,put4_below hbw (by omega) _ _ _ _⟩
     · rw [V.abs,V.abs,hus.out.2,List.take_length]
     · rw [put4_size]
       exact (hLi.keep fun p h1 _=>World.cell?_of_block (put4_else W (by omega) _ _ _ _)).more (by omega) (Nat.le_refl _)
     · exact (Shp.keepL _ hLi hSh fun g h1 _=>put4_else W (by omega) _ _ _ _).more (by omega)
    have HR:Hid ((put4 W (w.heap.size+1) (.int .i64 k) (.int .u64 (a:Int)) (.int .u64 (b:Int)) (.slice A' ps.length c')).heap[w.heap.size+1]? = _):=put4_row hq2.out _ _ _ _
    have e0:=cell_of_row W _ 0 _ _ _ hq3
    have e1:=cell_of_row W _ 1 _ _ _ hq3
    have e2:=cell_of_row W _ 2 _ _ _ hq3
    have e3:=cell_of_row W _ 3 _ _ _ hq3
    have f0:=cell_of_row W _ 0 _ _ _ hq2.out
    have f1:=cell_of_row W _ 1 _ _ _ hq2.out
    have f2:=cell_of_row W _ 2 _ _ _ hq2.out
    have f3:=cell_of_row W _ 3 _ _ _ hq2.out
    have z0:=frozen_of_row W (w.heap.size+1) 0 _ _ hq2.out
    have z1:=frozen_of_row W (w.heap.size+1) 1 _ _ hq2.out
    have z2:=frozen_of_row W (w.heap.size+1) 2 _ _ hq2.out
    have z3:=frozen_of_row W (w.heap.size+1) 3 _ _ hq2.out
    simp at e0 e1 e2 e3 f0 f1 f2 f3
    clear hus hrow hLi hSh hul hq1 hq2 hq3 hbw IH HL
    go_wp2
    show bodyPost _ _ _ _ _ (put4 W (w.heap.size+1) (.int .i64 k) (.int .u64 (a:Int)) (.int .u64 (b:Int)) (.slice A' ps.length c'))
    have HR2:=HR.out
    have HF2:=HF.out
    clear HR HF f0 f1 f2 f3 e0 e1 e2 e3 z0 z1 z2 z3
    generalize put4 W (w.heap.size+1) (.int .i64 k) (.int .u64 (a:Int)) (.int .u64 (b:Int)) (.slice A' ps.length c')=W2 at *
    have d0:W2.cell? ⟨w.heap.size+1,0,none⟩=some (.int .i64 k):=cell_of_row W2 _ 0 _ _ _ HR2
    have d1:W2.cell? ⟨w.heap.size+1,1,none⟩=some (.int .u64 (a:Int)):=cell_of_row W2 _ 1 _ _ _ HR2
    have d2:W2.cell? ⟨w.heap.size+1,2,none⟩=some (.int .u64 (b:Int)):=cell_of_row W2 _ 2 _ _ _ HR2
    have d3:W2.cell? ⟨w.heap.size+1,3,none⟩=some (.slice A' ps.length c'):=cell_of_row W2 _ 3 _ _ _ HR2
    exact bodyPost_ret (v:=.agg #[.int .i64 k,.int .u64 (a:Int),.int .u64 (b:Int),.slice A' ps.length c']) (by simp [results,Tryz.results44,go_sem,d0,d1,d2,d3]) rfl HF2
end Go.Proofs.YtinmoknbgnngcaaGreatDoor
