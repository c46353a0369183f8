/-
  Layer 4: the document's Read.
-/
import Derived.Test.YtinmoknbgnngcaaGreatDoorZwTdx
import Derived.Test.YtinmoknbgnngcaaGreatDoorZwVlj
namespace Go.Proofs.YtinmoknbgnngcaaGreatDoor
open Go Go.RowKit
set_option linter.unusedVariables false
set_option maxRecDepth 100000 in
theorem rRead_ret {Q:Ending→World→Prop} {W:World} {h0 z:Nat} {x0 x1 x2 x3:Value} (HR2:W.heap[h0]? = some (.cells #[x0,x1,x2,x3] 57 (0,0))) (HF2:Q (.returned (.tuple #[.agg #[x0,x1,x2,x3],.int .i64 z])) W)
 (tmps:Array Value) (h2:tmps.getD 2 undef=.pointer (some ⟨h0,0,none⟩)) (h3:tmps.getD 3 undef=.int .i64 z):bodyPost Tryz.prog Tryz.f76 Q .ret {tmps:=tmps,defers:=[]} W:=by
 rw [Array.getD_eq_getD_getElem?] at h2 h3
 have d0:=cell_of_row W _ 0 _ _ _ HR2
 have d1:=cell_of_row W _ 1 _ _ _ HR2
 have d2:=cell_of_row W _ 2 _ _ _ HR2
 have d3:=cell_of_row W _ 3 _ _ _ HR2
 simp at d0 d1 d2 d3
 exact bodyPost_ret (v:=.tuple #[.agg #[x0,x1,x2,x3],.int .i64 z]) (by simp [results,Tryz.results76,go_sem,h2,h3,d0,d1,d2,d3]) rfl HF2
theorem moreS_count {f:List UInt8→Option (T×List UInt8)} (hf:∀ s t r,f s=some (t,r)→t.count+r.length≤s.length):∀ (n:Nat) (s:List UInt8) (ts:List T) (r:List UInt8),moreS f n s=some (ts,r)→T.countL ts+r.length≤s.length
 | 0,s,ts,r,h=>by cases h
 | n+1,s,ts,r,h=>by
  unfold moreS at h
  split at h
  · obtain ⟨⟨t,r'⟩,h1,h⟩:=Option.bind_eq_some_iff.1 h
    obtain ⟨⟨ts',r2⟩,h2,he⟩:=Option.map_eq_some_iff.1 h
    injection he with e1 e2
    subst e1 e2
    have:=hf _ _ _ h1
    have:=moreS_count hf n r' ts' r2 h2
    have:=trim_le s [44]
    simp only [T.countL] at *
    omega
  · split at h
    · injection h with h
      injection h with e1 e2
      subst e1 e2
      have:=trim_le s [41]
      simp only [T.countL]
      omega
    · cases h
theorem rdS_count:∀ (d:Nat) (s:List UInt8) (t:T) (r:List UInt8),rdS d s=some (t,r)→t.count+r.length≤s.length
 | 0,s,t,r,h=>by cases h
 | d+1,s,t,r,h=>by
  unfold rdS at h
  split at h
  · cases h
  · rename_i hk
    obtain ⟨⟨vs,r1⟩,h1,h⟩:=Option.bind_eq_some_iff.1 h
    obtain ⟨⟨ts,r2⟩,h2,he⟩:=Option.map_eq_some_iff.1 h
    injection he with e1 e2
    subst e1 e2
    have h3:=(numsS_len _ _ _ _ h1).2.1
    have h4:=(kindS_le s).2.2 hk
    have h5:T.countL ts+r2.length≤r1.length:=by
     unfold partsS at h2
     split at h2
     · obtain ⟨⟨t',r'⟩,h5,he⟩:=Option.map_eq_some_iff.1 h2
       injection he with e1 e2
       subst e1 e2
       have:=rdS_count d _ _ _ h5
       simp only [T.countL] at *
       omega
     · split at h2
       · unfold listS at h2
         split at h2
         · have:=trim_le r1 [40]
           split at h2
           · injection h2 with h2
             injection h2 with e1 e2
             subst e1 e2
             have:=trim_le (Lib.trimPrefix r1 [40]) [41]
             simp only [T.countL]
             omega
           · obtain ⟨⟨t',r'⟩,h6,h2⟩:=Option.bind_eq_some_iff.1 h2
             obtain ⟨⟨ts',r3⟩,h7,he⟩:=Option.map_eq_some_iff.1 h2
             injection he with e1 e2
             subst e1 e2
             have:=rdS_count d _ _ _ h6
             have:=moreS_count (rdS_count d) _ _ _ _ h7
             simp only [T.countL] at *
             omega
         · cases h2
       · injection h2 with h2
         injection h2 with e1 e2
         subst e1 e2
         simp only [T.countL]
         omega
    rw [T.count]
    simp only at *
    omega
set_option maxRecDepth 100000 in
set_option maxHeartbeats 3200000 in
theorem rRead_any (s:List UInt8) (w:World) (hl:s.length≤900):Calls Tryz.prog 76 #[.string ⟨s.toArray⟩] w (AnsEnd 57 (ansT (readT s)) w):=by
 obtain ⟨w1,hw1⟩:∃ w1,w1=w.alloc (.cells #[.int .i64 0,.int .u64 0,.int .u64 0,.slice none 0 0] 57):=⟨_,rfl⟩
 have q1:=heap_alloc_new w (.cells #[.int .i64 0,.int .u64 0,.int .u64 0,.slice none 0 0] 57)
 have b1:=below_new w (.cells #[.int .i64 0,.int .u64 0,.int .u64 0,.slice none 0 0] 57)
 have s1:w1.heap.size=w.heap.size+1:=by rw [hw1]; simp
 rw [← hw1] at q1 b1
 have ND:=rread4_any 8 (Nat.le_refl _) s w1 (by omega)
 have ND:Calls Tryz.prog 105 #[.string ⟨s.toArray⟩,.int .i64 8] w1 (RdE4 8 s w1):=ND
 have HOK:Hid (∀ t,rdS 8 s=some (t,[])→t.rightB=true→ansT (readT s)=(t,0)):=fun t h1 h2=>by unfold readT; rw [h1]; simp [h2,ansT]
 have HNO:Hid ((∀ t,rdS 8 s=some (t,[])→t.rightB=false)→ansT (readT s)=(.node 0 0 0 [],40)):=fun h=>by
  unfold readT
  cases h8:rdS 8 s with
  | none=>rfl
  | some x=>
   obtain ⟨t,r⟩:=x
   cases r with
   | nil=>simp [h t h8,ansT]
   | cons c r=>rfl
 generalize ansT (readT s)=o at *
 have HBADEND:Hid (∀ W:World,W.heap[w.heap.size]? = some (.cells #[.int .i64 0,.int .u64 0,.int .u64 0,.slice none 0 0] 57 (0,0))→Below w.heap.size w W→(∀ t,rdS 8 s=some (t,[])→t.rightB=false)→
  AnsEnd 57 o w (.returned (.tuple #[.agg #[.int .i64 0,.int .u64 0,.int .u64 0,.slice none 0 0],.int .i64 40])) (put4 W w.heap.size (.int .i64 0) (.int .u64 0) (.int .u64 0) (.slice none 0 0))∧
  (put4 W w.heap.size (.int .i64 0) (.int .u64 0) (.int .u64 0) (.slice none 0 0)).heap[w.heap.size]? = some (.cells #[.int .i64 0,.int .u64 0,.int .u64 0,.slice none 0 0] 57 (0,0))):=by
  intro W h1 h2 h3
  rw [HNO.out h3]
  exact ⟨⟨.node 0 0 0 none 0 [],rfl,by simp [V.abs,V.absL],zero_lies _ _ _,zero_shp _ _ _,put4_below h2 (Nat.le_refl _) _ _ _ _⟩,put4_row h1 _ _ _ _⟩
 subst hw1
 go_enter Tryz.func76,Tryz.ntmps76
 go_upto_region 1 with (fail)
 generalize w.alloc (.cells #[.int .i64 0,.int .u64 0,.int .u64 0,.slice none 0 0] 57)=w2 at *
 go_wp2_with fail
 refine ND.mono ?_
 rintro e w3 ⟨k,a,b,n,c,A,s',ok,rfl,hb3,hR⟩
 have s3:=hb3.size
 have b4:=below_new w3 (.cells #[.int .i64 k,.int .u64 (a:Int),.int .u64 (b:Int),.slice A n c] 57)
 have r4:=heap_alloc_new w3 (.cells #[.int .i64 k,.int .u64 (a:Int),.int .u64 (b:Int),.slice A n c] 57)
 have q4:=(b4.block w.heap.size (by omega)).trans ((hb3.block w.heap.size (by omega)).trans q1)
 have hb4:=(b1.trans (hb3.mono (by omega))).trans (b4.mono (by omega))
 have s4:(w3.alloc (.cells #[.int .i64 k,.int .u64 (a:Int),.int .u64 (b:Int),.slice A n c] 57)).heap.size=w3.heap.size+1:=by simp
 have HB4B:=Lib_hid b4
 clear ND q1 b1 hb3 b4
 go_upto_region 2 with (fail)
 generalize w3.alloc (.cells #[.int .i64 k,.int .u64 (a:Int),.int .u64 (b:Int),.slice A n c] 57)=w4 at *
 cases ok with
 | false=>
  have hno:∀ t',rdS 8 s=some (t',[])→t'.rightB=false:=fun t' h=>by rw [hR.no rfl] at h; cases h
  have e0:=cell_of_row w4 _ 0 _ _ _ q4
  have e1:=cell_of_row w4 _ 1 _ _ _ q4
  have e2:=cell_of_row w4 _ 2 _ _ _ q4
  have e3:=cell_of_row w4 _ 3 _ _ _ q4
  have y0:=frozen_of_row w4 w.heap.size 0 _ _ q4
  have y1:=frozen_of_row w4 w.heap.size 1 _ _ q4
  have y2:=frozen_of_row w4 w.heap.size 2 _ _ q4
  have y3:=frozen_of_row w4 w.heap.size 3 _ _ q4
  simp at e0 e1 e2 e3
  have HX:=Lib_hid (HBADEND.out w4 q4 hb4 hno)
  clear q4 hb4
  go_wp2_with fail
  show bodyPost _ _ _ _ _ (put4 w4 w.heap.size (.int .i64 0) (.int .u64 0) (.int .u64 0) (.slice none 0 0))
  have HX2:=HX.out
  clear HX HBADEND e0 e1 e2 e3 y0 y1 y2 y3
  generalize put4 w4 w.heap.size (.int .i64 0) (.int .u64 0) (.int .u64 0) (.slice none 0 0)=W2 at *
  exact rRead_ret (z:=40) HX2.2 HX2.1 _ rfl rfl
 | true=>
  obtain ⟨t,us,e1,e2,e3,hL,hS⟩:=hR.yes rfl
  by_cases hs':s'=[]
  · subst hs'
    have hct:t.count≤1000:=by
     have:=rdS_count 8 _ _ _ e1
     omega
    have hL4:=hL.under (HB4B.out.mono (Nat.le_refl _))
    have RR:=rright_any (.node k a b A c us) w4 _ _ hL4 (by omega) (by rw [e2]; exact hct)
    rw [e2] at RR
    simp only [V.val,V.kind,V.a,V.b,V.sl,V.addr,V.parts,V.cap] at RR
    have d0:=cell_of_row w4 _ 0 _ _ _ r4
    have d1:=cell_of_row w4 _ 1 _ _ _ r4
    have d2:=cell_of_row w4 _ 2 _ _ _ r4
    have d3:=cell_of_row w4 _ 3 _ _ _ r4
    simp at d0 d1 d2 d3
    have HLS:=Lib_hid (And.intro e1 (And.intro e2 (And.intro hL4 (hS.under HB4B.out))))
    have HUS:=Lib_hid e3
    clear e1 e2 hL hS hL4 hct hR
    rw [e3] at RR
    clear e3
    go_wp2_with fail
    refine RR.mono ?_
    rintro e w5 ⟨rfl,hb5⟩
    have q5:=(hb5.block w.heap.size (by omega)).trans q4
    have r5:=(hb5.block w3.heap.size (by omega)).trans r4
    have hbw5:=hb4.trans (hb5.mono hb4.size)
    have HB5:=Lib_hid hb5
    clear RR d0 d1 d2 d3 q4 r4 hb4 hb5
    cases hr:t.rightB with
    | true=>
     obtain ⟨e1,e2,hL4,hS4⟩:=HLS.out
     have HX:Hid (AnsEnd 57 o w (.returned (.tuple #[.agg #[.int .i64 k,.int .u64 (a:Int),.int .u64 (b:Int),.slice A n c],.int .i64 0])) (put4 w5 w.heap.size (.int .i64 k) (.int .u64 (a:Int)) (.int .u64 (b:Int)) (.slice A n c))∧
      (put4 w5 w.heap.size (.int .i64 k) (.int .u64 (a:Int)) (.int .u64 (b:Int)) (.slice A n c)).heap[w.heap.size]? = some (.cells #[.int .i64 k,.int .u64 (a:Int),.int .u64 (b:Int),.slice A n c] 57 (0,0))):=by
      have h5s:=HB5.out.size
      rw [HOK.out t e1 hr]
      refine ⟨⟨.node k a b A c us,by rw [← HUS.out]; rfl,e2,?_,?_,put4_below hbw5 (Nat.le_refl _) _ _ _ _⟩,put4_row q5 _ _ _ _⟩
      · rw [put4_size]
        exact ((hL4.under (HB5.out.mono (by omega))).keep fun p h1 _=>World.cell?_of_block (put4_else w5 (by omega) _ _ _ _)).more (by omega) (by omega)
      · exact (Shp.keepL _ (hL4.under (HB5.out.mono (by omega))) (hS4.under HB5.out) fun g' h1 _=>put4_else w5 (by omega) _ _ _ _).more (by omega)
     have e0:=cell_of_row w5 _ 0 _ _ _ q5
     have e1:=cell_of_row w5 _ 1 _ _ _ q5
     have e2:=cell_of_row w5 _ 2 _ _ _ q5
     have e3:=cell_of_row w5 _ 3 _ _ _ q5
     have y0:=frozen_of_row w5 w.heap.size 0 _ _ q5
     have y1:=frozen_of_row w5 w.heap.size 1 _ _ q5
     have y2:=frozen_of_row w5 w.heap.size 2 _ _ q5
     have y3:=frozen_of_row w5 w.heap.size 3 _ _ q5
     have f0:=cell_of_row w5 _ 0 _ _ _ r5
     have f1:=cell_of_row w5 _ 1 _ _ _ r5
     have f2:=cell_of_row w5 _ 2 _ _ _ r5
     have f3:=cell_of_row w5 _ 3 _ _ _ r5
     simp at e0 e1 e2 e3 f0 f1 f2 f3
     clear q5 r5 hbw5 hL4 hS4 HLS
     go_wp2_with fail
     show bodyPost _ _ _ _ _ (put4 w5 w.heap.size (.int .i64 k) (.int .u64 (a:Int)) (.int .u64 (b:Int)) (.slice A n c))
     have HX2:=HX.out
     clear HX HBADEND e0 e1 e2 e3 y0 y1 y2 y3 f0 f1 f2 f3
     generalize put4 w5 w.heap.size (.int .i64 k) (.int .u64 (a:Int)) (.int .u64 (b:Int)) (.slice A n c)=W2 at *
     exact rRead_ret (z:=0) HX2.2 HX2.1 _ rfl rfl
    | false=>
     have hno:∀ t',rdS 8 s=some (t',[])→t'.rightB=false:=fun t' h=>by
      have:=HLS.out.1
      rw [h] at this
      injection this with this
      injection this with this _
      rw [this]; exact hr
     have e0:=cell_of_row w5 _ 0 _ _ _ q5
     have e1:=cell_of_row w5 _ 1 _ _ _ q5
     have e2:=cell_of_row w5 _ 2 _ _ _ q5
     have e3:=cell_of_row w5 _ 3 _ _ _ q5
     have y0:=frozen_of_row w5 w.heap.size 0 _ _ q5
     have y1:=frozen_of_row w5 w.heap.size 1 _ _ q5
     have y2:=frozen_of_row w5 w.heap.size 2 _ _ q5
     have y3:=frozen_of_row w5 w.heap.size 3 _ _ q5
     simp at e0 e1 e2 e3
     have HX:=Lib_hid (HBADEND.out w5 q5 hbw5 hno)
     clear q5 hbw5
     go_wp2_with fail
     show bodyPost _ _ _ _ _ (put4 w5 w.heap.size (.int .i64 0) (.int .u64 0) (.int .u64 0) (.slice none 0 0))
     have HX2:=HX.out
     clear HX HBADEND e0 e1 e2 e3 y0 y1 y2 y3
     generalize put4 w5 w.heap.size (.int .i64 0) (.int .u64 0) (.int .u64 0) (.slice none 0 0)=W2 at *
     exact rRead_ret (z:=40) HX2.2 HX2.1 _ rfl rfl
  · have hsb:(s' == [])=false:=by cases s' with | nil=>exact absurd rfl hs' | cons x y=>rfl
    have hno:∀ t',rdS 8 s=some (t',[])→t'.rightB=false:=fun t' h=>by
     rw [e1] at h
     injection h with h
     injection h with _ h
     exact absurd h hs'
    have HS':=Lib_hid hs'
    clear hs' e1
    have e0:=cell_of_row w4 _ 0 _ _ _ q4
    have e1:=cell_of_row w4 _ 1 _ _ _ q4
    have e2:=cell_of_row w4 _ 2 _ _ _ q4
    have e3:=cell_of_row w4 _ 3 _ _ _ q4
    have y0:=frozen_of_row w4 w.heap.size 0 _ _ q4
    have y1:=frozen_of_row w4 w.heap.size 1 _ _ q4
    have y2:=frozen_of_row w4 w.heap.size 2 _ _ q4
    have y3:=frozen_of_row w4 w.heap.size 3 _ _ q4
    simp at e0 e1 e2 e3
    have HX:=Lib_hid (HBADEND.out w4 q4 hb4 hno)
    clear q4 hb4
    go_wp2_with fail
    show bodyPost _ _ _ _ _ (put4 w4 w.heap.size (.int .i64 0) (.int .u64 0) (.int .u64 0) (.slice none 0 0))
    have HX2:=HX.out
    clear HX HBADEND e0 e1 e2 e3 y0 y1 y2 y3
    generalize put4 w4 w.heap.size (.int .i64 0) (.int .u64 0) (.int .u64 0) (.slice none 0 0)=W2 at *
    exact rRead_ret (z:=40) HX2.2 HX2.1 _ rfl rfl
end Go.Proofs.YtinmoknbgnngcaaGreatDoor
