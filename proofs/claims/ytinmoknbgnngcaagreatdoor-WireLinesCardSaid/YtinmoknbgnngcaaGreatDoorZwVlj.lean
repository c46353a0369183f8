/-
  Layer 4: the program's Read.
-/
import Derived.Test.YtinmoknbgnngcaaGreatDoorZwTno
import Derived.Test.YtinmoknbgnngcaaGreatDoorZwTqc
import Derived.Test.YtinmoknbgnngcaaGreatDoorZwTqk
import Derived.Test.YtinmoknbgnngcaaGreatDoorZwTqj
import Derived.Test.YtinmoknbgnngcaaGreatDoorZwTdq
import Derived.Lib.IndexMore
namespace Go.Proofs.YtinmoknbgnngcaaGreatDoor
open Go Go.RowKit
set_option linter.unusedVariables false
def ansT:Option T→T×Nat
 | some t=>(t,0)
 | none=>(.node 0 0 0 [],40)
def readT (s:List UInt8):Option T:=match rdS 8 s with
 | some (t,[])=>if t.rightB then some t else none
 | _=>none
def AnsEnd (E:TypeId) (o:T×Nat) (w:World) (e:Ending) (w':World):Prop:=
 ∃ u:V,e=.returned (.tuple #[u.val,.int .i64 (o.2:Int)])∧u.abs=o.1∧Lies w' w.heap.size w'.heap.size u∧Shp E w' w.heap.size u∧Below w.heap.size w w'
theorem zero_lies (w:World) (lo hi:Nat):Lies w lo hi (.node 0 0 0 none 0 []):=.mk _ _ _ _ _ _ (by omega) (by omega) (by omega) Rd.zero (by simp) (fun ad e=>by cases e) (by simp)
theorem zero_shp (E:TypeId) (w:World) (lo:Nat):Shp E w lo (.node 0 0 0 none 0 []):=.mk _ _ _ _ _ _ (by simp) (by simp)
set_option maxRecDepth 100000 in
theorem read_ret {Q:Ending→World→Prop} {W:World} {h0 z:Nat} {x0 x1 x2 x3:Value} (HR2:W.heap[h0]? = some (.cells #[x0,x1,x2,x3] 65 (0,0))) (HF2:Q (.returned (.tuple #[.agg #[x0,x1,x2,x3],.int .i64 z])) W)
 (tmps:Array Value) (h2:tmps.getD 2 undef=.pointer (some ⟨h0,0,none⟩)) (h3:tmps.getD 3 undef=.int .i64 z):bodyPost Tryz.prog Tryz.f208 Q .ret {tmps:=tmps,defers:=[]} W:=by
 rw [Array.getD_eq_getD_getElem?] at h2 h3
 have d0:=cell_of_row W _ 0 _ _ _ HR2
 have d1:=cell_of_row W _ 1 _ _ _ HR2
 have d2:=cell_of_row W _ 2 _ _ _ HR2
 have d3:=cell_of_row W _ 3 _ _ _ HR2
 simp at d0 d1 d2 d3
 exact bodyPost_ret (v:=.tuple #[.agg #[x0,x1,x2,x3],.int .i64 z]) (by simp [results,Tryz.results208,go_sem,h2,h3,d0,d1,d2,d3]) rfl HF2
set_option maxRecDepth 100000 in
set_option maxHeartbeats 3200000 in
theorem pread_any (s:List UInt8) (B:Nat) (w:World) (hE:Env B w) (hB:B≤w.heap.size) (hl:s.length≤1000000) :
 Calls Tryz.prog 208 #[.string ⟨s.toArray⟩] w (AnsEnd 65 (ansT (readT s)) w):=by
 obtain ⟨w1,hw1⟩:∃ w1,w1=w.alloc (.cells #[.int .i64 0,.int .u64 0,.int .u64 0,.slice none 0 0] 65):=⟨_,rfl⟩
 have q1:=heap_alloc_new w (.cells #[.int .i64 0,.int .u64 0,.int .u64 0,.slice none 0 0] 65)
 have b1:=below_new w (.cells #[.int .i64 0,.int .u64 0,.int .u64 0,.slice none 0 0] 65)
 have s1:w1.heap.size=w.heap.size+1:=by rw [hw1]; simp
 rw [← hw1] at q1 b1
 obtain ⟨w2,hw2⟩:∃ w2,w2=w1.alloc (.cells #[.int .i64 0,.string ⟨s.toArray⟩,.bool false] 304):=⟨_,rfl⟩
 have g2:=heap_alloc_new w1 (.cells #[.int .i64 0,.string ⟨s.toArray⟩,.bool false] 304)
 have b2:=below_new w1 (.cells #[.int .i64 0,.string ⟨s.toArray⟩,.bool false] 304)
 have s2:w2.heap.size=w.heap.size+2:=by rw [hw2]; simp [s1]
 rw [← hw2] at g2 b2
 rw [s1] at g2 b2
 have g2:w2.heap[w.heap.size+1]? = some (RdrC 0 s false):=g2
 have q2:=(b2.block w.heap.size (by omega)).trans q1
 have hbw:=b1.trans (b2.mono (by omega))
 have ND:=pnode_any 8 (Nat.le_refl _) 0 s false B (w.heap.size+1) w2 g2 (hE.under hbw hB) (by omega) hl (fun _=>by omega) (by omega)
 have ND:Calls Tryz.prog 223 #[.pointer (some ⟨w.heap.size+1,0,none⟩),.int .i64 1] w2 (NdEnd 8 0 s false (w.heap.size+1) w2):=ND
 have HOK:Hid (∀ t,rdS 8 s=some (t,[])→t.rightB=true→ansT (readT s)=(t,0)):=fun t h1 h2=>by unfold readT; rw [h1]; simp [h2,ansT]
 have HNO:Hid ((∀ t,rdS 8 s=some (t,[])→t.rightB=false)→ansT (readT s)=(.node 0 0 0 [],40)):=fun h=>by
  unfold readT
  cases h8:rdS 8 s with
  | none=>rfl
  | some x=>
   obtain ⟨t,r⟩:=x
   cases r with
   | nil=>simp [h t h8,ansT]
   | cons c r=>rfl
 generalize ansT (readT s)=o at *
 have HB2:=Lib_hid (And.intro hbw s2)
 have HBADEND:Hid (∀ W:World,W.heap[w.heap.size]? = some (.cells #[.int .i64 0,.int .u64 0,.int .u64 0,.slice none 0 0] 65 (0,0))→Below w.heap.size w W→(∀ t,rdS 8 s=some (t,[])→t.rightB=false)→
  AnsEnd 65 o w (.returned (.tuple #[.agg #[.int .i64 0,.int .u64 0,.int .u64 0,.slice none 0 0],.int .i64 40])) (put4 W w.heap.size (.int .i64 0) (.int .u64 0) (.int .u64 0) (.slice none 0 0))∧
  (put4 W w.heap.size (.int .i64 0) (.int .u64 0) (.int .u64 0) (.slice none 0 0)).heap[w.heap.size]? = some (.cells #[.int .i64 0,.int .u64 0,.int .u64 0,.slice none 0 0] 65 (0,0))):=by
  intro W h1 h2 h3
  rw [HNO.out h3]
  exact ⟨⟨.node 0 0 0 none 0 [],rfl,by simp [V.abs,V.absL],zero_lies _ _ _,zero_shp _ _ _,put4_below h2 (Nat.le_refl _) _ _ _ _⟩,put4_row h1 _ _ _ _⟩
 subst hw2 hw1
 clear b1 b2 q1 g2 hE hbw
 go_enter Tryz.func208,Tryz.ntmps208
 go_upto_region 2 with (fail)
 generalize (w.alloc _).alloc (.cells #[.int .i64 0,.string ⟨s.toArray⟩,.bool false] 304)=w2 at *
 go_wp2_with fail
 refine ND.mono ?_
 rintro e w3 ⟨k,a,b,n,c,m',A,s',bad',rfl,hgr3,hg3,hR⟩
 have hb3:Below w.heap.size w w3:=HB2.out.1.trans (⟨hgr3.os,hgr3.tape,hgr3.output,hgr3.size,fun i hi=>hgr3.block i (by have:=HB2.out.2; omega) (fun e=>by injection e with e; omega)⟩:Below w.heap.size w2 w3)
 have q3:=(hgr3.block w.heap.size (by have:=HB2.out.2; omega) (fun e=>by injection e with e; omega)).trans q2
 have s3:=hgr3.size
 have b4:=below_new w3 (.cells #[.int .i64 k,.int .u64 (a:Int),.int .u64 (b:Int),.slice A n c] 65)
 have r4:=heap_alloc_new w3 (.cells #[.int .i64 k,.int .u64 (a:Int),.int .u64 (b:Int),.slice A n c] 65)
 have q4:=(b4.block w.heap.size (by have:=HB2.out.2; omega)).trans q3
 have g4:=(b4.block (w.heap.size+1) (by have:=HB2.out.2; omega)).trans hg3
 have hb4:=hb3.trans (b4.mono (by have:=HB2.out.2; omega))
 have s4:(w3.alloc (.cells #[.int .i64 k,.int .u64 (a:Int),.int .u64 (b:Int),.slice A n c] 65)).heap.size=w3.heap.size+1:=by simp
 obtain ⟨hm,hok⟩:=hR.ok rfl
 have HB4B:=Lib_hid b4
 have HL4:Hid (bad'=false→∃ t us,rdS 8 s=some (t,s')∧(V.node k a b A c us).abs=t∧us.length=n∧Lies w3 w2.heap.size w3.heap.size (.node k a b A c us)∧Shp 65 w3 w2.heap.size (.node k a b A c us)∧t.count≤32):=by
  intro hb
  rcases hok with ⟨t,us,e1,e2,e3,e4,e5,e6,e7,e8⟩ | ⟨_,h⟩
  · exact ⟨t,us,e1,e5,e6,e7,e8,by omega⟩
  · rw [h] at hb; cases hb
 have HBB:Hid (bad'=true→∀ t,rdS 8 s=some (t,[])→t.rightB=false):=by
  intro hb t ht
  rcases hok with ⟨t',us,e1,e2,e3,e4,e5,e6,e7,e8⟩ | ⟨h,_⟩
  · rw [hb] at e3; cases e3
  · have:=h t [] ht
    cases hr:t.rightB with
    | false=>rfl
    | true=>have:=(right_all hr).2; omega
 clear ND hR hok hm hb3 q3 hg3 b4 q2 hgr3
 go_upto_region 3 with (fail)
 generalize w3.alloc (.cells #[.int .i64 k,.int .u64 (a:Int),.int .u64 (b:Int),.slice A n c] 65)=w4 at *
 have c1:=cell_of_row w4 _ 1 _ _ _ g4
 have c2:=cell_of_row w4 _ 2 _ _ _ g4
 simp at c1 c2
 cases bad' with
 | true=>
  have e0:=cell_of_row w4 _ 0 _ _ _ q4
  have e1:=cell_of_row w4 _ 1 _ _ _ q4
  have e2:=cell_of_row w4 _ 2 _ _ _ q4
  have e3:=cell_of_row w4 _ 3 _ _ _ q4
  have y0:=frozen_of_row w4 w.heap.size 0 _ _ q4
  have y1:=frozen_of_row w4 w.heap.size 1 _ _ q4
  have y2:=frozen_of_row w4 w.heap.size 2 _ _ q4
  have y3:=frozen_of_row w4 w.heap.size 3 _ _ q4
  simp at e0 e1 e2 e3
  have HX:=Lib_hid (HBADEND.out w4 q4 hb4 (HBB.out rfl))
  clear q4 hb4
  go_wp2_with fail
  show bodyPost _ _ _ _ _ (put4 w4 w.heap.size (.int .i64 0) (.int .u64 0) (.int .u64 0) (.slice none 0 0))
  have HX2:=HX.out
  clear HX HBADEND e0 e1 e2 e3 y0 y1 y2 y3
  generalize put4 w4 w.heap.size (.int .i64 0) (.int .u64 0) (.int .u64 0) (.slice none 0 0)=W2 at *
  exact read_ret (z:=40) HX2.2 HX2.1 _ rfl rfl
 | false=>
  by_cases hs':s'=[]
  · subst hs'
    obtain ⟨t,us,e1,e2,rfl,hL,hS,hct⟩:=HL4.out rfl
    have hL4:=hL.under (HB4B.out.mono (Nat.le_refl _))
    have RR:=pright_any (.node k a b A c us) w4 _ _ hL4 (by omega)
    rw [e2] at RR
    simp only [V.val,V.kind,V.a,V.b,V.sl,V.addr,V.parts,V.cap] at RR
    have d0:=cell_of_row w4 _ 0 _ _ _ r4
    have d1:=cell_of_row w4 _ 1 _ _ _ r4
    have d2:=cell_of_row w4 _ 2 _ _ _ r4
    have d3:=cell_of_row w4 _ 3 _ _ _ r4
    simp at d0 d1 d2 d3
    have HLS:=Lib_hid (And.intro e1 (And.intro e2 (And.intro hL4 (hS.under HB4B.out))))
    clear e1 e2 hL hS hL4 HL4 hct HBB
    generalize hn:us.length=n at *
    have HUS:=Lib_hid hn
    clear hn
    go_wp2_with fail
    refine RR.mono ?_
    rintro e w5 ⟨rfl,hb5⟩
    have q5:=(hb5.block w.heap.size (by omega)).trans q4
    have r5:=(hb5.block w3.heap.size (by omega)).trans r4
    have hbw5:=hb4.trans (hb5.mono hb4.size)
    have HB5:=Lib_hid hb5
    clear RR d0 d1 d2 d3 c1 c2 q4 r4 hb4 hb5 g4
    cases hr:t.rightB with
    | true=>
     obtain ⟨e1,e2,hL4,hS4⟩:=HLS.out
     have HX:Hid (AnsEnd 65 o w (.returned (.tuple #[.agg #[.int .i64 k,.int .u64 (a:Int),.int .u64 (b:Int),.slice A n c],.int .i64 0])) (put4 w5 w.heap.size (.int .i64 k) (.int .u64 (a:Int)) (.int .u64 (b:Int)) (.slice A n c))∧
      (put4 w5 w.heap.size (.int .i64 k) (.int .u64 (a:Int)) (.int .u64 (b:Int)) (.slice A n c)).heap[w.heap.size]? = some (.cells #[.int .i64 k,.int .u64 (a:Int),.int .u64 (b:Int),.slice A n c] 65 (0,0))):=by
      have h2s:=HB2.out.2
      have h5s:=HB5.out.size
      rw [HOK.out t e1 hr]
      refine ⟨⟨.node k a b A c us,by rw [← HUS.out]; rfl,e2,?_,?_,put4_below hbw5 (Nat.le_refl _) _ _ _ _⟩,put4_row q5 _ _ _ _⟩
      · rw [put4_size]
        exact ((hL4.under (HB5.out.mono (by omega))).keep fun p h1 _=>World.cell?_of_block (put4_else w5 (by omega) _ _ _ _)).more (by omega) (by omega)
      · exact (Shp.keepL _ (hL4.under (HB5.out.mono (by omega))) (hS4.under HB5.out) fun g' h1 _=>put4_else w5 (by omega) _ _ _ _).more (by omega)
     have e0:=cell_of_row w5 _ 0 _ _ _ q5
     have e1:=cell_of_row w5 _ 1 _ _ _ q5
     have e2:=cell_of_row w5 _ 2 _ _ _ q5
     have e3:=cell_of_row w5 _ 3 _ _ _ q5
     have y0:=frozen_of_row w5 w.heap.size 0 _ _ q5
     have y1:=frozen_of_row w5 w.heap.size 1 _ _ q5
     have y2:=frozen_of_row w5 w.heap.size 2 _ _ q5
     have y3:=frozen_of_row w5 w.heap.size 3 _ _ q5
     have f0:=cell_of_row w5 _ 0 _ _ _ r5
     have f1:=cell_of_row w5 _ 1 _ _ _ r5
     have f2:=cell_of_row w5 _ 2 _ _ _ r5
     have f3:=cell_of_row w5 _ 3 _ _ _ r5
     simp at e0 e1 e2 e3 f0 f1 f2 f3
     clear q5 r5 hbw5 hL4 hS4 HLS
     go_wp2_with fail
     show bodyPost _ _ _ _ _ (put4 w5 w.heap.size (.int .i64 k) (.int .u64 (a:Int)) (.int .u64 (b:Int)) (.slice A n c))
     have HX2:=HX.out
     clear HX HBADEND e0 e1 e2 e3 y0 y1 y2 y3 f0 f1 f2 f3
     generalize put4 w5 w.heap.size (.int .i64 k) (.int .u64 (a:Int)) (.int .u64 (b:Int)) (.slice A n c)=W2 at *
     exact read_ret (z:=0) HX2.2 HX2.1 _ rfl rfl
    | false=>
     have hno:∀ t',rdS 8 s=some (t',[])→t'.rightB=false:=fun t' h=>by
      have:=HLS.out.1
      rw [h] at this
      injection this with this
      injection this with this _
      rw [this]; exact hr
     have e0:=cell_of_row w5 _ 0 _ _ _ q5
     have e1:=cell_of_row w5 _ 1 _ _ _ q5
     have e2:=cell_of_row w5 _ 2 _ _ _ q5
     have e3:=cell_of_row w5 _ 3 _ _ _ q5
     have y0:=frozen_of_row w5 w.heap.size 0 _ _ q5
     have y1:=frozen_of_row w5 w.heap.size 1 _ _ q5
     have y2:=frozen_of_row w5 w.heap.size 2 _ _ q5
     have y3:=frozen_of_row w5 w.heap.size 3 _ _ q5
     simp at e0 e1 e2 e3
     have HX:=Lib_hid (HBADEND.out w5 q5 hbw5 hno)
     clear q5 hbw5
     go_wp2_with fail
     show bodyPost _ _ _ _ _ (put4 w5 w.heap.size (.int .i64 0) (.int .u64 0) (.int .u64 0) (.slice none 0 0))
     have HX2:=HX.out
     clear HX HBADEND e0 e1 e2 e3 y0 y1 y2 y3
     generalize put4 w5 w.heap.size (.int .i64 0) (.int .u64 0) (.int .u64 0) (.slice none 0 0)=W2 at *
     exact read_ret (z:=40) HX2.2 HX2.1 _ rfl rfl
  · have hsb:(s' == [])=false:=by cases s' with | nil=>exact absurd rfl hs' | cons x y=>rfl
    have hno:∀ t',rdS 8 s=some (t',[])→t'.rightB=false:=fun t' h=>by
     obtain ⟨t,us,e1,_⟩:=HL4.out rfl
     rw [e1] at h
     injection h with h
     injection h with _ h
     exact absurd h hs'
    have HS':=Lib_hid hs'
    clear hs'
    have e0:=cell_of_row w4 _ 0 _ _ _ q4
    have e1:=cell_of_row w4 _ 1 _ _ _ q4
    have e2:=cell_of_row w4 _ 2 _ _ _ q4
    have e3:=cell_of_row w4 _ 3 _ _ _ q4
    have y0:=frozen_of_row w4 w.heap.size 0 _ _ q4
    have y1:=frozen_of_row w4 w.heap.size 1 _ _ q4
    have y2:=frozen_of_row w4 w.heap.size 2 _ _ q4
    have y3:=frozen_of_row w4 w.heap.size 3 _ _ q4
    simp at e0 e1 e2 e3
    have HX:=Lib_hid (HBADEND.out w4 q4 hb4 hno)
    clear q4 hb4
    go_wp2_with fail
    show bodyPost _ _ _ _ _ (put4 w4 w.heap.size (.int .i64 0) (.int .u64 0) (.int .u64 0) (.slice none 0 0))
    have HX2:=HX.out
    clear HX HBADEND e0 e1 e2 e3 y0 y1 y2 y3
    generalize put4 w4 w.heap.size (.int .i64 0) (.int .u64 0) (.int .u64 0) (.slice none 0 0)=W2 at *
    exact read_ret (z:=40) HX2.2 HX2.1 _ rfl rfl
theorem dec_dig (n:Nat):∀ c∈Lib.decDigits n,isDig c=true:=by
 induction n using Nat.strongRecOn with
 | _ n ih=>
 have hd:∀ m:Nat,m<10→isDig (UInt8.ofNat (48+m))=true:=fun m hm=>by
  rw [isDig_iff]
  have:(UInt8.ofNat (48+m)).toNat=48+m:=by simp; omega
  omega
 by_cases h:n<10
 · rw [dec1 h]
   intro c hc
   obtain rfl:c=UInt8.ofNat (48+n):=by simpa using hc
   exact hd n h
 · rw [Lib.decDigits,dif_neg h]
   intro c hc
   rcases List.mem_append.1 hc with hc | hc
   · exact ih (n / 10) (by omega) c hc
   · obtain rfl:c=UInt8.ofNat (48+n % 10):=by simpa using hc
     exact hd _ (Nat.mod_lt _ (by omega))
theorem dec_parse (n:Nat):n≤18446744073709551615→Lib.parseUintM 18446744073709551615 0 (Lib.decDigits n)=.ok n:=by
 induction n using Nat.strongRecOn with
 | _ n ih=>
 intro hn
 have hd:∀ m:Nat,m<10→isDig (UInt8.ofNat (48+m))=true∧(UInt8.ofNat (48+m)).toNat - 48=m:=fun m hm=>by
  have:(UInt8.ofNat (48+m)).toNat=48+m:=by simp; omega
  exact ⟨by rw [isDig_iff]; omega,by omega⟩
 by_cases h:n<10
 · rw [dec1 h,parse_one (hd n h).1,(hd n h).2,if_neg (by omega)]
   simp
 · obtain ⟨h1,h2⟩:=hd (n % 10) (Nat.mod_lt _ (by omega))
   rw [Lib.decDigits,dif_neg h,parse_append,ih (n / 10) (by omega) (by omega)]
   simp only
   rw [parse_one h1,h2,if_neg (by omega)]
   congr 1
   omega
theorem dec_pos (n:Nat):0<(Lib.decDigits n).length:=by
 rw [Lib.decDigits]
 split <;> simp
theorem num_dec (n:Nat) (hn:n<18446744073709551616) (r:List UInt8) (hr:∀ c,r[0]? = some c→isDig c=false):numS (Lib.decDigits n ++ r)=some (n,r):=by
 have h0:DgI (Lib.decDigits n ++ r) (Lib.decDigits n).length n:=by
  unfold DgI
  rw [List.take_left]
  exact ⟨dec_dig n,dec_parse n (by omega)⟩
 rw [h0.done (by simp) (fun c hc=>hr c (by rw [List.getElem?_append_right (Nat.le_refl _),Nat.sub_self] at hc; exact hc)),if_pos ⟨dec_pos n,by rw [List.take_left]⟩,List.drop_left]
def NoDig (r:List UInt8):Prop:=∀ c,r[0]? = some c→isDig c=false
theorem noDig_cons (c:UInt8) (r:List UInt8) (h:isDig c=false):NoDig (c :: r):=fun x hx=>by
 obtain rfl:c=x:=by simpa using hx
 exact h
theorem tell_head {t:T} (h:t.allB=true):∃ c l,t.tell=c :: l∧c≠41:=by
 obtain ⟨k,a,b,ps⟩:=t
 rw [T.allB,Bool.and_eq_true] at h
 rw [T.tell]
 rcases fits_kind h.2 with rfl | rfl | rfl | rfl | rfl | rfl | rfl
 · exact ⟨97,_,rfl,by decide⟩
 · exact ⟨120,_,rfl,by decide⟩
 · exact ⟨118,_,rfl,by decide⟩
 · exact ⟨118,_,rfl,by decide⟩
 · exact ⟨33,_,rfl,by decide⟩
 · exact ⟨38,_,rfl,by decide⟩
 · exact ⟨124,_,rfl,by decide⟩
theorem join_two (x y:List UInt8) (r:List (List UInt8)) (sep:List UInt8):Lib.join (x :: y :: r) sep=x ++ sep ++ Lib.join (y :: r) sep:=by
 rw [Lib.join_cons,Lib.join_cons]
 simp [Lib.joinTail,List.append_assoc]
theorem cont_tell {f:List UInt8→Option (T×List UInt8)} (hf:∀ s t r,f s=some (t,r)→r.length<s.length) (r:List UInt8) :
 ∀ (ps:List T) (p:T),(∀ x∈p :: ps,∀ r',NoDig r'→f (x.tell ++ r')=some (x,r'))→contS f (Lib.join (T.tellL (p :: ps)) [44] ++ 41 :: r)=some (p :: ps,r)
 | [],p,h=>by
  rw [T.tellL,T.tellL,Lib.join_one]
  exact cont_shut (h p (by simp) _ (noDig_cons _ _ (by decide)))
 | q :: ps,p,h=>by
  have e:Lib.join (T.tellL (p :: q :: ps)) [44] ++ 41 :: r=p.tell ++ 44 :: (Lib.join (T.tellL (q :: ps)) [44] ++ 41 :: r):=by
   rw [T.tellL,T.tellL,join_two]
   simp [List.append_assoc]
  rw [e,cont_more hf (h p (by simp) _ (noDig_cons _ _ (by decide))),cont_tell hf r ps q fun x hx=>h x (by simp at hx ⊢; exact .inr hx)]
  rfl
theorem rd_tell:∀ (t:T) (d:Nat) (r:List UInt8),t.allB=true→t.okN→t.depth≤d→NoDig r→rdS d (t.tell ++ r)=some (t,r):=by
 refine T.ind fun k a b ps ih d r hall hok hd hr=>?_
 rw [T.allB,Bool.and_eq_true] at hall
 rw [T.okN] at hok
 rw [T.depth] at hd
 obtain ⟨ha,hb,-,hol⟩:=hok
 obtain ⟨hal,hfit⟩:=hall
 obtain ⟨d',rfl⟩:∃ d',d=d'+1:=⟨d - 1,by omega⟩
 have IH:∀ p∈ps,∀ r',NoDig r'→rdS d' (p.tell ++ r')=some (p,r'):=fun p hp r' hr'=>ih p hp d' r' (all_mem hal p hp) ((okL_iff _).1 hol p hp) (depth_mem (by omega) p hp) hr'
 have hfit2:=hfit
 unfold fitsB at hfit2
 rcases fits_kind hfit with rfl | rfl | rfl | rfl | rfl | rfl | rfl
 · obtain ⟨rfl,rfl,h0⟩:=of_decide_eq_true hfit2
   obtain rfl:=List.eq_nil_of_length_eq_zero h0
   rw [tell_1 hfit,rd_all (by simp [Lib.hasPrefix,List.isPrefixOf])]
   rfl
 · obtain ⟨rfl,h0⟩:=of_decide_eq_true hfit2
   obtain rfl:=List.eq_nil_of_length_eq_zero h0
   rw [tell_2 hfit,rd_x (by simp [Lib.hasPrefix,List.isPrefixOf]) (by simp [Lib.hasPrefix,List.isPrefixOf])]
   show (numS (Lib.decDigits a ++ r)).map _=_
   rw [num_dec a ha r hr]
   rfl
 · obtain ⟨rfl,h0⟩:=of_decide_eq_true hfit2
   obtain rfl:=List.eq_nil_of_length_eq_zero h0
   rw [tell_3 hfit,rd_v (by simp [Lib.hasPrefix,List.isPrefixOf]) (by simp [Lib.hasPrefix,List.isPrefixOf]) (by simp [Lib.hasPrefix,List.isPrefixOf])]
   show (numS (Lib.decDigits a ++ r)).map _=_
   rw [num_dec a ha r hr]
   rfl
 · obtain ⟨-,h0⟩:=of_decide_eq_true hfit2
   obtain rfl:=List.eq_nil_of_length_eq_zero h0
   rw [tell_4 hfit,rd_m (by simp [Lib.hasPrefix,List.isPrefixOf]) (by simp [Lib.hasPrefix,List.isPrefixOf]) (by simp [Lib.hasPrefix,List.isPrefixOf]) (by simp [Lib.hasPrefix,List.isPrefixOf])]
   show (numS (Lib.decDigits a ++ [61] ++ Lib.decDigits b ++ r)).bind _=_
   rw [show Lib.decDigits a ++ [61] ++ Lib.decDigits b ++ r=Lib.decDigits a ++ (61 :: (Lib.decDigits b ++ r)) by simp,num_dec a ha _ (noDig_cons _ _ (by decide)),Option.bind_some]
   simp only
   rw [pre_one,if_pos (by decide)]
   show (numS (Lib.decDigits b ++ r)).map _=_
   rw [num_dec b hb r hr]
   rfl
 · obtain ⟨rfl,rfl,h0⟩:=of_decide_eq_true hfit2
   obtain ⟨p,rfl⟩:∃ p,ps=[p]:=by
    match ps,h0 with
    | [p],_=>exact ⟨p,rfl⟩
   have hn:∀ i,1≤i→i<5→Lib.hasPrefix ([33] ++ p.tell ++ r) (wordL i)=false:=fun i h1 h2=>by
    have:i=1∨i=2∨i=3∨i=4:=by omega
    rcases this with rfl | rfl | rfl | rfl <;> rfl
   rw [tell_5,rd_n hn rfl]
   show (rdS d' (p.tell ++ r)).map _=_
   rw [IH p (by simp) r hr]
   rfl
 · obtain ⟨rfl,rfl⟩:=of_decide_eq_true hfit2
   rw [tell_67 (.inl rfl)]
   have e:[if (6:Int)=7 then (124:UInt8) else 38,40] ++ Lib.join (T.tellL ps) [44] ++ [41] ++ r=38 :: 40 :: (Lib.join (T.tellL ps) [44] ++ 41 :: r):=by simp
   rw [e,rd_r 6 38 (.inl ⟨rfl,rfl⟩) (fun i h1 h2=>by
    have:i=1∨i=2∨i=3∨i=4∨i=5:=by omega
    rcases this with rfl | rfl | rfl | rfl | rfl <;> rfl) rfl,if_pos (show Lib.hasPrefix (38 :: 40 :: (Lib.join (T.tellL ps) [44] ++ 41 :: r)) [38,40]=true from rfl)]
   show (listB (rdS d') (Lib.join (T.tellL ps) [44] ++ 41 :: r)).map _=_
   cases ps with
   | nil=>rfl
   | cons p ps=>
    obtain ⟨c,l,h1,h2⟩:=tell_head (all_mem hal p (by simp))
    have hb:listB (rdS d') (Lib.join (T.tellL (p :: ps)) [44] ++ 41 :: r)=contS (rdS d') (Lib.join (T.tellL (p :: ps)) [44] ++ 41 :: r):=by
     unfold listB
     rw [if_neg]
     · rfl
     · rw [T.tellL,Lib.join_cons,h1,List.cons_append,List.cons_append,pre_one]
       simp
       exact fun e=>h2 e.symm
    rw [hb,cont_tell (rdS_len d') r ps p IH]
    rfl
 · obtain ⟨rfl,rfl⟩:=of_decide_eq_true hfit2
   rw [tell_67 (.inr rfl)]
   have e:[if (7:Int)=7 then (124:UInt8) else 38,40] ++ Lib.join (T.tellL ps) [44] ++ [41] ++ r=124 :: 40 :: (Lib.join (T.tellL ps) [44] ++ 41 :: r):=by simp
   rw [e,rd_r 7 124 (.inr ⟨rfl,rfl⟩) (fun i h1 h2=>by
    have:i=1∨i=2∨i=3∨i=4∨i=5∨i=6:=by omega
    rcases this with rfl | rfl | rfl | rfl | rfl | rfl <;> rfl) rfl,if_pos (show Lib.hasPrefix (124 :: 40 :: (Lib.join (T.tellL ps) [44] ++ 41 :: r)) [124,40]=true from rfl)]
   show (listB (rdS d') (Lib.join (T.tellL ps) [44] ++ 41 :: r)).map _=_
   cases ps with
   | nil=>rfl
   | cons p ps=>
    obtain ⟨c,l,h1,h2⟩:=tell_head (all_mem hal p (by simp))
    have hb:listB (rdS d') (Lib.join (T.tellL (p :: ps)) [44] ++ 41 :: r)=contS (rdS d') (Lib.join (T.tellL (p :: ps)) [44] ++ 41 :: r):=by
     unfold listB
     rw [if_neg]
     · rfl
     · rw [T.tellL,Lib.join_cons,h1,List.cons_append,List.cons_append,pre_one]
       simp
       exact fun e=>h2 e.symm
    rw [hb,cont_tell (rdS_len d') r ps p IH]
    rfl
theorem read_tell {t:T} (hr:t.rightB=true) (hok:t.okN):readT t.tell=some t:=by
 have h:=hr
 unfold T.rightB at h
 rw [Bool.and_eq_true,Bool.and_eq_true] at h
 have:=rd_tell t 8 [] h.1.1 hok (of_decide_eq_true h.1.2) (fun c hc=>by cases hc)
 rw [List.append_nil] at this
 unfold readT
 rw [this]
 simp [hr]
def ahead (c:UInt8) (s:List UInt8):List UInt8:=s.takeWhile (· != c)
def behind (c:UInt8) (s:List UInt8):List UInt8:=(s.dropWhile (· != c)).drop 1
theorem ahead_cons (c b:UInt8) (l:List UInt8):ahead c (b :: l)=if b=c then [] else b :: ahead c l:=by
 unfold ahead; rw [List.takeWhile_cons]; by_cases h:b=c <;> simp [h]
theorem behind_cons (c b:UInt8) (l:List UInt8):behind c (b :: l)=if b=c then l else behind c l:=by
 unfold behind; rw [List.dropWhile_cons]; by_cases h:b=c <;> simp [h]
theorem ahead_none {c:UInt8}:∀ {s:List UInt8},c ∉ s→ahead c s=s∧behind c s=[]
 | [],_=>⟨rfl,rfl⟩
 | b :: l,h=>by
  have h1:b≠c:=fun e=>h (by rw [e]; simp)
  obtain ⟨i1,i2⟩:=ahead_none (c:=c) (s:=l) (fun e=>h (by simp [e]))
  rw [ahead_cons,behind_cons,if_neg h1,if_neg h1,i1,i2]
  exact ⟨rfl,rfl⟩
theorem ahead_some {c:UInt8}:∀ {s:List UInt8},c∈s→s=ahead c s ++ c :: behind c s
 | b :: l,h=>by
  rw [ahead_cons,behind_cons]
  by_cases e:b=c
  · rw [if_pos e,if_pos e,e]; rfl
  · rw [if_neg e,if_neg e,List.cons_append,← ahead_some (c:=c) (s:=l) ((List.mem_cons.1 h).resolve_left fun h=>e h.symm)]
theorem ahead_app {c:UInt8} {x:List UInt8} (h:c ∉ x) (y:List UInt8):ahead c (x ++ c :: y)=x∧behind c (x ++ c :: y)=y:=by
 induction x with
 | nil=>rw [List.nil_append,ahead_cons,behind_cons,if_pos rfl,if_pos rfl]; exact ⟨rfl,rfl⟩
 | cons b l ih=>
  have h1:b≠c:=fun e=>h (by rw [e]; simp)
  obtain ⟨i1,i2⟩:=ih (fun e=>h (by simp [e]))
  rw [List.cons_append,ahead_cons,behind_cons,if_neg h1,if_neg h1,i1,i2]
  exact ⟨rfl,rfl⟩
theorem ahead_len (c:UInt8) (s:List UInt8):(ahead c s).length≤s.length∧(behind c s).length≤s.length:=by
 by_cases h:c∈s
 · have:=congrArg List.length (ahead_some h)
   rw [List.length_append,List.length_cons] at this
   omega
 · rw [(ahead_none h).1,(ahead_none h).2]; simp
theorem index_one_byte (c:UInt8):∀ s:List UInt8,Lib.index s [c]=if c∈s then ((ahead c s).length:Int) else -1
 | []=>by simp [Lib.index]
 | b :: l=>by
  have ih:=index_one_byte c l
  unfold Lib.index
  rw [ahead_cons]
  by_cases e:b=c
  · subst e; simp
  · have hp:([c]:List UInt8).isPrefixOf (b :: l)=false:=by
     have h0:(c == b)=false:=by simp; exact fun h=>e h.symm
     simp [List.isPrefixOf,h0]
    have hm:(c∈b :: l)↔c∈l:=⟨fun h=>(List.mem_cons.1 h).resolve_left fun h=>e h.symm,fun h=>List.mem_cons_of_mem _ h⟩
    rw [hp,if_neg (by decide),if_neg e,ih]
    by_cases h:c∈l
    · rw [if_pos h,if_pos (hm.2 h),if_neg (by simp),List.length_cons]; omega
    · rw [if_neg h,if_neg (fun h2=>h (hm.1 h2)),if_pos (by decide)]
theorem cut_one (c:UInt8) (s:List UInt8):(Lib.cut s [c]).1=ahead c s∧(Lib.cut s [c]).2.1=behind c s:=by
 unfold Lib.cut
 rw [index_one_byte]
 by_cases h:c∈s
 · have e:=ahead_some h
   rw [if_pos h,if_pos (by omega),Int.toNat_natCast]
   have k:∀ x y:List UInt8,s=x ++ c :: y→s.take x.length=x∧s.drop (x.length+1)=y:=fun x y e=>by
    subst e
    refine ⟨List.take_left' rfl,?_⟩
    rw [List.drop_append,List.drop_of_length_le (by omega),List.nil_append,Nat.add_sub_cancel_left]
    rfl
   exact k _ _ e
 · rw [if_neg h,if_neg (by decide),(ahead_none h).1,(ahead_none h).2]
   exact ⟨rfl,rfl⟩
def numW (s:List UInt8):Option Nat:=match Lib.parseUintB 64 s with
 | .ok u=>if Lib.decDigits u=s then some u else none
 | _=>none
theorem numW_lt {s:List UInt8} {u:Nat} (h:numW s=some u):u<18446744073709551616∧s=Lib.decDigits u:=by
 unfold numW at h
 split at h
 · rename_i v hv
   split at h
   · injection h with h
     subst h
     have:=Lib.parseUintB_le hv
     exact ⟨by omega,Eq.symm (by assumption)⟩
   · cases h
 · cases h
theorem dec_no {n:Nat} {c:UInt8} (h:isDig c=false):c ∉ Lib.decDigits n:=fun hc=>by rw [dec_dig n c hc] at h; cases h
def verW (s:List UInt8):Option (Nat×Nat):=match numW (ahead 46 s),numW (behind 46 s) with
 | some a,some b=>some (a,b)
 | _,_=>none
theorem numW_nil:numW []=none:=by
 cases h:numW [] with
 | none=>rfl
 | some u=>have:=(numW_lt h).2; have h2:=dec_pos u; rw [← this] at h2; exact absurd h2 (by simp)
theorem verW_some {s:List UInt8} {a b:Nat} (h:verW s=some (a,b)):a<18446744073709551616∧b<18446744073709551616∧s=verL a b:=by
 unfold verW at h
 split at h
 · rename_i x y h1 h2
   injection h with h
   injection h with e1 e2
   subst e1 e2
   obtain ⟨l1,e1⟩:=numW_lt h1
   obtain ⟨l2,e2⟩:=numW_lt h2
   refine ⟨l1,l2,?_⟩
   have hm:(46:UInt8)∈s:=Classical.byContradiction fun hn=>by rw [(ahead_none hn).2,numW_nil] at h2; cases h2
   rw [ahead_some hm,e1,e2]
   simp [verL]
 · cases h
theorem numW_dec {n:Nat} (h:n<18446744073709551616):numW (Lib.decDigits n)=some n:=by
 have h1:Lib.parseUintB 64 (Lib.decDigits n)=.ok n:=by
  unfold Lib.parseUintB
  rw [if_neg (fun e=>by have:=dec_pos n; rw [e] at this; exact absurd this (by simp))]
  exact dec_parse n (by omega)
 unfold numW
 rw [h1]
 simp
theorem verW_tell {a b:Nat} (ha:a<18446744073709551616) (hb:b<18446744073709551616):verW (verL a b)=some (a,b):=by
 have e:verL a b=Lib.decDigits a ++ 46 :: Lib.decDigits b:=by simp [verL]
 obtain ⟨h1,h2⟩:=ahead_app (c:=46) (dec_no (n:=a) (by decide)) (Lib.decDigits b)
 unfold verW
 rw [e,h1,h2,numW_dec ha,numW_dec hb]
def enW (s:List UInt8):Option En:=match numW (ahead 58 s),verW (ahead 58 (behind 58 s)) with
 | some x,some (a,b)=>if behind 58 (behind 58 s)=[49] then some ⟨x,a,b,true⟩ else if behind 58 (behind 58 s)=[48] then some ⟨x,a,b,false⟩ else none
 | _,_=>none
theorem en_tell (e:En):e.tell=Lib.decDigits e.x ++ 58 :: (verL e.w e.n ++ 58 :: [if e.m then 49 else 48]):=by
 have h:Lib.decDigits (if e.m then 1 else 0)=[if e.m then 49 else 48]:=by
  cases e.m
  · show Lib.decDigits 0=[48]; rw [dec1 (by decide)]; rfl
  · show Lib.decDigits 1=[49]; rw [dec1 (by decide)]; rfl
 simp [En.tell,join_flat,h]
theorem ver_no {a b:Nat} {c:UInt8} (h:isDig c=false) (h2:c≠46):c ∉ verL a b:=fun hc=>by
 simp only [verL,List.mem_append,List.mem_cons,List.not_mem_nil,or_false] at hc
 rcases hc with (hc | hc) | hc
 · exact dec_no h hc
 · exact h2 hc
 · exact dec_no h hc
theorem enW_tell {e:En} (h:e.ok):enW e.tell=some e:=by
 obtain ⟨h1,h2,h3⟩:=h
 obtain ⟨x,a,b,m⟩:=e
 simp only at h1 h2 h3
 rw [en_tell]
 obtain ⟨c1,c2⟩:=ahead_app (c:=58) (dec_no (n:=x) (by decide)) (verL a b ++ 58 :: [if m then 49 else 48])
 obtain ⟨d1,d2⟩:=ahead_app (c:=58) (ver_no (a:=a) (b:=b) (by decide) (by decide)) [if m then 49 else 48]
 unfold enW
 simp only
 rw [c1,c2,d1,d2,numW_dec (by omega),verW_tell (by omega) (by omega)]
 cases m <;> simp
theorem enW_some {s:List UInt8} {e:En} (h:enW s=some e):e.ok∧s=e.tell:=by
 unfold enW at h
 split at h
 · rename_i x a b h1 h2
   obtain ⟨l1,e1⟩:=numW_lt h1
   obtain ⟨l2,l3,e2⟩:=verW_some h2
   have hm1:(58:UInt8)∈s:=Classical.byContradiction fun hn=>by
    rw [(ahead_none hn).2] at h2
    have:verW (ahead 58 [])=none:=by unfold verW ahead; simp [numW_nil]
    rw [this] at h2; cases h2
   have e3:=ahead_some hm1
   have hm2:∀ c,behind 58 (behind 58 s)=[c]→behind 58 s=verL a b ++ [58,c]:=fun c hc=>by
    have hm:(58:UInt8)∈behind 58 s:=Classical.byContradiction fun hn=>by rw [(ahead_none hn).2] at hc; cases hc
    have:=ahead_some hm
    rw [e2,hc] at this
    simpa using this
   split at h
   · rename_i hc
     injection h with h
     subst h
     refine ⟨⟨by show (x:Int)≤_; omega,by show (a:Int)≤_; omega,by show (b:Int)≤_; omega⟩,?_⟩
     rw [en_tell,e3,e1,hm2 _ hc]
     simp
   · split at h
     · rename_i hc
       injection h with h
       subst h
       refine ⟨⟨by show (x:Int)≤_; omega,by show (a:Int)≤_; omega,by show (b:Int)≤_; omega⟩,?_⟩
       rw [en_tell,e3,e1,hm2 _ hc]
       simp
     · cases h
 · cases h
def restW (l:List UInt8):List UInt8:=Lib.trimPrefix l [32]
def wordW (l:List UInt8):List UInt8:=ahead 32 (restW l)
def leftW (l:List UInt8):List UInt8:=(restW l).drop (wordW l).length
theorem restW_eq (l:List UInt8):restW (32 :: l)=l:=by simp [restW,Lib.trimPrefix,Lib.hasPrefix]
def Blank (l:List UInt8):Prop:=l=[]∨∃ r,l=32 :: r
theorem leftW_blank (l:List UInt8):Blank (leftW l)∧restW l=wordW l ++ leftW l:=by
 unfold leftW wordW
 by_cases h:(32:UInt8)∈restW l
 · have e:=ahead_some h
   have e2:(restW l).drop (ahead 32 (restW l)).length=32 :: behind 32 (restW l):=by
    have k:∀ x y:List UInt8,restW l=x ++ y→(restW l).drop x.length=y:=fun x y h=>by rw [h,List.drop_left' rfl]
    exact k _ _ e
   rw [e2]
   exact ⟨.inr ⟨_,rfl⟩,e⟩
 · rw [(ahead_none h).1,List.drop_length,List.append_nil]
   exact ⟨.inl rfl,rfl⟩
theorem word_app {x r:List UInt8} (h:(32:UInt8) ∉ x) (hr:Blank r):wordW (32 :: (x ++ r))=x∧leftW (32 :: (x ++ r))=r:=by
 have hw:wordW (32 :: (x ++ r))=x:=by
  unfold wordW
  rw [restW_eq]
  rcases hr with rfl | ⟨r',rfl⟩
  · rw [List.append_nil]; exact (ahead_none h).1
  · exact (ahead_app h r').1
 refine ⟨hw,?_⟩
 unfold leftW
 rw [hw,restW_eq,List.drop_left' rfl]
theorem enW_nil:enW []=none:=by
 unfold enW ahead
 simp [numW_nil]
theorem wordW_nil:wordW []=[]:=rfl
theorem word_of {l:List UInt8} (hb:Blank l) (h:wordW l≠[]):l=32 :: (wordW l ++ leftW l)∧Blank (leftW l):=by
 rcases hb with rfl | ⟨r,rfl⟩
 · exact absurd wordW_nil h
 · obtain ⟨h1,h2⟩:=leftW_blank (32 :: r)
   rw [restW_eq] at h2
   exact ⟨by rw [← h2],h1⟩
theorem en_no (e:En):(32:UInt8) ∉ e.tell:=fun h=>by
 rw [en_tell] at h
 simp only [List.mem_append,List.mem_cons,List.not_mem_nil,or_false] at h
 rcases h with h | h | h | h | h
 · exact dec_no (by decide) h
 · cases h
 · exact ver_no (by decide) (by decide) h
 · cases h
 · cases hm:e.m <;> rw [hm] at h <;> cases h
def ensW:Nat→List UInt8→Option (List En)
 | 0,l=>if l=[] then some [] else none
 | f+1,l=>if l=[] then some [] else match enW (wordW l) with
  | some e=>(ensW f (leftW l)).map (e :: ·)
  | none=>none
def ensL (es:List En):List UInt8:=es.flatMap fun e=>32 :: e.tell
theorem ensL_blank (es:List En):Blank (ensL es):=by
 cases es with
 | nil=>exact .inl rfl
 | cons e es=>exact .inr ⟨e.tell ++ ensL es,rfl⟩
theorem ens_tell:∀ (es:List En) (f:Nat),(∀ e∈es,e.ok)→es.length≤f→ensW f (ensL es)=some es
 | [],0,_,_=>rfl
 | [],f+1,_,_=>rfl
 | e :: es,0,_,h=>absurd h (by simp)
 | e :: es,f+1,hk,h=>by
  have hl:ensL (e :: es)=32 :: (e.tell ++ ensL es):=rfl
  obtain ⟨h1,h2⟩:=word_app (en_no e) (ensL_blank es)
  unfold ensW
  rw [hl,if_neg (by simp),h1,h2,enW_tell (hk e (by simp)),ens_tell es f (fun x hx=>hk x (by simp [hx])) (by simpa using h)]
  rfl
theorem ens_some:∀ (f:Nat) (l:List UInt8) (es:List En),Blank l→ensW f l=some es→(∀ e∈es,e.ok)∧l=ensL es
 | 0,l,es,hb,h=>by
  unfold ensW at h
  split at h
  · injection h with h
    subst h
    exact ⟨by simp,by assumption⟩
  · cases h
 | f+1,l,es,hb,h=>by
  unfold ensW at h
  split at h
  · injection h with h
    subst h
    exact ⟨by simp,by assumption⟩
  · split at h
    · rename_i e he
      have hw:wordW l≠[]:=fun e2=>by rw [e2,enW_nil] at he; cases he
      obtain ⟨h1,h2⟩:=word_of hb hw
      obtain ⟨ok,e3⟩:=enW_some he
      cases hr:ensW f (leftW l) with
      | none=>rw [hr] at h; cases h
      | some es'=>
       rw [hr] at h
       injection h with h
       subst h
       obtain ⟨k1,k2⟩:=ens_some f (leftW l) es' h2 hr
       refine ⟨fun x hx=>?_,?_⟩
       · rcases List.mem_cons.1 hx with rfl | hx
         · exact ok
         · exact k1 x hx
       · rw [h1,e3,k2]
         rfl
    · cases h
theorem ensL_len (es:List En):es.length≤(ensL es).length:=by
 induction es with
 | nil=>exact Nat.le_refl _
 | cons e es ih=>
  show es.length+1≤(32 :: e.tell ++ ensL es).length
  rw [List.length_append,List.length_cons]
  omega
end Go.Proofs.YtinmoknbgnngcaaGreatDoor
