/-
  Layer 4: the document's read.
-/
import Derived.Test.YtinmoknbgnngcaaGreatDoorZwTdw
namespace Go.Proofs.YtinmoknbgnngcaaGreatDoor
open Go Go.RowKit
set_option linter.unusedVariables false
set_option maxRecDepth 100000 in
theorem rread_ret {Q:Ending→World→Prop} {W:World} {h0:Nat} {x0 x1 x2 x3 y:Value} {b:Bool} (HR2:W.heap[h0]? = some (.cells #[x0,x1,x2,x3] 57 (0,0))) (HF2:Q (.returned (.tuple #[.agg #[x0,x1,x2,x3],y,.bool b])) W)
 (tmps:Array Value) (h6:tmps.getD 4 undef=.pointer (some ⟨h0,0,none⟩)) (h7:tmps.getD 5 undef=y) (h8:tmps.getD 6 undef=.bool b):bodyPost Tryz.prog Tryz.f105 Q .ret {tmps:=tmps,defers:=[]} W:=by
 rw [Array.getD_eq_getD_getElem?] at h6 h7 h8
 have d0:=cell_of_row W _ 0 _ _ _ HR2
 have d1:=cell_of_row W _ 1 _ _ _ HR2
 have d2:=cell_of_row W _ 2 _ _ _ HR2
 have d3:=cell_of_row W _ 3 _ _ _ HR2
 simp at d0 d1 d2 d3
 exact bodyPost_ret (v:=.tuple #[.agg #[x0,x1,x2,x3],y,.bool b]) (by simp [results,Tryz.results105,go_sem,h6,h7,h8,d0,d1,d2,d3]) rfl HF2
theorem leaf_lies (w:World) (lo hi k a b:Nat) (hk:k≤7) (ha:a<18446744073709551616) (hb:b<18446744073709551616):Lies w lo hi (.node k a b none 0 []):=.mk _ _ _ _ _ _ (by omega) ha hb Rd.zero (by simp) (fun ad e=>by cases e) (by simp)
theorem leaf_shp (E:TypeId) (w:World) (lo k a b:Nat):Shp E w lo (.node k a b none 0 []):=.mk _ _ _ _ _ _ (by simp) (by simp)
theorem pre_head {s:List UInt8} {c:UInt8} {l:List UInt8} (h:Lib.hasPrefix s (c :: l)=true):∃ r,s=c :: r:=by
 cases s with
 | nil=>cases h
 | cons x r=>
  simp [Lib.hasPrefix,List.isPrefixOf] at h
  exact ⟨r,by rw [h.1]⟩
set_option maxRecDepth 100000 in
set_option maxHeartbeats 6400000 in
theorem rread4_any (d:Nat):d≤8→ROK d:=by
 induction d with
 | zero=>
  intro _ s w hl
  obtain ⟨w1,hw1⟩:∃ w1,w1=w.alloc (.cells #[.int .i64 0,.int .u64 0,.int .u64 0,.slice none 0 0] 57):=⟨_,rfl⟩
  have q1:=heap_alloc_new w (.cells #[.int .i64 0,.int .u64 0,.int .u64 0,.slice none 0 0] 57)
  have b1:=below_new w (.cells #[.int .i64 0,.int .u64 0,.int .u64 0,.slice none 0 0] 57)
  rw [← hw1] at q1 b1
  have HX:Hid (RdE4 0 s w (.returned (.tuple #[.agg #[.int .i64 0,.int .u64 0,.int .u64 0,.slice none 0 0],.string ⟨s.toArray⟩,.bool false])) (put4 w1 w.heap.size (.int .i64 0) (.int .u64 0) (.int .u64 0) (.slice none 0 0))∧
   (put4 w1 w.heap.size (.int .i64 0) (.int .u64 0) (.int .u64 0) (.slice none 0 0)).heap[w.heap.size]? = some (.cells #[.int .i64 0,.int .u64 0,.int .u64 0,.slice none 0 0] 57 (0,0))):=
   ⟨⟨0,0,0,0,0,none,s,false,rfl,put4_below b1 (Nat.le_refl _) _ _ _ _,(fun h=>by cases h),fun _=>rfl⟩,put4_row q1 _ _ _ _⟩
  have f0:=cell_of_row w1 _ 0 _ _ _ q1
  have f1:=cell_of_row w1 _ 1 _ _ _ q1
  have f2:=cell_of_row w1 _ 2 _ _ _ q1
  have f3:=cell_of_row w1 _ 3 _ _ _ q1
  have y0:=frozen_of_row w1 w.heap.size 0 _ _ q1
  have y1:=frozen_of_row w1 w.heap.size 1 _ _ q1
  have y2:=frozen_of_row w1 w.heap.size 2 _ _ q1
  have y3:=frozen_of_row w1 w.heap.size 3 _ _ q1
  simp at f0 f1 f2 f3
  subst hw1
  clear q1 b1
  go_enter Tryz.func105,Tryz.ntmps105
  go_upto_region 1 with (fail)
  generalize w.alloc (.cells #[.int .i64 0,.int .u64 0,.int .u64 0,.slice none 0 0] 57)=w1 at *
  go_wp2_with fail
  show bodyPost _ _ _ _ _ (put4 w1 w.heap.size (.int .i64 0) (.int .u64 0) (.int .u64 0) (.slice none 0 0))
  have HX2:=HX.out
  clear HX f0 f1 f2 f3 y0 y1 y2 y3
  generalize put4 w1 w.heap.size (.int .i64 0) (.int .u64 0) (.int .u64 0) (.slice none 0 0)=W2 at *
  exact rread_ret (b:=false) HX2.2 HX2.1 _ rfl rfl rfl
 | succ d ih=>
 intro hd s w hl
 have IH:=ih (by omega)
 clear ih
 obtain ⟨w1,hw1⟩:∃ w1,w1=w.alloc (.cells #[.int .i64 0,.int .u64 0,.int .u64 0,.slice none 0 0] 57):=⟨_,rfl⟩
 have q1:=heap_alloc_new w (.cells #[.int .i64 0,.int .u64 0,.int .u64 0,.slice none 0 0] 57)
 have b1:=below_new w (.cells #[.int .i64 0,.int .u64 0,.int .u64 0,.slice none 0 0] 57)
 have s1:w1.heap.size=w.heap.size+1:=by rw [hw1]; simp
 rw [← hw1] at q1 b1
 have BG:=Lib_hid (fun (q x:List UInt8) W=>rbegins_any q x W)
 have VA:=Lib_hid (fun (q:List UInt8) (hq:q.length≤1000000) W=>rvalue_any q hq W)
 have HIH:=Lib_hid IH
 have HRET:Hid (∀ (W:World) (k:Int) (a b n c:Nat) (A:Option Addr) (s':List UInt8) (ok:Bool),W.heap[w.heap.size]? = some (.cells #[.int .i64 0,.int .u64 0,.int .u64 0,.slice none 0 0] 57 (0,0))→Below w.heap.size w W→
  (ok=true→∃ t us,rdS (d+1) s=some (t,s')∧(V.node k a b A c us).abs=t∧us.length=n∧Lies W (w.heap.size+1) W.heap.size (.node k a b A c us)∧Shp 57 W (w.heap.size+1) (.node k a b A c us))→(ok=false→rdS (d+1) s=none)→
  RdE4 (d+1) s w (.returned (.tuple #[.agg #[.int .i64 k,.int .u64 (a:Int),.int .u64 (b:Int),.slice A n c],.string ⟨s'.toArray⟩,.bool ok])) (put4 W w.heap.size (.int .i64 k) (.int .u64 (a:Int)) (.int .u64 (b:Int)) (.slice A n c))∧
  (put4 W w.heap.size (.int .i64 k) (.int .u64 (a:Int)) (.int .u64 (b:Int)) (.slice A n c)).heap[w.heap.size]? = some (.cells #[.int .i64 k,.int .u64 (a:Int),.int .u64 (b:Int),.slice A n c] 57 (0,0))):=by
  intro W k a b n c A s' ok h1 h2 h3 h4
  refine ⟨⟨k,a,b,n,c,A,s',ok,rfl,put4_below h2 (Nat.le_refl _) _ _ _ _,fun ho=>?_,h4⟩,put4_row h1 _ _ _ _⟩
  obtain ⟨t,us,e1,e2,e3,hL,hS⟩:=h3 ho
  refine ⟨t,us,e1,e2,e3,?_,?_⟩
  · rw [put4_size]
    exact (hL.keep fun p h1 _=>World.cell?_of_block (put4_else W (by omega) _ _ _ _)).more (by omega) (Nat.le_refl _)
  · exact (Shp.keepL _ hL hS fun g' h1 _=>put4_else W (by omega) _ _ _ _).more (by omega)
 have hd0:(((d+1:Nat):Int) == 0)=false:=by simp; omega
 have hdc:((d+1:Nat):Int)=(d:Int)+1:=by omega
 rw [hdc] at hd0 ⊢
 have hd1:IntKind.i64.wrap ((d:Int)+1 - 1)=(d:Int):=by rw [IntKind.wrap_i64]; omega
 subst hw1
 clear IH hdc
 go_enter Tryz.func105,Tryz.ntmps105
 go_upto_region 1 with (fail)
 generalize w.alloc (.cells #[.int .i64 0,.int .u64 0,.int .u64 0,.slice none 0 0] 57)=w1 at *
 cases h1:Lib.hasPrefix s [97,108,108] with
 | true=>
  have hl3:=pre_len h1
  have hi3:(3:Int)≤(s.length:Int):=by simp at hl3; omega
  have hext:=ext_drop s 3
  have hsp:=rd_all (d:=d) h1
  have BG1:=BG.out s [97,108,108] w1
  rw [h1] at BG1
  generalize s.drop 3=s' at *
  have qE:=q1
  have bE:=b1
  clear q1 b1 h1 hl3 BG VA HIH
  have f0:=cell_of_row w1 _ 0 _ _ _ qE
  have f1:=cell_of_row w1 _ 1 _ _ _ qE
  have f2:=cell_of_row w1 _ 2 _ _ _ qE
  have f3:=cell_of_row w1 _ 3 _ _ _ qE
  have y0:=frozen_of_row w1 w.heap.size 0 _ _ qE
  have y1:=frozen_of_row w1 w.heap.size 1 _ _ qE
  have y2:=frozen_of_row w1 w.heap.size 2 _ _ qE
  have y3:=frozen_of_row w1 w.heap.size 3 _ _ qE
  simp at f0 f1 f2 f3
  have HX:=Lib_hid (HRET.out w1.drew 1 0 0 0 0 none s' true qE bE.drew (fun _=>⟨_,[],hsp,by simp [V.abs,V.absL],rfl,leaf_lies _ _ _ 1 0 0 (by omega) (by omega) (by omega),leaf_shp _ _ _ 1 0 0⟩) (fun h=>by cases h))
  clear qE bE HRET
  go_upto_region 4 with (go_at_call 128; refine BG1.mono ?_; rintro e w' ⟨rfl,rfl⟩)
  clear hsp
  go_region
  all_goals (go_wp2_with fail)
  show bodyPost _ _ _ _ _ (put4 w1.drew w.heap.size (.int .i64 1) (.int .u64 0) (.int .u64 0) (.slice none 0 0))
  have HX2:=HX.out
  clear HX f0 f1 f2 f3 y0 y1 y2 y3
  generalize put4 w1.drew w.heap.size (.int .i64 1) (.int .u64 0) (.int .u64 0) (.slice none 0 0)=W2 at *
  exact rread_ret (b:=true) HX2.2 HX2.1 _ rfl rfl rfl
 | false=>
 cases h2:Lib.hasPrefix s [120,60,61] with
 | true=>
  have hl3:=pre_len h2
  have hi3:(3:Int)≤(s.length:Int):=by simp at hl3; omega
  have hext:=ext_drop s 3
  have hsp:=rd_x (d:=d) h1 h2
  obtain ⟨rr,hrr⟩:=pre_head h2
  have hix:∀ W,(Instr.index 9 (.string ⟨s.toArray⟩) (.int .i64 0)).run Tryz.prog W=.ok (.int .u8 120) W:=fun W=>by have:=ix_str s 0 (by rw [hrr]; simp) W; simp only [hrr,List.getElem_cons_zero] at this ⊢; exact this
  have VV:=VA.out (s.drop 3) (by rw [List.length_drop]; omega) w1
  have HSP:=Lib_hid hsp
  clear hsp hrr hl3 VA HIH
  generalize s.drop 3=s' at *
  go_wp2_with (first | (go_at_call 128; refine (BG.out _ _ _).mono ?_; rintro e w' ⟨rfl,rfl⟩) | (go_at_call 129; refine VV.mono ?_; rintro e w2 ⟨hb2,v,r,ok,rfl,hv,hok,hno⟩; have q2:=(hb2.block w.heap.size (by omega)).trans q1; have f0:=cell_of_row w2 _ 0 _ _ _ q2; have f1:=cell_of_row w2 _ 1 _ _ _ q2; have f2:=cell_of_row w2 _ 2 _ _ _ q2; have f3:=cell_of_row w2 _ 3 _ _ _ q2; have y0:=frozen_of_row w2 w.heap.size 0 _ _ q2; have y1:=frozen_of_row w2 w.heap.size 1 _ _ q2; have y2:=frozen_of_row w2 w.heap.size 2 _ _ q2; have y3:=frozen_of_row w2 w.heap.size 3 _ _ q2; simp at f0 f1 f2 f3))
  have HX:=Lib_hid (HRET.out w2 2 v 0 0 0 none r ok q2 (b1.trans (hb2.mono (by omega))) (fun h=>⟨_,[],by rw [HSP.out,hok h]; rfl,by simp [V.abs,V.absL],rfl,leaf_lies _ _ _ 2 v 0 (by omega) hv (by omega),leaf_shp _ _ _ 2 v 0⟩) (fun h=>by rw [HSP.out,hno h]; rfl))
  show bodyPost _ _ _ _ _ (put4 w2 w.heap.size (.int .i64 2) (.int .u64 (v:Int)) (.int .u64 0) (.slice none 0 0))
  have HX2:=HX.out
  clear HX f0 f1 f2 f3 y0 y1 y2 y3
  generalize put4 w2 w.heap.size (.int .i64 2) (.int .u64 (v:Int)) (.int .u64 0) (.slice none 0 0)=W2 at *
  exact rread_ret (b:=ok) HX2.2 HX2.1 _ rfl rfl rfl
 | false=>
 cases h3:Lib.hasPrefix s [118,60,61] with
 | true=>
  have hl3:=pre_len h3
  have hi3:(3:Int)≤(s.length:Int):=by simp at hl3; omega
  have hext:=ext_drop s 3
  have hsp:=rd_v (d:=d) h1 h2 h3
  obtain ⟨rr,hrr⟩:=pre_head h3
  have hix:∀ W,(Instr.index 9 (.string ⟨s.toArray⟩) (.int .i64 0)).run Tryz.prog W=.ok (.int .u8 118) W:=fun W=>by have:=ix_str s 0 (by rw [hrr]; simp) W; simp only [hrr,List.getElem_cons_zero] at this ⊢; exact this
  have VV:=VA.out (s.drop 3) (by rw [List.length_drop]; omega) w1
  have HSP:=Lib_hid hsp
  clear hsp hrr hl3 VA HIH
  generalize s.drop 3=s' at *
  go_wp2_with (first | (go_at_call 128; refine (BG.out _ _ _).mono ?_; rintro e w' ⟨rfl,rfl⟩) | (go_at_call 129; refine VV.mono ?_; rintro e w2 ⟨hb2,v,r,ok,rfl,hv,hok,hno⟩; have q2:=(hb2.block w.heap.size (by omega)).trans q1; have f0:=cell_of_row w2 _ 0 _ _ _ q2; have f1:=cell_of_row w2 _ 1 _ _ _ q2; have f2:=cell_of_row w2 _ 2 _ _ _ q2; have f3:=cell_of_row w2 _ 3 _ _ _ q2; have y0:=frozen_of_row w2 w.heap.size 0 _ _ q2; have y1:=frozen_of_row w2 w.heap.size 1 _ _ q2; have y2:=frozen_of_row w2 w.heap.size 2 _ _ q2; have y3:=frozen_of_row w2 w.heap.size 3 _ _ q2; simp at f0 f1 f2 f3))
  have HX:=Lib_hid (HRET.out w2 3 v 0 0 0 none r ok q2 (b1.trans (hb2.mono (by omega))) (fun h=>⟨_,[],by rw [HSP.out,hok h]; rfl,by simp [V.abs,V.absL],rfl,leaf_lies _ _ _ 3 v 0 (by omega) hv (by omega),leaf_shp _ _ _ 3 v 0⟩) (fun h=>by rw [HSP.out,hno h]; rfl))
  show bodyPost _ _ _ _ _ (put4 w2 w.heap.size (.int .i64 3) (.int .u64 (v:Int)) (.int .u64 0) (.slice none 0 0))
  have HX2:=HX.out
  clear HX f0 f1 f2 f3 y0 y1 y2 y3
  generalize put4 w2 w.heap.size (.int .i64 3) (.int .u64 (v:Int)) (.int .u64 0) (.slice none 0 0)=W2 at *
  exact rread_ret (b:=ok) HX2.2 HX2.1 _ rfl rfl rfl
 | false=>
 cases h4:Lib.hasPrefix s [118,37] with
 | true=>
  have hl2:=pre_len h4
  have hi2:(2:Int)≤(s.length:Int):=by simp at hl2; omega
  have hext:=ext_drop s 2
  have hsp:=rd_m (d:=d) h1 h2 h3 h4
  have VV:=VA.out (s.drop 2) (by rw [List.length_drop]; omega) w1
  have hdl:(s.drop 2).length≤s.length:=by rw [List.length_drop]; omega
  have HSP:=Lib_hid hsp
  clear hsp hl2
  generalize s.drop 2=s' at *
  go_wp2_with (first | (go_at_call 128; refine (BG.out _ _ _).mono ?_; rintro e w' ⟨rfl,rfl⟩))
  refine VV.mono ?_
  rintro e w2 ⟨hb2,v,r,ok,rfl,hv,hok,hno⟩
  have q2:=(hb2.block w.heap.size (by omega)).trans q1
  have bw2:=b1.trans (hb2.mono (by omega))
  have s2:=hb2.size
  clear VV
  cases ok with
  | false=>
   have hno2:rdS (d+1) s=none:=by rw [HSP.out,hno rfl]; rfl
   have f0:=cell_of_row w2 _ 0 _ _ _ q2
   have f1:=cell_of_row w2 _ 1 _ _ _ q2
   have f2:=cell_of_row w2 _ 2 _ _ _ q2
   have f3:=cell_of_row w2 _ 3 _ _ _ q2
   have y0:=frozen_of_row w2 w.heap.size 0 _ _ q2
   have y1:=frozen_of_row w2 w.heap.size 1 _ _ q2
   have y2:=frozen_of_row w2 w.heap.size 2 _ _ q2
   have y3:=frozen_of_row w2 w.heap.size 3 _ _ q2
   simp at f0 f1 f2 f3
   have HX:=Lib_hid (HRET.out w2 0 0 0 0 0 none s false q2 bw2 (fun h=>by cases h) (fun _=>hno2))
   clear hno2
   go_wp2_with fail
   show bodyPost _ _ _ _ _ (put4 w2 w.heap.size (.int .i64 0) (.int .u64 0) (.int .u64 0) (.slice none 0 0))
   have HX2:=HX.out
   clear HX f0 f1 f2 f3 y0 y1 y2 y3
   generalize put4 w2 w.heap.size (.int .i64 0) (.int .u64 0) (.int .u64 0) (.slice none 0 0)=W2 at *
   exact rread_ret (b:=false) HX2.2 HX2.1 _ rfl rfl rfl
  | true=>
   have hns:=hok rfl
   have hrl:r.length≤s'.length:=(numS_lt hns).2
   have BG2:=BG.out r [61] w2
   cases h61:Lib.hasPrefix r [61] with
   | false=>
    rw [h61] at BG2
    have hno2:rdS (d+1) s=none:=by
     rw [HSP.out,hns,Option.bind_some]
     simp only [h61]
     rfl
    have f0:=cell_of_row w2 _ 0 _ _ _ q2
    have f1:=cell_of_row w2 _ 1 _ _ _ q2
    have f2:=cell_of_row w2 _ 2 _ _ _ q2
    have f3:=cell_of_row w2 _ 3 _ _ _ q2
    have y0:=frozen_of_row w2 w.heap.size 0 _ _ q2
    have y1:=frozen_of_row w2 w.heap.size 1 _ _ q2
    have y2:=frozen_of_row w2 w.heap.size 2 _ _ q2
    have y3:=frozen_of_row w2 w.heap.size 3 _ _ q2
    simp at f0 f1 f2 f3
    have HX:=Lib_hid (HRET.out w2 0 0 0 0 0 none s false q2 bw2 (fun h=>by cases h) (fun _=>hno2))
    clear hno2 h61
    go_wp2_with (go_at_call 128; refine BG2.mono ?_; rintro e w' ⟨rfl,rfl⟩)
    show bodyPost _ _ _ _ _ (put4 w2 w.heap.size (.int .i64 0) (.int .u64 0) (.int .u64 0) (.slice none 0 0))
    have HX2:=HX.out
    clear HX f0 f1 f2 f3 y0 y1 y2 y3
    generalize put4 w2 w.heap.size (.int .i64 0) (.int .u64 0) (.int .u64 0) (.slice none 0 0)=W2 at *
    exact rread_ret (b:=false) HX2.2 HX2.1 _ rfl rfl rfl
   | true=>
    rw [h61] at BG2
    have hl1:=pre_len h61
    have hi1:(1:Int)≤(r.length:Int):=by simp at hl1; omega
    have hext2:=ext_drop r 1
    have VV2:=VA.out (r.drop 1) (by rw [List.length_drop]; omega) w2
    have hsp2:rdS (d+1) s=(numS (r.drop 1)).map fun y=>(.node 4 v y.1 [],y.2):=by
     rw [HSP.out,hns,Option.bind_some]
     simp only [h61,if_true]
    have HSP2:=Lib_hid hsp2
    clear hsp2 hl1 h61
    generalize r.drop 1=r2 at *
    go_wp2_with (go_at_call 128; refine BG2.mono ?_; rintro e w' ⟨rfl,rfl⟩)
    refine VV2.mono ?_
    rintro e w3 ⟨hb3,v2,r3,ok3,rfl,hv2,hok3,hno3⟩
    have q3:=(hb3.block w.heap.size (by omega)).trans q2
    have bw3:=bw2.trans (hb3.mono (by omega))
    have f0:=cell_of_row w3 _ 0 _ _ _ q3
    have f1:=cell_of_row w3 _ 1 _ _ _ q3
    have f2:=cell_of_row w3 _ 2 _ _ _ q3
    have f3:=cell_of_row w3 _ 3 _ _ _ q3
    have y0:=frozen_of_row w3 w.heap.size 0 _ _ q3
    have y1:=frozen_of_row w3 w.heap.size 1 _ _ q3
    have y2:=frozen_of_row w3 w.heap.size 2 _ _ q3
    have y3:=frozen_of_row w3 w.heap.size 3 _ _ q3
    simp at f0 f1 f2 f3
    have HX:=Lib_hid (HRET.out w3 4 v v2 0 0 none r3 ok3 q3 bw3 (fun h=>⟨_,[],by rw [HSP2.out,hok3 h]; rfl,by simp [V.abs,V.absL],rfl,leaf_lies _ _ _ 4 v v2 (by omega) hv hv2,leaf_shp _ _ _ 4 v v2⟩) (fun h=>by rw [HSP2.out,hno3 h]; rfl))
    clear VV2 BG2
    go_wp2_with fail
    show bodyPost _ _ _ _ _ (put4 w3 w.heap.size (.int .i64 4) (.int .u64 v) (.int .u64 v2) (.slice none 0 0))
    have HX2:=HX.out
    clear HX f0 f1 f2 f3 y0 y1 y2 y3
    generalize put4 w3 w.heap.size (.int .i64 4) (.int .u64 v) (.int .u64 v2) (.slice none 0 0)=W2 at *
    exact rread_ret (b:=ok3) HX2.2 HX2.1 _ rfl rfl rfl
 | false=>
 have HN5:Hid (∀ i,1≤i→i<5→Lib.hasPrefix s (wordL i)=false):=fun i q1 q2=>by
  have:i=1∨i=2∨i=3∨i=4:=by omega
  rcases this with rfl | rfl | rfl | rfl
  · exact h1
  · exact h2
  · exact h3
  · exact h4
 cases h5:Lib.hasPrefix s [33] with
 | true=>
  have hl1:=pre_len h5
  have hi1:(1:Int)≤(s.length:Int):=by simp at hl1; omega
  have hext:=ext_drop s 1
  have hsp:=rd_n (d:=d) HN5.out h5
  have CH:=HIH.out (s.drop 1) w1 (by rw [List.length_drop]; omega)
  have HSP:=Lib_hid hsp
  clear hsp hl1
  generalize s.drop 1=s' at *
  go_wp2_with (first | (go_at_call 128; refine (BG.out _ _ _).mono ?_; rintro e w' ⟨rfl,rfl⟩))
  refine CH.mono ?_
  rintro e w2 ⟨k,a,b,n,c,A,r,ok,rfl,hb2,hR⟩
  have s2:=hb2.size
  have b3:=below_new w2 (.cells #[.int .i64 k,.int .u64 (a:Int),.int .u64 (b:Int),.slice A n c] 57)
  have r3:=heap_alloc_new w2 (.cells #[.int .i64 k,.int .u64 (a:Int),.int .u64 (b:Int),.slice A n c] 57)
  have q3:=(b3.block w.heap.size (by omega)).trans ((hb2.block w.heap.size (by omega)).trans q1)
  have bw3:=(b1.trans (hb2.mono (by omega))).trans (b3.mono (by omega))
  have s3:(w2.alloc (.cells #[.int .i64 k,.int .u64 (a:Int),.int .u64 (b:Int),.slice A n c] 57)).heap.size=w2.heap.size+1:=by simp
  have HB3:=Lib_hid b3
  clear CH b3
  go_upto_region 19 with (fail)
  generalize w2.alloc (.cells #[.int .i64 k,.int .u64 (a:Int),.int .u64 (b:Int),.slice A n c] 57)=w3 at *
  have d0:=cell_of_row w3 _ 0 _ _ _ r3
  have d1:=cell_of_row w3 _ 1 _ _ _ r3
  have d2:=cell_of_row w3 _ 2 _ _ _ r3
  have d3:=cell_of_row w3 _ 3 _ _ _ r3
  simp at d0 d1 d2 d3
  obtain ⟨w4,hw4⟩:∃ w4,w4=w3.alloc (.cells #[.int .i64 k,.int .u64 (a:Int),.int .u64 (b:Int),.slice A n c] 57):=⟨_,rfl⟩
  have b4:=below_new w3 (.cells #[.int .i64 k,.int .u64 (a:Int),.int .u64 (b:Int),.slice A n c] 57)
  have hoL:=World.ownsRow_lit (base:=w3.heap.size) (e:=57) (size:=4) w3 #[.int .i64 k,.int .u64 (a:Int),.int .u64 (b:Int),.slice A n c] 1 (Nat.le_refl _) (by decide) rfl
  rw [← hw4] at b4 hoL
  have q4:=(b4.block w.heap.size (by omega)).trans q3
  have bw4:=bw3.trans (b4.mono (by omega))
  have s4:=b4.size
  have hyes:ok=true→∃ t us,rdS (d+1) s=some (t,r)∧(V.node 5 0 0 (some ⟨w3.heap.size,0,none⟩) 1 us).abs=t∧us.length=1∧Lies w4 (w.heap.size+1) w4.heap.size (.node 5 0 0 (some ⟨w3.heap.size,0,none⟩) 1 us)∧Shp 57 w4 (w.heap.size+1) (.node 5 0 0 (some ⟨w3.heap.size,0,none⟩) 1 us):=by
   intro ho
   obtain ⟨t,us,e1,e2,e3,hL,hS⟩:=hR.yes ho
   subst e3
   have hT:TRow 57 (w.heap.size+1) (.slice (some ⟨w3.heap.size,0,none⟩) 1 1) [.node k a b A c us] w4:=by
    refine ⟨own_base hoL fun j hj=>by have e:w3.heap.size=j:=Option.some.inj hj; omega,fun u hu=>?_⟩
    obtain rfl:u=.node k a b A c us:=by simpa using hu
    have hb24:Below w2.heap.size w2 w4:=HB3.out.trans (b4.mono (by omega))
    exact ⟨w1.heap.size,w2.heap.size,by omega,hb24.size,hL.under hb24,hS.under hb24,fun g hg=>.inr (by have e:w3.heap.size=g:=Option.some.inj hg; omega)⟩
   obtain ⟨_,hL4,hS4⟩:=hT.tree (k:=5) (a:=0) (b:=0) (by omega) (by omega) (by omega)
   refine ⟨.node 5 0 0 [t],[.node k a b A c us],by rw [HSP.out,e1]; rfl,by rw [V.abs,V.absL,V.absL,e2],rfl,hL4,hS4⟩
  have hno2:ok=false→rdS (d+1) s=none:=fun h=>by rw [HSP.out,hR.no h]; rfl
  clear q3 bw3 hoL hR
  have f0:=cell_of_row w4 _ 0 _ _ _ q4
  have f1:=cell_of_row w4 _ 1 _ _ _ q4
  have f2:=cell_of_row w4 _ 2 _ _ _ q4
  have f3:=cell_of_row w4 _ 3 _ _ _ q4
  have y0:=frozen_of_row w4 w.heap.size 0 _ _ q4
  have y1:=frozen_of_row w4 w.heap.size 1 _ _ q4
  have y2:=frozen_of_row w4 w.heap.size 2 _ _ q4
  have y3:=frozen_of_row w4 w.heap.size 3 _ _ q4
  simp at f0 f1 f2 f3
  have HX:=Lib_hid (HRET.out w4 5 0 0 1 1 (some ⟨w3.heap.size,0,none⟩) r ok q4 bw4 hyes hno2)
  subst hw4
  clear q4 bw4 hyes hno2 HB3 b4 s3
  go_wp2_with fail
  show bodyPost _ _ _ _ _ (put4 (w3.alloc (.cells #[.int .i64 k,.int .u64 (a:Int),.int .u64 (b:Int),.slice A n c] 57)) w.heap.size (.int .i64 5) (.int .u64 0) (.int .u64 0) (.slice (some ⟨w3.heap.size,0,none⟩) 1 1))
  have HX2:=HX.out
  clear HX f0 f1 f2 f3 y0 y1 y2 y3
  generalize put4 (w3.alloc (.cells #[.int .i64 k,.int .u64 (a:Int),.int .u64 (b:Int),.slice A n c] 57)) w.heap.size (.int .i64 5) (.int .u64 0) (.int .u64 0) (.slice (some ⟨w3.heap.size,0,none⟩) 1 1)=W2 at *
  exact rread_ret (b:=ok) HX2.2 HX2.1 _ rfl rfl rfl
 | false=>
 have HN6:Hid (∀ i,1≤i→i<6→Lib.hasPrefix s (wordL i)=false):=fun i q1 q2=>by
  rcases Nat.lt_or_ge i 5 with h | h
  · exact HN5.out i q1 h
  · obtain rfl:i=5:=by omega
    exact h5
 cases h6:Lib.hasPrefix s [38,40] with
 | true=>
  have hl2:=pre_len h6
  have hi2:(2:Int)≤(s.length:Int):=by simp at hl2; omega
  have hext:=ext_drop s 2
  have hw1p:Lib.hasPrefix s [38]=true:=by
   have h:=h6
   rw [pre_two,Bool.and_eq_true] at h
   exact h.1
  have hsp:=rd_r (d:=d) 6 38 (by decide) HN6.out hw1p
  rw [h6,if_pos rfl] at hsp
  have RW:=rrow_any d 6 (by omega) (by omega) HIH.out (s.drop 2) (by rw [List.length_drop]; omega) w1
  have RW:Calls Tryz.prog 130 #[.agg #[.int .i64 6,.int .u64 0,.int .u64 0,.slice none 0 0],.string ⟨(s.drop 2).toArray⟩,.int .i64 ((d:Int)+1)] w1 (RowEnd4 d 6 (s.drop 2) w1):=RW
  have HSP:=Lib_hid hsp
  clear hsp hl2 hw1p
  generalize s.drop 2=s' at *
  go_wp2_with (first | (go_at_call 128; refine (BG.out _ _ _).mono ?_; rintro e w' ⟨rfl,rfl⟩))
  refine RW.mono ?_
  rintro e w2 ⟨n,c,A,r,ok,rfl,hb2,hyes,hno⟩
  have q2:=(hb2.block w.heap.size (by omega)).trans q1
  have bw2:=b1.trans (hb2.mono (by omega))
  have s2:=hb2.size
  have hyes2:ok=true→∃ t us,rdS (d+1) s=some (t,r)∧(V.node 6 0 0 A c us).abs=t∧us.length=n∧Lies w2 (w.heap.size+1) w2.heap.size (.node 6 0 0 A c us)∧Shp 57 w2 (w.heap.size+1) (.node 6 0 0 A c us):=by
   intro ho
   obtain ⟨us,e1,e2,hT⟩:=hyes ho
   obtain ⟨_,hL4,hS4⟩:=hT.tree (k:=6) (a:=0) (b:=0) (by omega) (by omega) (by omega)
   exact ⟨_,us,by rw [HSP.out,e1]; rfl,by rw [V.abs]; rfl,e2,hL4.more (by omega) (Nat.le_refl _),hS4.more (by omega)⟩
  have hno2:ok=false→rdS (d+1) s=none:=fun h=>by rw [HSP.out,hno h]; rfl
  clear RW hyes hno
  have f0:=cell_of_row w2 _ 0 _ _ _ q2
  have f1:=cell_of_row w2 _ 1 _ _ _ q2
  have f2:=cell_of_row w2 _ 2 _ _ _ q2
  have f3:=cell_of_row w2 _ 3 _ _ _ q2
  have y0:=frozen_of_row w2 w.heap.size 0 _ _ q2
  have y1:=frozen_of_row w2 w.heap.size 1 _ _ q2
  have y2:=frozen_of_row w2 w.heap.size 2 _ _ q2
  have y3:=frozen_of_row w2 w.heap.size 3 _ _ q2
  simp at f0 f1 f2 f3
  have HX:=Lib_hid (HRET.out w2 6 0 0 n c A r ok q2 bw2 hyes2 hno2)
  clear hyes2 hno2
  go_wp2_with fail
  show bodyPost _ _ _ _ _ (put4 w2 w.heap.size (.int .i64 6) (.int .u64 0) (.int .u64 0) (.slice A n c))
  have HX2:=HX.out
  clear HX f0 f1 f2 f3 y0 y1 y2 y3
  generalize put4 w2 w.heap.size (.int .i64 6) (.int .u64 0) (.int .u64 0) (.slice A n c)=W2 at *
  exact rread_ret (b:=ok) HX2.2 HX2.1 _ rfl rfl rfl
 | false=>
 cases h7:Lib.hasPrefix s [124,40] with
 | true=>
  have HN7:Hid (Lib.hasPrefix s [124]=true→∀ i,1≤i→i<7→Lib.hasPrefix s (wordL i)=false):=fun h124 i q1 q2=>by
   rcases Nat.lt_or_ge i 6 with h | h
   · exact HN6.out i q1 h
   · obtain rfl:i=6:=by omega
     obtain ⟨rr,hrr⟩:=pre_head h124
     rw [hrr]
     rfl
  have hl2:=pre_len h7
  have hi2:(2:Int)≤(s.length:Int):=by simp at hl2; omega
  have hext:=ext_drop s 2
  have hw1p:Lib.hasPrefix s [124]=true:=by
   have h:=h7
   rw [pre_two,Bool.and_eq_true] at h
   exact h.1
  have hsp:=rd_r (d:=d) 7 124 (by decide) (HN7.out hw1p) hw1p
  rw [h7,if_pos rfl] at hsp
  have RW:=rrow_any d 7 (by omega) (by omega) HIH.out (s.drop 2) (by rw [List.length_drop]; omega) w1
  have RW:Calls Tryz.prog 130 #[.agg #[.int .i64 7,.int .u64 0,.int .u64 0,.slice none 0 0],.string ⟨(s.drop 2).toArray⟩,.int .i64 ((d:Int)+1)] w1 (RowEnd4 d 7 (s.drop 2) w1):=RW
  have HSP:=Lib_hid hsp
  clear hsp hl2 hw1p
  generalize s.drop 2=s' at *
  go_wp2_with (first | (go_at_call 128; refine (BG.out _ _ _).mono ?_; rintro e w' ⟨rfl,rfl⟩))
  refine RW.mono ?_
  rintro e w2 ⟨n,c,A,r,ok,rfl,hb2,hyes,hno⟩
  have q2:=(hb2.block w.heap.size (by omega)).trans q1
  have bw2:=b1.trans (hb2.mono (by omega))
  have s2:=hb2.size
  have hyes2:ok=true→∃ t us,rdS (d+1) s=some (t,r)∧(V.node 7 0 0 A c us).abs=t∧us.length=n∧Lies w2 (w.heap.size+1) w2.heap.size (.node 7 0 0 A c us)∧Shp 57 w2 (w.heap.size+1) (.node 7 0 0 A c us):=by
   intro ho
   obtain ⟨us,e1,e2,hT⟩:=hyes ho
   obtain ⟨_,hL4,hS4⟩:=hT.tree (k:=7) (a:=0) (b:=0) (by omega) (by omega) (by omega)
   exact ⟨_,us,by rw [HSP.out,e1]; rfl,by rw [V.abs]; rfl,e2,hL4.more (by omega) (Nat.le_refl _),hS4.more (by omega)⟩
  have hno2:ok=false→rdS (d+1) s=none:=fun h=>by rw [HSP.out,hno h]; rfl
  clear RW hyes hno
  have f0:=cell_of_row w2 _ 0 _ _ _ q2
  have f1:=cell_of_row w2 _ 1 _ _ _ q2
  have f2:=cell_of_row w2 _ 2 _ _ _ q2
  have f3:=cell_of_row w2 _ 3 _ _ _ q2
  have y0:=frozen_of_row w2 w.heap.size 0 _ _ q2
  have y1:=frozen_of_row w2 w.heap.size 1 _ _ q2
  have y2:=frozen_of_row w2 w.heap.size 2 _ _ q2
  have y3:=frozen_of_row w2 w.heap.size 3 _ _ q2
  simp at f0 f1 f2 f3
  have HX:=Lib_hid (HRET.out w2 7 0 0 n c A r ok q2 bw2 hyes2 hno2)
  clear hyes2 hno2
  go_wp2_with fail
  show bodyPost _ _ _ _ _ (put4 w2 w.heap.size (.int .i64 7) (.int .u64 0) (.int .u64 0) (.slice A n c))
  have HX2:=HX.out
  clear HX f0 f1 f2 f3 y0 y1 y2 y3
  generalize put4 w2 w.heap.size (.int .i64 7) (.int .u64 0) (.int .u64 0) (.slice A n c)=W2 at *
  exact rread_ret (b:=ok) HX2.2 HX2.1 _ rfl rfl rfl
 | false=>
  have hno2:=rd_0 (d:=d) HN6.out h6 h7
  have qE:=q1
  have bE:=b1
  clear q1 b1
  have f0:=cell_of_row w1 _ 0 _ _ _ qE
  have f1:=cell_of_row w1 _ 1 _ _ _ qE
  have f2:=cell_of_row w1 _ 2 _ _ _ qE
  have f3:=cell_of_row w1 _ 3 _ _ _ qE
  have y0:=frozen_of_row w1 w.heap.size 0 _ _ qE
  have y1:=frozen_of_row w1 w.heap.size 1 _ _ qE
  have y2:=frozen_of_row w1 w.heap.size 2 _ _ qE
  have y3:=frozen_of_row w1 w.heap.size 3 _ _ qE
  simp at f0 f1 f2 f3
  have HX:=Lib_hid (HRET.out w1 0 0 0 0 0 none s false qE bE (fun h=>by cases h) (fun _=>hno2))
  clear hno2
  go_wp2_with (first | (go_at_call 128; refine (BG.out _ _ _).mono ?_; rintro e w' ⟨rfl,rfl⟩))
  show bodyPost _ _ _ _ _ (put4 w1 w.heap.size (.int .i64 0) (.int .u64 0) (.int .u64 0) (.slice none 0 0))
  have HX2:=HX.out
  clear HX f0 f1 f2 f3 y0 y1 y2 y3
  generalize put4 w1 w.heap.size (.int .i64 0) (.int .u64 0) (.int .u64 0) (.slice none 0 0)=W2 at *
  exact rread_ret (b:=false) HX2.2 HX2.1 _ rfl rfl rfl
end Go.Proofs.YtinmoknbgnngcaaGreatDoor
