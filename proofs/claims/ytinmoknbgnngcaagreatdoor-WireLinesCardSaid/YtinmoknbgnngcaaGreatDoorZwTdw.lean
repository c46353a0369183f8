/-
  Layer 4: the document's row, where read is known.
-/
import Derived.Test.YtinmoknbgnngcaaGreatDoorZwTdq
import Derived.Test.YtinmoknbgnngcaaGreatDoorZwTex
namespace Go.Proofs.YtinmoknbgnngcaaGreatDoor
open Go Go.RowKit
set_option linter.unusedVariables false
structure RrR (d:Nat) (s:List UInt8) (w w':World) (k:Int) (a b n c:Nat) (A:Option Addr) (s':List UInt8) (ok:Bool):Prop where
 yes:ok=true→∃ t us,rdS d s=some (t,s')∧(V.node k a b A c us).abs=t∧us.length=n∧Lies w' w.heap.size w'.heap.size (.node k a b A c us)∧Shp 57 w' w.heap.size (.node k a b A c us)
 no:ok=false→rdS d s=none
def RdE4 (d:Nat) (s:List UInt8) (w:World) (e:Ending) (w':World):Prop:=
 ∃ (k:Int) (a b n c:Nat) (A:Option Addr) (s':List UInt8) (ok:Bool),e=.returned (.tuple #[.agg #[.int .i64 k,.int .u64 (a:Int),.int .u64 (b:Int),.slice A n c],.string ⟨s'.toArray⟩,.bool ok])∧Below w.heap.size w w'∧RrR d s w w' k a b n c A s' ok
def ROK (d:Nat):Prop:=∀ (s:List UInt8) (w:World),s.length≤1000000→Calls Tryz.prog 105 #[.string ⟨s.toArray⟩,.int .i64 (d:Int)] w (RdE4 d s w)
def RowEnd4 (d kd:Nat) (s:List UInt8) (w:World) (e:Ending) (w':World):Prop:=
 ∃ (n c:Nat) (A:Option Addr) (s':List UInt8) (ok:Bool),e=.returned (.tuple #[.agg #[.int .i64 (kd:Int),.int .u64 0,.int .u64 0,.slice A n c],.string ⟨s'.toArray⟩,.bool ok])∧Below w.heap.size w w'∧
  (ok=true→∃ us,listB (rdS d) s=some (V.absL us,s')∧us.length=n∧TRow 57 w.heap.size (.slice A n c) us w')∧(ok=false→listB (rdS d) s=none)
theorem ext_drop (s:List UInt8) (k:Nat):(⟨s.toArray⟩:ByteArray).extract k s.length=⟨(s.drop k).toArray⟩:=by
 apply ByteArray.ext
 simp [ByteArray.data_extract]
 rw [List.take_of_length_le (by simp)]
def strLen (v:Value):Nat:=match v with
 | Value.string b=>b.size
 | _=>0
theorem strLen_eq (s:List UInt8):strLen (.string ⟨s.toArray⟩)=s.length:=by simp [strLen,ByteArray.size]
set_option maxRecDepth 100000 in
theorem row_ret {Q:Ending→World→Prop} {W:World} {h0:Nat} {x0 x1 x2 x3 y:Value} {b:Bool} (HR2:W.heap[h0]? = some (.cells #[x0,x1,x2,x3] 57 (0,0))) (HF2:Q (.returned (.tuple #[.agg #[x0,x1,x2,x3],y,.bool b])) W)
 (tmps:Array Value) (h6:tmps.getD 6 undef=.pointer (some ⟨h0,0,none⟩)) (h7:tmps.getD 7 undef=y) (h8:tmps.getD 8 undef=.bool b):bodyPost Tryz.prog Tryz.f130 Q .ret {tmps:=tmps,defers:=[]} W:=by
 rw [Array.getD_eq_getD_getElem?] at h6 h7 h8
 have d0:=cell_of_row W _ 0 _ _ _ HR2
 have d1:=cell_of_row W _ 1 _ _ _ HR2
 have d2:=cell_of_row W _ 2 _ _ _ HR2
 have d3:=cell_of_row W _ 3 _ _ _ HR2
 simp at d0 d1 d2 d3
 exact bodyPost_ret (v:=.tuple #[.agg #[x0,x1,x2,x3],y,.bool b]) (by simp [results,Tryz.results130,go_sem,h6,h7,h8,d0,d1,d2,d3]) rfl HF2
set_option maxRecDepth 100000 in
set_option maxHeartbeats 3200000 in
theorem rrow_any (d kd:Nat) (hd:d≤8) (hkd:kd≤7) (IH:ROK d) (s:List UInt8) (hl:s.length≤1000000) (w:World) :
 Calls Tryz.prog 130 #[.agg #[.int .i64 (kd:Int),.int .u64 0,.int .u64 0,.slice none 0 0],.string ⟨s.toArray⟩,.int .i64 ((d:Int)+1)] w (RowEnd4 d kd s w):=by
 obtain ⟨i0,hi0,hz0,hz1,hz2⟩:=info_parts Tryz.infoR
 obtain ⟨w1,hw1⟩:∃ w1,w1=w.alloc (.cells #[.int .i64 (kd:Int),.int .u64 0,.int .u64 0,.slice none 0 0] 57):=⟨_,rfl⟩
 have p1:=heap_alloc_new w (.cells #[.int .i64 (kd:Int),.int .u64 0,.int .u64 0,.slice none 0 0] 57)
 have b1:=below_new w (.cells #[.int .i64 (kd:Int),.int .u64 0,.int .u64 0,.slice none 0 0] 57)
 have s1:w1.heap.size=w.heap.size+1:=by rw [hw1]; simp
 rw [← hw1] at p1 b1
 obtain ⟨w2,hw2⟩:∃ w2,w2=w1.alloc (.cells #[.int .i64 0,.int .u64 0,.int .u64 0,.slice none 0 0] 57):=⟨_,rfl⟩
 have q2:=heap_alloc_new w1 (.cells #[.int .i64 0,.int .u64 0,.int .u64 0,.slice none 0 0] 57)
 have b2:=below_new w1 (.cells #[.int .i64 0,.int .u64 0,.int .u64 0,.slice none 0 0] 57)
 have s2:w2.heap.size=w.heap.size+2:=by rw [hw2]; simp [s1]
 rw [← hw2,s1] at q2 b2
 have p2:=(b2.block w.heap.size (by omega)).trans p1
 have hbw:=b1.trans (b2.mono (by omega))
 have BG:=Lib_hid (fun (x:List UInt8) W=>rbegins_any s x W)
 have HIH:=Lib_hid IH
 have HRET:Hid (∀ (W:World) (n c:Nat) (A:Option Addr) (s':List UInt8) (ok:Bool) (us:List V),W.heap[w.heap.size+1]? = some (.cells #[.int .i64 0,.int .u64 0,.int .u64 0,.slice none 0 0] 57 (0,0))→Below w.heap.size w W→
  (ok=true→∃ us,listB (rdS d) s=some (V.absL us,s')∧us.length=n∧TRow 57 (w.heap.size+2) (.slice A n c) us W)→(ok=false→listB (rdS d) s=none)→w.heap.size+2≤W.heap.size→
  RowEnd4 d kd s w (.returned (.tuple #[.agg #[.int .i64 (kd:Int),.int .u64 0,.int .u64 0,.slice A n c],.string ⟨s'.toArray⟩,.bool ok])) (put4 W (w.heap.size+1) (.int .i64 (kd:Int)) (.int .u64 0) (.int .u64 0) (.slice A n c))∧
  (put4 W (w.heap.size+1) (.int .i64 (kd:Int)) (.int .u64 0) (.int .u64 0) (.slice A n c)).heap[w.heap.size+1]? = some (.cells #[.int .i64 (kd:Int),.int .u64 0,.int .u64 0,.slice A n c] 57 (0,0))):=by
  intro W n c A s' ok us0 h1 h2 h3 h4 h5
  refine ⟨⟨n,c,A,s',ok,rfl,put4_below h2 (by omega) _ _ _ _,fun ho=>?_,h4⟩,put4_row h1 _ _ _ _⟩
  obtain ⟨us,e1,e2,hT⟩:=h3 ho
  have hT2:=hT.keep (w':=put4 W (w.heap.size+1) (.int .i64 (kd:Int)) (.int .u64 0) (.int .u64 0) (.slice A n c)) (by rw [put4_size]; exact Nat.le_refl _) (fun g hg _=>put4_else W (by omega) _ _ _ _)
  exact ⟨us,e1,e2,own_base hT2.own fun k hk=>by have:=own_ge hT2.own k hk; omega,fun u hu=>by
   obtain ⟨lo,hi,q1,q2,q3,q4,q5⟩:=hT2.el u hu
   exact ⟨lo,hi,by omega,q2,q3,q4,q5⟩⟩
 have HB2:=Lib_hid (And.intro q2 (And.intro hbw s2))
 subst hw2 hw1
 clear b1 b2 p1 IH q2 hbw s1
 go_enter Tryz.func130,Tryz.ntmps130
 go_upto_region 1 with (fail)
 generalize (w.alloc _).alloc (.cells #[.int .i64 0,.int .u64 0,.int .u64 0,.slice none 0 0] 57)=w2 at *
 have BG1:=BG.out [41] w2
 clear BG
 cases h41:Lib.hasPrefix s [41] with
 | true=>
  rw [h41] at BG1
  have hls:=pre_len h41
  have hext:=ext_drop s 1
  have hLB:listB (rdS d) s=some (V.absL [],s.drop 1):=by unfold listB; rw [if_pos h41,trim_yes h41]; simp [V.absL]
  have hi1:(1:Int)≤(s.length:Int):=by have:=hls; simp at this; omega
  generalize s.drop 1=s' at *
  have pE:=p2
  have qE:=HB2.out.1
  have bE:=HB2.out.2.1
  have sE:w.heap.size+2≤w2.heap.size:=by have:=HB2.out.2.2; omega
  clear p2 HB2 s2 h41 hls
  have e0:=cell_of_row w2 _ 0 _ _ _ pE
  have e1:=cell_of_row w2 _ 1 _ _ _ pE
  have e2:=cell_of_row w2 _ 2 _ _ _ pE
  have e3:=cell_of_row w2 _ 3 _ _ _ pE
  have f0:=cell_of_row w2 _ 0 _ _ _ qE
  have f1:=cell_of_row w2 _ 1 _ _ _ qE
  have f2:=cell_of_row w2 _ 2 _ _ _ qE
  have f3:=cell_of_row w2 _ 3 _ _ _ qE
  have y0:=frozen_of_row w2 (w.heap.size+1) 0 _ _ qE
  have y1:=frozen_of_row w2 (w.heap.size+1) 1 _ _ qE
  have y2:=frozen_of_row w2 (w.heap.size+1) 2 _ _ qE
  have y3:=frozen_of_row w2 (w.heap.size+1) 3 _ _ qE
  simp at e0 e1 e2 e3 f0 f1 f2 f3
  have HX:=Lib_hid (HRET.out w2.drew 0 0 none s' true [] qE bE.drew (fun _=>⟨[],hLB,rfl,TRow.nil _ _ _⟩) (fun h=>by cases h) sE)
  clear pE qE bE sE
  clear hLB HRET
  go_upto_region 2 with (go_at_call 128; refine BG1.mono ?_; rintro e w' ⟨rfl,rfl⟩)
  go_region
  all_goals
   go_wp2_with fail
   show bodyPost _ _ _ _ _ (put4 w2.drew (w.heap.size+1) (.int .i64 (kd:Int)) (.int .u64 0) (.int .u64 0) (.slice none 0 0))
   have HX2:=HX.out
   clear HX e0 e1 e2 e3 f0 f1 f2 f3 y0 y1 y2 y3
   generalize put4 w2.drew (w.heap.size+1) (.int .i64 (kd:Int)) (.int .u64 0) (.int .u64 0) (.slice none 0 0)=W2 at *
   exact row_ret (b:=true) HX2.2 HX2.1 _ rfl rfl rfl
 | false=>
  have H41:=Lib_hid h41
  have hT0:=TRow.nil 57 (w.heap.size+2) w2
  have hlb:listB (rdS d) s=(contS (rdS d) s).map fun x=>(V.absL [] ++ x.1,x.2):=by
   show (if _ then _ else contS (rdS d) s)=_
   rw [if_neg (by rw [h41]; simp)]
   cases contS (rdS d) s with
   | none=>rfl
   | some x=>simp [V.absL]
  have HLB:=Lib_hid hlb
  have HT0:=Lib_hid hT0
  have hq2:=HB2.out.1
  have hbw:=HB2.out.2.1
  have hs2:=HB2.out.2.2
  have hd1:IntKind.i64.wrap ((d:Int)+1 - 1)=(d:Int):=by rw [IntKind.wrap_i64]; omega
  rw [h41] at BG1
  clear h41 hT0 hlb HB2
  go_wp2_with (go_at_call 128; refine BG1.mono ?_; rintro e w' ⟨rfl,rfl⟩)
  clear BG1
  go_loopw [1] (fun x W=>∃ (us:List V) (A:Option Addr) (n c:Nat) (ss:List UInt8),x=.string ⟨ss.toArray⟩∧W.heap[w.heap.size]? = some (.cells #[.int .i64 (kd:Int),.int .u64 0,.int .u64 0,.slice A n c] 57 (0,0))∧W.heap[w.heap.size+1]? = some (.cells #[.int .i64 0,.int .u64 0,.int .u64 0,.slice none 0 0] 57 (0,0))∧
   Hid (TRow 57 (w.heap.size+2) (.slice A n c) us W)∧Hid (listB (rdS d) s=(contS (rdS d) ss).map fun x=>(V.absL us ++ x.1,x.2))∧n+ss.length≤s.length∧Below w.heap.size w W∧w.heap.size+2≤W.heap.size) (fun x _=>strLen x)
  case atStart=>exact ⟨[],none,0,0,s,rfl,p2,hq2,HT0,HLB,by omega,hbw,by omega⟩
  case round=>
   clear p2 hq2 HT0 HLB hbw hs2
   obtain ⟨us,A,n,c,ss,rfl,pW,qW,hT,hlb,hns,hbW,sW⟩:=hrel
   rename World=>W
   have CH:=HIH.out ss W (by omega)
   have hun:us.length=n:=by
    obtain ⟨A2,c2,e,_⟩:=own_form hT.out.own
    injection e with _ e
    exact e.symm
   have HUN:=Lib_hid hun
   have hSL:Hid (strLen (.string ⟨ss.toArray⟩)=ss.length):=strLen_eq ss
   clear hun
   go_wp2_with fail
   refine CH.mono ?_
   rintro e w3 ⟨k,a,b,n',c',A',s',ok,rfl,hb3,hR⟩
   have s3:=hb3.size
   have b4:=below_new w3 (.cells #[.int .i64 k,.int .u64 (a:Int),.int .u64 (b:Int),.slice A' n' c'] 57)
   have r4:=heap_alloc_new w3 (.cells #[.int .i64 k,.int .u64 (a:Int),.int .u64 (b:Int),.slice A' n' c'] 57)
   have s4:=b4.size
   have hb4:=hb3.trans (b4.mono s3)
   have bW4:=hbW.trans (hb4.mono (by omega))
   have p4:=(hb4.block w.heap.size (by omega)).trans pW
   have q4:=(hb4.block (w.heap.size+1) (by omega)).trans qW
   have HB4:=Lib_hid b4
   have sw4:w3.heap.size<(w3.alloc (.cells #[.int .i64 k,.int .u64 (a:Int),.int .u64 (b:Int),.slice A' n' c'] 57)).heap.size:=by simp
   clear CH pW qW hbW b4
   go_upto_region 4 with (fail)
   generalize w3.alloc (.cells #[.int .i64 k,.int .u64 (a:Int),.int .u64 (b:Int),.slice A' n' c'] 57)=w4 at *
   cases ok with
   | false=>
    have hno:listB (rdS d) s=none:=by rw [hlb.out,cont_none (hR.no rfl)]; rfl
    have pE:=p4
    have qE:=q4
    have bE:=bW4
    have sE:w.heap.size+2≤w4.heap.size:=by omega
    clear p4 q4 bW4
    have e0:=cell_of_row w4 _ 0 _ _ _ pE
    have e1:=cell_of_row w4 _ 1 _ _ _ pE
    have e2:=cell_of_row w4 _ 2 _ _ _ pE
    have e3:=cell_of_row w4 _ 3 _ _ _ pE
    have f0:=cell_of_row w4 _ 0 _ _ _ qE
    have f1:=cell_of_row w4 _ 1 _ _ _ qE
    have f2:=cell_of_row w4 _ 2 _ _ _ qE
    have f3:=cell_of_row w4 _ 3 _ _ _ qE
    have y0:=frozen_of_row w4 (w.heap.size+1) 0 _ _ qE
    have y1:=frozen_of_row w4 (w.heap.size+1) 1 _ _ qE
    have y2:=frozen_of_row w4 (w.heap.size+1) 2 _ _ qE
    have y3:=frozen_of_row w4 (w.heap.size+1) 3 _ _ qE
    simp at e0 e1 e2 e3 f0 f1 f2 f3
    have HX:=Lib_hid (HRET.out w4 n c A ss false [] qE bE (fun h=>by cases h) (fun _=>hno) sE)
    clear pE qE bE sE HRET
    go_wp2_with fail
    show bodyPost _ _ _ _ _ (put4 w4 (w.heap.size+1) (.int .i64 (kd:Int)) (.int .u64 0) (.int .u64 0) (.slice A n c))
    have HX2:=HX.out
    clear HX e0 e1 e2 e3 f0 f1 f2 f3 y0 y1 y2 y3
    generalize put4 w4 (w.heap.size+1) (.int .i64 (kd:Int)) (.int .u64 0) (.int .u64 0) (.slice A n c)=W2 at *
    exact row_ret (b:=false) HX2.2 HX2.1 _ rfl rfl rfl
   | true=>
    obtain ⟨t,us2,e1,e2,e3,hL,hS⟩:=hR.yes rfl
    have hlr:=rdS_len d _ _ _ e1
    by_cases hnil:s'=[]
    · subst hnil
      have hno:listB (rdS d) s=none:=by rw [hlb.out,cont_end e1]; rfl
      have pE:=p4
      have qE:=q4
      have bE:=bW4
      have sE:w.heap.size+2≤w4.heap.size:=by omega
      clear p4 q4 bW4
      have e0:=cell_of_row w4 _ 0 _ _ _ pE
      have e1:=cell_of_row w4 _ 1 _ _ _ pE
      have e2:=cell_of_row w4 _ 2 _ _ _ pE
      have e3:=cell_of_row w4 _ 3 _ _ _ pE
      have f0:=cell_of_row w4 _ 0 _ _ _ qE
      have f1:=cell_of_row w4 _ 1 _ _ _ qE
      have f2:=cell_of_row w4 _ 2 _ _ _ qE
      have f3:=cell_of_row w4 _ 3 _ _ _ qE
      have y0:=frozen_of_row w4 (w.heap.size+1) 0 _ _ qE
      have y1:=frozen_of_row w4 (w.heap.size+1) 1 _ _ qE
      have y2:=frozen_of_row w4 (w.heap.size+1) 2 _ _ qE
      have y3:=frozen_of_row w4 (w.heap.size+1) 3 _ _ qE
      simp at e0 e1 e2 e3 f0 f1 f2 f3
      have HX:=Lib_hid (HRET.out w4 n c A ss false [] qE bE (fun h=>by cases h) (fun _=>hno) sE)
      clear pE qE bE sE HRET
      go_wp2_with fail
      show bodyPost _ _ _ _ _ (put4 w4 (w.heap.size+1) (.int .i64 (kd:Int)) (.int .u64 0) (.int .u64 0) (.slice A n c))
      have HX2:=HX.out
      clear HX e0 e1 e2 e3 f0 f1 f2 f3 y0 y1 y2 y3
      generalize put4 w4 (w.heap.size+1) (.int .i64 (kd:Int)) (.int .u64 0) (.int .u64 0) (.slice A n c)=W2 at *
      exact row_ret (b:=false) HX2.2 HX2.1 _ rfl rfl rfl
    · obtain ⟨ch,l,hs'⟩:∃ ch l,s'=ch :: l:=by
       cases s' with
       | nil=>exact absurd rfl hnil
       | cons ch l=>exact ⟨ch,l,rfl⟩
      have hsb:(s' == [])=false:=by rw [hs']; rfl
      have hix:∀ W,(Instr.index 9 (.string ⟨s'.toArray⟩) (.int .i64 0)).run Tryz.prog W=.ok (.int .u8 ((ch.toNat:Nat):Int)) W:=fun W=>by have:=ix_str s' 0 (by rw [hs']; simp) W; simp only [hs',List.getElem_cons_zero] at this ⊢; exact this
      have hext:=ext_drop s' 1
      rw [show s'.drop 1=l by rw [hs']; rfl] at hext
      have hi1:(1:Int)≤(s'.length:Int):=by rw [hs']; simp; omega
      have hll:l.length+1=s'.length:=by rw [hs']; simp
      have HS':=Lib_hid hs'
      have e1':=e1
      rw [hs'] at e1'
      clear hs' hnil
      subst e3
      have hm1:n+1≤maxLen:=by unfold maxLen; omega
      have hm2:(n+1) * 48≤140737488355328:=by omega
      have hown4:w4.ownsRow (w.heap.size+2) 57 4 (.slice A n c) n (vCells us):=by
       have h1:=hT.out.own
       rw [HUN.out] at h1
       exact own_below h1 hb4 (own_lt h1)
      have hnew:=below_new w4 (.cells #[.int .i64 k,.int .u64 (a:Int),.int .u64 (b:Int),.slice A' us2.length c'] 57)
      have hRd:=new_val w4 57 (.node k a b A' c' us2)
      simp only [V.kind,V.a,V.b,V.sl,V.addr,V.parts,V.cap] at hRd
      have p3:=cell_of_row w4 _ 3 _ _ _ p4
      have d0:=cell_of_row w4 _ 0 _ _ _ r4
      have d1:=cell_of_row w4 _ 1 _ _ _ r4
      have d2:=cell_of_row w4 _ 2 _ _ _ r4
      have d3:=cell_of_row w4 _ 3 _ _ _ r4
      simp at p3 d0 d1 d2 d3
      have HE:Hid (∀ (w5:World) (v':Value),Stp (w4.alloc (.cells #[.int .i64 k,.int .u64 (a:Int),.int .u64 (b:Int),.slice A' us2.length c'] 57)) w5 (.slice A n c) v'→w5.ownsRow (w.heap.size+2) 57 4 v' (n+1) (vCells us ++ vCells [.node k a b A' c' us2])→
       TRow 57 (w.heap.size+2) v' (us ++ [V.node k a b A' c' us2]) w5∧(∀ i,i<w.heap.size+2→w5.heap[i]? = w4.heap[i]?)∧w4.heap.size≤w5.heap.size∧Below w.heap.size w w5):=by
       intro w5 v' hst ho
       have hge:=own_ge hT.out.own
       have hns:=hnew.size
       refine ⟨hT.out.push (w2:=w3) (w3:=w4.alloc _) (by omega) hb3 hL hS (HB4.out.trans (hnew.mono (by omega))) hst (by rw [HUN.out]; exact ho),fun i hi=>?_,by have:=hst.grow.size; omega,?_⟩
       · exact (hst.grow.block i (by omega) (fun e=>by have:=hge i e.symm; omega)).trans (hnew.block i (by omega))
       · exact (bW4.trans (hnew.mono (by omega))).trans (hst.below (by omega) fun q hq=>by have:=hge q hq; omega)
      have HPQ:=Lib_hid (And.intro p4 q4)
      have HSP:=Lib_hid (And.intro hlb.out (And.intro e1' e2))
      clear hT hL hS hb3 hR hlb e1 e1' e2 bW4 p4 q4 r4 hb4
      go_upto_region 7 with (at_builtin; (refine wpList_app rfl _ _ 55 rfl (w.heap.size+2) 57 i0 (.agg #[.int .i64 0,.int .u64 0,.int .u64 0,.slice none 0 0]) 4 48 Tryz.underlying55 hi0 hz0 hz1 hz2 rfl (by decide) (.slice A n c) n (vCells us) rfl (own_below hown4 hnew (own_lt hown4)) (w4.heap.size+1) (some ⟨w4.heap.size,0,none⟩) 1 1 (vCells [.node k a b A' c' us2]) rfl hRd (v_one _) hm1 hm2 (by simp; omega) ?_); intro v5 w5 ho5 hs5; have hx:=HE.out w5 v5 hs5 ho5; obtain ⟨A5,c5,rfl,_⟩:=own_form ho5; have p5:=(hx.2.1 w.heap.size (by omega)).trans HPQ.out.1; have g5:=cell_of_row w5 _ 3 _ _ _ p5; have z5:=frozen_of_row w5 w.heap.size 3 _ _ p5; simp at g5)
      have p6:=Joins.block_setCell (i:=3) p5 (.slice A5 (n+1) c5)
      have q6:=(Below.heap_setCell w5 ⟨w.heap.size,3,none⟩ (.slice A5 (n+1) c5) (w.heap.size+1) (by show w.heap.size+1≠w.heap.size; omega)).trans ((hx.2.1 (w.heap.size+1) (by omega)).trans HPQ.out.2)
      have hT6:=hx.1.keep (w':=w5.setCell ⟨w.heap.size,3,none⟩ (.slice A5 (n+1) c5)) (by simp [World.setCell]) (fun g hg _=>Below.heap_setCell w5 ⟨w.heap.size,3,none⟩ _ g (by show g≠w.heap.size; omega))
      have b6:=hx.2.2.2.setCell (p:=⟨w.heap.size,3,none⟩) (by show w.heap.size≤w.heap.size; omega) (.slice A5 (n+1) c5)
      have s6:w.heap.size+2≤(w5.setCell ⟨w.heap.size,3,none⟩ (.slice A5 (n+1) c5)).heap.size:=by have:=hx.2.2.1; simp [World.setCell]; omega
      have HT6:=Lib_hid hT6
      have habs:Hid (V.absL (us ++ [V.node k a b A' c' us2])=V.absL us ++ [t]):=by unfold Hid; rw [absL_map,List.map_append,← absL_map,List.map_cons,List.map_nil,HSP.out.2.2]
      have hulen:Hid ((us ++ [V.node k a b A' c' us2]).length=n+1):=by unfold Hid; rw [List.length_append,HUN.out]; rfl
      clear hx p5 g5 z5 ho5 hs5 hT6 HE hown4 hnew hRd p3 d0 d1 d2 d3
      generalize w5.setCell ⟨w.heap.size,3,none⟩ (.slice A5 (n+1) c5)=w6 at *
      have p6:w6.heap[w.heap.size]? = some (.cells #[.int .i64 (kd:Int),.int .u64 0,.int .u64 0,.slice A5 (n+1) c5] 57 (0,0)):=p6
      by_cases h41:ch=41
      · have hq:((ch.toNat:Int) == 41)=true:=by rw [h41]; decide
        have hspec:listB (rdS d) s=some (V.absL (us ++ [V.node k a b A' c' us2]),l):=by
         rw [HSP.out.1,cont_shut (by rw [← h41]; exact HSP.out.2.1),habs.out]; rfl
        have pE:=p6
        have qE:=q6
        have bE:=b6
        have sE:=s6
        clear p6 q6 b6 s6 h41
        have e0:=cell_of_row w6 _ 0 _ _ _ pE
        have e1:=cell_of_row w6 _ 1 _ _ _ pE
        have e2:=cell_of_row w6 _ 2 _ _ _ pE
        have e3:=cell_of_row w6 _ 3 _ _ _ pE
        have f0:=cell_of_row w6 _ 0 _ _ _ qE
        have f1:=cell_of_row w6 _ 1 _ _ _ qE
        have f2:=cell_of_row w6 _ 2 _ _ _ qE
        have f3:=cell_of_row w6 _ 3 _ _ _ qE
        have y0:=frozen_of_row w6 (w.heap.size+1) 0 _ _ qE
        have y1:=frozen_of_row w6 (w.heap.size+1) 1 _ _ qE
        have y2:=frozen_of_row w6 (w.heap.size+1) 2 _ _ qE
        have y3:=frozen_of_row w6 (w.heap.size+1) 3 _ _ qE
        simp at e0 e1 e2 e3 f0 f1 f2 f3
        have HX:=Lib_hid (HRET.out w6 (n+1) c5 A5 l true [] qE bE (fun _=>⟨_,hspec,hulen.out,HT6.out⟩) (fun h=>by cases h) sE)
        clear pE qE bE sE HRET
        go_wp2_with fail
        show bodyPost _ _ _ _ _ (put4 w6 (w.heap.size+1) (.int .i64 (kd:Int)) (.int .u64 0) (.int .u64 0) (.slice A5 (n+1) c5))
        have HX2:=HX.out
        clear HX e0 e1 e2 e3 f0 f1 f2 f3 y0 y1 y2 y3
        generalize put4 w6 (w.heap.size+1) (.int .i64 (kd:Int)) (.int .u64 0) (.int .u64 0) (.slice A5 (n+1) c5)=W2 at *
        exact row_ret (b:=true) HX2.2 HX2.1 _ rfl rfl rfl
      · have hq:((ch.toNat:Int) == 41)=false:=by
         simp only [beq_eq_false_iff_ne,ne_eq]
         intro e
         apply h41
         have e2:ch.toNat=41:=by omega
         rw [← UInt8.toNat_inj]
         exact e2
        by_cases h44:ch=44
        · have hq2:((ch.toNat:Int) != 44)=false:=by rw [h44]; decide
          have hspec:listB (rdS d) s=(contS (rdS d) l).map fun x=>(V.absL (us ++ [V.node k a b A' c' us2]) ++ x.1,x.2):=by
           rw [HSP.out.1,cont_more (rdS_len d) (by rw [← h44]; exact HSP.out.2.1),habs.out]
           cases contS (rdS d) l with
           | none=>rfl
           | some x=>simp
          have HSPEC:=Lib_hid hspec
          have HML:Hid (strLen (.string ⟨l.toArray⟩)<strLen (.string ⟨ss.toArray⟩)):=by unfold Hid; rw [hSL.out,strLen_eq]; omega
          clear hspec h41 h44
          go_wp2_with fail
          go_roundw
          case rel=>exact ⟨us ++ [.node k a b A' c' us2],A5,n+1,c5,l,by go_num,p6,q6,HT6,HSPEC,by omega,b6,s6⟩
          case measure=>exact HML.out
        · have hq2:((ch.toNat:Int) != 44)=true:=by
           simp only [bne_iff_ne,ne_eq]
           intro e
           apply h44
           have e2:ch.toNat=44:=by omega
           rw [← UInt8.toNat_inj]
           exact e2
          have hno:listB (rdS d) s=none:=by rw [HSP.out.1,cont_bad HSP.out.2.1 h41 h44]; rfl
          have pE:=p6
          have qE:=q6
          have bE:=b6
          have sE:=s6
          clear p6 q6 b6 s6 h41 h44
          have e0:=cell_of_row w6 _ 0 _ _ _ pE
          have e1:=cell_of_row w6 _ 1 _ _ _ pE
          have e2:=cell_of_row w6 _ 2 _ _ _ pE
          have e3:=cell_of_row w6 _ 3 _ _ _ pE
          have f0:=cell_of_row w6 _ 0 _ _ _ qE
          have f1:=cell_of_row w6 _ 1 _ _ _ qE
          have f2:=cell_of_row w6 _ 2 _ _ _ qE
          have f3:=cell_of_row w6 _ 3 _ _ _ qE
          have y0:=frozen_of_row w6 (w.heap.size+1) 0 _ _ qE
          have y1:=frozen_of_row w6 (w.heap.size+1) 1 _ _ qE
          have y2:=frozen_of_row w6 (w.heap.size+1) 2 _ _ qE
          have y3:=frozen_of_row w6 (w.heap.size+1) 3 _ _ qE
          simp at e0 e1 e2 e3 f0 f1 f2 f3
          have HX:=Lib_hid (HRET.out w6 (n+1) c5 A5 l false [] qE bE (fun h=>by cases h) (fun _=>hno) sE)
          clear pE qE bE sE HRET
          go_wp2_with fail
          show bodyPost _ _ _ _ _ (put4 w6 (w.heap.size+1) (.int .i64 (kd:Int)) (.int .u64 0) (.int .u64 0) (.slice A5 (n+1) c5))
          have HX2:=HX.out
          clear HX e0 e1 e2 e3 f0 f1 f2 f3 y0 y1 y2 y3
          generalize put4 w6 (w.heap.size+1) (.int .i64 (kd:Int)) (.int .u64 0) (.int .u64 0) (.slice A5 (n+1) c5)=W2 at *
          exact row_ret (b:=false) HX2.2 HX2.1 _ rfl rfl rfl
end Go.Proofs.YtinmoknbgnngcaaGreatDoor
