/-
  Layer 4: strconv.ParseUint(s, 10, 64); the program's reader: number, mark, must.
-/
import Derived.Test.YtinmoknbgnngcaaGreatDoorZwTft
import Derived.Test.YtinmoknbgnngcaaGreatDoorZwTrw
import Derived.Shelf.Strings.SlTrimAscii
import Derived.Lib.SmallJoins
import GoSem.Claim
import Derived.Test.YtinmoknbgnngcaaGreatDoorZwBse
import Derived.Test.YtinmoknbgnngcaaGreatDoorZwTcf
namespace Go.Proofs.YtinmoknbgnngcaaGreatDoor
open Go Go.RowKit
set_option linter.unusedVariables false
theorem parse_any (B:Nat) (s:List UInt8) (hl:s.length≤1000000) (w:World) (hE:Env B w):Calls Tryz.prog 201 #[.string ⟨s.toArray⟩,.int .i64 10,.int .i64 64] w fun e w'=>Below w.heap.size w w'∧
 ((∃ u:Nat,Lib.parseUintB 64 s=.ok u∧e=.returned (.tuple #[.int .u64 u,.nilIface]))∨((∀ u,Lib.parseUintB 64 s≠.ok u)∧∃ (x:Int) (N:Nat),e=.returned (.tuple #[.int .u64 x,.iface 314 (.pointer (some ⟨N,0,none⟩))]))):=by
 obtain ⟨-,⟨t1,p1,hv1⟩,⟨t2,p2,hv2⟩⟩:=hE w fun _ _=>rfl
 have hsz:(⟨s.toArray⟩:ByteArray).size=s.length:=by simp [ByteArray.size]
 have hd:(⟨s.toArray⟩:ByteArray).data.toList=s:=by simp
 cases h:Lib.parseUintB 64 s with
 | ok u=>
  refine (Tryz.strconv_ParseUint_10_at64_ok ⟨s.toArray⟩ (by omega) u (by rw [hd]; exact h) w).mono fun e w' ⟨he,hw⟩=>⟨?_,.inl ⟨u,rfl,he⟩⟩
  rcases hw with rfl | rfl
  · exact Below.refl _ _
  · exact Joins.below_bytesWorld _ _ _ _ (Nat.le_refl _)
 | range=>exact (Tryz.strconv_ParseUint_10_at64_range_var ⟨s.toArray⟩ (by omega) (by rw [hd]; exact h) t2 p2 w hv2).mono fun e w' ⟨N,he,_,_,hb⟩=>⟨hb,.inr ⟨(fun u e=>by cases e),_,N,he⟩⟩
 | _=>exact (Tryz.strconv_ParseUint_10_at64_syntax_var ⟨s.toArray⟩ (by omega) (by rw [hd]; exact h) t1 p1 w hv1).mono fun e w' ⟨N,he,_,_,hb⟩=>⟨hb,.inr ⟨(fun u e=>by cases e),_,N,he⟩⟩
def digsL:List UInt8:=[48,49,50,51,52,53,54,55,56,57]
theorem trim_any (s:List UInt8) (w:World):Calls Tryz.prog 268 #[.string ⟨s.toArray⟩,.string ⟨#[48,49,50,51,52,53,54,55,56,57]⟩] w fun e w'=>e=.returned (.string ⟨(Lib.trimLeftS s digsL).toArray⟩)∧Below w.heap.size w w':=by
 have:=Any.strings_TrimLeft_laid Tryz.lays161 (by kernel_rfl) ⟨s.toArray⟩ ⟨#[48,49,50,51,52,53,54,55,56,57]⟩ w (by decide) (ascii_of_all (by decide))
 have h2:Calls Tryz.prog (Tryz.lays161_ren.f 161) #[.string ⟨s.toArray⟩,.string ⟨#[48,49,50,51,52,53,54,55,56,57]⟩] w fun e w'=>e=.returned (.string ⟨(Lib.trimLeftS s digsL).toArray⟩)∧Below w.heap.size w w':=by simpa [digsL] using this
 exact h2
def restS (s:List UInt8):List UInt8:=Lib.trimLeftS s digsL
def digS (s:List UInt8):List UInt8:=s.take (s.length - (restS s).length)
def numS (s:List UInt8):Option (Nat×List UInt8):=
 match Lib.parseUintB 64 (digS s) with
 | .ok v=>if Lib.decDigits v=digS s then some (v,restS s) else none
 | _=>none
theorem rest_len (s:List UInt8):(restS s).length≤s.length:=by
 unfold restS Lib.trimLeftS
 exact (List.dropWhile_suffix _).length_le
theorem numS_lt {s r:List UInt8} {v:Nat} (h:numS s=some (v,r)):v<18446744073709551616∧r.length≤s.length:=by
 unfold numS at h
 split at h
 · rename_i u hu
   split at h
   · injection h with h
     injection h with h1 h2
     subst h1 h2
     refine ⟨?_,rest_len s⟩
     have:=Lib.parseUintB_le hu
     omega
   · cases h
 · cases h
def RdrC (m:Int) (s:List UInt8) (bad:Bool):Obj:=.cells #[.int .i64 m,.string ⟨s.toArray⟩,.bool bad] 304 (0,0)
def NumEnd4 (m:Int) (s:List UInt8) (bad:Bool) (g:Nat) (w:World) (e:Ending) (w':World):Prop:=
 w.grownBy w' (some g)∧((∃ v r,numS s=some (v,r)∧e=.returned (.int .u64 (v:Int))∧w'.heap[g]? = some (RdrC m r bad))∨(numS s=none∧e=.returned (.int .u64 0)∧w'.heap[g]? = some (RdrC m s true)))
theorem numS_ok {s:List UInt8} {u:Nat} (h:Lib.parseUintB 64 (digS s)=.ok u):numS s=if Lib.decDigits u=digS s then some (u,restS s) else none:=by
 unfold numS; rw [h]
theorem numS_bad {s:List UInt8} (h:∀ u,Lib.parseUintB 64 (digS s)≠.ok u):numS s=none:=by
 unfold numS
 split
 · rename_i u hu; exact absurd hu (h u)
 · rfl
set_option maxRecDepth 100000 in
set_option maxHeartbeats 1600000 in
theorem pnumber_any (m:Int) (s:List UInt8) (bad:Bool) (B g:Nat) (w:World) (hg:w.heap[g]? = some (RdrC m s bad)) (hE:Env B w) (hB:B≤g) (hl:s.length≤1000000) :
 Calls Tryz.prog 253 #[.pointer (some ⟨g,0,none⟩)] w (NumEnd4 m s bad g w):=by
 have hgl:=(Array.getElem?_eq_some_iff.1 hg).1
 have TR:=trim_any s w
 have hsl:∀ W,(Instr.slice 9 (.string ⟨s.toArray⟩) none (some (.int .i64 ((s.length:Int) - ((restS s).length:Int)))) none).run Tryz.prog W=.ok (.string ⟨(digS s).toArray⟩) W:=fun W=>by
  have:=rest_len s
  rw [run_slice_string_h W 9 ⟨s.toArray⟩ Tryz.underlying9 .i64 ((s.length:Int) - ((restS s).length:Int)) (by omega) (by simp [ByteArray.size]; omega)]
  congr 2
  apply ByteArray.ext
  rw [show ((s.length:Int) - ((restS s).length:Int)).toNat=s.length - (restS s).length by omega]
  simp [ByteArray.data_extract,digS]
 have hdl:(digS s).length≤1000000:=by unfold digS; rw [List.length_take]; omega
 have HPA:Hid (∀ W,Below w.heap.size w W→Calls Tryz.prog 201 #[.string ⟨(digS s).toArray⟩,.int .i64 10,.int .i64 64] W fun e w'=>Below W.heap.size W w'∧
  ((∃ u:Nat,Lib.parseUintB 64 (digS s)=.ok u∧e=.returned (.tuple #[.int .u64 u,.nilIface]))∨((∀ u,Lib.parseUintB 64 (digS s)≠.ok u)∧∃ (x:Int) (N:Nat),e=.returned (.tuple #[.int .u64 x,.iface 314 (.pointer (some ⟨N,0,none⟩))])))):=fun W h=>parse_any B (digS s) hdl W (hE.under h (by omega))
 have HFM:Hid (∀ (W:World) (u:Nat),Below w.heap.size w W→u<18446744073709551616→Calls Tryz.prog 200 #[.int .u64 u,.int .i64 10] W fun e w'=>e=.returned (.string ⟨(Lib.decDigits u).toArray⟩)∧Below W.heap.size W w'):=fun W u h hu=>fmt_any B u hu W (hE.under h (by omega))
 have HOK:Hid (∀ u,Lib.parseUintB 64 (digS s)=.ok u→numS s=if Lib.decDigits u=digS s then some (u,restS s) else none):=fun u h=>numS_ok h
 have HBD:Hid ((∀ u,Lib.parseUintB 64 (digS s)≠.ok u)→numS s=none):=fun h=>numS_bad h
 have HLT:Hid (∀ u,Lib.parseUintB 64 (digS s)=.ok u→u<18446744073709551616):=fun u h=>by have:=Lib.parseUintB_le h; omega
 have hrl:=rest_len s
 have TR:Calls Tryz.prog 268 #[.string ⟨s.toArray⟩,.string ⟨#[48,49,50,51,52,53,54,55,56,57]⟩] w fun e w'=>e=.returned (.string ⟨(restS s).toArray⟩)∧Below w.heap.size w w':=TR
 have hwr:IntKind.i64.wrap ((s.length:Int) - ((restS s).length:Int))=(s.length:Int) - ((restS s).length:Int):=by rw [IntKind.wrap_i64]; omega
 have c1:=cell_of_row w _ 1 _ _ _ hg
 simp at c1
 have HN:Hid (NumEnd4 m s bad g w=fun e w'=>w.grownBy w' (some g)∧((∃ v r,numS s=some (v,r)∧e=.returned (.int .u64 (v:Int))∧w'.heap[g]? = some (RdrC m r bad))∨(numS s=none∧e=.returned (.int .u64 0)∧w'.heap[g]? = some (RdrC m s true)))):=rfl
 have HNE:Hid (∀ (w':World) (e:Ending),w.grownBy w' (some g)→((∃ v r,numS s=some (v,r)∧e=.returned (.int .u64 (v:Int))∧w'.heap[g]? = some (RdrC m r bad))∨(numS s=none∧e=.returned (.int .u64 0)∧w'.heap[g]? = some (RdrC m s true)))→NumEnd4 m s bad g w e w'):=fun w' e h1 h2=>⟨h1,h2⟩
 clear HN hdl hE
 generalize hrs:restS s=rs at *
 generalize hds:digS s=ds at *
 generalize hnm:numS s=nm at *
 clear hrs hds hnm
 go_enter Tryz.func253,Tryz.ntmps253
 go_wp2_with fail
 refine TR.mono ?_
 rintro e w1 ⟨rfl,hb1⟩
 have hg1:=(hb1.block g hgl).trans hg
 have c11:=cell_of_row w1 _ 1 _ _ _ hg1
 simp at c11
 clear TR c1
 go_wp2_with fail
 go_quiet (fail)
 go_wp2_with fail
 refine (HPA.out _ (by exact below_drew_ hb1)).mono ?_
 rintro e w2 ⟨hb2',hr⟩
 have hb2:Below w.heap.size w w2:=(below_drew_ hb1:Below w.heap.size w (w1.drewN nq)).trans (hb2'.mono hb1.size)
 have hg2:=(hb2.block g hgl).trans hg
 rcases hr with ⟨u,hu,rfl⟩ | ⟨hu,x,N,rfl⟩
 · have hF:=HFM.out w2 u hb2 (HLT.out u hu)
   have hN2:=HOK.out u hu
   go_wp2_with fail
   refine hF.mono ?_
   rintro e w3 ⟨rfl,hb3⟩
   have hb3w:=hb2.trans (hb3.mono hb2.size)
   have hg3:=(hb3w.block g hgl).trans hg
   have c1:=cell_of_row w3 _ 1 _ _ _ hg3
   have c2:=cell_of_row w3 _ 2 _ _ _ hg3
   have z1:=frozen_of_row w3 g 1 _ _ hg3
   have z2:=frozen_of_row w3 g 2 _ _ hg3
   simp at c1 c2
   have hgr:=grow_below hb3w (some g)
   have HB1:Hid ((w3.setCell ⟨g,1,none⟩ (.string ⟨rs.toArray⟩)).heap[g]? = some (RdrC m rs bad)):=Joins.block_setCell (i:=1) hg3 _
   have HB2:Hid ((w3.setCell ⟨g,2,none⟩ (.bool true)).heap[g]? = some (RdrC m s true)):=Joins.block_setCell (i:=2) hg3 _
   generalize hdd:Lib.decDigits u=dd at *
   by_cases hq:dd=ds
   · have hqb:(dd == ds)=true:=by simp [hq]
     have HX:Hid (NumEnd4 m s bad g w (.returned (.int .u64 (u:Int))) (w3.setCell ⟨g,1,none⟩ (.string ⟨rs.toArray⟩))):=HNE.out _ _ (hgr.trans (grow_set w3 g 1 _)) (.inl ⟨u,rs,by rw [hN2,if_pos hq],rfl,HB1.out⟩)
     clear hq hN2 hF
     go_wp2_with fail
     go_ret
     exact HX.out
   · have hqb:(dd == ds)=false:=by simp [hq]
     have HX:Hid (NumEnd4 m s bad g w (.returned (.int .u64 0)) (w3.setCell ⟨g,2,none⟩ (.bool true))):=HNE.out _ _ (hgr.trans (grow_set w3 g 2 _)) (.inr ⟨by rw [hN2,if_neg hq],rfl,HB2.out⟩)
     clear hq hN2 hF
     go_wp2_with fail
     go_ret
     exact HX.out
 · have hN2:=HBD.out hu
   have c1:=cell_of_row w2 _ 1 _ _ _ hg2
   have c2:=cell_of_row w2 _ 2 _ _ _ hg2
   have z1:=frozen_of_row w2 g 1 _ _ hg2
   have z2:=frozen_of_row w2 g 2 _ _ hg2
   simp at c1 c2
   have hgr:=grow_below hb2 (some g)
   have HB2:Hid ((w2.setCell ⟨g,2,none⟩ (.bool true)).heap[g]? = some (RdrC m s true)):=Joins.block_setCell (i:=2) hg2 _
   have HX:Hid (NumEnd4 m s bad g w (.returned (.int .u64 0)) (w2.setCell ⟨g,2,none⟩ (.bool true))):=HNE.out _ _ (hgr.trans (grow_set w2 g 2 _)) (.inr ⟨hN2,rfl,HB2.out⟩)
   clear hN2 hu
   go_wp2_with fail
   go_ret
   exact HX.out
def MarkEnd (m:Int) (s x:List UInt8) (bad:Bool) (g:Nat) (w:World) (e:Ending) (w':World):Prop:=
 e=.returned (.bool (Lib.hasPrefix s x))∧w.grownBy w' (some g)∧w'.heap[g]? = some (RdrC m (Lib.trimPrefix s x) bad)
set_option maxRecDepth 100000 in
theorem mark_any (m:Int) (s x:List UInt8) (bad:Bool) (g:Nat) (w:World) (hg:w.heap[g]? = some (RdrC m s bad)) :
 Calls Tryz.prog 267 #[.pointer (some ⟨g,0,none⟩),.string ⟨x.toArray⟩] w (MarkEnd m s x bad g w):=by
 have CP:Calls Tryz.prog 272 #[.string ⟨s.toArray⟩,.string ⟨x.toArray⟩] w fun e w'=>e=.returned (.tuple #[.string ⟨(Lib.trimPrefix s x).toArray⟩,.bool (Lib.hasPrefix s x)])∧w'=w:=by
  have:=Tryz.strings_CutPrefix ⟨s.toArray⟩ ⟨x.toArray⟩ w
  simpa using this
 have c1:=cell_of_row w _ 1 _ _ _ hg
 have z1:=frozen_of_row w g 1 _ _ hg
 simp at c1
 have HB1:Hid ((w.setCell ⟨g,1,none⟩ (.string ⟨(Lib.trimPrefix s x).toArray⟩)).heap[g]? = some (RdrC m (Lib.trimPrefix s x) bad)):=Joins.block_setCell (i:=1) hg _
 have HX:Hid (MarkEnd m s x bad g w (.returned (.bool (Lib.hasPrefix s x))) (w.setCell ⟨g,1,none⟩ (.string ⟨(Lib.trimPrefix s x).toArray⟩))):=⟨rfl,grow_set w g 1 _,HB1.out⟩
 clear HB1 hg
 generalize Lib.trimPrefix s x=tp at *
 generalize Lib.hasPrefix s x=hp at *
 go_enter Tryz.func267,Tryz.ntmps267
 go_wp2_with (go_at_call 272; refine CP.mono ?_; rintro e w' ⟨rfl,rfl⟩)
 go_ret
 exact HX.out
def MustEnd (m:Int) (s x:List UInt8) (bad:Bool) (g:Nat) (w:World) (e:Ending) (w':World):Prop:=
 e=.returned (.tuple #[])∧w.grownBy w' (some g)∧w'.heap[g]? = some (RdrC m (Lib.trimPrefix s x) (bad || !Lib.hasPrefix s x))
set_option maxRecDepth 100000 in
theorem must_any (m:Int) (s x:List UInt8) (bad:Bool) (g:Nat) (w:World) (hg:w.heap[g]? = some (RdrC m s bad)) :
 Calls Tryz.prog 252 #[.pointer (some ⟨g,0,none⟩),.string ⟨x.toArray⟩] w (MustEnd m s x bad g w):=by
 have MK:=mark_any m s x bad g w hg
 have HM:Hid (∀ w',w.grownBy w' (some g)→w'.heap[g]? = some (RdrC m (Lib.trimPrefix s x) (bad || !Lib.hasPrefix s x))→MustEnd m s x bad g w (.returned (.tuple #[])) w'):=fun w' h1 h2=>⟨rfl,h1,h2⟩
 go_enter Tryz.func252,Tryz.ntmps252
 go_wp2_with fail
 refine MK.mono ?_
 rintro e w1 ⟨rfl,hgr,hg1⟩
 clear MK
 cases hp:Lib.hasPrefix s x with
 | true=>
  have HX:=Lib_hid (HM.out w1 hgr (by rw [hp]; simpa using hg1))
  clear hg1
  go_wp2_with fail
  go_end0
  exact HX.out
 | false=>
  have z2:=frozen_of_row w1 g 2 _ _ hg1
  have c2:=cell_of_row w1 _ 2 _ _ _ hg1
  simp at c2
  have HB2:Hid ((w1.setCell ⟨g,2,none⟩ (.bool true)).heap[g]? = some (RdrC m (Lib.trimPrefix s x) true)):=Joins.block_setCell (i:=2) hg1 _
  have HX:Hid (MustEnd m s x bad g w (.returned (.tuple #[])) (w1.setCell ⟨g,2,none⟩ (.bool true))):=HM.out _ (hgr.trans (grow_set w1 g 2 _)) (by rw [hp]; simpa using HB2.out)
  clear hg1
  go_wp2_with fail
  go_end0
  exact HX.out
end Go.Proofs.YtinmoknbgnngcaaGreatDoor
namespace Go.Proofs.YtinmoknbgnngcaaGreatDoor
def enc (v:Nat):List Nat:=if v<128 then [v] else (v % 128+128) :: enc (v / 128)
termination_by v
decreasing_by omega
theorem enc_lt {v:Nat} (h:v<128):enc v=[v]:=by rw [enc,if_pos h]
theorem enc_ge {v:Nat} (h:128≤v):enc v=(v % 128+128) :: enc (v / 128):=by rw [enc,if_neg (by omega)]
theorem enc_pos (v:Nat):1≤(enc v).length:=by
 by_cases h:v<128
 · rw [enc_lt h]; simp
 · rw [enc_ge (by omega)]; simp
theorem enc_byte (v:Nat):∀ c∈enc v,c<256:=by
 induction v using Nat.strongRecOn with
 | ind v ih=>
  intro c hc
  by_cases h:v<128
  · rw [enc_lt h] at hc; simp at hc; omega
  · rw [enc_ge (by omega)] at hc
    rcases List.mem_cons.1 hc with h1 | h1
    · omega
    · exact ih (v / 128) (by omega) c h1
theorem enc_le (k:Nat):∀ v,v<128 ^ (k+1)→(enc v).length≤k+1:=by
 induction k with
 | zero=>intro v h; rw [enc_lt (by simpa using h)]; simp
 | succ k ih=>
  intro v h
  by_cases h1:v<128
  · rw [enc_lt h1]; simp
  · rw [enc_ge (by omega)]
    have:=ih (v / 128) (by rw [Nat.pow_succ] at h; exact Nat.div_lt_of_lt_mul (by omega))
    simp only [List.length_cons]; omega
theorem enc_ten {v:Nat} (h:v<18446744073709551616):(enc v).length≤10:=enc_le 9 v (Nat.lt_of_lt_of_le h (by decide))
def val:List Nat→Nat
 | []=>0
 | c :: r=>c % 128+128 * val r
theorem val_enc (v:Nat):val (enc v)=v:=by
 induction v using Nat.strongRecOn with
 | ind v ih=>
  by_cases h:v<128
  · rw [enc_lt h]; simp [val]; omega
  · rw [enc_ge (by omega)]; simp only [val]; rw [ih (v / 128) (by omega)]; omega
inductive Got | num (v n:Nat) | err (e:Nat)
def mayEnd (c i:Nat):Bool:=if i=9 then c == 1 else (c != 0 || i == 0)
def scan:Nat→Nat→Nat→List Nat→Got
 | 0,_,_,_=>.err 10
 | _+1,_,_,[]=>.err 4
 | k+1,i,v,c :: r=>if 128≤c then scan k (i+1) (v+c % 128 * 128 ^ i) r else if mayEnd c i then .num (v+c * 128 ^ i) (i+1) else .err 10
def got (l:List Nat):Got:=scan 10 0 0 l
def ans (a:Nat):Got→Nat×Nat×Nat
 | .num v k=>(v,a+k,0)
 | .err e=>(0,0,e)
def getS (l:List Nat) (at_:Int):Nat×Nat×Nat:=
 if at_<0∨(l.length:Int)<at_ then (0,0,2) else
  ans at_.toNat (got (l.drop at_.toNat))
def ScanAt (r:List Nat) (k v:Nat):Prop:=got r=scan (10 - k) k v (r.drop k)
theorem ScanAt.zero (r:List Nat):ScanAt r 0 0:=rfl
theorem ScanAt.more {r:List Nat} {k v v':Nat} (h:ScanAt r k v) (hk:k<10) (hl:k<r.length) (hc:128≤r.getD k 0) (hv:k<9→v'=v+r.getD k 0 % 128 * 128 ^ k):ScanAt r (k+1) v':=by
 unfold ScanAt at *
 rw [h]
 have e:r.drop k=r[k] :: r.drop (k+1):=List.drop_eq_getElem_cons hl
 have e2:r.getD k 0=r[k]:=by rw [List.getD_eq_getElem?_getD,List.getElem?_eq_getElem hl]; rfl
 rw [e2] at hc hv
 rw [e]
 obtain ⟨m,hm⟩:∃ m,10 - k=m+1:=⟨9 - k,by omega⟩
 rw [hm,show 10 - (k+1)=m by omega]
 simp only [scan,if_pos hc]
 by_cases h9:k<9
 · rw [hv h9]
 · obtain rfl:m=0:=by omega
   rfl
theorem ScanAt.last {r:List Nat} {k v:Nat} (h:ScanAt r k v) (hk:k<10) (hl:k<r.length) (hc:r.getD k 0<128) :
 got r=if mayEnd (r.getD k 0) k then .num (v+r.getD k 0 * 128 ^ k) (k+1) else .err 10:=by
 have e:r.drop k=r[k] :: r.drop (k+1):=List.drop_eq_getElem_cons hl
 have e2:r.getD k 0=r[k]:=by rw [List.getD_eq_getElem?_getD,List.getElem?_eq_getElem hl]; rfl
 rw [e2] at hc ⊢
 unfold ScanAt at h
 rw [h,e]
 obtain ⟨m,hm⟩:∃ m,10 - k=m+1:=⟨9 - k,by omega⟩
 rw [hm]
 simp only [scan]
 rw [if_neg (by omega)]
theorem ScanAt.end_ {r:List Nat} {k v:Nat} (h:ScanAt r k v) (hk:k≤10) (hl:k=min r.length 10):got r=.err (if 10≤r.length then 10 else 4):=by
 unfold ScanAt at h
 by_cases h10:10≤r.length
 · obtain rfl:k=10:=by omega
   rw [h,if_pos h10]; rfl
 · rw [h,if_neg h10,List.drop_eq_nil_of_le (by omega)]
   obtain ⟨m,hm⟩:∃ m,10 - k=m+1:=⟨9 - k,by omega⟩
   rw [hm]; rfl
theorem val_take_succ (r:List Nat):∀ k,k<r.length→val (r.take (k+1))=val (r.take k)+r.getD k 0 % 128 * 128 ^ k:=by
 induction r with
 | nil=>intro k h; simp at h
 | cons c r ih=>
  intro k h
  cases k with
  | zero=>simp [val]
  | succ k=>
   simp only [List.take_succ_cons,val]
   rw [ih k (by simpa using h),Nat.pow_succ]
   simp only [List.getD_cons_succ]
   rw [Nat.mul_add,Nat.add_assoc]
   congr 2
   rw [Nat.mul_comm 128,Nat.mul_assoc]
def AllMore (r:List Nat) (k:Nat):Prop:=∀ j,j<k→128≤r.getD j 0
theorem AllMore.zero (r:List Nat):AllMore r 0:=fun j h=>by omega
theorem AllMore.succ {r:List Nat} {k:Nat} (h:AllMore r k) (e:128≤r.getD k 0):AllMore r (k+1):=fun j hj=>by
 rcases Nat.lt_or_ge j k with h1 | h1
 · exact h j h1
 · obtain rfl:j=k:=by omega
   exact e
theorem AllMore.scan {r:List Nat} (k:Nat) (h:AllMore r k) (hk:k≤10) (hl:k≤r.length):ScanAt r k (val (r.take k)):=by
 induction k with
 | zero=>exact ScanAt.zero r
 | succ k ih=>exact (ih (fun j hj=>h j (by omega)) (by omega) (by omega)).more (by omega) (by omega) (h k (by omega)) (fun _=>val_take_succ r k (by omega))
theorem val_lt (t:List Nat):val t<128 ^ t.length:=by
 induction t with
 | nil=>simp [val]
 | cons c t ih=>simp only [val,List.length_cons,Nat.pow_succ]; omega
theorem val_snoc (t:List Nat) (c:Nat):val (t ++ [c])=val t+c % 128 * 128 ^ t.length:=by
 induction t with
 | nil=>simp [val]
 | cons x t ih=>
  simp only [List.cons_append,val,List.length_cons]
  rw [ih,Nat.pow_succ,Nat.mul_add,Nat.add_assoc]
  congr 2
  rw [Nat.mul_comm 128,Nat.mul_assoc]
theorem enc_form (c:Nat) (hc:c<128) (t:List Nat):(∀ x∈t,128≤x∧x<256)→(c≠0∨t=[])→enc (val (t ++ [c]))=t ++ [c]:=by
 induction t with
 | nil=>intro _ _; simp only [List.nil_append,val]; rw [show c % 128+128 * 0=c by omega,enc_lt hc]
 | cons x t ih=>
  intro h h0
  have hc0:c≠0:=by rcases h0 with h | h; exact h; cases h
  have e:=ih (fun y hy=>h y (List.mem_cons_of_mem _ hy)) (.inl hc0)
  have hx:=h x (List.mem_cons_self ..)
  have hv:1≤val (t ++ [c]):=by
   rcases Nat.eq_zero_or_pos (val (t ++ [c])) with hz | hz
   · rw [hz,enc_lt (by omega)] at e
     cases t with
     | nil=>simp at e; omega
     | cons y t=>simp at e
   · exact hz
  simp only [List.cons_append,val]
  rw [enc_ge (by omega),show (x % 128+128 * val (t ++ [c])) % 128+128=x by omega,show (x % 128+128 * val (t ++ [c])) / 128=val (t ++ [c]) by omega,e]
theorem enc_last (c:Nat) (t:List Nat):∀ v,enc v=t ++ [c]→(c≠0∨t=[]):=by
 induction t with
 | nil=>intro v h; exact .inr rfl
 | cons x t ih=>
  intro v h
  by_cases hv:v<128
  · rw [enc_lt hv] at h; simp at h
  · rw [enc_ge (by omega)] at h
    simp only [List.cons_append,List.cons.injEq] at h
    rcases ih _ h.2 with h1 | h1
    · exact .inl h1
    · subst h1
      have h2:=h.2
      by_cases hw:v / 128<128
      · rw [enc_lt hw] at h2; simp at h2; left; omega
      · rw [enc_ge (by omega)] at h2; have:=enc_pos (v / 128 / 128); simp at h2
        rw [h2.2] at this; simp at this
theorem form_iff (t:List Nat) (c:Nat) (ht:∀ x∈t,128≤x∧x<256) (hc:c<128) (hl:t.length≤9) :
 (mayEnd c t.length=true→val (t ++ [c])<18446744073709551616∧enc (val (t ++ [c]))=t ++ [c])∧
 (∀ v,v<18446744073709551616→enc v=t ++ [c]→mayEnd c t.length=true):=by
 have hs:=val_snoc t c
 have hlt:=val_lt t
 rw [Nat.mod_eq_of_lt hc] at hs
 constructor
 · intro h
   by_cases h9:t.length=9
   · have hc1:c=1:=by simpa [mayEnd,h9] using h
     subst hc1
     rw [h9] at hs hlt
     have e9:128 ^ 9=9223372036854775808:=by decide
     rw [e9] at hs hlt
     exact ⟨by omega,enc_form 1 (by omega) t ht (.inl (by omega))⟩
   · have h0:c≠0∨t=[]:=by
      rcases t with _ | ⟨x,t⟩
      · exact .inr rfl
      · left; intro hz; subst hz; exact absurd h (by unfold mayEnd; rw [if_neg h9]; simp)
     refine ⟨?_,enc_form c hc t ht h0⟩
     have h1:=val_lt (t ++ [c])
     have h2:128 ^ (t ++ [c]).length≤128 ^ 9:=Nat.pow_le_pow_right (by decide) (by simp; omega)
     have e9:128 ^ 9=9223372036854775808:=by decide
     omega
 · intro v hv he
   have h0:=enc_last c t v he
   by_cases h9:t.length=9
   · have hval:=val_enc v
     rw [he,hs,h9] at hval
     have e9:128 ^ 9=9223372036854775808:=by decide
     rw [e9] at hval
     have hc0:c≠0:=by
      rcases h0 with h0 | h0
      · exact h0
      · subst h0; simp at h9
     have:c=1:=by omega
     subst this
     simp [mayEnd,h9]
   · unfold mayEnd
     rw [if_neg h9]
     rcases h0 with h0 | h0
     · simp [h0]
     · subst h0; simp
theorem got_by {r:List Nat} {k:Nat} (hb:∀ x∈r,x<256) (h:AllMore r k) (hk:k<10) (hl:k<r.length) (hc:r.getD k 0<128) :
 ∀ v,v=val (r.take (k+1)) % 18446744073709551616→got r=if enc v=r.take (k+1) then .num v (k+1) else .err 10:=by
 intro v hv
 have e:r.take (k+1)=r.take k ++ [r.getD k 0]:=by
  rw [List.take_succ_eq_append_getElem hl,List.getD_eq_getElem?_getD,List.getElem?_eq_getElem hl]; rfl
 have hlt:(r.take k).length=k:=by rw [List.length_take]; omega
 have ht:∀ x∈r.take k,128≤x∧x<256:=by
  intro x hx
  refine ⟨?_,hb x (List.mem_of_mem_take hx)⟩
  obtain ⟨j,hj,rfl⟩:=List.mem_iff_getElem.1 hx
  have:=h j (by omega)
  rw [List.getD_eq_getElem?_getD,List.getElem?_eq_getElem (by omega)] at this
  simpa using this
 have F:=form_iff (r.take k) (r.getD k 0) ht hc (by omega)
 rw [hlt] at F
 have L:=(h.scan k (by omega) (by omega)).last hk hl hc
 have hs:=val_snoc (r.take k) (r.getD k 0)
 rw [hlt,Nat.mod_eq_of_lt hc] at hs
 rw [L,← hs,e]
 cases hm:mayEnd (r.getD k 0) k with
 | true=>
  obtain ⟨h1,h2⟩:=F.1 hm
  rw [e,Nat.mod_eq_of_lt h1] at hv
  subst hv
  rw [if_pos rfl,if_pos h2]
 | false=>
  rw [if_neg (by simp),if_neg]
  intro he
  have:=F.2 v (by rw [hv]; exact Nat.mod_lt _ (by decide)) he
  rw [hm] at this
  cases this
theorem got_ten {r:List Nat} (h:AllMore r 10) (hl:10≤r.length):got r=.err 10:=by
 rw [(h.scan 10 (by omega) (by omega)).end_ (by omega) (by omega),if_pos hl]
theorem got_short {r:List Nat} {k:Nat} (h:AllMore r k) (hk:k<10) (hl:k=r.length):got r=.err 4:=by
 rw [(h.scan k (by omega) (by omega)).end_ (by omega) (by omega),if_neg (by omega)]
end Go.Proofs.YtinmoknbgnngcaaGreatDoor
namespace Go.Proofs.YtinmoknbgnngcaaGreatDoor
open Go Go.RowKit
set_option linter.unusedVariables false
theorem ends_any (c i:Nat) (w:World) (hc:c<256) (hi:i<100) :
 Calls Tryz.prog 134 #[.int .u8 c,.int .i64 i] w fun e w'=>e=.returned (.bool (mayEnd c i))∧w=w':=by
 have b9:=int_beq i 9
 have b1:=int_beq c 1
 have b0:=int_bne c 0
 have bi:=int_beq i 0
 by_cases h9:i=9
 · subst h9
   go_enter Tryz.func134,Tryz.ntmps134
   go_wp2
   go_ret
   exact ⟨by simp only [mayEnd,if_true]; rw [← b1]; rfl,rfl⟩
 · have f9:((i:Int) == 9)=false:=by rw [show (9:Int)=((9:Nat):Int) from rfl,b9]; simpa using h9
   by_cases h0:c=0
   · subst h0
     go_enter Tryz.func134,Tryz.ntmps134
     go_wp2
     go_ret
     exact ⟨by simp only [mayEnd,if_neg h9]; rw [← bi]; rfl,rfl⟩
   · have f0:((c:Int) != 0)=true:=by rw [show (0:Int)=((0:Nat):Int) from rfl,b0]; simpa using h0
     clear b9 b1 b0 bi
     go_enter Tryz.func134,Tryz.ntmps134
     go_wp2
     go_ret
     exact ⟨by simp [mayEnd,h9,h0],rfl⟩
set_option maxRecDepth 100000 in
theorem stand_any (B:Nat) (A:Option Addr) (n c:Nat) (xs:List Value) (v:Nat) (w:World) (hv:(v:Int)≤18446744073709551615)
 (hown:w.ownsRow B 5 1 (.slice A n c) n xs) (hB:B≤w.heap.size) (hn:n≤140737488355300) :
 Calls Tryz.prog 125 #[.slice A n c,.int .u64 v] w (Grew 5 B (.slice A n c) (xs ++ bs (enc v)) w):=by
 have hten:=enc_ten (v:=v) (by omega)
 obtain ⟨i0,hi,hz0,hz1,hz2⟩:=info_parts Tryz.info5
 go_enter Tryz.func125,Tryz.ntmps125
 go_wp2
 go_loopw [0,1] (fun b x wr=>∃ (y:Nat) (l:List Nat) (A':Option Addr) (n' c':Nat),x=.int .u64 y∧b=.slice A' n' c'∧(y:Int)≤18446744073709551615∧enc v=l ++ enc y∧n'=n+l.length∧
  wr.ownsRow B 5 1 (.slice A' n' c') n' (xs ++ bs l)∧Stp w wr (.slice A n c) (.slice A' n' c')) (fun _ x _=>(intOf x).toNat)
 case atStart=>exact ⟨v,[],A,n,c,rfl,rfl,hv,rfl,rfl,by simpa [bs] using hown,Stp.refl _ _⟩
 case round=>
  obtain ⟨y,l,A',n',c',rfl,rfl,h3,h4,h5,h6,h7⟩:=hrel
  have hl:l.length+(enc y).length≤10:=by rw [h4] at hten; simpa using hten
  have hpos:=enc_pos y
  have hsz:=h7.grow.size
  have hb':n'≤140737488355309:=by omega
  have H5:Hid (n'=n+l.length):=h5
  have H4:Hid (enc v=l ++ enc y):=h4
  have hm1:n'+1≤maxLen:=by unfold maxLen; omega
  have hm2:(n'+1) * 1≤140737488355328:=by omega
  have hsB:∀ o,B≤(wr.alloc o).heap.size:=by intro o; simp; omega
  clear h5 h4
  by_cases hy:y<128
  · go_wp2_with (at_builtin; (refine wpList_app rfl _ _ 22 rfl B 5 i0 (.int .u8 0) 1 1 Tryz.underlying22 hi hz0 hz1 hz2 rfl (by decide) _ n' _ rfl (h6.alloc _) (wr.heap.size+1) (some ⟨wr.heap.size,0,none⟩) 1 1 (bs [y]) rfl (Rd.new1 wr y 5) (bs_one _) hm1 hm2 (hsB _) ?_); intro v' w1 hown' hst)
    obtain ⟨A2,c2,rfl,_⟩:=own_form hown'
    go_wp2
    go_ret
    refine ⟨A2,n'+1,c2,rfl,?_,h7.trans ((Stp.alloc _ _ _).trans hst)⟩
    rw [H4.out,enc_lt hy,bs_append,← List.append_assoc]
    exact hown'
  · have he:=enc_ge (v:=y) (by omega)
    have hc:(y:Int) % 128+128=((y % 128+128:Nat):Int):=by omega
    have HC:Hid ((y:Int) % 128+128=((y % 128+128:Nat):Int)):=hc
    have HE:Hid (enc y=(y % 128+128) :: enc (y / 128)):=he
    clear hc he
    go_wp2_with (at_builtin; (refine wpList_app rfl _ _ 22 rfl B 5 i0 (.int .u8 0) 1 1 Tryz.underlying22 hi hz0 hz1 hz2 rfl (by decide) _ n' _ rfl (h6.alloc _) (wr.heap.size+1) (some ⟨wr.heap.size,0,none⟩) 1 1 (bs [y % 128+128]) rfl (Rd.newi wr _ _ HC.out 5) (bs_one _) hm1 hm2 (hsB _) ?_); intro v' w1 hown' hst)
    obtain ⟨A2,c2,rfl,_⟩:=own_form hown'
    have hst2:=h7.trans ((Stp.alloc _ _ _).trans hst)
    clear hst h7
    go_wp2
    go_roundw
    case rel=>exact ⟨y / 128,l ++ [y % 128+128],A2,n'+1,c2,by go_num,rfl,by omega,by rw [H4.out,HE.out]; simp,by rw [H5.out]; simp; omega,by rw [bs_append,← List.append_assoc]; exact hown',hst2⟩
    case measure=>simp [intOf]; omega
theorem put_any (v:Nat) (w:World) (hv:(v:Int)≤18446744073709551615) :
 Calls Tryz.prog 101 #[.int .u64 v] w (Made 5 (enc v) w):=by
 go_enter Tryz.func101,Tryz.ntmps101
 go_wp2_with (go_at_call 125; refine (stand_any w.heap.size none 0 0 [] v w hv (own_none _ _ _) (Nat.le_refl _) (by omega)).mono ?_; rintro e w' ⟨A,n,c,rfl,ho,hs⟩)
 go_ret
 exact made_of_grew ⟨A,n,c,rfl,ho,hs⟩
def numN (k:Int):Nat:=if k=2∨k=3 then 1 else if k=4 then 2 else 0
def numsL (k:Int) (a b:Nat):List Nat:=[a,b].take (numN k)
mutual
def T.stand:T→List Nat
 | .node k a b ps=>k.toNat :: ((numsL k a b).flatMap enc ++ (if 6≤k then enc ps.length else []) ++ T.standL ps)
def T.standL:List T→List Nat
 | []=>[]
 | p :: ps=>p.stand ++ T.standL ps
end
theorem standL_append:∀ (xs ys:List T),T.standL (xs ++ ys)=T.standL xs ++ T.standL ys
 | [],ys=>by simp [T.standL]
 | x :: xs,ys=>by rw [List.cons_append,T.standL,T.standL,standL_append xs ys,List.append_assoc]
theorem standL_take {ps:List V} {i:Nat} {p:V} (h:ps[i]? = some p):T.standL (V.absL (ps.take (i+1)))=T.standL (V.absL (ps.take i)) ++ p.abs.stand:=by
 rw [absL_take h,standL_append]; simp [T.standL]
theorem nums_len (k:Int) (a b:Nat):(numsL k a b).length=numN k:=by
 unfold numsL numN
 split
 · rfl
 · split <;> rfl
theorem enc_sum {l:List Nat} (h:∀ x∈l,x<18446744073709551616):(l.flatMap enc).length≤10 * l.length:=by
 induction l with
 | nil=>simp
 | cons x l ih=>
  rw [List.flatMap_cons,List.length_append,List.length_cons]
  have h1:=enc_ten (h x (by simp))
  have h2:=ih fun y hy=>h y (by simp [hy])
  omega
theorem nums_in {k:Int} {a b:Nat} (ha:a<18446744073709551616) (hb:b<18446744073709551616):∀ x∈numsL k a b,x<18446744073709551616:=by
 intro x hx
 have:=List.mem_of_mem_take hx
 simp at this
 rcases this with rfl | rfl <;> assumption
theorem numN_le (k:Int):numN k≤2:=by unfold numN; split; omega; split <;> omega
theorem stand_len {w:World} {lo hi:Nat}:∀ v:V,Lies w lo hi v→v.abs.stand.length≤31 * v.abs.count:=by
 refine V.ind fun k a b A c ps ih hL=>?_
 obtain ⟨hlen,hcap',hk,ha,hb⟩:=hL.caps
 rw [V.count_node,V.abs,T.stand]
 have hp:∀ l:List V,(∀ p∈l,Lies w lo hi p∧p.abs.stand.length≤31 * p.abs.count)→(T.standL (V.absL l)).length≤31 * T.countL (V.absL l):=by
  intro l
  induction l with
  | nil=>intro _; simp [V.absL,T.standL]
  | cons p l ih2=>
   intro h
   rw [V.absL,T.standL,T.countL,List.length_append]
   have h1:=(h p (by simp)).2
   have h2:=ih2 fun q hq=>h q (by simp [hq])
   omega
 have h1:=hp ps fun p hp=>⟨hL.part hp,ih p hp (hL.part hp)⟩
 have h2:=enc_sum (nums_in (k:=k) ha hb)
 rw [nums_len] at h2
 have h3:=numN_le k
 have h4:(if 6≤k then enc (V.absL ps).length else []).length≤10:=by
  split
  · exact enc_ten (by rw [absL_length]; omega)
  · simp
 simp only [List.length_cons,List.length_append]
 omega
theorem Stp.new {w w':World} (h:Below w.heap.size w w') (v:Value):Stp w w' v v:=⟨⟨h.os,h.tape,h.output,h.size,fun i hi _=>h.block i hi⟩,.inl rfl⟩
structure StI (X:Nat→Prop) (B:Nat) (w0:World) (v0:Value) (xs:List Nat) (v:Value) (n:Nat) (W:World):Prop where
 own:W.ownsRow B 5 1 v n (bs xs)
 stp:Stp w0 W v0 v
 far0:∀ g,v0.ownBlock=some g→¬ X g
 old:∀ k,X k→k<w0.heap.size
section
variable {X:Nat→Prop} {B n:Nat} {w0 W W':World} {v0 v v':Value} {xs:List Nat}
theorem StI.kept (h:StI X B w0 v0 xs v n W) (k:Nat) (hk:X k):W.heap[k]? = w0.heap[k]?:=h.stp.grow.block k (h.old k hk) (fun e=>h.far0 k e.symm hk)
theorem StI.far (h:StI X B w0 v0 xs v n W) (g:Nat) (hg:v.ownBlock=some g):¬ X g:=by
 rcases h.stp.row with e | ⟨k,e,hk⟩
 · exact h.far0 g (e ▸ hg)
 · intro hx
   have:=h.old g hx
   rw [e] at hg
   injection hg with hg
   omega
theorem StI.next {n':Nat} {ys:List Nat} (h:StI X B w0 v0 xs v n W) (hst:Stp W W' v v') (ho:W'.ownsRow B 5 1 v' n' (bs ys)):StI X B w0 v0 ys v' n' W':=⟨ho,h.stp.trans hst,h.far0,h.old⟩
theorem StI.under (h:StI X B w0 v0 xs v n W) (hb:Below W.heap.size W W'):StI X B w0 v0 xs v n W':=⟨own_below h.own hb (own_lt h.own),h.stp.trans (Stp.new hb v),h.far0,h.old⟩
theorem StI.from (h:StI X B w0 v0 xs v n W) {X':Nat→Prop} (hX:∀ k,X' k→(X k∨(v.ownBlock≠some k∧k<W.heap.size))):StI X' B W v xs v n W:=
 ⟨h.own,Stp.refl _ _,fun g hg hx=>by rcases hX g hx with h1 | h1; exact h.far g hg h1; exact h1.1 hg,fun k hx=>by
  rcases hX k hx with h1 | h1
  · have:=h.old k h1; have:=h.stp.grow.size; omega
  · exact h1.2⟩
end
set_option maxRecDepth 100000 in
theorem nums_any (k:Int) (hk:1≤k∧k≤7) (g:Nat) (w:World):Calls Tryz.prog (numF k) #[.pointer (some ⟨g,0,none⟩)] w fun e w'=>∃ A,e=.returned (.slice A (numN k) (numN k))∧Below w.heap.size w w'∧
 (∀ j,j<numN k→∃ pb,A=some ⟨pb,0,none⟩∧w.heap.size≤pb∧pb<w'.heap.size∧w'.cell? ⟨pb,j,none⟩=some (.pointer (some ⟨g,j+1,none⟩))):=by
 have h3:(k=2∨k=3)∨k=4∨(k=1∨k=5∨k=6∨k=7):=by omega
 rcases h3 with h | rfl | h
 · have e1:numF k=227:=by unfold numF; rw [if_pos h]
   have e2:numN k=1:=by unfold numN; rw [if_pos h]
   rw [e1,e2]
   go_enter Tryz.func227,Tryz.ntmps227
   go_wp2
   go_ret
   exact ⟨_,rfl,below_new w _,fun j hj=>by
    obtain rfl:j=0:=by omega
    exact ⟨_,rfl,Nat.le_refl _,by simp,by simp⟩⟩
 · have e1:numF 4=231:=rfl
   have e2:numN 4=2:=rfl
   rw [e1,e2]
   go_enter Tryz.func231,Tryz.ntmps231
   go_wp2
   go_region
   all_goals
    go_wp2
    go_ret
    refine ⟨_,rfl,((Below.refl w.heap.size w).drew).alloc (Nat.le_refl w.heap.size) _,fun j hj=>?_⟩
    have hj:j=0∨j=1:=by omega
    rcases hj with rfl | rfl <;> exact ⟨_,rfl,Nat.le_refl _,by simp,by simp⟩
 · have e1:numF k=224:=by unfold numF; rw [if_neg (by omega),if_neg (by omega)]
   have e2:numN k=0:=by unfold numN; rw [if_neg (by omega),if_neg (by omega)]
   rw [e1,e2]
   go_enter Tryz.func224,Tryz.ntmps224
   go_wp2
   go_ret
   exact ⟨none,rfl,Below.refl _ _,fun j hj=>by omega⟩
end Go.Proofs.YtinmoknbgnngcaaGreatDoor
