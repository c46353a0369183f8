/-
  The contract of the program's state.take, for every state and every slice of bytes.
-/
import Derived.Test.YtinmoknbgnngcaaGreatDoorZwTft
import Derived.Test.YtinmoknbgnngcaaGreatDoorZwCmb
import Derived.Laws.BitsAllLaws
import Derived.Lib.SmallJoins
import Derived.Test.YtinmoknbgnngcaaGreatDoorZwTnm
import Derived.Test.YtinmoknbgnngcaaGreatDoorZwVyb
import Derived.Deep.DeepCutAuto
import Derived.Deep.CutBlock
import Derived.Laws.BytesString
import Derived.Lib.Strings
import Derived.Lib.SliceRun
import Derived.Lib.Walk
import Derived.WalkSpells
namespace Go.Proofs.YtinmoknbgnngcaaGreatDoor
open Go Go.RowKit
set_option linter.unusedVariables false
theorem not_u32 {s:Nat} (h:s<4294967296):bits BinOp.xor IntKind.u32 IntKind.u32.max (s:Int)=((neg s:Nat):Int):=by
 have e:IntKind.u32.max=((4294967295:Nat):Int):=by decide
 rw [e,u32_xor_nat _ _ (by decide) h]
 have hx:4294967295 ^^^ s=neg s:=by
  have:=BitVec.toNat_not (x:=BitVec.ofNat 32 s)
  have e2:(~~~ BitVec.ofNat 32 s)=BitVec.ofNat 32 4294967295 ^^^ BitVec.ofNat 32 s:=by
   apply BitVec.eq_of_getLsbD_eq
   intro i hi
   have:(BitVec.ofNat 32 4294967295).getLsbD i=true:=by
    rw [show BitVec.ofNat 32 4294967295=BitVec.allOnes 32 by decide,BitVec.getLsbD_allOnes]; simpa using hi
   rw [BitVec.getLsbD_not,BitVec.getLsbD_xor,this]; simp [hi]
  rw [e2,← xor_nat,BitVec.toNat_ofNat,BitVec.toNat_ofNat,Nat.mod_eq_of_lt h,Nat.mod_eq_of_lt (Nat.xor_lt_two_pow (n:=32) (by decide) h)] at this
  rw [this]; rfl
 rw [hx]
def Tab (w:World):Prop:=1<w.heap.size∧∀ k,k<16→w.cell? ⟨1,k,none⟩=some (.int .u32 (tb k:Nat))
theorem Tab.below {B:Nat} {w w':World} (h:Tab w) (hb:Below B w w') (hB:1<B):Tab w':=
 ⟨Nat.lt_of_lt_of_le h.1 hb.size,fun k hk=>(hb.cell (p:=⟨1,k,none⟩) hB).trans (h.2 k hk)⟩
theorem Tab.grown {w w':World} {g:Nat} (h:Tab w) (hg:w.grownBy w' (some g)) (h0:1<g):Tab w':=
 ⟨Nat.lt_of_lt_of_le h.1 hg.size,fun k hk=>(World.cell?_of_block (hg.block 1 h.1 (by intro e; injection e with e; omega)):w'.cell? ⟨1,k,none⟩=w.cell? ⟨1,k,none⟩).trans (h.2 k hk)⟩
def St (w:World) (g:Nat) (T:TypeId) (s:Nat) (z:Int):Prop:=w.heap[g]? = some (.cells #[.int .u32 (s:Nat),.int .i64 z] T (0,0))
theorem nib_xor (x:Nat) (h:x<4294967296):bits BinOp.xor IntKind.u32 ((x:Int) / 16) ((tb (x % 16):Nat):Int)=((nib x:Nat):Int):=by
 rw [show (x:Int) / 16=((x / 16:Nat):Int) by omega,u32_xor_nat _ _ (by omega) (tb_lt _)]
 rfl
theorem take_next {l:List Nat} {k:Nat} (h:k<l.length):l.take (k+1)=l.take k ++ [l.getD k 0]:=by
 rw [List.take_succ_eq_append_getElem h,List.getD_eq_getElem?_getD,List.getElem?_eq_getElem h]; rfl
theorem grown_set (w:World) (g i:Nat) (x:Value):w.grownBy (w.setCell ⟨g,i,none⟩ x) (some g):=
 ⟨rfl,rfl,rfl,by simp,fun k _ hk=>by
  show (w.heap.modify g _)[k]? = _
  have:g≠k:=fun e=>hk (by rw [e])
  rw [Array.getElem?_modify,if_neg this]⟩
theorem grown_two (w:World) (g i j:Nat) (x y:Value):w.grownBy ((w.setCell ⟨g,i,none⟩ x).setCell ⟨g,j,none⟩ y) (some g):=(grown_set w g i x).trans (grown_set _ g j y)
set_option maxRecDepth 100000 in
theorem take_any (g:Nat) (T:TypeId) (s:Nat) (z:Int) (B:Nat) (A:Option Addr) (n c:Nat) (l:List Nat) (w:World) (hT:Tab w) (hS:St w g T s z) (hs:s<4294967296) (hrd:Rd w B 1 A n (bs l)) (hb:∀ x∈l,x<256) (hn:n≤9223372036854775807) :
 Calls Tryz.prog 193 #[.pointer (some ⟨g,0,none⟩),.slice A n c] w fun e w'=>e=.returned (.tuple #[])∧St w' g T (neg (regs (neg s) l)) (wrap64 (z+n))∧w.grownBy w' (some g):=by
 have c0:w.cell? ⟨g,0,none⟩=some (.int .u32 (s:Nat)):=Joins.cell_of_block hS 0
 have c1:w.cell? ⟨g,1,none⟩=some (.int .i64 z):=Joins.cell_of_block hS 1
 have f0:=Joins.unfrozen_of_block hS 0
 have f1:=Joins.unfrozen_of_block hS 1
 have HX:Hid (bits BinOp.xor IntKind.u32 IntKind.u32.max (s:Int)=((neg s:Nat):Int)):=not_u32 hs
 have HB:=Lib_hid hb
 clear hb
 go_enter Tryz.func193,Tryz.ntmps193
 go_wp2
 go_loop [4,14] (fun v i=>∃ k:Nat,i=.int .i64 k∧k≤n∧v=.int .u32 (regs (neg s) (l.take k):Nat)) (fun _ i=>n - (intOf i).toNat)
 case atStart=>exact ⟨0,rfl,Nat.zero_le _,by rw [HX.out]; rfl⟩
 case round=>
  obtain ⟨k,rfl,hk,rfl⟩:=hrel
  by_cases hlt:k<n
  · obtain ⟨ad,rfl,_,cc⟩:=hrd.byte hlt
    have hc:l.getD k 0<256:=by
     rw [List.getD_eq_getElem?_getD,List.getElem?_eq_getElem (by rw [hrd.count]; exact hlt)]
     exact HB.out _ (List.getElem_mem _)
    have hv:regs (neg s) (l.take k)<4294967296:=regs_lt _ (neg_lt _) fun x hx=>HB.out x (List.mem_of_mem_take hx)
    have hk':k<l.length:=by rw [hrd.count]; exact hlt
    generalize EV0:regs (neg s) (l.take k)=v at *
    generalize EC0:l.getD k 0=c at *
    have EV:=Lib_hid EV0.symm
    have EC:=Lib_hid EC0.symm
    clear EV0 EC0
    have hx:bits BinOp.xor IntKind.u32 (v:Int) (c:Int)=((v ^^^ c:Nat):Int):=u32_xor_nat v c hv (by omega)
    have hxl:v ^^^ c<4294967296:=Nat.xor_lt_two_pow (n:=32) hv (by omega)
    obtain ⟨x,ex⟩:∃ x,x=v ^^^ c:=⟨_,rfl⟩
    rw [← ex] at hx hxl
    have EX:=Lib_hid ex
    clear ex
    have hn1:=nib_xor x hxl
    have hn2:=nib_xor (nib x) (nib_lt hxl)
    have t1:=hT.2 (x % 16) (Nat.mod_lt _ (by decide))
    have t2:=hT.2 (nib x % 16) (Nat.mod_lt _ (by decide))
    have hl1:=nib_lt hxl
    have hl2:=nib_lt hl1
    have EY:Hid (regs (neg s) (l.take (k+1))=nib (nib x)):=by
     unfold Hid
     rw [EX.out,take_next hk',regs_append,← EV.out,← EC.out]; rfl
    clear EX
    have HT:=Lib_hid hT
    clear hT
    generalize tb (x % 16)=y at *
    generalize tb (nib x % 16)=y2 at *
    generalize nib (nib x)=x3 at *
    generalize nib x=x2 at *
    go_wp2
    go_round
    case rel=>exact ⟨k+1,by go_num,by omega,by rw [EY.out]⟩
    case measure=>simp [intOf]; omega
  · obtain rfl:k=n:=by omega
    have e:l.take k=l:=List.take_of_length_le (by rw [hrd.count]; exact Nat.le_refl _)
    rw [e]
    have hv:regs (neg s) l<4294967296:=regs_lt _ (neg_lt _) HB.out
    have hnv:=not_u32 hv
    have hst:St ((w.setCell ⟨g,0,none⟩ (.int .u32 ((neg (regs (neg s) l):Nat):Int))).setCell ⟨g,1,none⟩ (.int .i64 (wrap64 (z+k)))) g T (neg (regs (neg s) l)) (wrap64 (z+k)):=
     Joins.block_setCell (Joins.block_setCell hS _) _
    have hgr:=grown_two w g 0 1 (.int .u32 ((neg (regs (neg s) l):Nat):Int)) (.int .i64 (wrap64 (z+k)))
    generalize EV0:regs (neg s) l=v at *
    have EV:=Lib_hid EV0
    clear EV0
    go_wp2
    go_end0
    exact ⟨rfl,by rw [EV.out]; exact hst,hgr⟩
structure Rws (w:World) (B:Nat) (vs:List Value) (ls:List (List Nat)):Prop where
 len:vs.length=ls.length
 row:∀ j,j<ls.length→∃ A n c,vs[j]? = some (.slice A n c)∧Rd w B 1 A n (bs (ls.getD j []))∧(∀ x∈ls.getD j [],x<256)∧n≤c∧c≤9223372036854775807
theorem Rws.below {w w':World} {B:Nat} {vs:List Value} {ls:List (List Nat)} (h:Rws w B vs ls) (hb:Below B w w'):Rws w' B vs ls:=
 ⟨h.len,fun j hj=>by obtain ⟨A,n,c,h1,h2,h3⟩:=h.row j hj; exact ⟨A,n,c,h1,h2.below hb,h3⟩⟩
theorem Rws.more {w:World} {B B':Nat} {vs:List Value} {ls:List (List Nat)} (h:Rws w B vs ls) (hB:B≤B'):Rws w B' vs ls:=
 ⟨h.len,fun j hj=>by obtain ⟨A,n,c,h1,h2,h3⟩:=h.row j hj; exact ⟨A,n,c,h1,h2.more hB,h3⟩⟩
theorem Rws.keep {w w':World} {B:Nat} {vs:List Value} {ls:List (List Nat)} (h:Rws w B vs ls) (hk:∀ p:Addr,p.block<B→w'.cell? p=w.cell? p):Rws w' B vs ls:=
 ⟨h.len,fun j hj=>by obtain ⟨A,n,c,h1,h2,h3⟩:=h.row j hj; exact ⟨A,n,c,h1,h2.keep hk,h3⟩⟩
theorem Rws.nil (w:World) (B:Nat):Rws w B [] []:=⟨rfl,fun j hj=>by simp at hj⟩
theorem Rws.one {w:World} {B:Nat} {A:Option Addr} {n c:Nat} {l:List Nat} (h:Rd w B 1 A n (bs l)) (hb:∀ x∈l,x<256) (hn:n≤c) (hc:c≤9223372036854775807):Rws w B [.slice A n c] [l]:=
 ⟨rfl,fun j hj=>by
  obtain rfl:j=0:=by simpa using hj
  exact ⟨A,n,c,rfl,h,hb,hn,hc⟩⟩
theorem Rws.cons {w:World} {B:Nat} {A:Option Addr} {n c:Nat} {l:List Nat} {vs:List Value} {ls:List (List Nat)} (h:Rd w B 1 A n (bs l)) (hb:∀ x∈l,x<256) (hn:n≤c) (hc:c≤9223372036854775807) (hr:Rws w B vs ls):Rws w B (.slice A n c :: vs) (l :: ls):=
 ⟨by simp [hr.len],fun j hj=>by
  cases j with
  | zero=>exact ⟨A,n,c,rfl,h,hb,hn,hc⟩
  | succ j=>simpa using hr.row j (by simpa using hj)⟩
theorem Rws.at {w:World} {B B' n:Nat} {A:Option Addr} {vs:List Value} {ls:List (List Nat)} (h:Rws w B vs ls) (hr:Rd w B' 1 A n vs) {k:Nat} (hk:k<n) :
 ∃ ad A' n' c',A=some ad∧w.cell? (ad.add k)=some (.slice A' n' c')∧Rd w B 1 A' n' (bs (ls.getD k []))∧(∀ x∈ls.getD k [],x<256)∧n'≤c'∧c'≤9223372036854775807:=by
 obtain ⟨ad,e,_,hc⟩:=hr.lies (by omega)
 have hl:=hr.len
 obtain ⟨A',n',c',h1,h2,h3,h4,h5⟩:=h.row k (by have:=h.len; omega)
 exact ⟨ad,A',n',c',e,hc k _ h1,h2,h3,h4,h5⟩
theorem Rws.bytes {w:World} {B:Nat} {vs:List Value} {ls:List (List Nat)} (h:Rws w B vs ls) (k:Nat):∀ x∈(ls.take k).flatten,x<256:=by
 intro x hx
 rw [List.mem_flatten] at hx
 obtain ⟨l,hl,hx⟩:=hx
 obtain ⟨j,hj,e⟩:=List.mem_iff_getElem.1 (List.mem_of_mem_take hl)
 obtain ⟨_,_,_,_,_,h3,_⟩:=h.row j hj
 rw [List.getD_eq_getElem?_getD,List.getElem?_eq_getElem hj,Option.getD_some,e] at h3
 exact h3 x hx
theorem flatten_next {ls:List (List Nat)} {k:Nat} (h:k<ls.length):(ls.take (k+1)).flatten=(ls.take k).flatten ++ ls.getD k []:=by
 rw [List.take_succ_eq_append_getElem h,List.flatten_append,List.getD_eq_getElem?_getD,List.getElem?_eq_getElem h]; simp
set_option maxRecDepth 100000 in
theorem sum_any (B:Nat) (A:Option Addr) (n c:Nat) (vs:List Value) (ls:List (List Nat)) (w:World) (hT:Tab w) (hrd:Rd w B 1 A n vs) (hR:Rws w B vs ls) (hB:B≤w.heap.size) (hn:n≤9223372036854775807) :
 Calls Tryz.prog 126 #[.slice A n c] w fun e w'=>e=.returned (.int .u32 (crcN ls.flatten:Nat))∧Below w.heap.size w w':=by
 have hl:ls.length=n:=by have:=hrd.len; have:=hR.len; omega
 have HL:=Lib_hid hl
 clear hl
 go_enter Tryz.func126,Tryz.ntmps126
 go_wp2
 go_loopw [8] (fun i wr=>∃ (k:Nat) (z:Int),i=.int .i64 k∧k≤n∧St wr w.heap.size 273 (crcN (ls.take k).flatten) z∧Below w.heap.size w wr) (fun i _=>n - (intOf i).toNat)
 case atStart=>
  refine ⟨0,0,rfl,Nat.zero_le _,?_,(Below.refl _ _).alloc (Nat.le_refl _) _⟩
  rw [List.take_zero,List.flatten_nil,crcN_nil]
  exact heap_alloc_new w _
 case round=>
  obtain ⟨k,z,rfl,hk,hS,hbw⟩:=hrel
  have c0:wr.cell? ⟨w.heap.size,0,none⟩=some (.int .u32 (crcN (ls.take k).flatten:Nat)):=Joins.cell_of_block hS 0
  by_cases hlt:k<n
  · obtain ⟨ad,A',n',c',rfl,hcell,hrow,hb,hnc,hc⟩:=(hR.below (hbw.mono hB)).at (hrd.below (hbw.mono hB)) hlt
    have G:=take_any w.heap.size 273 _ z B A' n' c' _ wr (hT.below hbw hT.1) hS (crcN_lt _) hrow hb (by omega)
    rw [← crcN_append _ _ (hR.bytes k),← flatten_next (by rw [HL.out]; exact hlt)] at G
    have HG:=Lib_hid G
    clear G hrow
    have HS:=Lib_hid hS
    clear hS
    go_wp2_with fail
    refine HG.out.mono ?_
    rintro e w2 ⟨rfl,hS2,hg⟩
    have hb2:Below w.heap.size w w2:=hbw.grown hg hbw.size (fun k hk=>by injection hk with hk; omega)
    clear hg HG HS
    go_wp2_with fail
    go_roundw
    case rel=>exact ⟨k+1,_,by go_num,by omega,hS2,hb2⟩
    case measure=>simp [intOf]; omega
  · obtain rfl:k=n:=by omega
    have e:(ls.take k)=ls:=List.take_of_length_le (by rw [HL.out]; exact Nat.le_refl _)
    rw [e] at c0
    clear e
    go_wp2
    go_ret
    exact ⟨rfl,hbw⟩
end Go.Proofs.YtinmoknbgnngcaaGreatDoor
namespace Go.Proofs.YtinmoknbgnngcaaGreatDoor
def le4 (v:Nat):List Nat:=[v % 256,v / 256 % 256,v / 65536 % 256,v / 16777216 % 256]
theorem le4_length (v:Nat):(le4 v).length=4:=rfl
theorem le4_byte (v:Nat):∀ x∈le4 v,x<256:=by
 intro x hx
 simp only [le4,List.mem_cons,List.not_mem_nil,or_false] at hx
 omega
def frB (k:Nat) (p:List Nat):List Nat:=k :: (enc p.length ++ p)
def frS (k:Nat) (p:List Nat):List Nat:=frB k p ++ le4 (crcN (frB k p))
def frAll (ds:List (Nat×List Nat)):List Nat:=ds.flatMap fun d=>frS d.1 d.2
theorem frB_length (k:Nat) (p:List Nat):(frB k p).length=1+(enc p.length).length+p.length:=by
 simp [frB]; omega
theorem frS_length (k:Nat) (p:List Nat):(frS k p).length=1+(enc p.length).length+p.length+4:=by
 rw [frS,List.length_append,frB_length,le4_length]
theorem frB_byte {k:Nat} {p:List Nat} (hk:k<256) (hp:∀ x∈p,x<256):∀ x∈frB k p,x<256:=by
 intro x hx
 simp only [frB,List.mem_cons,List.mem_append] at hx
 rcases hx with rfl | hx | hx
 · exact hk
 · exact enc_byte _ x hx
 · exact hp x hx
theorem frS_byte {k:Nat} {p:List Nat} (hk:k<256) (hp:∀ x∈p,x<256):∀ x∈frS k p,x<256:=by
 intro x hx
 rcases List.mem_append.1 hx with hx | hx
 · exact frB_byte hk hp x hx
 · exact le4_byte _ x hx
theorem frAll_byte {ds:List (Nat×List Nat)} (h:∀ d∈ds,d.1<256∧∀ x∈d.2,x<256):∀ x∈frAll ds,x<256:=by
 intro x hx
 obtain ⟨d,hd,hx⟩:=List.mem_flatMap.1 hx
 exact frS_byte (h d hd).1 (h d hd).2 x hx
theorem frAll_take {ds:List (Nat×List Nat)} {i:Nat} {d:Nat×List Nat} (h:ds[i]? = some d):frAll (ds.take (i+1))=frAll (ds.take i) ++ frS d.1 d.2:=by
 have hi:=(List.getElem?_eq_some_iff.1 h).1
 have e:ds[i]=d:=(List.getElem?_eq_some_iff.1 h).2
 rw [List.take_succ_eq_append_getElem hi,frAll,List.flatMap_append,e]
 simp [frAll]
theorem frAll_append (l m:List (Nat×List Nat)):frAll (l ++ m)=frAll l ++ frAll m:=by simp [frAll]
theorem frAll_le (ds:List (Nat×List Nat)) (i:Nat):(frAll (ds.take i)).length≤(frAll ds).length:=by
 have:frAll ds=frAll (ds.take i) ++ frAll (ds.drop i):=by rw [← frAll_append,List.take_append_drop]
 rw [this,List.length_append]; omega
end Go.Proofs.YtinmoknbgnngcaaGreatDoor
namespace Go.Proofs.YtinmoknbgnngcaaGreatDoor
open Go Go.RowKit
set_option linter.unusedVariables false
set_option maxRecDepth 100000 in
theorem fcheck_any (B:Nat) (A:Option Addr) (n c:Nat) (l:List Nat) (w:World) (hT:Tab w) (h:Rd w B 1 A n (bs l)) (hb:∀ x∈l,x<256) (hnc:n≤c) (hc:c≤9223372036854775807) (hB:B≤w.heap.size) :
 Calls Tryz.prog 102 #[.slice A n c] w (Made 5 (le4 (crcN l)) w):=by
 have hb0:=below_new w (.cells #[.slice A n c] 22)
 have hR:=Rws.one (c:=c) h hb hnc hc
 have hrd:Rd (w.alloc (.cells #[.slice A n c] 22)) (w.heap.size+1) 1 (some ⟨w.heap.size,0,none⟩) 1 [.slice A n c]:=
  ⟨rfl,fun _=>⟨_,rfl,by simp,fun j u hu=>by
   match j,hu with
   | 0,hu=>simp at hu; subst hu; simp [Addr.add]⟩⟩
 have G:=sum_any (w.heap.size+1) _ 1 1 _ [l] _ (hT.below hb0 hT.1) hrd ((hR.below (hb0.mono hB)).more (by omega)) (by simp) (by omega)
 simp only [List.flatten_cons,List.flatten_nil,List.append_nil] at G
 have hcl:=crcN_lt l
 generalize crcN l=s at *
 have e:Hid (bs (le4 s)=[.int .u8 ((s:Int) % 256),.int .u8 ((s:Int) / 256 % 256),.int .u8 ((s:Int) / 65536 % 256),.int .u8 ((s:Int) / 16777216)]):=by
  unfold Hid; simp [bs,le4]; omega
 have HG:=Lib_hid G
 clear G hrd hR h hb
 go_enter Tryz.func102,Tryz.ntmps102
 go_wp2_with fail
 refine HG.out.mono ?_
 rintro e w1 ⟨rfl,hb1⟩
 have hbw:=hb0.trans (hb1.mono hb0.size)
 clear HG hb1 hb0
 go_wp2_with fail
 go_ret
 exact (made_lit_at (w:=w1) _ _ rfl rfl rfl (by rw [e.out]) (by rw [le4_length]; decide)).onto hbw
structure RowBox (E T:TypeId) (w0 w:World) (B g:Nat) (cs:Array Value) (v0:Value) (A:Option Addr) (n c:Nat) (ys:List Nat):Prop where
 own:w.ownsRow B E 1 (.slice A n c) n (bs ys)
 box:w.heap[g]? = some (.cells cs T (0,0))
 ne:(Value.slice A n c).ownBlock≠some g
 stp:Stp w0 w v0 (.slice A n c)
section
variable {E T:TypeId} {w0 w w':World} {B g:Nat} {cs:Array Value} {v0:Value} {A A':Option Addr} {n c n' c':Nat} {ys ys':List Nat}
theorem RowBox.lt (h:RowBox E T w0 w B g cs v0 A n c ys):g<w.heap.size:=(Array.getElem?_eq_some_iff.1 h.box).1
theorem RowBox.keep (h:RowBox E T w0 w B g cs v0 A n c ys) (hb:Below w.heap.size w w'):RowBox E T w0 w' B g cs v0 A n c ys:=
 ⟨own_below h.own hb (own_lt h.own),(hb.block g h.lt).trans h.box,h.ne,h.stp.trans ⟨⟨hb.os,hb.tape,hb.output,hb.size,fun i hi _=>hb.block i hi⟩,.inl rfl⟩⟩
theorem RowBox.step (h:RowBox E T w0 w B g cs v0 A n c ys) (ho:w'.ownsRow B E 1 (.slice A' n' c') n' (bs ys')) (hs:Stp w w' (.slice A n c) (.slice A' n' c')):RowBox E T w0 w' B g cs v0 A' n' c' ys':=by
 refine ⟨ho,(hs.grow.block g h.lt (fun e=>h.ne e.symm)).trans h.box,fun e=>?_,h.stp.trans hs⟩
 rcases hs.row with h1 | ⟨k,h1,h2⟩
 · exact h.ne (h1.symm.trans e)
 · have:=h.lt; rw [h1] at e; injection e with e; omega
theorem RowBox.cell (h:RowBox E T w0 w B g cs v0 A n c ys) (i:Nat):w.cell? ⟨g,i,none⟩=cs[i]?:=cell_of_row w g i cs T (0,0) h.box
end
set_option maxRecDepth 100000 in
set_option maxHeartbeats 800000 in
theorem fstand_any (B:Nat) (A:Option Addr) (n c:Nat) (lb:List Nat) (k:Nat) (A2:Option Addr) (m c2:Nat) (p:List Nat) (w:World) (hT:Tab w) (h0:1<B) (hB:B≤w.heap.size)
 (hown:w.ownsRow B 5 1 (.slice A n c) n (bs lb)) (hlb:∀ x∈lb,x<256) (hr:Rd w B 1 A2 m (bs p)) (hp:∀ x∈p,x<256) (hk:k<256) (hn:n≤1000000000) (hm:m≤1000000000) :
 Calls Tryz.prog 70 #[.slice A n c,.agg #[.int .u8 (k:Int),.slice A2 m c2]] w (Grew 5 B (.slice A n c) (bs (lb ++ frS k p)) w):=by
 obtain ⟨i0,hi,hz0,hz1,hz2⟩:=info_parts Tryz.info5
 have hpm:p.length=m:=hr.count
 have hln:lb.length=n:=by have:=hown.1; rw [bs_length] at this; omega
 have hten:=enc_ten (v:=m) (by omega)
 have hS0:RowBox 5 92 w (w.alloc (.cells #[.int .u8 (k:Int),.slice A2 m c2] 92)) B w.heap.size #[.int .u8 (k:Int),.slice A2 m c2] (.slice A n c) A n c lb:=
  ⟨own_below hown (below_new _ _) (own_lt hown),heap_alloc_new w _,fun e=>by have:=own_lt hown _ e; omega,Stp.alloc _ _ _⟩
 have hge:=own_ge hown
 have RP:∀ w' v',Stp w w' (.slice A n c) v'→Rd w' B 1 A2 m (bs p):=fun _ _ h=>hr.below (h.below hB hge)
 have HRP:=Lib_hid RP
 have HLB:=Lib_hid hlb
 have HP:=Lib_hid hp
 have HPM:=Lib_hid hpm
 have HLN:=Lib_hid hln
 have HGE:=Lib_hid hge
 have hTb:∀ w' v',Stp w w' (.slice A n c) v'→Tab w':=fun _ _ h=>hT.below (h.below hB hge) h0
 have HTB:=Lib_hid hTb
 have hBs:∀ w' v',Stp w w' (.slice A n c) v'→B≤w'.heap.size:=fun _ _ h=>Nat.le_trans hB h.grow.size
 have HBS:=Lib_hid hBs
 clear RP hlb hp hpm hge hTb hBs hown hr hln
 go_enter Tryz.func70,Tryz.ntmps70
 have hm1:n+1≤maxLen:=by unfold maxLen; omega
 have hm2:(n+1) * 1≤140737488355328:=by omega
 go_upto_region 2 with (fail)
 generalize w.alloc (.cells #[.int .u8 (k:Int),.slice A2 m c2] 92)=W0 at *
 have q0:W0.cell? ⟨w.heap.size,0,none⟩=some (.int .u8 (k:Int)):=hS0.cell 0
 have hs0:=HBS.out _ _ hS0.stp
 have hsB:∀ o,B≤(W0.alloc o).heap.size:=by intro o; simp; omega
 go_upto_region 3 with (at_builtin; (refine wpList_app rfl _ _ 22 rfl B 5 i0 (.int .u8 0) 1 1 Tryz.underlying22 hi hz0 hz1 hz2 rfl (by decide) _ n _ rfl (hS0.own.alloc _) (W0.heap.size+1) (some ⟨W0.heap.size,0,none⟩) 1 1 (bs [k]) rfl (Rd.new1 W0 k 5) (bs_one _) hm1 hm2 (hsB _) ?_); intro v' w1 hown' hst; obtain ⟨A1,c1,rfl,_⟩:=own_form hown')
 have hS1:=(hS0.keep (below_new W0 _)).step (by rw [bs_append]; exact hown') hst
 clear hS0 hown' hst q0 hsB hs0 hm1 hm2
 have q1:w1.cell? ⟨w.heap.size,1,none⟩=some (.slice A2 m c2):=hS1.cell 1
 go_wp2_with fail
 refine (put_any m w1 (by omega)).mono ?_
 rintro e w2 ⟨A2',c2',rfl,ho2,hb2⟩
 have hS2:=hS1.keep hb2
 have hs2:=HBS.out _ _ hS2.stp
 have hm1:n+1+(enc m).length≤maxLen:=by unfold maxLen; omega
 have hm2:(n+1+(enc m).length) * 1≤140737488355328:=by omega
 clear hS1 q1 hb2
 go_upto_region 4 with (at_builtin; (refine wpList_app rfl _ _ 22 rfl B 5 i0 (.int .u8 0) 1 1 Tryz.underlying22 hi hz0 hz1 hz2 rfl (by decide) _ (n+1) _ rfl hS2.own w2.heap.size A2' (enc m).length c2' (bs (enc m)) rfl (Rd.own ho2) (bs_one _) hm1 hm2 hs2 ?_); intro v' w3 hown' hst; obtain ⟨A3,c3,rfl,_⟩:=own_form hown')
 have hS3:=hS2.step (by rw [bs_append]; exact hown') hst
 clear hS2 hown' hst ho2 hs2 hm1 hm2
 have q3:w3.cell? ⟨w.heap.size,1,none⟩=some (.slice A2 m c2):=hS3.cell 1
 have hs3:=HBS.out _ _ hS3.stp
 have hr3:=HRP.out _ _ hS3.stp
 have hm1:n+1+(enc m).length+m≤maxLen:=by unfold maxLen; omega
 have hm2:(n+1+(enc m).length+m) * 1≤140737488355328:=by omega
 go_upto_region 5 with (at_builtin; (refine wpList_app rfl _ _ 22 rfl B 5 i0 (.int .u8 0) 1 1 Tryz.underlying22 hi hz0 hz1 hz2 rfl (by decide) _ (n+1+(enc m).length) _ rfl hS3.own B A2 m c2 (bs p) rfl hr3 (bs_one _) hm1 hm2 hs3 ?_); intro v' w4 hown' hst; obtain ⟨A4,c4,rfl,_⟩:=own_form hown')
 have hS4:=hS3.step (by rw [bs_append]; exact hown') hst
 clear hS3 hown' hst hs3 hm1 hm2 q3 hr3
 have hcap:=own_cap hS4.own
 obtain ⟨D,hD,rD⟩:=slice_lo (j:=n) (Rd.own hS4.own) (by omega) hcap.1
 rw [← bs_drop] at rD
 have hdrop:(lb ++ [k] ++ enc m ++ p).drop n=frB k p:=by
  rw [List.append_assoc,List.append_assoc,List.drop_left' HLN.out]
  unfold frB
  rw [HPM.out]
  rfl
 rw [hdrop] at rD
 have hfB:=frB_byte hk HP.out
 have hfl:(frB k p).length=1+(enc m).length+m:=by rw [frB_length,HPM.out]
 have CK:=fcheck_any w4.heap.size D (n+1+(enc m).length+m - n) (c4 - n) (frB k p) w4 (HTB.out _ _ hS4.stp) rD hfB (by omega) (by omega) (Nat.le_refl _)
 have HCK:=Lib_hid CK
 have HFL:=Lib_hid hfl
 clear CK rD hfB hdrop hfl
 go_wp2_with fail
 refine HCK.out.mono ?_
 rintro e w5 ⟨A5,c5,rfl,ho5,hb5⟩
 have hS5:=hS4.keep hb5
 have hs5:=HBS.out _ _ hS5.stp
 have hm1:n+1+(enc m).length+m+(le4 (crcN (frB k p))).length≤maxLen:=by rw [le4_length]; unfold maxLen; omega
 have hm2:(n+1+(enc m).length+m+(le4 (crcN (frB k p))).length) * 1≤140737488355328:=by rw [le4_length]; omega
 clear hS4 hb5 HCK hD
 go_wp2_with (at_builtin; (refine wpList_app rfl _ _ 22 rfl B 5 i0 (.int .u8 0) 1 1 Tryz.underlying22 hi hz0 hz1 hz2 rfl (by decide) _ (n+1+(enc m).length+m) _ rfl hS5.own w5.heap.size A5 _ c5 _ rfl (Rd.own ho5) (bs_one _) hm1 hm2 hs5 ?_); intro v' w6 hown' hst; obtain ⟨A6,c6,rfl,_⟩:=own_form hown')
 have hS6:=hS5.step (by rw [bs_append]; exact hown') hst
 go_ret
 refine ⟨A6,_,c6,rfl,?_,hS6.stp⟩
 have:=hS6.own
 rwa [show lb ++ [k] ++ enc m ++ p ++ le4 (crcN (frB k p))=lb ++ frS k p by unfold frS frB; rw [HPM.out]; simp] at this
def strb (l:List Nat):ByteArray:=⟨(l.map fun (n:Nat)=>UInt8.ofNat n).toArray⟩
theorem strb_inj {l m:List Nat} (hl:∀ x∈l,x<256) (hm:∀ x∈m,x<256) (h:(strb l).data.toList=(strb m).data.toList):l=m:=by
 simp only [strb] at h
 induction l generalizing m with
 | nil=>cases m <;> simp_all
 | cons a l ih=>
  cases m with
  | nil=>simp at h
  | cons b m=>
   simp only [List.map_cons,List.cons.injEq] at h
   have hab:a=b:=by
    have:=congrArg UInt8.toNat h.1
    simp only [UInt8.toNat_ofNat'] at this
    have h1:=hl a (by simp)
    have h2:=hm b (by simp)
    omega
   rw [hab,ih (m:=m) (fun x hx=>hl x (by simp [hx])) (fun x hx=>hm x (by simp [hx])) h.2]
theorem push_bytes:∀ (l:List Nat) (s:ByteArray),(l.map fun (n:Nat)=>(n:Int)).foldl (fun r n=>r.push (UInt8.ofNat n.toNat)) s=⟨s.data ++ (l.map fun (n:Nat)=>UInt8.ofNat n).toArray⟩
 | [],s=>by simp
 | n :: ns,s=>by
  rw [List.map_cons,List.foldl_cons,push_bytes ns]
  simp [ByteArray.push]
theorem run_loadCells_rd {P:Program} {w:World} {B n:Nat} {ad:Addr} {l:List Nat} (h:Rd w B 1 (some ad) n (bs l)):(loadCells ad n).run P w=.ok ((l.map fun (n:Nat)=>(n:Int)).map (Value.int .u8)).toArray w:=by
 have hc:=h.count
 have:=run_loadCells_list (P:=P) w ad (bs l) (fun j v hj=>by
  have hjl:j<l.length:=by
   rcases Nat.lt_or_ge j l.length with h | h
   · exact h
   · rw [List.getElem?_eq_none (by rw [bs_length]; exact h)] at hj; cases hj
  obtain ⟨ad',e,_,hc'⟩:=h.lies (by omega)
  injection e with e
  subst e
  exact hc' j v hj)
 rw [bs_length,hc] at this
 rw [this]
 simp [bs]
theorem run_str {w:World} {B n c:Nat} {A:Option Addr} {l:List Nat} (h:Rd w B 1 A n (bs l)) (hc:A=none→n=0) :
 (convert 22 9 (.slice A n c)).run Tryz.prog w=.ok (.string (strb l)) w:=by
 rw [run_convert_bytes_string w 22 9 5 A n c Tryz.underlying22 Tryz.underlying5 Tryz.underlying9]
 cases A with
 | none=>
  have:l=[]:=List.eq_nil_of_length_eq_zero (by rw [h.count]; exact hc rfl)
  subst this
  simp [Conv.bytesToString,strb,ByteArray.empty,ByteArray.emptyWithCapacity]
  rfl
 | some ad=>
  rw [run_bytesToString w ad n c _ (run_loadCells_rd h),push_bytes]
  simp [strb,ByteArray.empty,ByteArray.emptyWithCapacity]
  rfl
theorem rd_none {w:World} {B n size:Nat} {A:Option Addr} {xs:List Value} (h:Rd w B size A n xs):A=none→n=0:=by
 intro e
 rcases Nat.eq_zero_or_pos n with h0 | h0
 · exact h0
 · obtain ⟨ad,e2,_⟩:=h.lies h0
   rw [e] at e2; cases e2
theorem equal_any (B B':Nat) (A A':Option Addr) (n n' c c':Nat) (l m:List Nat) (w:World) (h:Rd w B 1 A n (bs l)) (h':Rd w B' 1 A' n' (bs m)) (hl:∀ x∈l,x<256) (hm:∀ x∈m,x<256) :
 Calls Tryz.prog 113 #[.slice A n c,.slice A' n' c'] w fun e w'=>e=.returned (.bool (eqB l m))∧w=w':=by
 have h1:=run_str (c:=c) h (rd_none h)
 have h2:=run_str (c:=c') h' (rd_none h')
 have he:eqB l m=((strb l).data.toList == (strb m).data.toList):=by
  rw [Bool.eq_iff_iff]
  unfold eqB
  rw [decide_eq_true_iff,beq_iff_eq]
  exact ⟨fun e=>by rw [e],strb_inj hl hm⟩
 have HE:=Lib_hid he
 clear he hl hm h h'
 generalize strb l=s1 at *
 generalize strb m=s2 at *
 go_enter Tryz.func113,Tryz.ntmps113
 go_wp2
 go_ret
 exact ⟨by rw [HE.out,← Lib.toList_data,← Lib.toList_data]; rfl,rfl⟩
structure FrV where
 k:Nat
 A:Option Addr
 n:Nat
 c:Nat
def FrV.cells (f:FrV):List Value:=[.int .u8 (f.k:Int),.slice f.A f.n f.c]
def frCells (l:List FrV):List Value:=l.flatMap FrV.cells
theorem frCells_get:∀ (l:List FrV) (i j:Nat) (a:FrV),l[i]? = some a→j<2→(frCells l)[i * 2+j]? = a.cells[j]?:=by
 intro l
 induction l with
 | nil=>intro i j a h; simp at h
 | cons x l ih=>
  intro i j a h hj
  have e:frCells (x :: l)=x.cells ++ frCells l:=rfl
  have hx:x.cells.length=2:=rfl
  cases i with
  | zero=>
   simp at h
   subst h
   rw [e,Nat.zero_mul,Nat.zero_add,List.getElem?_append_left (by omega)]
  | succ i=>
   rw [e,List.getElem?_append_right (by omega),hx,show (i+1) * 2+j - 2=i * 2+j by omega]
   exact ih i j a (by simpa using h) hj
theorem frCells_length (l:List FrV):(frCells l).length=l.length * 2:=by
 induction l with
 | nil=>rfl
 | cons x l ih=>show (x.cells ++ frCells l).length=_; rw [List.length_append,ih]; simp [FrV.cells]; omega
theorem add_plain (b off k:Nat):(⟨b,off,none⟩:Addr).add k=⟨b,off+k,none⟩:=by
 unfold Addr.add
 by_cases h:k=0 <;> simp [h]
theorem fr_at {w:World} {B n:Nat} {A:Option Addr} {l:List FrV} (h:Rd w B 2 A n (frCells l)) (hl:l.length=n) {i:Nat} (hi:i<n) :
 ∃ (b off:Nat) (a:FrV),A=some ⟨b,off,none⟩∧b<B∧l[i]? = some a∧w.cell? ⟨b,off+i * 2,none⟩=some (.int .u8 (a.k:Int))∧w.cell? ⟨b,off+i * 2+1,none⟩=some (.slice a.A a.n a.c):=by
 obtain ⟨ad,e,hb,hc⟩:=h.lies (by omega)
 have ha:l[i]? = some l[i]:=List.getElem?_eq_getElem (by omega)
 have g:=frCells_get l i
 obtain ⟨b,off,spot⟩:=ad
 have ha0:l[0]? = some (l[0]'(by omega)):=List.getElem?_eq_getElem (by omega)
 have hspot:spot=none:=World.cell?_spot (a:=⟨b,off,spot⟩) (hc 0 _ (frCells_get l 0 0 _ ha0 (by omega)))
 subst hspot
 have k:∀ j,j<2→w.cell? ⟨b,off+i * 2+j,none⟩=l[i].cells[j]?:=by
  intro j hj
  have h5:l[i].cells[j]? = some (l[i].cells[j]'(by show j<2; omega)):=List.getElem?_eq_getElem _
  have:=hc _ _ ((g j _ ha hj).trans h5)
  rw [add_plain] at this
  rw [h5,← this,Nat.add_assoc]
 exact ⟨b,off,l[i],e,hb,ha,k 0 (by omega),k 1 (by omega)⟩
structure FrOK (w:World) (B:Nat) (f:FrV) (d:Nat×List Nat):Prop where
 k:f.k=d.1
 k8:d.1<256
 p:Rd w B 1 f.A f.n (bs d.2)
 p8:∀ x∈d.2,x<256
 cap:f.n≤f.c∧f.c≤9223372036854775807
theorem FrOK.below {w w':World} {B:Nat} {f:FrV} {d:Nat×List Nat} (h:FrOK w B f d) (hb:Below B w w'):FrOK w' B f d:=⟨h.k,h.k8,h.p.below hb,h.p8,h.cap⟩
theorem FrOK.more {w:World} {B B':Nat} {f:FrV} {d:Nat×List Nat} (h:FrOK w B f d) (hB:B≤B'):FrOK w B' f d:=⟨h.k,h.k8,h.p.more hB,h.p8,h.cap⟩
theorem FrOK.keep {w w':World} {B:Nat} {f:FrV} {d:Nat×List Nat} (h:FrOK w B f d) (hk:∀ p:Addr,p.block<B→w'.cell? p=w.cell? p):FrOK w' B f d:=⟨h.k,h.k8,h.p.keep hk,h.p8,h.cap⟩
structure FrRow (w:World) (B:Nat) (fs:List FrV) (ds:List (Nat×List Nat)):Prop where
 len:fs.length=ds.length
 ok:∀ (i:Nat) (f:FrV) (d:Nat×List Nat),fs[i]? = some f→ds[i]? = some d→FrOK w B f d
theorem FrRow.below {w w':World} {B:Nat} {fs:List FrV} {ds:List (Nat×List Nat)} (h:FrRow w B fs ds) (hb:Below B w w'):FrRow w' B fs ds:=⟨h.len,fun i f d h1 h2=>(h.ok i f d h1 h2).below hb⟩
theorem FrRow.more {w:World} {B B':Nat} {fs:List FrV} {ds:List (Nat×List Nat)} (h:FrRow w B fs ds) (hB:B≤B'):FrRow w B' fs ds:=⟨h.len,fun i f d h1 h2=>(h.ok i f d h1 h2).more hB⟩
theorem FrRow.keep {w w':World} {B:Nat} {fs:List FrV} {ds:List (Nat×List Nat)} (h:FrRow w B fs ds) (hk:∀ p:Addr,p.block<B→w'.cell? p=w.cell? p):FrRow w' B fs ds:=⟨h.len,fun i f d h1 h2=>(h.ok i f d h1 h2).keep hk⟩
theorem FrRow.bytes {w:World} {B:Nat} {fs:List FrV} {ds:List (Nat×List Nat)} (h:FrRow w B fs ds):∀ d∈ds,d.1<256∧∀ x∈d.2,x<256:=by
 intro d hd
 obtain ⟨i,hi,rfl⟩:=List.mem_iff_getElem.1 hd
 have hl:=h.len
 have:=h.ok i _ _ (List.getElem?_eq_getElem (by omega)) (List.getElem?_eq_getElem hi)
 exact ⟨this.k8,this.p8⟩
theorem FrRow.at {w:World} {B n:Nat} {A:Option Addr} {fs:List FrV} {ds:List (Nat×List Nat)} (h:FrRow w B fs ds) (hr:Rd w B 2 A n (frCells fs)) {i:Nat} (hi:i<n) :
 ∃ (b off k:Nat) (A2:Option Addr) (m c2:Nat) (p:List Nat),A=some ⟨b,off,none⟩∧b<B∧ds[i]? = some (k,p)∧w.cell? ⟨b,off+i * 2,none⟩=some (.int .u8 (k:Int))∧w.cell? ⟨b,off+i * 2+1,none⟩=some (.slice A2 m c2)∧
  k<256∧Rd w B 1 A2 m (bs p)∧(∀ x∈p,x<256)∧m≤c2∧c2≤9223372036854775807:=by
 have hl:fs.length=n:=by have:=hr.len; rw [frCells_length] at this; omega
 obtain ⟨b,off,f,hA,hb,hf,c0,c1⟩:=fr_at hr hl hi
 have hil:i<ds.length:=by have:=h.len; omega
 have hd:ds[i]? = some ds[i]:=List.getElem?_eq_getElem hil
 have ok:=h.ok i f _ hf hd
 obtain ⟨k,A2,m,c2⟩:=f
 generalize ds[i]=d at *
 obtain ⟨k',p⟩:=d
 obtain ⟨h1,h2,h3,h4,h5⟩:=ok
 simp only at h1 h2 h3 h4 h5 c0 c1
 subst h1
 exact ⟨b,off,k,A2,m,c2,p,hA,hb,hd,c0,c1,h2,h3,h4,h5.1,h5.2⟩
set_option maxRecDepth 100000 in
set_option maxHeartbeats 800000 in
theorem fput_any (B:Nat) (A:Option Addr) (n c:Nat) (fs:List FrV) (ds:List (Nat×List Nat)) (w:World) (hT:Tab w) (h:Rd w B 2 A n (frCells fs)) (hF:FrRow w B fs ds) (hB:B≤w.heap.size) (hn:n≤1000000000) (hl:(frAll ds).length≤1000000000) :
 Calls Tryz.prog 38 #[.slice A n c] w (Made 5 (frAll ds) w):=by
 have h0:=hT.1
 have hFB:=hF.bytes
 have HL:Hid (∀ i,(frAll (ds.take i)).length≤1000000000):=fun i=>Nat.le_trans (frAll_le ds i) hl
 have HFB:=Lib_hid hFB
 have HN:Hid (ds.length=n):=by have:=h.len; rw [frCells_length] at this; have:=hF.len; unfold Hid; omega
 have HR:=fun (W:World) (hW:Below w.heap.size w W) (i:Nat) (hi:i<n)=>(hF.below (hW.mono hB)).at (h.below (hW.mono hB)) hi
 have HH:=Lib_hid HR
 clear HR hFB hl h hF
 go_enter Tryz.func38,Tryz.ntmps38
 go_wp2
 go_loopw [3,8] (fun b x wr=>∃ (i n' c':Nat) (A':Option Addr),b=.slice A' n' c'∧x=.int .i64 i∧i≤n∧wr.ownsRow w.heap.size 5 1 (.slice A' n' c') n' (bs (frAll (ds.take i)))∧Below w.heap.size w wr) (fun _ x _=>n - (intOf x).toNat)
 case atStart=>exact ⟨0,0,0,none,rfl,rfl,Nat.zero_le _,own_none _ _ _,Below.refl _ _⟩
 case round=>
  obtain ⟨i,n',c',A',rfl,rfl,hi,ho,hbw⟩:=hrel
  by_cases hlt:i<n
  · obtain ⟨b,off,k,A2,m,c2,p,rfl,hb,hd,c0,c1,hk,hp,hp8,hm1,hm2⟩:=HH.out wr hbw i hlt
    have hln:(frAll (ds.take i)).length=n':=by have:=ho.1; rw [bs_length] at this; omega
    have ht:=frAll_take hd
    have hle:=HL.out (i+1)
    rw [ht,List.length_append,frS_length] at hle
    have hle0:=HL.out i
    have hpm:p.length=m:=hp.count
    have hlb:∀ x∈frAll (ds.take i),x<256:=frAll_byte fun d hd=>HFB.out d (List.mem_of_mem_take hd)
    simp only at hle ht
    have hsz:=hbw.size
    have hb1:=below_new wr (.cells #[.int .u8 (k:Int),.slice A2 m c2] 92)
    have G:=fstand_any w.heap.size A' n' c' _ k A2 m c2 p _ (hT.below (hbw.trans (hb1.mono hsz)) h0) (by omega) (by simp; omega) (own_below ho hb1 (own_lt ho)) hlb ((hp.below (hb1.mono (by omega))).more hB) hp8 hk (by omega) (by omega)
    rw [← ht] at G
    have HG:=Lib_hid G
    have hbw1:=hbw.trans (hb1.mono hsz)
    have hge:=own_ge ho
    clear G ht hd hlb hpm hp hln hle hle0 ho hbw hb1
    go_wp2_with fail
    refine HG.out.mono ?_
    rintro e w2 ⟨A3,n3,c3,rfl,ho3,hst⟩
    have hbw2:=hbw1.trans (hst.below (by simp; omega) hge)
    clear HG hst hbw1 c0 c1
    go_wp2_with fail
    go_roundw
    case rel=>exact ⟨i+1,n3,c3,A3,rfl,by go_num,by omega,ho3,hbw2⟩
    case measure=>simp [intOf]; omega
  · obtain rfl:i=n:=by omega
    rw [List.take_of_length_le (by rw [HN.out]; exact Nat.le_refl _)] at ho
    clear hlt hi
    go_wp2
    go_ret
    rw [made_iff]
    exact ⟨A',n',c',rfl,ho,hbw⟩
end Go.Proofs.YtinmoknbgnngcaaGreatDoor
