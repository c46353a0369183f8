/-
  Layer 5: Text, the document's.
-/
import Derived.Test.YtinmoknbgnngcaaGreatDoorZwVds
import Derived.Test.YtinmoknbgnngcaaGreatDoorZwVdr
import Derived.Deep.RegionHeld3
import Derived.Test.YtinmoknbgnngcaaGreatDoorZwVyu
namespace Go.Proofs.YtinmoknbgnngcaaGreatDoor
open Go Go.RowKit
set_option linter.unusedVariables false
theorem tell_one {r:Rc} (h:r.kind=1∨r.kind=6∨r.kind=7):r.tell=nameL r.kind ++ [32] ++ Lib.decDigits r.t:=by
 rw [tell_ws,show partsN r.kind 6=[0] by rw [partsN_of]; rcases h with h | h | h <;> rw [h] <;> rfl,wsL_cons]
 show nameL r.kind ++ (([32] ++ Lib.decDigits r.t ++ []) ++ [])=_
 simp
theorem tell_k2 {r:Rc} (h:r.kind=2):r.tell=nameL 2 ++ [32] ++ Lib.decDigits r.t ++ [32] ++ Lib.decDigits r.x ++ [32] ++ verL r.w r.n:=by
 rw [tell_ws,show partsN r.kind 6=[0,1,2] by rw [partsN_of,h]; rfl,wsL_cons,wsL_cons,wsL_cons,h]
 show nameL 2 ++ (([32] ++ Lib.decDigits r.t ++ []) ++ (([32] ++ Lib.decDigits r.x ++ []) ++ (([32] ++ verL r.w r.n ++ []) ++ [])))=_
 simp
theorem tell_k3 {r:Rc} (h:r.kind=3):r.tell=nameL 3 ++ [32] ++ Lib.decDigits r.t ++ [32] ++ Lib.decDigits r.x ++ [32] ++ Lib.decDigits r.v:=by
 rw [tell_ws,show partsN r.kind 6=[0,1,3] by rw [partsN_of,h]; rfl,wsL_cons,wsL_cons,wsL_cons,h]
 show nameL 3 ++ (([32] ++ Lib.decDigits r.t ++ []) ++ (([32] ++ Lib.decDigits r.x ++ []) ++ (([32] ++ Lib.decDigits r.v ++ []) ++ [])))=_
 simp
theorem tell_k4 {r:Rc} (h:r.kind=4):r.tell=nameL 4 ++ [32] ++ Lib.decDigits r.t ++ [32] ++ Lib.decDigits r.x:=by
 rw [tell_ws,show partsN r.kind 6=[0,1] by rw [partsN_of,h]; rfl,wsL_cons,wsL_cons,h]
 show nameL 4 ++ (([32] ++ Lib.decDigits r.t ++ []) ++ (([32] ++ Lib.decDigits r.x ++ []) ++ []))=_
 simp
theorem tell_k5 {r:Rc} (h:r.kind=5):r.tell=nameL 5 ++ [32] ++ Lib.decDigits r.t ++ [32] ++ r.p.text ++ ensL r.es:=by
 rw [tell_ws,show partsN r.kind 6=[0,4,5] by rw [partsN_of,h]; rfl,wsL_cons,wsL_cons,wsL_cons,h]
 show nameL 5 ++ (([32] ++ Lib.decDigits r.t ++ []) ++ (([32] ++ r.p.text ++ []) ++ ((r.es.map En.tell).flatMap ([32] ++ ·) ++ [])))=_
 rw [ens_ws]
 simp
theorem ensL_snoc (es:List En) (e:En):ensL (es ++ [e])=ensL es ++ [32] ++ Lib.decDigits e.x ++ [58] ++ verL e.w e.n ++ (if e.m then [58,49] else [58,48]):=by
 unfold ensL
 rw [List.flatMap_append,List.flatMap_cons,List.flatMap_nil,en_tell]
 cases e.m <;> simp
theorem nameL_len (k:Int):(nameL k).length≤6:=by
 unfold nameL
 repeat' split
 all_goals decide
set_option maxRecDepth 100000 in
set_option maxHeartbeats 6400000 in
theorem rtext5_any (r:Rv) (w:World) (lo hi:Nat) (hL:RLies w lo hi r) (hhi:hi≤w.heap.size) (hct:r.p.abs.count≤1000) (hes:r.es.length≤1000) :
 Calls Tryz.prog 35 #[r.val] w fun e w'=>e=.returned (.string ⟨r.abs.text.toArray⟩)∧Below w.heap.size w w':=by
 have RG:Hid (∀ W,Below w.heap.size w W→Calls Tryz.prog 57 #[r.val] W fun e w'=>e=.returned (.bool r.abs.rightB)∧Below W.heap.size W w'):=fun W hW=>rright5_any r W lo hi (hL.under (hW.mono hhi)) (Nat.le_trans hhi hW.size) hct
 have TX:Hid (∀ W,Below w.heap.size w W→Calls Tryz.prog 66 #[r.p.val] W fun e w'=>e=.returned (.string ⟨r.p.abs.text.toArray⟩)∧Below W.heap.size W w'):=fun W hW=>rtext_any r.p W lo hi (hL.p.under (hW.mono hhi)) (Nat.le_trans hhi hW.size) hct
 have HR:Hid (∀ W,Below w.heap.size w W→Rd W hi 4 r.A r.es.length (enCells r.es)):=fun W hW=>hL.es.below (hW.mono hhi)
 have htl:r.p.abs.text.length≤50000:=by
  have:=tell_len r.p hL.p
  unfold T.text
  split
  · omega
  · simp
 have HOK:=Lib_hid hL.ok
 have HTXT:Hid (r.abs.text=if r.abs.rightB then r.abs.tell else []):=rfl
 have T1:Hid ((r.kind=1∨r.kind=6∨r.kind=7)→r.abs.tell=nameL r.kind ++ [32] ++ Lib.decDigits r.t):=fun h=>tell_one h
 have T2:Hid (r.kind=2→r.abs.tell=nameL 2 ++ [32] ++ Lib.decDigits r.t ++ [32] ++ Lib.decDigits r.x ++ [32] ++ verL r.w r.n):=fun h=>tell_k2 h
 have T3:Hid (r.kind=3→r.abs.tell=nameL 3 ++ [32] ++ Lib.decDigits r.t ++ [32] ++ Lib.decDigits r.x ++ [32] ++ Lib.decDigits r.v):=fun h=>tell_k3 h
 have T4:Hid (r.kind=4→r.abs.tell=nameL 4 ++ [32] ++ Lib.decDigits r.t ++ [32] ++ Lib.decDigits r.x):=fun h=>tell_k4 h
 have T5:Hid (r.kind=5→r.abs.tell=nameL 5 ++ [32] ++ Lib.decDigits r.t ++ [32] ++ r.p.abs.text ++ ensL r.es):=fun h=>tell_k5 h
 have HK:Hid (r.abs.rightB=true→1≤r.kind∧r.kind≤7):=fun h=>(right_shape h).1
 have ht:=hL.t
 have hx:=hL.x
 have hwn:=hL.wn
 have hnn:=hL.n
 have hv:=hL.v
 have hcap:=hL.cap
 clear hL hct
 generalize r.abs.text=rt at *
 generalize r.abs.tell=rtl at *
 generalize r.abs.rightB=rr at *
 obtain ⟨k,t,x,wn,nn,v,p,Ae,ce,es⟩:=r
 simp only [Rv.val,Rv.arr,Rv.sl,V.sl,V.val] at RG TX HR HK HOK T1 T2 T3 T4 T5 htl ht hx hwn hnn hv hcap hes ⊢
 generalize p.abs.text=pt at *
 have h1:=heap_alloc_new w (.cells #[.int .i64 k,.int .u64 (t:Int),.int .u64 (x:Int),.int .u64 (wn:Int),.int .u64 (nn:Int),.int .u64 (v:Int),.int .i64 p.kind,.int .u64 (p.a:Int),.int .u64 (p.b:Int),.slice p.addr p.parts.length p.cap,.slice Ae es.length ce] 60)
 have b1:=below_new w (.cells #[.int .i64 k,.int .u64 (t:Int),.int .u64 (x:Int),.int .u64 (wn:Int),.int .u64 (nn:Int),.int .u64 (v:Int),.int .i64 p.kind,.int .u64 (p.a:Int),.int .u64 (p.b:Int),.slice p.addr p.parts.length p.cap,.slice Ae es.length ce] 60)
 generalize p.addr=pA at *
 generalize p.parts.length=pn at *
 generalize p.cap=pc at *
 generalize p.kind=pk at *
 generalize (p.a:Int)=pa at *
 generalize (p.b:Int)=pb at *
 have hdt:=dec_len ht
 have hdx:=dec_len hx
 have hdv:=dec_len hv
 have hvl:=verL_len hwn hnn
 have hnm:=nameL_len k
 have DG:Hid (∀ n:Nat,(n:Int)≤18446744073709551615→∀ W,Calls Tryz.prog 64 #[.int .u64 (n:Int)] W fun e w'=>e=.returned (.string ⟨(Lib.decDigits n).toArray⟩)∧w'=W):=fun n hn W=>rdigits_any n W (by omega)
 have TO:Hid (∀ a b:Nat,(a:Int)≤18446744073709551615→(b:Int)≤18446744073709551615→∀ W,Calls Tryz.prog 65 #[.agg #[.int .u64 (a:Int),.int .u64 (b:Int)]] W fun e w'=>e=.returned (.string ⟨(verL a b).toArray⟩)∧Below W.heap.size W w'):=fun a b ha hb W=>rtold5_any a b W (by omega) (by omega)
 cases hr:rr with
 | false=>
  rw [hr] at RG
  have HF:Hid (rt=[]):=by unfold Hid; rw [HTXT.out,hr]; rfl
  clear T1 T2 T3 T4 T5 TO DG TX HR HTXT HK hr
  go_enter Tryz.func35,Tryz.ntmps35
  go_wp2_with fail
  refine (RG.out _ b1).mono ?_
  rintro e w2 ⟨rfl,hb2⟩
  have hb3:=b1.trans (hb2.mono b1.size)
  clear b1 hb2 h1
  go_wp2
  go_ret
  exact ⟨by rw [HF.out]; rfl,hb3⟩
 | true=>
  have HKK:=HK.out hr
  have hk7:k=1∨k=2∨k=3∨k=4∨k=5∨k=6∨k=7:=by omega
  have HE:Hid (rt=rtl):=by unfold Hid; rw [HTXT.out,hr]; rfl
  rw [hr] at RG
  clear HTXT hr HK HKK
  obtain ⟨kn,rfl⟩:∃ kn:Nat,k=kn:=⟨k.toNat,by omega⟩
  go_enter Tryz.func35,Tryz.ntmps35
  go_upto_region 1 with (fail)
  generalize w.alloc (.cells #[.int .i64 (kn:Int),.int .u64 (t:Int),.int .u64 (x:Int),.int .u64 (wn:Int),.int .u64 (nn:Int),.int .u64 (v:Int),.int .i64 pk,.int .u64 pa,.int .u64 pb,.slice pA pn pc,.slice Ae es.length ce] 60)=w1 at *
  obtain ⟨c0,c1,c2,c3,c4,c5,c6,c7,c8,c9,c10⟩:=rec_cells h1
  go_wp2_with fail
  refine (RG.out _ b1).mono ?_
  rintro e w2 ⟨rfl,hb2⟩
  have hx2:=(hb2.block _ (lt_of_block h1)).trans h1
  have hbw:=b1.trans (hb2.mono b1.size)
  clear c0 c1 c2 c3 c4 c5 c6 c7 c8 c9 c10 h1 b1 hb2 RG
  have hlt2:=lt_of_block hx2
  have BX:Hid (∀ W,Below w2.heap.size w2 W→W.heap[w.heap.size]? = some (.cells #[.int .i64 (kn:Int),.int .u64 (t:Int),.int .u64 (x:Int),.int .u64 (wn:Int),.int .u64 (nn:Int),.int .u64 (v:Int),.int .i64 pk,.int .u64 pa,.int .u64 pb,.slice pA pn pc,.slice Ae es.length ce] 60 (0,0))):=fun W hW=>(hW.block _ hlt2).trans hx2
  have hkn8:kn<8:=by omega
  have hkn8i:(kn:Int)<8:=by omega
  have HWV:=Lib_hid (wordsV_at hkn8)
  have HC0:Hid ((⟨(nameL (kn:Int)).toArray⟩:ByteArray) ++ ⟨#[32]⟩ ++ ⟨(Lib.decDigits t).toArray⟩=⟨(nameL (kn:Int) ++ [32] ++ Lib.decDigits t).toArray⟩):=by unfold Hid; rw [show (⟨#[32]⟩:ByteArray)=⟨[(32:UInt8)].toArray⟩ from rfl,bcat,bcat]
  have hz1:¬ 9223372036854775807<(nameL (kn:Int)).length+1:=by omega
  have hz2:¬ 9223372036854775807<(nameL (kn:Int)).length+1+(Lib.decDigits t).length:=by omega
  have hXl:(nameL (kn:Int) ++ [32] ++ Lib.decDigits t).length≤30:=by simp; omega
  clear hx2
  go_wp2
  refine wp_region_mid (N:=93) (fun i v ww=>([fun v ww=>∃ g,v=.slice (some ⟨g,0,none⟩) 8 8∧ww.heap[g]? = some (.cells wordsV 9 (0,0)),fun v ww=>v=.pointer (some ⟨w.heap.size,0,none⟩),fun v ww=>v=.int .i64 (kn:Int),fun v ww=>∃ g,v=.pointer (some ⟨g,kn,none⟩)∧ww.heap[g]? = some (.cells wordsV 9 (0,0)),fun v ww=>v=.string ⟨(nameL (kn:Int)).toArray⟩,fun v ww=>v=.string ((⟨(nameL (kn:Int)).toArray⟩:ByteArray) ++ (⟨#[32]⟩:ByteArray)),fun v ww=>v=.pointer (some ⟨w.heap.size,1,none⟩),fun v ww=>v=.int .u64 (t:Int),fun v ww=>v=.string ⟨(Lib.decDigits t).toArray⟩,fun v ww=>v=.string ((⟨(nameL (kn:Int)).toArray⟩:ByteArray) ++ (⟨#[32]⟩:ByteArray) ++ (⟨(Lib.decDigits t).toArray⟩:ByteArray)),fun v ww=>v=.string ((⟨(nameL (kn:Int)).toArray⟩:ByteArray) ++ (⟨#[32]⟩:ByteArray) ++ (⟨(Lib.decDigits t).toArray⟩:ByteArray))]:List (Value→World→Prop)).getD i (fun _ _=>True) v ww) (by kernel_rfl) (by kernel_rfl) rfl ?_ ?_ ?_
  · intro i v wa wb h0 hb hp
    by_cases hi:i<11
    · have hcase:i=0∨i=1∨i=2∨i=3∨i=4∨i=5∨i=6∨i=7∨i=8∨i=9∨i=10:=by omega
      rcases hcase with rfl | rfl | rfl | rfl | rfl | rfl | rfl | rfl | rfl | rfl | rfl
      · obtain ⟨g,e,hg⟩:=hp
        exact ⟨g,e,(hb.block g (lt_of_block hg)).trans hg⟩
      · exact hp
      · exact hp
      · obtain ⟨g,e,hg⟩:=hp
        exact ⟨g,e,(hb.block g (lt_of_block hg)).trans hg⟩
      · exact hp
      · exact hp
      · exact hp
      · exact hp
      · exact hp
      · exact hp
      · exact hp
    · have hnn:([fun v ww=>∃ g,v=.slice (some ⟨g,0,none⟩) 8 8∧ww.heap[g]? = some (.cells wordsV 9 (0,0)),fun v ww=>v=.pointer (some ⟨w.heap.size,0,none⟩),fun v ww=>v=.int .i64 (kn:Int),fun v ww=>∃ g,v=.pointer (some ⟨g,kn,none⟩)∧ww.heap[g]? = some (.cells wordsV 9 (0,0)),fun v ww=>v=.string ⟨(nameL (kn:Int)).toArray⟩,fun v ww=>v=.string ((⟨(nameL (kn:Int)).toArray⟩:ByteArray) ++ (⟨#[32]⟩:ByteArray)),fun v ww=>v=.pointer (some ⟨w.heap.size,1,none⟩),fun v ww=>v=.int .u64 (t:Int),fun v ww=>v=.string ⟨(Lib.decDigits t).toArray⟩,fun v ww=>v=.string ((⟨(nameL (kn:Int)).toArray⟩:ByteArray) ++ (⟨#[32]⟩:ByteArray) ++ (⟨(Lib.decDigits t).toArray⟩:ByteArray)),fun v ww=>v=.string ((⟨(nameL (kn:Int)).toArray⟩:ByteArray) ++ (⟨#[32]⟩:ByteArray) ++ (⟨(Lib.decDigits t).toArray⟩:ByteArray))]:List (Value→World→Prop))[i]? = none:=List.getElem?_eq_none (by simpa using hi)
      rw [List.getD_eq_getElem?_getD,hnn]
      trivial
  · intro i o a wx hi hM hD
    have hi8:i<11:=(Array.getElem?_eq_some_iff.1 hi).1
    have hcase:i=0∨i=1∨i=2∨i=3∨i=4∨i=5∨i=6∨i=7∨i=8∨i=9∨i=10:=by omega
    clear hi8
    rcases hcase with rfl | rfl | rfl | rfl | rfl | rfl | rfl | rfl | rfl | rfl | rfl
    · obtain rfl:=Option.some.inj hi
      refine ⟨rfl,mid_call (fun v w'=>(∃ g,v=.slice (some ⟨g,0,none⟩) 8 8∧w'.heap[g]? = some (.cells wordsV 9 (0,0)))∧Below wx.heap.size wx w') (fun K hK=>?_) (fun v w' h=>⟨v,rfl,h.1,h.2⟩)⟩
      go_simp
      refine (rwords5_any wx).mono ?_
      rintro e w' ⟨rfl,hr,hb',-⟩
      exact hK _ _ ⟨⟨_,rfl,hr⟩,hb'⟩
    · obtain rfl:=Option.some.inj hi
      have e1:a.tmps.getD 1 undef=.pointer (some ⟨w.heap.size,0,none⟩):=(hM.other 1 (by decide +kernel)).trans rfl
      refine ⟨rfl,mid_step (.pointer (some ⟨w.heap.size,0,none⟩)) wx (fun K hK=>?_) ⟨_,rfl,rfl,Below.refl _ _⟩⟩
      go_simp
      exact hK
    · obtain rfl:=Option.some.inj hi
      have e10:a.tmps.getD 10 undef=.pointer (some ⟨w.heap.size,0,none⟩):=hD 1 (by kernel_rfl) _ 10 rfl rfl
      obtain ⟨c0,c1,-,-,-,-,-,-,-,-,-⟩:=rec_cells (BX.out wx hM.below)
      refine ⟨rfl,mid_step (.int .i64 (kn:Int)) wx (fun K hK=>?_) ⟨_,rfl,rfl,Below.refl _ _⟩⟩
      go_simp
      exact hK
    · obtain rfl:=Option.some.inj hi
      obtain ⟨g,e9,hg⟩:=hD 0 (by kernel_rfl) _ 9 rfl rfl
      have e11:a.tmps.getD 11 undef=.int .i64 (kn:Int):=hD 2 (by kernel_rfl) _ 11 rfl rfl
      refine ⟨rfl,mid_step (.pointer (some ⟨g,kn,none⟩)) wx (fun K hK=>?_) ⟨_,rfl,⟨g,rfl,hg⟩,Below.refl _ _⟩⟩
      go_simp
      exact hK
    · obtain rfl:=Option.some.inj hi
      obtain ⟨g,e12,hg⟩:=hD 3 (by kernel_rfl) _ 12 rfl rfl
      have dk:wx.cell? ⟨g,kn,none⟩=some (.string ⟨(nameL (kn:Int)).toArray⟩):=(cell_of_row wx _ kn _ _ _ hg).trans HWV.out
      refine ⟨rfl,mid_step (.string ⟨(nameL (kn:Int)).toArray⟩) wx (fun K hK=>?_) ⟨_,rfl,rfl,Below.refl _ _⟩⟩
      go_simp
      exact hK
    · obtain rfl:=Option.some.inj hi
      have e13:a.tmps.getD 13 undef=.string ⟨(nameL (kn:Int)).toArray⟩:=hD 4 (by kernel_rfl) _ 13 rfl rfl
      refine ⟨rfl,mid_step (.string ((⟨(nameL (kn:Int)).toArray⟩:ByteArray) ++ (⟨#[32]⟩:ByteArray))) wx (fun K hK=>?_) ⟨_,rfl,rfl,Below.refl _ _⟩⟩
      go_simp
      exact hK
    · obtain rfl:=Option.some.inj hi
      have e1:a.tmps.getD 1 undef=.pointer (some ⟨w.heap.size,0,none⟩):=(hM.other 1 (by decide +kernel)).trans rfl
      refine ⟨rfl,mid_step (.pointer (some ⟨w.heap.size,1,none⟩)) wx (fun K hK=>?_) ⟨_,rfl,rfl,Below.refl _ _⟩⟩
      go_simp
      exact hK
    · obtain rfl:=Option.some.inj hi
      have e15:a.tmps.getD 15 undef=.pointer (some ⟨w.heap.size,1,none⟩):=hD 6 (by kernel_rfl) _ 15 rfl rfl
      obtain ⟨c0,c1,-,-,-,-,-,-,-,-,-⟩:=rec_cells (BX.out wx hM.below)
      refine ⟨rfl,mid_step (.int .u64 (t:Int)) wx (fun K hK=>?_) ⟨_,rfl,rfl,Below.refl _ _⟩⟩
      go_simp
      exact hK
    · obtain rfl:=Option.some.inj hi
      have e16:a.tmps.getD 16 undef=.int .u64 (t:Int):=hD 7 (by kernel_rfl) _ 16 rfl rfl
      refine ⟨rfl,mid_call (fun v w'=>v=.string ⟨(Lib.decDigits t).toArray⟩∧Below wx.heap.size wx w') (fun K hK=>?_) (fun v w' h=>⟨v,rfl,h.1,h.2⟩)⟩
      go_simp
      refine ((DG.out t ht wx).mono fun e w' h=>(⟨h.1,by rw [h.2]; exact Below.refl _ _⟩:e=.returned (.string ⟨(Lib.decDigits t).toArray⟩)∧Below wx.heap.size wx w')).mono ?_
      rintro e w' ⟨rfl,hb'⟩
      exact hK _ _ ⟨rfl,hb'⟩
    · obtain rfl:=Option.some.inj hi
      have e14:a.tmps.getD 14 undef=.string ((⟨(nameL (kn:Int)).toArray⟩:ByteArray) ++ (⟨#[32]⟩:ByteArray)):=hD 5 (by kernel_rfl) _ 14 rfl rfl
      have e17:a.tmps.getD 17 undef=.string ⟨(Lib.decDigits t).toArray⟩:=hD 8 (by kernel_rfl) _ 17 rfl rfl
      refine ⟨rfl,mid_step (.string ((⟨(nameL (kn:Int)).toArray⟩:ByteArray) ++ (⟨#[32]⟩:ByteArray) ++ (⟨(Lib.decDigits t).toArray⟩:ByteArray))) wx (fun K hK=>?_) ⟨_,rfl,rfl,Below.refl _ _⟩⟩
      go_simp
      exact hK
    · obtain rfl:=Option.some.inj hi
      have e18:a.tmps.getD 18 undef=.string ((⟨(nameL (kn:Int)).toArray⟩:ByteArray) ++ (⟨#[32]⟩:ByteArray) ++ (⟨(Lib.decDigits t).toArray⟩:ByteArray)):=hD 9 (by kernel_rfl) _ 18 rfl rfl
      refine ⟨rfl,mid_step (.string ((⟨(nameL (kn:Int)).toArray⟩:ByteArray) ++ (⟨#[32]⟩:ByteArray) ++ (⟨(Lib.decDigits t).toArray⟩:ByteArray))) wx (fun K hK=>?_) ⟨_,rfl,rfl,Below.refl _ _⟩⟩
      go_simp
      exact hK
  · intro a wx hM hD
    obtain ⟨g0,q0,-⟩:=hD 0 (by decide) _ 9 rfl rfl
    have q1:=hD 1 (by decide) _ 10 rfl rfl
    have q2:=hD 2 (by decide) _ 11 rfl rfl
    obtain ⟨g3,q3,-⟩:=hD 3 (by decide) _ 12 rfl rfl
    have q4:=hD 4 (by decide) _ 13 rfl rfl
    have q5:=hD 5 (by decide) _ 14 rfl rfl
    have q6:=hD 6 (by decide) _ 15 rfl rfl
    have q7:=hD 7 (by decide) _ 16 rfl rfl
    have q8:=hD 8 (by decide) _ 17 rfl rfl
    have q9:=hD 9 (by decide) _ 18 rfl rfl
    have q10:=hD 10 (by decide) _ 3 rfl rfl
    have hact:=act_puts (a:=a) [(9,.slice (some ⟨g0,0,none⟩) 8 8),(10,.pointer (some ⟨w.heap.size,0,none⟩)),(11,.int .i64 (kn:Int)),(12,.pointer (some ⟨g3,kn,none⟩)),(13,.string ⟨(nameL (kn:Int)).toArray⟩),(14,.string ((⟨(nameL (kn:Int)).toArray⟩:ByteArray) ++ (⟨#[32]⟩:ByteArray))),(15,.pointer (some ⟨w.heap.size,1,none⟩)),(16,.int .u64 (t:Int)),(17,.string ⟨(Lib.decDigits t).toArray⟩),(18,.string ((⟨(nameL (kn:Int)).toArray⟩:ByteArray) ++ (⟨#[32]⟩:ByteArray) ++ (⟨(Lib.decDigits t).toArray⟩:ByteArray))),(3,.string ((⟨(nameL (kn:Int)).toArray⟩:ByteArray) ++ (⟨#[32]⟩:ByteArray) ++ (⟨(Lib.decDigits t).toArray⟩:ByteArray)))] _ hM.tmps hM.defers (by
     intro s v hm
     simp only [List.mem_cons,Prod.mk.injEq,List.not_mem_nil,or_false] at hm
     rcases hm with ⟨rfl,rfl⟩ | ⟨rfl,rfl⟩ | ⟨rfl,rfl⟩ | ⟨rfl,rfl⟩ | ⟨rfl,rfl⟩ | ⟨rfl,rfl⟩ | ⟨rfl,rfl⟩ | ⟨rfl,rfl⟩ | ⟨rfl,rfl⟩ | ⟨rfl,rfl⟩ | ⟨rfl,rfl⟩
     · exact ⟨(by show 9<93; decide),q0⟩
     · exact ⟨(by show 10<93; decide),q1⟩
     · exact ⟨(by show 11<93; decide),q2⟩
     · exact ⟨(by show 12<93; decide),q3⟩
     · exact ⟨(by show 13<93; decide),q4⟩
     · exact ⟨(by show 14<93; decide),q5⟩
     · exact ⟨(by show 15<93; decide),q6⟩
     · exact ⟨(by show 16<93; decide),q7⟩
     · exact ⟨(by show 17<93; decide),q8⟩
     · exact ⟨(by show 18<93; decide),q9⟩
     · exact ⟨(by show 3<93; decide),q10⟩) (fun s hs=>hM.other s (by exact hs))
    rw [hact]
    have hBX:=hM.below
    clear hact hD hM q0 q1 q2 q3 q4 q5 q6 q7 q8 q9 q10
    simp only [List.foldl,Act.put,List.setIfInBounds_toArray,List.set_cons_succ,List.set_cons_zero]
    rw [HC0.out]
    generalize hX:nameL (kn:Int) ++ [32] ++ Lib.decDigits t=X at *
    have hbx:=BX.out wx hBX
    have hbw2:=hbw.trans (hBX.mono hbw.size)
    have HBX2:=Lib_hid hBX
    generalize (kn:Int)=k at *
    obtain ⟨c0,c1,c2,c3,c4,c5,c6,c7,c8,c9,c10⟩:=rec_cells hbx
    have sp:(⟨#[32]⟩:ByteArray)=⟨[(32:UInt8)].toArray⟩:=rfl
    clear HC0 hz1 hz2 HWV hkn8 hkn8i hBX
    rcases hk7 with rfl | rfl | rfl | rfl | rfl | rfl | rfl
    · have HXX:Hid (rt=X):=by unfold Hid; rw [HE.out,T1.out (by omega)]
      clear T1 T2 T3 T4 T5 HE TX TO HR HOK hX sp
      generalize nameL 1=nm at *
      go_wp2
      go_ret
      exact ⟨by rw [HXX.out]; rfl,hbw2⟩
    · have HXX:Hid ((⟨X.toArray⟩:ByteArray) ++ ⟨#[32]⟩ ++ ⟨(Lib.decDigits x).toArray⟩ ++ ⟨#[32]⟩ ++ ⟨(verL wn nn).toArray⟩=⟨rt.toArray⟩):=by
       unfold Hid
       rw [HE.out,T2.out rfl,sp,bcat,bcat,bcat,bcat,← hX]
      have hz1:¬ 9223372036854775807<X.length+1:=by omega
      have hz2:¬ 9223372036854775807<X.length+1+(Lib.decDigits x).length:=by omega
      have hz3:¬ 9223372036854775807<X.length+1+(Lib.decDigits x).length+1:=by omega
      have hz4:¬ 9223372036854775807<X.length+1+(Lib.decDigits x).length+1+(verL wn nn).length:=by omega
      have TW:Hid (∀ W,Below wx.heap.size wx W→Calls Tryz.prog 65 #[.agg #[.int .u64 (wn:Int),.int .u64 (nn:Int)]] W fun e w'=>e=.returned (.string ⟨(verL wn nn).toArray⟩)∧(w'.cell? ⟨w.heap.size,2,none⟩=some (.int .u64 (x:Int))∧w'.cell? ⟨w.heap.size,3,none⟩=some (.int .u64 (wn:Int))∧w'.cell? ⟨w.heap.size,4,none⟩=some (.int .u64 (nn:Int)))∧Below w.heap.size w w'):=fun W hW=>by
       refine (TO.out wn nn hwn hnn W).mono ?_
       rintro e w' ⟨rfl,hb⟩
       have hb':=hW.trans (hb.mono hW.size)
       obtain ⟨-,-,d2,d3,d4,-,-,-,-,-,-⟩:=rec_cells ((hb'.block _ (lt_of_block hbx)).trans hbx)
       exact ⟨rfl,⟨d2,d3,d4⟩,hbw2.trans (hb'.mono hbw2.size)⟩
      have DW:Hid (∀ W,Calls Tryz.prog 64 #[.int .u64 (x:Int)] W fun e w'=>e=.returned (.string ⟨(Lib.decDigits x).toArray⟩)∧w'=W):=DG.out x hx
      clear T1 T2 T3 T4 T5 HE TX TO HR HOK hX sp DG
      generalize nameL 2=nm at *
      generalize verL wn nn=vl at *
      generalize Lib.decDigits x=dx at *
      generalize Lib.decDigits t=dt at *
      go_wp2
      go_region_held3 (fun W=>W.cell? ⟨w.heap.size,2,none⟩=some (.int .u64 (x:Int))∧W.cell? ⟨w.heap.size,3,none⟩=some (.int .u64 (wn:Int))∧W.cell? ⟨w.heap.size,4,none⟩=some (.int .u64 (nn:Int))) (first | exact ⟨c2,c3,c4⟩ | exact hfc) ((first | (go_at_call 64; refine (DW.out _).mono ?_; rintro e wb ⟨rfl,rfl⟩) | (go_at_call 65; refine (TW.out _ (by exact below_like4 (Below.refl _ _) rfl rfl rfl rfl)).mono ?_; rintro e wb ⟨rfl,hfc,hbz⟩)))
      all_goals
       go_wp2
       go_ret
       exact ⟨by rw [← HXX.out]; rfl,by first | exact hbz | exact below_like4 hbz rfl rfl rfl rfl⟩
    · have HXX:Hid ((⟨X.toArray⟩:ByteArray) ++ ⟨#[32]⟩ ++ ⟨(Lib.decDigits x).toArray⟩ ++ ⟨#[32]⟩ ++ ⟨(Lib.decDigits v).toArray⟩=⟨rt.toArray⟩):=by
       unfold Hid
       rw [HE.out,T3.out rfl,sp,bcat,bcat,bcat,bcat,← hX]
      have hz1:¬ 9223372036854775807<X.length+1:=by omega
      have hz2:¬ 9223372036854775807<X.length+1+(Lib.decDigits x).length:=by omega
      have hz3:¬ 9223372036854775807<X.length+1+(Lib.decDigits x).length+1:=by omega
      have hz4:¬ 9223372036854775807<X.length+1+(Lib.decDigits x).length+1+(Lib.decDigits v).length:=by omega
      have DD:Hid (∀ n:Nat,(n:Int)≤18446744073709551615→∀ q,Calls Tryz.prog 64 #[.int .u64 (n:Int)] (wx.drewN q) fun e w'=>e=.returned (.string ⟨(Lib.decDigits n).toArray⟩)∧∃ q,w'=wx.drewN q):=fun n hn q=>(DG.out n hn _).mono fun e w' h=>⟨h.1,q,h.2⟩
      clear T1 T2 T3 T4 T5 HE TX TO HR HOK hX sp DG
      generalize nameL 3=nm at *
      go_wp2
      go_quiet ((go_at_call 64; exact DD.out _ (by assumption) _))
      all_goals
       go_wp2
       go_ret
       exact ⟨by rw [← HXX.out]; rfl,by exact below_drew_ hbw2⟩
    · have HXX:Hid ((⟨X.toArray⟩:ByteArray) ++ ⟨#[32]⟩ ++ ⟨(Lib.decDigits x).toArray⟩=⟨rt.toArray⟩):=by
       unfold Hid
       rw [HE.out,T4.out rfl,sp,bcat,bcat,← hX]
      have hz1:¬ 9223372036854775807<X.length+1:=by omega
      have hz2:¬ 9223372036854775807<X.length+1+(Lib.decDigits x).length:=by omega
      clear T1 T2 T3 T4 T5 HE TX TO HR HOK hX sp
      generalize nameL 4=nm at *
      go_wp2_with fail
      refine (DG.out x hx _).mono ?_
      rintro e w3 ⟨rfl,rfl⟩
      go_wp2
      go_ret
      exact ⟨by rw [← HXX.out]; rfl,hbw2⟩
    · have HXX:Hid (rt=X ++ [32] ++ pt ++ ensL es):=by unfold Hid; rw [HE.out,T5.out rfl,← hX]
      have HC1:Hid ((⟨X.toArray⟩:ByteArray) ++ ⟨#[32]⟩ ++ ⟨pt.toArray⟩=⟨(X ++ [32] ++ pt).toArray⟩):=by unfold Hid; rw [sp,bcat,bcat]
      have hz1:¬ 9223372036854775807<X.length+1:=by omega
      have hz2:¬ 9223372036854775807<X.length+1+pt.length:=by omega
      have TX2:=TX.out wx hbw2
      clear T1 T2 T3 T4 T5 HE TX hX sp
      generalize nameL 5=nm at *
      go_wp2_with fail
      refine TX2.mono ?_
      rintro e w3 ⟨rfl,hb3⟩
      go_upto_region 13 with (fail)
      rw [HC1.out]
      have hx3:=(hb3.block _ (lt_of_block hbx)).trans hbx
      have hbw3:=hbw2.trans (hb3.mono hbw2.size)
      have hYl:(X ++ [32] ++ pt).length≤60000:=by simp; omega
      clear c0 c1 c2 c3 c4 c5 c6 c7 c8 c9 c10 hbx hbw2 hb3 TX2 HC1 hz1 hz2
      generalize X ++ [32] ++ pt=Y at *
      go_wp2
      go_loopw [3,4] (fun s z wr=>∃ (i:Nat) (Z:List UInt8),s=.string ⟨Z.toArray⟩∧z=.int .i64 i∧i≤es.length∧Hid (Z=Y ++ ensL (es.take i))∧Z.length≤60000+84 * i∧wr.heap[w.heap.size]? = some (.cells #[.int .i64 5,.int .u64 (t:Int),.int .u64 (x:Int),.int .u64 (wn:Int),.int .u64 (nn:Int),.int .u64 (v:Int),.int .i64 pk,.int .u64 pa,.int .u64 pb,.slice pA pn pc,.slice Ae es.length ce] 60 (0,0))∧Hid (Below w.heap.size w wr)) (fun _ z _=>es.length - (intOf z).toNat)
      case atStart=>exact ⟨0,Y,rfl,rfl,Nat.zero_le _,Lib_hid (by simp [ensL]),by omega,hx3,hbw3⟩
      case round=>
       clear hx3 hbw3
       obtain ⟨i,Z,rfl,rfl,hi1,hZ,hZl,hxr,hbr⟩:=hrel
       have c10:wr.cell? ⟨w.heap.size,10,none⟩=some (.slice Ae es.length ce):=cell_of_row wr _ 10 _ _ _ hxr
       by_cases hlt:i<es.length
       · obtain ⟨b,off,en,rfl,hbh,he,d0,d1,d2,d3⟩:=en_nth (HR.out wr hbr.out) hlt
         obtain ⟨ox,ow,on⟩:=HOK.out en (List.mem_of_getElem? he)
         have hb4:=below_new wr (.cells #[.int .u64 (en.x:Int),.int .u64 (en.w:Int),.int .u64 (en.n:Int),.bool en.m] 120)
         have hp4:=heap_alloc_new wr (.cells #[.int .u64 (en.x:Int),.int .u64 (en.w:Int),.int .u64 (en.n:Int),.bool en.m] 120)
         have hx4:=(hb4.block _ (lt_of_block hxr)).trans hxr
         have hbr4:=hbr.out.trans (hb4.mono hbr.out.size)
         have hsn:ensL (es.take (i+1))=ensL (es.take i) ++ [32] ++ Lib.decDigits en.x ++ [58] ++ verL en.w en.n ++ (if en.m then [58,49] else [58,48]):=by rw [take_one he,ensL_snoc]
         have hex:=dec_len ox
         have hev:=verL_len ow on
         have HZ2:Hid (Y ++ ensL (es.take (i+1))=Z ++ [32] ++ Lib.decDigits en.x ++ [58] ++ verL en.w en.n ++ (if en.m then [58,49] else [58,48])):=by
          unfold Hid
          rw [hsn,hZ.out]
          simp [List.append_assoc]
         have HC2:Hid ((⟨Z.toArray⟩:ByteArray) ++ ⟨#[32]⟩ ++ ⟨(Lib.decDigits en.x).toArray⟩ ++ ⟨#[58]⟩ ++ ⟨(verL en.w en.n).toArray⟩=⟨(Z ++ [32] ++ Lib.decDigits en.x ++ [58] ++ verL en.w en.n).toArray⟩):=by
          unfold Hid
          rw [show (⟨#[32]⟩:ByteArray)=⟨[(32:UInt8)].toArray⟩ from rfl,show (⟨#[58]⟩:ByteArray)=⟨[(58:UInt8)].toArray⟩ from rfl,bcat,bcat,bcat,bcat]
         have hz1:¬ 9223372036854775807<Z.length+1:=by omega
         have hz2:¬ 9223372036854775807<Z.length+1+(Lib.decDigits en.x).length:=by omega
         have hz3:¬ 9223372036854775807<Z.length+1+(Lib.decDigits en.x).length+1:=by omega
         have hz4:¬ 9223372036854775807<Z.length+1+(Lib.decDigits en.x).length+1+(verL en.w en.n).length:=by omega
         have hUl:(Z ++ [32] ++ Lib.decDigits en.x ++ [58] ++ verL en.w en.n).length≤60000+84 * i+82:=by simp; omega
         have TOE:=TO.out en.w en.n ow on
         have DGE:=DG.out en.x ox
         clear hZ hsn he hxr hb4 TO DG hbh ox ow on HR HOK
         go_upto_region 17 with (fail)
         generalize wr.alloc (.cells #[.int .u64 (en.x:Int),.int .u64 (en.w:Int),.int .u64 (en.n:Int),.bool en.m] 120)=w4 at *
         obtain ⟨ex,ea,eb,em⟩:=en
         simp only at *
         have TW:Hid (∀ W,Below w4.heap.size w4 W→Calls Tryz.prog 65 #[.agg #[.int .u64 (ea:Int),.int .u64 (eb:Int)]] W fun e w'=>e=.returned (.string ⟨(verL ea eb).toArray⟩)∧(w'.cell? ⟨wr.heap.size,0,none⟩=some (.int .u64 (ex:Int))∧w'.cell? ⟨wr.heap.size,1,none⟩=some (.int .u64 (ea:Int))∧w'.cell? ⟨wr.heap.size,2,none⟩=some (.int .u64 (eb:Int)))∧w'.cell? ⟨wr.heap.size,3,none⟩=some (.bool em)∧w'.heap[w.heap.size]? = some (.cells #[.int .i64 5,.int .u64 (t:Int),.int .u64 (x:Int),.int .u64 (wn:Int),.int .u64 (nn:Int),.int .u64 (v:Int),.int .i64 pk,.int .u64 pa,.int .u64 pb,.slice pA pn pc,.slice (some ⟨b,off,none⟩) es.length ce] 60 (0,0))∧Below w.heap.size w w'):=fun W hW=>by
          refine (TOE W).mono ?_
          rintro e w' ⟨rfl,hb⟩
          have hb':=hW.trans (hb.mono hW.size)
          have hq:=(hb'.block _ (lt_of_block hp4)).trans hp4
          exact ⟨rfl,⟨cell_of_row w' _ 0 _ _ _ hq,cell_of_row w' _ 1 _ _ _ hq,cell_of_row w' _ 2 _ _ _ hq⟩,cell_of_row w' _ 3 _ _ _ hq,(hb'.block _ (lt_of_block hx4)).trans hx4,hbr4.trans (hb'.mono hbr4.size)⟩
         have DW:=Lib_hid DGE
         have e0:w4.cell? ⟨wr.heap.size,0,none⟩=some (.int .u64 (ex:Int)):=cell_of_row w4 _ 0 _ _ _ hp4
         have e1:w4.cell? ⟨wr.heap.size,1,none⟩=some (.int .u64 (ea:Int)):=cell_of_row w4 _ 1 _ _ _ hp4
         have e2:w4.cell? ⟨wr.heap.size,2,none⟩=some (.int .u64 (eb:Int)):=cell_of_row w4 _ 2 _ _ _ hp4
         clear TOE DGE hp4 hx4 c10 d0 d1 d2 d3
         obtain ⟨U,hU⟩:∃ U,U=Z ++ [32] ++ Lib.decDigits ex ++ [58] ++ verL ea eb:=⟨_,rfl⟩
         rw [← hU] at HC2 HZ2 hUl
         clear hU
         generalize verL ea eb=vl at *
         generalize Lib.decDigits ex=dx at *
         go_region_held3 (fun W=>W.cell? ⟨wr.heap.size,0,none⟩=some (.int .u64 (ex:Int))∧W.cell? ⟨wr.heap.size,1,none⟩=some (.int .u64 (ea:Int))∧W.cell? ⟨wr.heap.size,2,none⟩=some (.int .u64 (eb:Int))) (first | exact ⟨e0,e1,e2⟩ | exact hfc) ((first | (go_at_call 64; refine (DW.out _).mono ?_; rintro e wb ⟨rfl,rfl⟩) | (go_at_call 65; refine (TW.out _ (by exact below_like4 (Below.refl _ _) rfl rfl rfl rfl)).mono ?_; rintro e wb ⟨rfl,hfc,hfm,hxz,hbz⟩)))
         all_goals
          rw [HC2.out]
          clear TW DW hz1 hz2 hz3 hz4
          have hz5:¬ 9223372036854775807<U.length+2:=by omega
          cases em with
          | true=>
           have HC3:Hid ((⟨U.toArray⟩:ByteArray) ++ ⟨#[58,49]⟩=⟨(U ++ [58,49]).toArray⟩):=by unfold Hid; rw [show (⟨#[58,49]⟩:ByteArray)=⟨[(58:UInt8),49].toArray⟩ from rfl,bcat]
           have hl2:(U ++ [58,49]).length≤60000+84 * (i+1):=by simp; omega
           go_wp2
           rw [HC3.out]
           go_roundw
           case rel=>exact ⟨i+1,U ++ [58,49],rfl,by go_num,by omega,Lib_hid (by rw [HZ2.out]; rfl),hl2,hxz,hbz⟩
           case measure=>simp [intOf]; omega
          | false=>
           have HC3:Hid ((⟨U.toArray⟩:ByteArray) ++ ⟨#[58,48]⟩=⟨(U ++ [58,48]).toArray⟩):=by unfold Hid; rw [show (⟨#[58,48]⟩:ByteArray)=⟨[(58:UInt8),48].toArray⟩ from rfl,bcat]
           have hl2:(U ++ [58,48]).length≤60000+84 * (i+1):=by simp; omega
           go_wp2
           rw [HC3.out]
           go_roundw
           case rel=>exact ⟨i+1,U ++ [58,48],rfl,by go_num,by omega,Lib_hid (by rw [HZ2.out]; rfl),hl2,hxz,hbz⟩
           case measure=>simp [intOf]; omega
       · obtain rfl:i=es.length:=by omega
         have HF:Hid (rt=Z):=by
          unfold Hid
          rw [HXX.out,hZ.out,List.take_length]
         have hbz:=hbr.out
         clear HR HOK hZ hxr hbr TO DG
         go_wp2
         go_ret
         exact ⟨by rw [HF.out]; rfl,hbz⟩
    · have HXX:Hid (rt=X):=by unfold Hid; rw [HE.out,T1.out (by omega)]
      clear T1 T2 T3 T4 T5 HE TX TO HR HOK hX sp
      generalize nameL 6=nm at *
      go_wp2
      go_ret
      exact ⟨by rw [HXX.out]; rfl,hbw2⟩
    · have HXX:Hid (rt=X):=by unfold Hid; rw [HE.out,T1.out (by omega)]
      clear T1 T2 T3 T4 T5 HE TX TO HR HOK hX sp
      generalize nameL 7=nm at *
      go_wp2
      go_ret
      exact ⟨by rw [HXX.out]; rfl,hbw2⟩
end Go.Proofs.YtinmoknbgnngcaaGreatDoor
