/-
  Layer 5: the document's Cuts, Value, version, Told, words.
-/
import Derived.Test.YtinmoknbgnngcaaGreatDoorZwWza
import Derived.Test.YtinmoknbgnngcaaGreatDoorZwTqc
import Derived.Test.YtinmoknbgnngcaaGreatDoorZwTqj
import Derived.StillTailTactics
import Derived.Test.YtinmoknbgnngcaaGreatDoorZwVpw
import Derived.Test.YtinmoknbgnngcaaGreatDoorZwGet
import Derived.BigQuiet
namespace Go.Proofs.YtinmoknbgnngcaaGreatDoor
open Go Go.RowKit
set_option linter.unusedVariables false
theorem own_store {w:World} {base n c g i:Nat} {e:TypeId} {xs:List Value} {u:Value} (h:w.ownsRow base e 1 (.slice (some ⟨g,0,none⟩) n c) n xs) (hi:i<n) :
 (w.setCell ⟨g,i,none⟩ u).ownsRow base e 1 (.slice (some ⟨g,0,none⟩) n c) n (xs.set i u)∧w.frozen? ⟨g,i,none⟩=false:=by
 obtain ⟨h1,h2⟩:=h
 rcases h2 with ⟨_,h2⟩ | ⟨g',cap,cur,hv,hg,hh,hnc,hcm,hcs,htk⟩
 · omega
 · injection hv with hv1 hv2 hv3
   injection hv1 with hv1
   injection hv1 with hv1
   subst hv1 hv3
   refine ⟨⟨by rw [List.length_set]; exact h1,.inr ⟨g,c,cur.setIfInBounds i u,rfl,hg,Joins.block_setCell (i:=i) hh u,hnc,hcm,by simpa using hcs,?_⟩⟩,frozen_of_row w g i cur e hh⟩
   rw [Array.toList_setIfInBounds,List.take_set,htk]
theorem sl_one (s:List UInt8) (k:Nat) (hk:k<s.length) (W:World):(Instr.slice 9 (.string ⟨s.toArray⟩) (some (.int .i64 (k:Int))) (some (.int .i64 ((k:Int)+1))) none).run Tryz.prog W=.ok (.string ⟨[s[k]].toArray⟩) W:=by
 rw [run_slice_string W 9 ⟨s.toArray⟩ .i64 .i64 (k:Int) ((k:Int)+1) Tryz.underlying9 (by omega) (by omega) (by simp [ByteArray.size]; omega)]
 congr 2
 apply ByteArray.ext
 rw [Int.toNat_natCast,show ((k:Int)+1).toNat=k+1 by omega]
 simp only [ByteArray.data_extract]
 apply Array.ext'
 simp
 rw [List.take_one,List.head?_drop,List.getElem?_eq_getElem hk]
 rfl
theorem strs_last {L:List (List UInt8)} (hne:L≠[]) (x:List UInt8) (m:Nat) (hm:L.length=m+1):strs (L.dropLast ++ [x])=(strs L).set m (.string ⟨x.toArray⟩):=by
 obtain ⟨D,y,rfl⟩:∃ D y,L=D ++ [y]:=⟨L.dropLast,L.getLast hne,(List.dropLast_concat_getLast hne).symm⟩
 rw [List.dropLast_concat]
 have hd:(strs D).length=m:=by
  rw [strs_length]
  rw [List.length_append] at hm
  simp only [List.length_cons,List.length_nil] at hm
  omega
 rw [strs_append,strs_append,List.set_append_right _ _ (by omega),hd,Nat.sub_self]
 rfl
theorem take_snoc {s:List UInt8} {i:Nat} (h:i<s.length):s.take (i+1)=s.take i ++ [s[i]]:=by rw [List.take_add_one,List.getElem?_eq_getElem h]; rfl
set_option maxRecDepth 100000 in
set_option maxHeartbeats 3200000 in
theorem rcuts_any (s:List UInt8) (c:UInt8) (w:World) (hl:s.length≤100000) :
 Calls Tryz.prog 45 #[.string ⟨s.toArray⟩,.int .u8 ((c.toNat:Nat):Int)] w fun e w'=>∃ A cap,e=.returned (.slice A (cutsL c s).length cap)∧w'.ownsRow w.heap.size 9 1 (.slice A (cutsL c s).length cap) (cutsL c s).length (strs (cutsL c s))∧Below w.heap.size w w':=by
 obtain ⟨i0,hi,hz0,hz1,hz2⟩:=info_parts Tryz.infoS
 have hn1:=below_new w (.cells #[.string ⟨#[]⟩] 9)
 have ho1:=World.ownsRow_lit (base:=w.heap.size) (e:=9) (size:=1) w #[.string ⟨#[]⟩] 1 (Nat.le_refl _) (by decide) rfl
 have HLM:Hid (∀ i,∀ x∈cutsL c (s.take i),x.length≤100000):=fun i x hx=>by have:=cutsL_mem c _ x hx; rw [List.length_take] at this; omega
 have HLN:Hid (∀ i,i≤s.length→(cutsL c (s.take i)).length≤i+1):=fun i hi=>by have:=cutsL_len c (s.take i); rw [List.length_take] at this; omega
 have FIN:Hid (∀ (W:World) (A:Option Addr) (n cap:Nat),n=(cutsL c (s.take s.length)).length→W.ownsRow w.heap.size 9 1 (.slice A n cap) n (strs (cutsL c (s.take s.length)))→Below w.heap.size w W→∃ A' cap',(Ending.returned (.slice A n cap)=.returned (.slice A' (cutsL c s).length cap'))∧W.ownsRow w.heap.size 9 1 (.slice A' (cutsL c s).length cap') (cutsL c s).length (strs (cutsL c s))∧Below w.heap.size w W):=fun W A n cap h1 h2 h3=>by
  rw [List.take_length] at h1 h2
  subst h1
  exact ⟨A,cap,rfl,h2,h3⟩
 go_enter Tryz.func45,Tryz.ntmps45
 go_wp2
 go_loopw [5,6] (fun v z wr=>∃ (n cap i:Nat) (A:Option Addr),v=.slice A n cap∧z=.int .i64 i∧i≤s.length∧Hid (n=(cutsL c (s.take i)).length)∧wr.ownsRow w.heap.size 9 1 (.slice A n cap) n (strs (cutsL c (s.take i)))∧Hid (Below w.heap.size w wr)) (fun _ z _=>s.length - (intOf z).toNat)
 case atStart=>exact ⟨1,1,0,_,rfl,rfl,Nat.zero_le _,rfl,ho1,hn1⟩
 case round=>
  clear ho1 hn1
  obtain ⟨n,cap,i,A,rfl,rfl,hi1,hn,hown,hbw⟩:=hrel
  have hni:=HLN.out i hi1
  rw [← hn.out] at hni
  by_cases hlt:i<s.length
  · have hil:(i:Int)<(s.length:Int):=by omega
    have hix:=ix_str s i hlt
    have hsl1:=sl_one s i hlt
    have HTK:=Lib_hid (take_snoc hlt)
    generalize s[i]=cb at *
    have hcut:cutsL c (s.take (i+1))=cutStep c (cutsL c (s.take i)) cb:=by rw [HTK.out,cutsL_snoc]
    have hcb:=cb.toNat_lt
    have hcc:=c.toNat_lt
    by_cases hb:cb=c
    · have hb2:cb.toNat=c.toNat:=by rw [hb]
      have HC:Hid (cutsL c (s.take (i+1))=cutsL c (s.take i) ++ [[]]):=by unfold Hid; rw [hcut]; unfold cutStep; rw [if_pos hb]
      clear hsl1 hcut
      have hm1:n+1≤maxLen:=by unfold maxLen; omega
      have hm2:(n+1) * 16≤140737488355328:=by omega
      have hn2:=below_new wr (.cells #[.string ⟨#[]⟩] 9)
      have ho2:=own_below hown hn2 (own_lt hown)
      have hr2:=new_str wr 9 []
      have hs2:=(hbw.out.trans (hn2.mono hbw.out.size)).size
      have h1c:=strs_one [[]]
      have HB2:=Lib_hid (hbw.out.trans (hn2.mono hbw.out.size))
      rw [hb2] at hix
      generalize c.toNat=cn at *
      go_wp2_with (at_builtin; (refine wpList_app rfl _ _ 126 rfl w.heap.size 9 i0 (.string ⟨#[]⟩) 1 16 Tryz.underlying126 hi hz0 hz1 hz2 rfl (by decide) (.slice A n cap) n _ rfl ho2 _ _ 1 1 _ rfl hr2 h1c hm1 hm2 hs2 ?_); intro v' w5 hown' hst; obtain ⟨A',c',rfl,_⟩:=own_form hown')
      go_roundw
      case rel=>exact ⟨n+1,c',i+1,A',rfl,by go_num,by omega,Lib_hid (by rw [HC.out,List.length_append,← hn.out]; rfl),by rw [HC.out,strs_append]; exact hown',Lib_hid (HB2.out.trans ((hst.below HB2.out.size fun g hg=>own_ge ho2 g hg).mono (Nat.le_refl _)))⟩
      case measure=>simp [intOf]; omega
    · have hb2:((cb.toNat:Int) == (c.toNat:Int))=false:=by
       have:cb.toNat≠c.toNat:=fun e=>hb (UInt8.toNat_inj.1 e)
       simp; omega
      have HC:Hid (cutsL c (s.take (i+1))=(cutsL c (s.take i)).dropLast ++ [(cutsL c (s.take i)).getLastD [] ++ [cb]]):=by unfold Hid; rw [hcut]; unfold cutStep; rw [if_neg hb]
      have hne:=cutsL_ne c (s.take i)
      have hml:=HLM.out i
      have hwi:IntKind.i64.wrap ((i:Int)+1)=(i:Int)+1:=IntWalk.i64_in _ (by omega)
      have hnn:=hn.out
      clear hcut hcb hcc
      generalize cutsL c (s.take i)=L at *
      obtain ⟨m,hm⟩:∃ m,n=m+1:=⟨n - 1,by have:0<L.length:=List.length_pos_iff.2 hne; omega⟩
      have hlast:L[m]? = some (L.getLastD []):=by
       rw [List.getLastD_eq_getLast?,List.getLast?_eq_getElem?,show L.length - 1=m by omega]
       cases h:L[m]? with
       | none=>have:=List.getElem?_eq_none_iff.1 h; omega
       | some y=>rfl
      have hll:=hml _ (List.mem_of_getElem? hlast)
      have hset:=strs_last hne (L.getLastD [] ++ [cb]) m (by omega)
      have hlen:(L.dropLast ++ [L.getLastD [] ++ [cb]]).length=n:=by simp; omega
      obtain ⟨g,cap',hv,hgg,hgl⟩:=hown.form (by omega)
      injection hv with hv1 hv2 hv3
      subst hv1 hv3
      have hst:strs L=(strs L):=rfl
      have d0:wr.cell? ⟨g,m,none⟩=some (.string ⟨(L.getLastD []).toArray⟩):=by
       have:=hown.cells (g:=g) rfl m (.string ⟨(L.getLastD []).toArray⟩) (by unfold strs; rw [List.getElem?_map,hlast]; rfl)
       rw [show (⟨g,0,none⟩:Addr).add m=⟨g,m,none⟩ by unfold Addr.add; split <;> simp_all] at this
       exact this
      obtain ⟨hown2,hfz⟩:=own_store (u:=.string ⟨(L.getLastD [] ++ [cb]).toArray⟩) hown (show m<n by omega)
      rw [← hset] at hown2
      have HB2:Hid (Below w.heap.size w (wr.setCell ⟨g,m,none⟩ (.string ⟨(L.getLastD [] ++ [cb]).toArray⟩))):=hbw.out.setCell (p:=⟨g,m,none⟩) hgg _
      have HO2:=Lib_hid hown2
      have hwm:IntKind.i64.wrap ((n:Int) - 1)=(m:Int):=by rw [show (n:Int) - 1=(m:Int) by omega]; exact IntWalk.i64_in _ (by omega)
      have hmn:(m:Int)<(n:Int):=by omega
      have hm0:(0:Int)≤(m:Int):=by omega
      have hz:¬ 9223372036854775807<(L.getLastD []).length+1:=by omega
      have HCAT:Hid ((⟨(L.getLastD []).toArray⟩:ByteArray) ++ ⟨#[cb]⟩=⟨(L.getLastD [] ++ [cb]).toArray⟩):=by unfold Hid; rw [show (⟨#[cb]⟩:ByteArray)=⟨[cb].toArray⟩ from rfl,bcat]
      have HN2:Hid (n=(L.dropLast ++ [L.getLastD [] ++ [cb]]).length):=hlen.symm
      have HM:=Lib_hid hm
      clear hset hst hlast hown2 hown hll hml hne hn hnn hv2 hlen hm HLM HLN FIN hni
      generalize L.getLastD []=la at *
      generalize cb.toNat=bn at *
      generalize c.toNat=cn at *
      go_wp2
      go_still_tail 17,(by kernel_rfl)
      go_wp2
      rw [HCAT.out]
      go_roundw
      case rel=>exact ⟨n,cap,i+1,_,rfl,by go_num,by omega,Lib_hid (by rw [HC.out]; exact HN2.out),by rw [HC.out]; exact own_keep HO2.out fun _ _=>rfl,Lib_hid (below_drew_ HB2.out (n:=1))⟩
      case measure=>simp [intOf]; omega
  · obtain rfl:i=s.length:=by omega
    have HF:=Lib_hid (FIN.out wr A n cap hn.out hown hbw.out)
    go_wp2
    go_ret
    exact HF.out
theorem valW_snoc (s:List UInt8) (b:UInt8):valW (s ++ [b])=valStep (valW s) b:=by unfold valW; rw [List.foldl_append]; rfl
set_option maxRecDepth 100000 in
theorem rvalue5_any (s:List UInt8) (w:World) (hl:s.length≤100000):Calls Tryz.prog 74 #[.string ⟨s.toArray⟩] w fun e w'=>e=.returned (.int .u64 ((valW s:Nat):Int))∧w'=w:=by
 have HV:Hid (valW (s.take 0)=0):=rfl
 go_enter Tryz.func74,Tryz.ntmps74
 go_wp2
 go_loop [3,4] (fun v z=>∃ n i:Nat,v=.int .u64 (n:Int)∧z=.int .i64 i∧i≤s.length∧Hid (n=valW (s.take i))) (fun _ z=>s.length - (intOf z).toNat)
 case atStart=>exact ⟨0,0,rfl,rfl,Nat.zero_le _,HV.out.symm⟩
 case round=>
  obtain ⟨n,i,rfl,rfl,hi1,hn⟩:=hrel
  by_cases hlt:i<s.length
  · have hil:(i:Int)<(s.length:Int):=by omega
    have hix:=ix_str s i hlt
    have HTK:=Lib_hid (take_snoc hlt)
    generalize s[i]=cb at *
    have HS:Hid (valW (s.take (i+1))=(n * 10+(cb.toNat+208) % 256) % 18446744073709551616):=by
     unfold Hid
     rw [HTK.out,valW_snoc,← hn.out]
     rfl
    have hcb:=cb.toNat_lt
    generalize cb.toNat=bn at *
    have hw:IntKind.u64.wrap (IntKind.u64.wrap ((n:Int) * 10)+((bn:Int) - 48) % 256)=(((n * 10+(bn+208) % 256) % 18446744073709551616:Nat):Int):=by
     rw [IntKind.wrap_u64,IntKind.wrap_u64]
     omega
    have HW:=Lib_hid hw
    clear hw
    go_wp2
    go_round
    case rel=>exact ⟨(n * 10+(bn+208) % 256) % 18446744073709551616,i+1,by rw [← HW.out],by go_num,by omega,HS.out.symm⟩
    case measure=>simp [intOf]; omega
  · obtain rfl:i=s.length:=by omega
    rw [List.take_length] at hn
    have HN:=Lib_hid hn.out
    go_wp2
    go_ret
    exact ⟨by rw [← HN.out]; rfl,rfl⟩
theorem rtold5_any (a b:Nat) (w:World) (ha:a<18446744073709551616) (hb:b<18446744073709551616):Calls Tryz.prog 65 #[.agg #[.int .u64 (a:Int),.int .u64 (b:Int)]] w fun e w'=>e=.returned (.string ⟨(verL a b).toArray⟩)∧Below w.heap.size w w':=by
 have b1:=below_new w (.cells #[.int .u64 (a:Int),.int .u64 (b:Int)] 54)
 have h1:=heap_alloc_new w (.cells #[.int .u64 (a:Int),.int .u64 (b:Int)] 54)
 have HC:Hid ((⟨(Lib.decDigits a).toArray⟩:ByteArray) ++ ⟨#[46]⟩ ++ ⟨(Lib.decDigits b).toArray⟩=⟨(verL a b).toArray⟩):=by unfold Hid; rw [show (⟨#[46]⟩:ByteArray)=⟨[(46:UInt8)].toArray⟩ from rfl,bcat,bcat]; rfl
 have hda:=dec_len (x:=a) (by omega)
 have hdb:=dec_len (x:=b) (by omega)
 have hz1:¬ 9223372036854775807<(Lib.decDigits a).length+1:=by omega
 have hz2:¬ 9223372036854775807<(Lib.decDigits a).length+1+(Lib.decDigits b).length:=by omega
 go_enter Tryz.func65,Tryz.ntmps65
 go_upto_region 1 with (fail)
 generalize w.alloc (.cells #[.int .u64 (a:Int),.int .u64 (b:Int)] 54)=w1 at *
 have c0:=cell_of_row w1 _ 0 _ _ _ h1
 have c1:=cell_of_row w1 _ 1 _ _ _ h1
 simp at c0 c1
 have DD:Hid (∀ n:Nat,n<18446744073709551616→∀ k,Calls Tryz.prog 64 #[.int .u64 (n:Int)] (w1.drewN k) fun e w'=>e=.returned (.string ⟨(Lib.decDigits n).toArray⟩)∧∃ q,w'=w1.drewN q):=fun n hn k=>(rdigits_any n _ hn).mono fun e w' h=>⟨h.1,k,h.2⟩
 go_quiet ((go_at_call 64; exact DD.out _ (by assumption) _))
 go_wp2_with fail
 go_ret
 exact ⟨by rw [← HC.out]; rfl,below_drew_ b1⟩
def wordsV:Array Value:=#[.string ⟨#[]⟩,.string ⟨(nameL 1).toArray⟩,.string ⟨(nameL 2).toArray⟩,.string ⟨(nameL 3).toArray⟩,.string ⟨(nameL 4).toArray⟩,.string ⟨(nameL 5).toArray⟩,.string ⟨(nameL 6).toArray⟩,.string ⟨(nameL 7).toArray⟩]
theorem rwords5_any (w:World):Calls Tryz.prog 63 #[] w fun e w'=>e=.returned (.slice (some ⟨w.heap.size,0,none⟩) 8 8)∧w'.heap[w.heap.size]? = some (.cells wordsV 9 (0,0))∧Below w.heap.size w w'∧w'.heap.size=w.heap.size+1:=by
 go_enter Tryz.func63,Tryz.ntmps63
 go_wp2
 go_ret
 exact ⟨rfl,heap_alloc_new w _,below_new w _,by simp⟩
theorem wordsV_at {i:Nat} (hi:i<8):wordsV[i]? = some (.string ⟨(nameL (i:Int)).toArray⟩):=by
 have:i=0∨i=1∨i=2∨i=3∨i=4∨i=5∨i=6∨i=7:=by omega
 rcases this with rfl | rfl | rfl | rfl | rfl | rfl | rfl | rfl <;> rfl
set_option maxRecDepth 100000 in
set_option maxHeartbeats 1600000 in
theorem rver5_any (s:List UInt8) (w:World) (hl:s.length≤100000):Calls Tryz.prog 75 #[.string ⟨s.toArray⟩] w fun e w'=>e=.returned (.agg #[.int .u64 (((lverL s).1:Nat):Int),.int .u64 (((lverL s).2:Nat):Int)])∧Below w.heap.size w w':=by
 have hsz:(Tryz.prog.info? 54).map (·.size)=some 2:=by kernel_rfl
 have b1:=below_new w (.cells #[.int .u64 0,.int .u64 0] 54)
 have h1:=heap_alloc_new w (.cells #[.int .u64 0,.int .u64 0] 54)
 have CU:=rcuts_any s 46 (w.alloc (.cells #[.int .u64 0,.int .u64 0] 54)) hl
 have HLV:Hid (lverL s=if (cutsL 46 s).length=2 then (valW ((cutsL 46 s).getD 0 []),valW ((cutsL 46 s).getD 1 [])) else (0,0)):=rfl
 have HLM:Hid (∀ x∈cutsL 46 s,x.length≤100000):=fun x hx=>by have:=cutsL_mem 46 s x hx; omega
 generalize lverL s=lv at *
 generalize cutsL 46 s=L at *
 obtain ⟨va,vb⟩:=lv
 go_enter Tryz.func75,Tryz.ntmps75
 go_upto_region 1 with (fail)
 generalize w.alloc (.cells #[.int .u64 0,.int .u64 0] 54)=w1 at *
 go_wp2_with fail
 refine CU.mono ?_
 rintro e w2 ⟨A,cap,rfl,hown,hb2⟩
 have hr2:=(hb2.block _ (lt_of_block h1)).trans h1
 have hb2':=b1.trans (hb2.mono b1.size)
 have e0:=cell_of_row w2 _ 0 _ _ _ hr2
 have e1:=cell_of_row w2 _ 1 _ _ _ hr2
 have y0:=frozen_of_row w2 w.heap.size 0 _ _ hr2
 have y1:=frozen_of_row w2 w.heap.size 1 _ _ hr2
 simp at e0 e1
 have FIN:Hid (∀ (x y:Nat) (W:World),(x,y)=(va,vb)→(∃ q,W=w2.drewN q)→((W.setCell ⟨w.heap.size,0,none⟩ (.int .u64 (x:Int))).setCell ⟨w.heap.size,1,none⟩ (.int .u64 (y:Int))).heap[w.heap.size]? = some (.cells #[.int .u64 (x:Int),.int .u64 (y:Int)] 54 (0,0))∧
  (Ending.returned (.agg #[.int .u64 (x:Int),.int .u64 (y:Int)])=.returned (.agg #[.int .u64 (va:Int),.int .u64 (vb:Int)])∧Below w.heap.size w ((W.setCell ⟨w.heap.size,0,none⟩ (.int .u64 (x:Int))).setCell ⟨w.heap.size,1,none⟩ (.int .u64 (y:Int))))):=fun x y W h hq=>by
  obtain ⟨q,rfl⟩:=hq
  injection h with h1 h2
  subst h1 h2
  exact ⟨set2_block hr2,rfl,below_set2 (below_drew_ hb2') (Nat.le_refl _)⟩
 clear h1 b1 CU hb2
 by_cases h2:L.length=2
 · have q2:((L.length:Int) != 2)=false:=by simp; omega
   obtain ⟨x,y,rfl⟩:∃ x y,L=[x,y]:=by
    match L,h2 with
    | [x,y],_=>exact ⟨x,y,rfl⟩
   have HV2:Hid ((valW x,valW y)=(va,vb)):=by unfold Hid; rw [HLV.out]; rfl
   have hxl:=HLM.out x (by simp)
   have hyl:=HLM.out y (by simp)
   obtain ⟨g,cap',hv,hgg,hgl⟩:=hown.form (by simp)
   injection hv with hv1 hv2 hv3
   subst hv1 hv3
   have d0:w2.cell? ⟨g,0,none⟩=some (.string ⟨x.toArray⟩):=hown.cells (g:=g) rfl 0 _ rfl
   have d1:w2.cell? ⟨g,1,none⟩=some (.string ⟨y.toArray⟩):=hown.cells (g:=g) rfl 1 _ rfl
   have V1:Hid (∀ q,Calls Tryz.prog 74 #[.string ⟨x.toArray⟩] (w2.drewN q) fun e w'=>e=.returned (.int .u64 ((valW x:Nat):Int))∧w'=w2.drewN q):=fun q=>rvalue5_any x _ hxl
   have V2:Hid (∀ q,Calls Tryz.prog 74 #[.string ⟨y.toArray⟩] (w2.drewN q) fun e w'=>e=.returned (.int .u64 ((valW y:Nat):Int))∧w'=w2.drewN q):=fun q=>rvalue5_any y _ hyl
   have hn2:([x,y]:List (List UInt8)).length=2:=rfl
   rw [hn2] at *
   have FF:=Lib_hid (fun q=>FIN.out (valW x) (valW y) (w2.drewN q) HV2.out ⟨q,rfl⟩)
   clear FIN HLV HLM hown hv2 HV2 h2 hxl hyl
   generalize valW x=vx at *
   generalize valW y=vy at *
   go_wp2
   go_still_tail 9,(by kernel_rfl)
   still_call (V1.out 1)
   repeat still_step
   still_call (V2.out 1)
   repeat still_step
   try refine wpStill_nil ?_
   obtain ⟨F1,F2⟩:=FF.out 1
   replace F1:=Lib_hid F1
   replace F2:=Lib_hid F2
   go_wp2
   exact bodyPost_ret (results_cell_row (p:=2) (ty:=54) rfl _ _ w.heap.size 54 #[.int .u64 (vx:Int),.int .u64 (vy:Int)] (0,0) _ rfl F1.out Tryz.underlying54 rfl hsz) rfl F2.out
 · have q2:((L.length:Int) != 2)=true:=by simp; omega
   have HV2:Hid ((0,0)=(va,vb)):=by unfold Hid; rw [HLV.out,if_neg h2]
   obtain ⟨F1,F2⟩:=FIN.out 0 0 w2 HV2.out ⟨0,rfl⟩
   replace F1:=Lib_hid F1
   replace F2:=Lib_hid F2
   clear FIN HLV HLM hown HV2 h2
   generalize L.length=n at *
   go_wp2
   exact bodyPost_ret (results_cell_row (p:=2) (ty:=54) rfl _ _ w.heap.size 54 #[.int .u64 0,.int .u64 0] (0,0) _ rfl F1.out Tryz.underlying54 rfl hsz) rfl F2.out
def Rc.sameB (r u:Rc):Bool:=decide (r.es=u.es) && (decide (r.kind=u.kind) && decide (r.t=u.t) && decide (r.x=u.x) && decide (r.w=u.w∧r.n=u.n) && decide (r.v=u.v) && r.p.sameB u.p)
set_option maxRecDepth 100000 in
set_option maxHeartbeats 3200000 in
theorem rsame5_any (r u:Rv) (w:World) (lo hi lo' hi':Nat) (hL:RLies w lo hi r) (hhi:hi≤w.heap.size) (hL':RLies w lo' hi' u) (hhi':hi'≤w.heap.size) :
 Calls Tryz.prog 22 #[r.val,u.val] w fun e w'=>e=.returned (.bool (r.abs.sameB u.abs))∧Below w.heap.size w w':=by
 have RS:Hid (∀ W,Below w.heap.size w W→Calls Tryz.prog 42 #[r.p.val,u.p.val] W fun e w'=>e=.returned (.bool (r.p.abs.sameB u.p.abs))∧Below W.heap.size W w'):=fun W hW=>rsame_any r.p u.p W lo hi lo' hi' (hL.p.under (hW.mono hhi)) (Nat.le_trans hhi hW.size) (hL'.p.under (hW.mono hhi')) (Nat.le_trans hhi' hW.size)
 have HR:Hid (∀ W,Below w.heap.size w W→Rd W hi 4 r.A r.es.length (enCells r.es)∧Rd W hi' 4 u.A u.es.length (enCells u.es)):=fun W hW=>⟨hL.es.below (hW.mono hhi),hL'.es.below (hW.mono hhi')⟩
 have HS:Hid (r.abs.sameB u.abs=(decide (r.es=u.es) && (decide (r.kind=u.kind) && decide (r.t=u.t) && decide (r.x=u.x) && decide (r.w=u.w∧r.n=u.n) && decide (r.v=u.v) && r.p.abs.sameB u.p.abs))):=rfl
 have hc1:=hL.cap
 have hc2:=hL'.cap
 clear hL hL'
 generalize r.abs.sameB u.abs=sb at *
 obtain ⟨k,t,x,wn,nn,v,p,Ae,ce,es⟩:=r
 obtain ⟨k2,t2,x2,wn2,nn2,v2,p2,Ae2,ce2,es2⟩:=u
 generalize p.abs.sameB p2.abs=ps at *
 have h1:=heap_alloc_new w (.cells #[.int .i64 k,.int .u64 (t:Int),.int .u64 (x:Int),.int .u64 (wn:Int),.int .u64 (nn:Int),.int .u64 (v:Int),.int .i64 p.kind,.int .u64 (p.a:Int),.int .u64 (p.b:Int),.slice p.addr p.parts.length p.cap,.slice Ae es.length ce] 60)
 have b1:=below_new w (.cells #[.int .i64 k,.int .u64 (t:Int),.int .u64 (x:Int),.int .u64 (wn:Int),.int .u64 (nn:Int),.int .u64 (v:Int),.int .i64 p.kind,.int .u64 (p.a:Int),.int .u64 (p.b:Int),.slice p.addr p.parts.length p.cap,.slice Ae es.length ce] 60)
 have h2:=heap_alloc_new (w.alloc (.cells #[.int .i64 k,.int .u64 (t:Int),.int .u64 (x:Int),.int .u64 (wn:Int),.int .u64 (nn:Int),.int .u64 (v:Int),.int .i64 p.kind,.int .u64 (p.a:Int),.int .u64 (p.b:Int),.slice p.addr p.parts.length p.cap,.slice Ae es.length ce] 60)) (.cells #[.int .i64 k2,.int .u64 (t2:Int),.int .u64 (x2:Int),.int .u64 (wn2:Int),.int .u64 (nn2:Int),.int .u64 (v2:Int),.int .i64 p2.kind,.int .u64 (p2.a:Int),.int .u64 (p2.b:Int),.slice p2.addr p2.parts.length p2.cap,.slice Ae2 es2.length ce2] 60)
 have h12:=(heap_alloc_old (w.alloc (.cells #[.int .i64 k,.int .u64 (t:Int),.int .u64 (x:Int),.int .u64 (wn:Int),.int .u64 (nn:Int),.int .u64 (v:Int),.int .i64 p.kind,.int .u64 (p.a:Int),.int .u64 (p.b:Int),.slice p.addr p.parts.length p.cap,.slice Ae es.length ce] 60)) (.cells #[.int .i64 k2,.int .u64 (t2:Int),.int .u64 (x2:Int),.int .u64 (wn2:Int),.int .u64 (nn2:Int),.int .u64 (v2:Int),.int .i64 p2.kind,.int .u64 (p2.a:Int),.int .u64 (p2.b:Int),.slice p2.addr p2.parts.length p2.cap,.slice Ae2 es2.length ce2] 60) (lt_of_block h1)).trans h1
 have b2:=b1.alloc b1.size (.cells #[.int .i64 k2,.int .u64 (t2:Int),.int .u64 (x2:Int),.int .u64 (wn2:Int),.int .u64 (nn2:Int),.int .u64 (v2:Int),.int .i64 p2.kind,.int .u64 (p2.a:Int),.int .u64 (p2.b:Int),.slice p2.addr p2.parts.length p2.cap,.slice Ae2 es2.length ce2] 60)
 rw [show (w.alloc (.cells #[.int .i64 k,.int .u64 (t:Int),.int .u64 (x:Int),.int .u64 (wn:Int),.int .u64 (nn:Int),.int .u64 (v:Int),.int .i64 p.kind,.int .u64 (p.a:Int),.int .u64 (p.b:Int),.slice p.addr p.parts.length p.cap,.slice Ae es.length ce] 60)).heap.size=w.heap.size+1 by simp] at h2
 simp only [Rv.val,Rv.arr,Rv.sl,V.sl,V.val] at RS HR HS hc1 hc2 ⊢
 go_enter Tryz.func22,Tryz.ntmps22
 go_upto_region 1 with (fail)
 generalize (w.alloc (.cells #[.int .i64 k,.int .u64 (t:Int),.int .u64 (x:Int),.int .u64 (wn:Int),.int .u64 (nn:Int),.int .u64 (v:Int),.int .i64 p.kind,.int .u64 (p.a:Int),.int .u64 (p.b:Int),.slice p.addr p.parts.length p.cap,.slice Ae es.length ce] 60)).alloc (.cells #[.int .i64 k2,.int .u64 (t2:Int),.int .u64 (x2:Int),.int .u64 (wn2:Int),.int .u64 (nn2:Int),.int .u64 (v2:Int),.int .i64 p2.kind,.int .u64 (p2.a:Int),.int .u64 (p2.b:Int),.slice p2.addr p2.parts.length p2.cap,.slice Ae2 es2.length ce2] 60)=w1 at *
 clear h1 b1
 have CC:Hid (∀ W,Below w1.heap.size w1 W→W.heap[w.heap.size]? = some (.cells #[.int .i64 k,.int .u64 (t:Int),.int .u64 (x:Int),.int .u64 (wn:Int),.int .u64 (nn:Int),.int .u64 (v:Int),.int .i64 p.kind,.int .u64 (p.a:Int),.int .u64 (p.b:Int),.slice p.addr p.parts.length p.cap,.slice Ae es.length ce] 60 (0,0))∧W.heap[w.heap.size+1]? = some (.cells #[.int .i64 k2,.int .u64 (t2:Int),.int .u64 (x2:Int),.int .u64 (wn2:Int),.int .u64 (nn2:Int),.int .u64 (v2:Int),.int .i64 p2.kind,.int .u64 (p2.a:Int),.int .u64 (p2.b:Int),.slice p2.addr p2.parts.length p2.cap,.slice Ae2 es2.length ce2] 60 (0,0))∧Below w.heap.size w W):=fun W hW=>⟨(hW.block _ (lt_of_block h12)).trans h12,(hW.block _ (lt_of_block h2)).trans h2,b2.trans (hW.mono b2.size)⟩
 have a10:w1.cell? ⟨w.heap.size,10,none⟩=some (.slice Ae es.length ce):=cell_of_row w1 _ 10 _ _ _ h12
 have d10:w1.cell? ⟨w.heap.size+1,10,none⟩=some (.slice Ae2 es2.length ce2):=cell_of_row w1 _ 10 _ _ _ h2
 by_cases hlen:es.length=es2.length
 · have q4:((es.length:Int) != (es2.length:Int))=false:=by simp [hlen]
   have HQ:=Lib_hid hlen
   clear hlen h12 h2
   go_wp2
   go_loopw [5] (fun z wr=>∃ i:Nat,z=.int .i64 i∧i≤es.length∧Hid (es.take i=es2.take i)∧Below w1.heap.size w1 wr) (fun z _=>es.length - (intOf z).toNat)
   case atStart=>exact ⟨0,rfl,Nat.zero_le _,by simp [Hid],Below.refl _ _⟩
   case round=>
    clear q4 a10 d10 b2
    obtain ⟨i,rfl,hi1,hme,hbw⟩:=hrel
    obtain ⟨hx,hy,hbw2⟩:=CC.out wr hbw
    have a10:wr.cell? ⟨w.heap.size,10,none⟩=some (.slice Ae es.length ce):=cell_of_row wr _ 10 _ _ _ hx
    have d10:wr.cell? ⟨w.heap.size+1,10,none⟩=some (.slice Ae2 es2.length ce2):=cell_of_row wr _ 10 _ _ _ hy
    by_cases hlt:i<es.length
    · have hlt2:i<es2.length:=by have:=HQ.out; omega
      obtain ⟨hr1,hr2⟩:=HR.out wr hbw2
      obtain ⟨b,off,e,rfl,hbB,he,d0,d1,d2,d3⟩:=en_nth hr1 hlt
      obtain ⟨b',off',e',rfl,hbB',he',f0,f1,f2,f3⟩:=en_nth hr2 hlt2
      clear hr1 hr2 hx hy
      by_cases hee:e=e'
      · subst hee
        have HN:Hid (es.take (i+1)=es2.take (i+1)):=Lib_hid (by rw [take_one he,take_one he',hme.out])
        clear he he' hme
        go_wp2
        go_quiet (fail)
        go_wp2
        go_roundw
        case rel=>exact ⟨i+1,by go_num,by omega,HN,below_like4 hbw rfl rfl rfl rfl⟩
        case measure=>simp [intOf]; omega
      · have HF:Hid (sb=false):=Lib_hid (by
         rw [HS.out]
         have:es≠es2:=fun h=>hee (by rw [h] at he; rw [he] at he'; injection he')
         simp [this])
        clear he he' hme
        obtain ⟨ex,ew,en,em⟩:=e
        obtain ⟨ex',ew',en',em'⟩:=e'
        simp only at d0 d1 d2 d3 f0 f1 f2 f3
        by_cases gex:ex=ex'
        · subst gex
          by_cases gew:ew=ew'
          · subst gew
            by_cases gen:en=en'
            · subst gen
              cases em with
              | true=>
               cases em' with
               | true=>exact absurd rfl hee
               | false=>
                clear hee
                go_wp2
                go_quiet (fail)
                go_wp2
                go_ret
                exact ⟨ret_b HF.out.symm,below_like4 hbw2 rfl rfl rfl rfl⟩
              | false=>
               cases em' with
               | false=>exact absurd rfl hee
               | true=>
                clear hee
                go_wp2
                go_quiet (fail)
                go_wp2
                go_ret
                exact ⟨ret_b HF.out.symm,below_like4 hbw2 rfl rfl rfl rfl⟩
            · have c1:¬ (en:Int)=(en':Int):=by omega
              clear hee
              go_wp2
              go_quiet (fail)
              go_wp2
              go_ret
              exact ⟨ret_b HF.out.symm,below_like4 hbw2 rfl rfl rfl rfl⟩
          · have c1:¬ (ew:Int)=(ew':Int):=by omega
            clear hee
            go_wp2
            go_quiet (fail)
            go_wp2
            go_ret
            exact ⟨ret_b HF.out.symm,below_like4 hbw2 rfl rfl rfl rfl⟩
        · have c1:¬ (ex:Int)=(ex':Int):=by omega
          clear hee
          go_wp2
          go_quiet (fail)
          go_wp2
          go_ret
          exact ⟨ret_b HF.out.symm,below_like4 hbw2 rfl rfl rfl rfl⟩
    · obtain rfl:i=es.length:=by omega
      have hES:es=es2:=by have h:=hme.out; rw [List.take_length,HQ.out,List.take_length] at h; exact h
      have HSB:=Lib_hid (HS.out)
      subst hES
      clear a10 d10 hme HQ
      obtain ⟨a0,a1,a2,a3,a4,a5,a6,a7,a8,a9,a10⟩:=rec_cells hx
      obtain ⟨d0,d1,d2,d3,d4,d5,d6,d7,d8,d9,d10⟩:=rec_cells hy
      have RR:=RS.out wr hbw2
      clear hx hy CC HR RS
      by_cases ek:k=k2
      · subst ek
        by_cases et:t=t2
        · subst et
          by_cases ex:x=x2
          · subst ex
            by_cases ewn:wn=wn2
            · subst ewn
              by_cases enn:nn=nn2
              · subst enn
                by_cases ev:v=v2
                · subst ev
                  have HF:Hid (sb=ps):=Lib_hid (by rw [HSB.out]; simp)
                  clear HSB HS
                  go_wp2_with fail
                  refine RR.mono ?_
                  rintro e w3 ⟨rfl,hb3⟩
                  have hb4:=hbw2.trans (hb3.mono hbw2.size)
                  clear hb3 RR
                  go_wp2
                  go_ret
                  exact ⟨ret_b HF.out.symm,hb4⟩
                · have c1:((v:Int) == (v2:Int))=false:=by simp; omega
                  have HF:Hid (sb=false):=Lib_hid (by rw [HSB.out]; simp [ev])
                  clear HSB HS RR
                  go_wp2
                  go_ret
                  exact ⟨ret_b HF.out.symm,hbw2⟩
              · have c1:((nn:Int) == (nn2:Int))=false:=by simp; omega
                have HF:Hid (sb=false):=Lib_hid (by rw [HSB.out]; simp [enn])
                clear HSB HS RR
                go_wp2
                go_ret
                exact ⟨ret_b HF.out.symm,hbw2⟩
            · have c1:((wn:Int) == (wn2:Int))=false:=by simp; omega
              have HF:Hid (sb=false):=Lib_hid (by rw [HSB.out]; simp [ewn])
              clear HSB HS RR
              go_wp2
              go_ret
              exact ⟨ret_b HF.out.symm,hbw2⟩
          · have c1:((x:Int) == (x2:Int))=false:=by simp; omega
            have HF:Hid (sb=false):=Lib_hid (by rw [HSB.out]; simp [ex])
            clear HSB HS RR
            go_wp2
            go_ret
            exact ⟨ret_b HF.out.symm,hbw2⟩
        · have c1:((t:Int) == (t2:Int))=false:=by simp; omega
          have HF:Hid (sb=false):=Lib_hid (by rw [HSB.out]; simp [et])
          clear HSB HS RR
          go_wp2
          go_ret
          exact ⟨ret_b HF.out.symm,hbw2⟩
      · have c1:(k == k2)=false:=by simp [ek]
        have HF:Hid (sb=false):=Lib_hid (by rw [HSB.out]; simp [ek])
        clear HSB HS RR
        go_wp2
        go_ret
        exact ⟨ret_b HF.out.symm,hbw2⟩
 · have q4:((es.length:Int) != (es2.length:Int))=true:=by simp; omega
   have HF:Hid (sb=false):=Lib_hid (by
    rw [HS.out]
    have:es≠es2:=fun h=>hlen (by rw [h])
    simp [this])
   clear hlen
   go_wp2
   go_ret
   exact ⟨ret_b HF.out.symm,b2⟩
end Go.Proofs.YtinmoknbgnngcaaGreatDoor
