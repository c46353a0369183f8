/-
  Layer 4: the document's Digits, begins, value.
-/
import Derived.Test.YtinmoknbgnngcaaGreatDoorZwTnm
import Derived.Test.YtinmoknbgnngcaaGreatDoorZwTft
import Derived.Deep.RegionHeld3
import Derived.Test.YtinmoknbgnngcaaGreatDoorZwTqc
import Derived.BigQuiet
namespace Go.Proofs.YtinmoknbgnngcaaGreatDoor
open Go Go.RowKit
set_option linter.unusedVariables false
theorem sl_take (s:List UInt8) (k:Nat) (hk:k≤s.length) (W:World):(Instr.slice 9 (.string ⟨s.toArray⟩) none (some (.int .i64 (k:Int))) none).run Tryz.prog W=.ok (.string ⟨(s.take k).toArray⟩) W:=by
 rw [run_slice_string_h W 9 ⟨s.toArray⟩ Tryz.underlying9 .i64 (k:Int) (by omega) (by simp [ByteArray.size]; omega)]
 congr 2
 apply ByteArray.ext
 rw [Int.toNat_natCast]
 simp [ByteArray.data_extract]
theorem sl_drop (s:List UInt8) (k:Nat) (hk:k≤s.length) (W:World):(Instr.slice 9 (.string ⟨s.toArray⟩) (some (.int .i64 (k:Int))) none none).run Tryz.prog W=.ok (.string ⟨(s.drop k).toArray⟩) W:=by
 rw [run_slice_string_l W 9 ⟨s.toArray⟩ Tryz.underlying9 .i64 (k:Int) (by omega) (by simp [ByteArray.size]; omega)]
 congr 2
 apply ByteArray.ext
 rw [Int.toNat_natCast]
 simp [ByteArray.data_extract,ByteArray.size]
 rw [List.take_of_length_le (by simp)]
theorem ix_str (s:List UInt8) (k:Nat) (hk:k<s.length) (W:World):(Instr.index 9 (.string ⟨s.toArray⟩) (.int .i64 (k:Int))).run Tryz.prog W=.ok (.int .u8 ((s[k].toNat:Nat):Int)) W:=by
 rw [run_index_string W 9 ⟨s.toArray⟩ .i64 (k:Int) Tryz.underlying9,dif_pos (by simp [ByteArray.size]; omega)]
 simp
 rfl
theorem digit_sl (r:Nat) (hr:r<10) (W:World):(Instr.slice 9 (.string ⟨#[48,49,50,51,52,53,54,55,56,57]⟩) (some (.int .u64 (r:Int))) (some (.int .u64 ((r:Int)+1))) none).run Tryz.prog W=.ok (.string ⟨#[UInt8.ofNat (48+r)]⟩) W:=by
 rw [run_slice_string W 9 ⟨#[48,49,50,51,52,53,54,55,56,57]⟩ .u64 .u64 (r:Int) ((r:Int)+1) Tryz.underlying9 (by omega) (by omega) (by simp [ByteArray.size]; omega)]
 have:r=0∨r=1∨r=2∨r=3∨r=4∨r=5∨r=6∨r=7∨r=8∨r=9:=by omega
 rcases this with rfl | rfl | rfl | rfl | rfl | rfl | rfl | rfl | rfl | rfl <;> rfl
set_option maxRecDepth 100000 in
theorem rdigits_any (n:Nat):∀ (w:World),n<18446744073709551616→Calls Tryz.prog 64 #[.int .u64 n] w fun e w'=>e=.returned (.string ⟨(Lib.decDigits n).toArray⟩)∧w'=w:=by
 induction n using Nat.strongRecOn with
 | _ n ih=>
 intro w hn
 have hr:n % 10<10:=Nat.mod_lt _ (by omega)
 have hsl:=digit_sl (n % 10) hr
 rw [show ((n % 10:Nat):Int)=(n:Int) % 10 by omega] at hsl
 by_cases hs:n<10
 · have hd:Lib.decDigits n=[UInt8.ofNat (48+n % 10)]:=by rw [Lib.decDigits,dif_pos hs,Nat.mod_eq_of_lt hs]
   have HF:Hid (Ending.returned (.string ⟨#[UInt8.ofNat (48+n % 10)]⟩)=.returned (.string ⟨(Lib.decDigits n).toArray⟩)∧w=w):=⟨by rw [hd],rfl⟩
   clear ih hd
   generalize UInt8.ofNat (48+n % 10)=c at *
   go_enter Tryz.func64,Tryz.ntmps64
   go_wp2_with fail
   go_ret
   exact ⟨HF.out.1,rfl⟩
 · have hd:Lib.decDigits n=Lib.decDigits (n / 10) ++ [UInt8.ofNat (48+n % 10)]:=by rw [Lib.decDigits,dif_neg hs]
   have IH:=ih (n / 10) (by omega) w (by omega)
   rw [show ((n / 10:Nat):Int)=(n:Int) / 10 by omega] at IH
   have HD:=Lib_hid hd
   have HX:Hid (⟨(Lib.decDigits (n / 10)).toArray⟩ ++ ⟨#[UInt8.ofNat (48+n % 10)]⟩=(⟨(Lib.decDigits n).toArray⟩:ByteArray)):=by
    unfold Hid
    apply ByteArray.ext
    rw [hd]
    simp
   have hdl:¬ 9223372036854775807<(Lib.decDigits (n / 10)).length+1:=by
    have h1:=Lib.decDigits_length (n / 10)
    have h2:=Lib.numDigits_eq (n / 10) (by omega) (by omega)
    have:Lib.nDigits (n / 10)≤20:=by split at h2 <;> omega
    omega
   clear ih hd
   generalize UInt8.ofNat (48+n % 10)=c at *
   generalize Lib.decDigits (n / 10)=dd at *
   generalize Lib.decDigits n=dn at *
   go_enter Tryz.func64,Tryz.ntmps64
   go_wp2_with fail
   refine IH.mono ?_
   rintro e w1 ⟨rfl,rfl⟩
   go_wp2_with fail
   go_ret
   exact ⟨congrArg (fun x=>Ending.returned (Value.string x)) HX.out,rfl⟩
theorem pre_iff (s x:List UInt8):Lib.hasPrefix s x=(decide (x.length≤s.length) && (s.take x.length == x)):=by
 unfold Lib.hasPrefix
 rw [Bool.eq_iff_iff,List.isPrefixOf_iff_prefix]
 simp only [Bool.and_eq_true,decide_eq_true_eq,beq_iff_eq]
 constructor
 · intro h
   exact ⟨h.length_le,(List.prefix_iff_eq_take.1 h).symm⟩
 · rintro ⟨_,h⟩
   rw [← h]
   exact List.take_prefix _ _
set_option maxRecDepth 100000 in
theorem rbegins_any (s x:List UInt8) (w:World):Calls Tryz.prog 128 #[.string ⟨s.toArray⟩,.string ⟨x.toArray⟩] w fun e w'=>e=.returned (.bool (Lib.hasPrefix s x))∧w=w':=by
 rw [pre_iff]
 by_cases h:x.length≤s.length
 · have hsl:=sl_take s x.length h
   rw [decide_eq_true h,Bool.true_and]
   have hi:(x.length:Int)≤(s.length:Int):=by omega
   have HX:Hid ((s.take x.length == x)=decide (s.take x.length=x)):=by unfold Hid; rw [Bool.eq_iff_iff]; simp
   clear h
   generalize s.take x.length=tx at *
   go_enter Tryz.func128,Tryz.ntmps128
   go_wp2_with fail
   go_ret
   exact ⟨rfl,rfl⟩
 · rw [decide_eq_false h,Bool.false_and]
   have hi:¬ (x.length:Int)≤(s.length:Int):=by omega
   clear h
   go_enter Tryz.func128,Tryz.ntmps128
   go_wp2_with fail
   go_ret
   exact ⟨rfl,rfl⟩
def isDig (c:UInt8):Bool:=digsL.contains c
theorem isDig_iff (c:UInt8):isDig c=true↔48≤c.toNat∧c.toNat≤57:=by
 unfold isDig digsL
 simp only [List.contains_eq_mem,decide_eq_true_eq,List.mem_cons,List.not_mem_nil,or_false]
 constructor
 · rintro (rfl | rfl | rfl | rfl | rfl | rfl | rfl | rfl | rfl | rfl) <;> decide
 · rintro ⟨h1,h2⟩
   have:c=UInt8.ofNat c.toNat:=by simp
   have h3:c.toNat=48∨c.toNat=49∨c.toNat=50∨c.toNat=51∨c.toNat=52∨c.toNat=53∨c.toNat=54∨c.toNat=55∨c.toNat=56∨c.toNat=57:=by omega
   rw [this]
   rcases h3 with h | h | h | h | h | h | h | h | h | h <;> rw [h] <;> decide
theorem digS_take (s:List UInt8):digS s=s.takeWhile isDig∧restS s=s.dropWhile isDig:=by
 have h:restS s=s.dropWhile isDig:=rfl
 refine ⟨?_,h⟩
 unfold digS
 rw [h]
 have hlen:s.length=(s.takeWhile isDig).length+(s.dropWhile isDig).length:=by rw [← List.length_append,List.takeWhile_append_dropWhile]
 have h2:=List.take_left' (l₁:=s.takeWhile isDig) (l₂:=s.dropWhile isDig) rfl
 rw [List.takeWhile_append_dropWhile] at h2
 rw [show s.length - (s.dropWhile isDig).length=(s.takeWhile isDig).length by omega]
 exact h2
theorem dig_stop {s:List UInt8} {i:Nat} (hi:i≤s.length) (h1:∀ c∈s.take i,isDig c=true) (h2:∀ c,s[i]? = some c→isDig c=false):digS s=s.take i∧restS s=s.drop i:=by
 obtain ⟨e1,e2⟩:=digS_take s
 rw [e1,e2]
 have hs:s=s.take i ++ s.drop i:=(List.take_append_drop i s).symm
 have h3:(s.drop i).takeWhile isDig=[]∧(s.drop i).dropWhile isDig=s.drop i:=by
  cases hd:s.drop i with
  | nil=>simp
  | cons c t=>
   have:s[i]? = some c:=by
    have:=congrArg (·[0]?) hd
    simpa [List.getElem?_drop] using this
   have hc:=h2 c this
   simp [hc]
 have h4:=List.takeWhile_append_of_pos (p:=isDig) (l₂:=s.drop i) h1
 have h5:=List.dropWhile_append_of_pos (p:=isDig) (l₂:=s.drop i) h1
 rw [List.take_append_drop] at h4 h5
 rw [h4,h5,h3.1,h3.2,List.append_nil]
 exact ⟨rfl,rfl⟩
theorem dig_more {s:List UInt8} {i:Nat} {c:UInt8} (h1:∀ c∈s.take i,isDig c=true) (hc:s[i]? = some c) (hd:isDig c=true):∃ t,digS s=s.take i ++ c :: t:=by
 obtain ⟨e1,_⟩:=digS_take s
 have hi:=(List.getElem?_eq_some_iff.1 hc).1
 have h2:s.take (i+1)=s.take i ++ [c]:=take_one hc
 have h4:=List.takeWhile_append_of_pos (p:=isDig) (l₁:=s.take (i+1)) (l₂:=s.drop (i+1)) (by
  intro x hx
  rw [h2] at hx
  rcases List.mem_append.1 hx with hx | hx
  · exact h1 x hx
  · obtain rfl:x=c:=by simpa using hx
    exact hd)
 rw [List.take_append_drop] at h4
 exact ⟨(s.drop (i+1)).takeWhile isDig,by rw [e1,h4,h2]; simp⟩
theorem parse_append (M:Nat):∀ (xs ys:List UInt8) (acc:Nat),Lib.parseUintM M acc (xs ++ ys)=match Lib.parseUintM M acc xs with | .ok n=>Lib.parseUintM M n ys | Lib.NumEnd.syntax=>Lib.NumEnd.syntax | .range=>.range
 | [],ys,acc=>by simp [Lib.parseUintM]
 | c :: r,ys,acc=>by
  rw [List.cons_append,Lib.parseUintM,Lib.parseUintM]
  split
  · split
    · rfl
    · split
      · rfl
      · exact parse_append M r ys _
  · rfl
theorem parse_one {n:Nat} {c:UInt8} (hd:isDig c=true):Lib.parseUintM 18446744073709551615 n [c]=if 18446744073709551615<n * 10+(c.toNat - 48) then .range else .ok (n * 10+(c.toNat - 48)):=by
 obtain ⟨h1,h2⟩:=(isDig_iff c).1 hd
 rw [Lib.parseUintM,if_pos ⟨h1,h2⟩]
 by_cases h:1844674407370955162≤n
 · rw [if_pos h,if_pos (by omega)]
 · rw [if_neg h]
   rfl
def DgI (s:List UInt8) (i n:Nat):Prop:=(∀ c∈s.take i,isDig c=true)∧Lib.parseUintM 18446744073709551615 0 (s.take i)=.ok n
theorem DgI.zero (s:List UInt8):DgI s 0 0:=⟨by simp,by simp [Lib.parseUintM]⟩
theorem DgI.step {s:List UInt8} {i n:Nat} {c:UInt8} (h:DgI s i n) (hc:s[i]? = some c) (hd:isDig c=true) (hn:n * 10+(c.toNat - 48)≤18446744073709551615):DgI s (i+1) (n * 10+(c.toNat - 48)):=by
 rw [DgI,take_one hc]
 refine ⟨fun x hx=>?_,?_⟩
 · rcases List.mem_append.1 hx with hx | hx
   · exact h.1 x hx
   · obtain rfl:x=c:=by simpa using hx
     exact hd
 · rw [parse_append,h.2]
   simp only
   rw [parse_one hd,if_neg (by omega)]
theorem DgI.over {s:List UInt8} {i n:Nat} {c:UInt8} (h:DgI s i n) (hc:s[i]? = some c) (hd:isDig c=true) (hn:18446744073709551615<n * 10+(c.toNat - 48)):numS s=none:=by
 obtain ⟨t,ht⟩:=dig_more h.1 hc hd
 apply numS_bad
 intro u hu
 rw [ht] at hu
 unfold Lib.parseUintB at hu
 rw [if_neg (by simp),show s.take i ++ c :: t=s.take i ++ ([c] ++ t) by simp,show (2 ^ 64 - 1)=18446744073709551615 by decide,parse_append,h.2] at hu
 simp only at hu
 rw [parse_append,parse_one hd,if_pos hn] at hu
 cases hu
theorem DgI.done {s:List UInt8} {i n:Nat} (h:DgI s i n) (hi:i≤s.length) (h2:∀ c,s[i]? = some c→isDig c=false):numS s=if 0<i∧Lib.decDigits n=s.take i then some (n,s.drop i) else none:=by
 obtain ⟨e1,e2⟩:=dig_stop hi h.1 h2
 by_cases h0:0<i
 · have hp:Lib.parseUintB 64 (digS s)=.ok n:=by
    unfold Lib.parseUintB
    rw [e1,if_neg (by intro e; have h3:(s.take i).length=0:=(by rw [e]; rfl); rw [List.length_take] at h3; omega),show (2 ^ 64 - 1)=18446744073709551615 by decide]
    exact h.2
   rw [numS_ok hp,e1,e2]
   by_cases hq:Lib.decDigits n=s.take i
   · rw [if_pos hq,if_pos ⟨h0,hq⟩]
   · rw [if_neg hq,if_neg (fun h=>hq h.2)]
 · obtain rfl:i=0:=by omega
   rw [if_neg (by omega)]
   apply numS_bad
   intro u hu
   rw [e1] at hu
   unfold Lib.parseUintB at hu
   simp at hu
theorem DgI.lt {s:List UInt8} {i n:Nat} (h:DgI s i n):n≤18446744073709551615:=Lib.parseUintM_le 18446744073709551615 _ 0 n (by omega) h.2
theorem tell_small {k:Int} {a b:Nat} {ps:List T} (h:fitsB k a b ps.length=true) (hk:1≤k∧k≤4):(T.node k a b ps).tell=wordL k.toNat ++ Lib.join ((numsL k a b).map Lib.decDigits) [61]:=by
 have hp:ps=[]:=by
  refine List.eq_nil_of_length_eq_zero ?_
  unfold fitsB at h
  split at h
  · exact (of_decide_eq_true h).2.2
  split at h
  · exact (of_decide_eq_true h).2
  split at h
  · exact (of_decide_eq_true h).2
  omega
 subst hp
 rw [T.tell,if_neg (by omega)]
 simp [T.tellL,Lib.join_nil]
theorem tell_1 {a b:Nat} {ps:List T} (h:fitsB 1 a b ps.length=true):(T.node 1 a b ps).tell=[97,108,108]:=by
 rw [tell_small h (by omega)]; rfl
theorem tell_2 {a b:Nat} {ps:List T} (h:fitsB 2 a b ps.length=true):(T.node 2 a b ps).tell=[120,60,61] ++ Lib.decDigits a:=by
 rw [tell_small h (by omega)]
 show [120,60,61] ++ Lib.join [Lib.decDigits a] [61]=_
 rw [Lib.join_one]
theorem tell_3 {a b:Nat} {ps:List T} (h:fitsB 3 a b ps.length=true):(T.node 3 a b ps).tell=[118,60,61] ++ Lib.decDigits a:=by
 rw [tell_small h (by omega)]
 show [118,60,61] ++ Lib.join [Lib.decDigits a] [61]=_
 rw [Lib.join_one]
theorem tell_4 {a b:Nat} {ps:List T} (h:fitsB 4 a b ps.length=true):(T.node 4 a b ps).tell=[118,37] ++ Lib.decDigits a ++ [61] ++ Lib.decDigits b:=by
 rw [tell_small h (by omega)]
 show [118,37] ++ Lib.join [Lib.decDigits a,Lib.decDigits b] [61]=_
 rw [Lib.join_cons]
 simp [Lib.joinTail]
theorem tell_5 {a b:Nat} {p:T}:(T.node 5 a b [p]).tell=[33] ++ p.tell:=by
 rw [T.tell,if_neg (by omega),T.tellL,T.tellL,Lib.join_one]
 show [33] ++ Lib.join [] [61] ++ p.tell=_
 simp [Lib.join_nil]
theorem tell_67 {k:Int} {a b:Nat} {ps:List T} (hk:k=6∨k=7):(T.node k a b ps).tell=[if k=7 then 124 else 38,40] ++ Lib.join (T.tellL ps) [44] ++ [41]:=by
 rw [T.tell,if_pos (by omega)]
 rcases hk with rfl | rfl
 · show [38] ++ Lib.join [] [61] ++ _=[38,40] ++ _ ++ _
   simp [Lib.join_nil]
 · show [124] ++ Lib.join [] [61] ++ _=[124,40] ++ _ ++ _
   simp [Lib.join_nil]
set_option maxRecDepth 100000 in
set_option maxHeartbeats 3200000 in
theorem rtold_any:∀ (v:V) (w:World) (lo hi:Nat),Lies w lo hi v→hi≤w.heap.size→v.abs.allB=true→v.abs.count≤1000→
 Calls Tryz.prog 97 #[v.val] w fun e w'=>e=.returned (.string ⟨v.abs.tell.toArray⟩)∧Below w.heap.size w w':=by
 refine V.ind fun k a b A c ps ih w lo hi hL hhi hall hct=>?_
 obtain ⟨hcl,hcap',hkr,ha,hb⟩:=hL.caps
 rw [V.all_node,Bool.and_eq_true] at hall
 have hk:k=1∨k=2∨k=3∨k=4∨k=5∨k=6∨k=7:=by
  have:=hall.2
  unfold fitsB at this
  split at this; omega
  split at this; omega
  split at this; omega
  split at this; omega
  split at this; omega
  cases this
 have hlc:ps.length≤1000:=by rw [V.count_node] at hct; have:=length_le_countL (V.absL ps); rw [absL_length] at this; omega
 have HA:Hid (∀ (i:Nat) (p:V),ps[i]? = some p→p.abs.allB=true):=fun i p hp=>by
  cases h:p.abs.allB with
  | true=>rfl
  | false=>rw [allL_bad hp h] at hall; cases hall.1
 have IH:Hid (∀ (i:Nat) (p:V),ps[i]? = some p→∀ W,Below w.heap.size w W→Calls Tryz.prog 97 #[.agg #[.int .i64 p.kind,.int .u64 (p.a:Int),.int .u64 (p.b:Int),.slice p.addr p.parts.length p.cap]] W fun e w'=>e=.returned (.string ⟨p.abs.tell.toArray⟩)∧Below W.heap.size W w'):=fun i p hp W hW=>
  ih p (List.mem_of_getElem? hp) W lo hi ((hL.part (List.mem_of_getElem? hp)).under (hW.mono hhi)) (by have:=hW.size; omega) (HA.out i p hp) (hL.small hct hp).1
 rw [V.count_node] at hct
 have hfit:fitsB k a b (V.absL ps).length=true:=by rw [absL_length]; exact hall.2
 have HPL:Hid (∀ i (p:V),ps[i]? = some p→p.abs.tell.length≤50000):=fun i p hp=>by
  have h1:=tell_len p (hL.part (List.mem_of_getElem? hp))
  have h2:=count_le hp
  omega
 have HJL:Hid (∀ i,(Lib.join (T.tellL (V.absL (ps.take i))) [44]).length≤50000):=fun i=>by
  have h1:=tells_join (l:=ps.take i) (sep:=[44]) (by decide) (tells_sum (w:=w) (lo:=lo) (hi:=hi) _ fun p hp=>tell_len p (hL.part (List.mem_of_mem_take hp)))
  have h2:=countL_le_take ps i
  omega
 have HL:Hid (∀ W,Below w.heap.size w W→Lies W lo hi (.node k a b A c ps)):=fun W hW=>hL.under (hW.mono hhi)
 have DA:=rdigits_any a
 have DB:=rdigits_any b
 have hda:(Lib.decDigits a).length≤20:=by rw [Lib.decDigits_length]; exact Lib.nDigits_le20 a ha
 have hdb:(Lib.decDigits b).length≤20:=by rw [Lib.decDigits_length]; exact Lib.nDigits_le20 b hb
 have hbx:=heap_alloc_new w (.cells #[.int .i64 k,.int .u64 (a:Int),.int .u64 (b:Int),.slice A ps.length c] 57)
 have hb0:=below_new w (.cells #[.int .i64 k,.int .u64 (a:Int),.int .u64 (b:Int),.slice A ps.length c] 57)
 have hT:Hid ((V.node k a b A c ps).abs=.node k a b (V.absL ps)):=by unfold Hid; rw [V.abs]
 have hsx:(w.alloc (.cells #[.int .i64 k,.int .u64 (a:Int),.int .u64 (b:Int),.slice A ps.length c] 57)).heap.size=w.heap.size+1:=by simp
 clear ih hL hct
 simp only [V.val,V.kind,V.a,V.b,V.sl,V.addr,V.parts,V.cap]
 rw [hT.out]
 clear hT
 rcases hk with rfl | rfl | rfl | rfl | rfl | h67
 · have HX:Hid (Ending.returned (.string ⟨#[97,108,108]⟩)=.returned (.string ⟨(T.node 1 a b (V.absL ps)).tell.toArray⟩)):=by unfold Hid; rw [tell_1 hfit]
   generalize (T.node 1 a b (V.absL ps)).tell=res at *
   clear hfit hall DA DB
   go_enter Tryz.func97,Tryz.ntmps97
   go_wp2_with fail
   go_ret
   exact ⟨HX.out,hb0⟩
 · have HX:Hid (Ending.returned (.string (⟨#[120,60,61]⟩ ++ ⟨(Lib.decDigits a).toArray⟩))=.returned (.string ⟨(T.node 2 a b (V.absL ps)).tell.toArray⟩)):=by
    unfold Hid; rw [tell_2 hfit,show (⟨#[120,60,61]⟩:ByteArray)=⟨[(120:UInt8),60,61].toArray⟩ from rfl,bcat]
   generalize (T.node 2 a b (V.absL ps)).tell=res at *
   generalize Lib.decDigits a=da at *
   have hz1:¬ 9223372036854775807<3+da.length:=by omega
   clear hfit hall DB
   go_enter Tryz.func97,Tryz.ntmps97
   go_wp2_with fail
   refine (DA _ ha).mono ?_
   rintro e w1 ⟨rfl,rfl⟩
   go_wp2_with fail
   go_ret
   exact ⟨HX.out,hb0⟩
 · have HX:Hid (Ending.returned (.string (⟨#[118,60,61]⟩ ++ ⟨(Lib.decDigits a).toArray⟩))=.returned (.string ⟨(T.node 3 a b (V.absL ps)).tell.toArray⟩)):=by
    unfold Hid; rw [tell_3 hfit,show (⟨#[118,60,61]⟩:ByteArray)=⟨[(118:UInt8),60,61].toArray⟩ from rfl,bcat]
   generalize (T.node 3 a b (V.absL ps)).tell=res at *
   generalize Lib.decDigits a=da at *
   have hz1:¬ 9223372036854775807<3+da.length:=by omega
   clear hfit hall DB
   go_enter Tryz.func97,Tryz.ntmps97
   go_wp2_with fail
   refine (DA _ ha).mono ?_
   rintro e w1 ⟨rfl,rfl⟩
   go_wp2_with fail
   go_ret
   exact ⟨HX.out,hb0⟩
 · have HX:Hid (Ending.returned (.string (⟨#[118,37]⟩ ++ ⟨(Lib.decDigits a).toArray⟩ ++ ⟨#[61]⟩ ++ ⟨(Lib.decDigits b).toArray⟩))=.returned (.string ⟨(T.node 4 a b (V.absL ps)).tell.toArray⟩)):=by
    unfold Hid; rw [tell_4 hfit,show (⟨#[118,37]⟩:ByteArray)=⟨[(118:UInt8),37].toArray⟩ from rfl,show (⟨#[61]⟩:ByteArray)=⟨[(61:UInt8)].toArray⟩ from rfl,bcat,bcat,bcat]
   generalize (T.node 4 a b (V.absL ps)).tell=res at *
   have hz1:¬ 9223372036854775807<2+(Lib.decDigits a).length:=by omega
   have hz2:¬ 9223372036854775807<2+(Lib.decDigits a).length+1:=by omega
   have hz3:¬ 9223372036854775807<2+(Lib.decDigits a).length+1+(Lib.decDigits b).length:=by omega
   obtain ⟨w1,hw1⟩:∃ w1,w1=w.alloc (.cells #[.int .i64 4,.int .u64 (a:Int),.int .u64 (b:Int),.slice A ps.length c] 57):=⟨_,rfl⟩
   rw [← hw1] at hbx hb0 hsx
   have e1:=cell_of_row w1 _ 1 _ _ _ hbx
   have e2:=cell_of_row w1 _ 2 _ _ _ hbx
   simp at e1 e2
   subst hw1
   clear hfit hall
   go_enter Tryz.func97,Tryz.ntmps97
   go_upto_region 9 with (fail)
   have HB0:=Lib_hid hb0
   clear hb0 hbx
   generalize w.alloc (.cells #[.int .i64 4,.int .u64 (a:Int),.int .u64 (b:Int),.slice A ps.length c] 57)=w1 at *
   have DD:Hid (∀ n:Nat,n<18446744073709551616→∀ k,Calls Tryz.prog 64 #[.int .u64 (n:Int)] (w1.drewN k) fun e w'=>e=.returned (.string ⟨(Lib.decDigits n).toArray⟩)∧∃ q,w'=w1.drewN q):=fun n hn k=>(rdigits_any n _ hn).mono fun e w' h=>⟨h.1,k,h.2⟩
   clear DA DB
   go_quiet ((go_at_call 64; exact DD.out _ (by assumption) _))
   go_wp2_with fail
   go_ret
   exact ⟨HX.out,below_drew_ HB0.out⟩
 · obtain ⟨p,rfl⟩:∃ p,ps=[p]:=by
    have h1:=hall.2
    unfold fitsB at h1
    rw [if_neg (by omega),if_neg (by omega),if_neg (by omega),if_pos rfl] at h1
    have h2:=(of_decide_eq_true h1).2.2
    match ps,h2 with
    | [p],_=>exact ⟨p,rfl⟩
   have HX:Hid (Ending.returned (.string (⟨#[33]⟩ ++ ⟨p.abs.tell.toArray⟩))=.returned (.string ⟨(T.node 5 a b (V.absL [p])).tell.toArray⟩)):=by
    unfold Hid; rw [V.absL,V.absL,tell_5,show (⟨#[33]⟩:ByteArray)=⟨[(33:UInt8)].toArray⟩ from rfl,bcat]
   generalize (T.node 5 a b (V.absL [p])).tell=res at *
   have CH:=IH.out 0 p rfl _ hb0
   have hpl:=HPL.out 0 p rfl
   obtain ⟨bb,off,p',rfl,hbb,hlb,hp,hLp,d0,d1,d2,d3⟩:=(HL.out _ hb0).nth (i:=0) (by simp)
   obtain rfl:p=p':=by simpa using hp
   have hps:p.sl=.slice p.addr p.parts.length p.cap:=rfl
   rw [hps] at d3
   simp at d0 d1 d2 d3
   generalize p.abs.tell=dd at *
   have hz1:¬ 9223372036854775807<1+dd.length:=by omega
   generalize p.addr=pA at *
   generalize p.cap=pc at *
   generalize p.parts.length=pl at *
   generalize p.kind=pk at *
   generalize (p.a:Int)=pa at *
   generalize (p.b:Int)=pb2 at *
   have HB0:=Lib_hid hb0
   clear hfit hall DA DB hp hps hLp IH HL HA HPL HJL hb0
   simp only [List.length_cons,List.length_nil,Nat.zero_add] at d0 d1 d2 d3 CH hbx ⊢
   go_enter Tryz.func97,Tryz.ntmps97
   go_wp2_with fail
   refine CH.mono ?_
   rintro e w1 ⟨rfl,hb1⟩
   have hbz:=HB0.out.trans (hb1.mono HB0.out.size)
   go_wp2_with fail
   go_ret
   exact ⟨HX.out,hbz⟩
 · have hX:(T.node k a b (V.absL ps)).tell=[if k=7 then 124 else 38,40] ++ Lib.join (T.tellL (V.absL ps)) [44] ++ [41]:=tell_67 h67
   generalize (T.node k a b (V.absL ps)).tell=res at *
   have HX:=Lib_hid hX
   clear hfit hall DA DB hX HA hda hdb
   obtain ⟨w1,hw1⟩:∃ w1,w1=w.alloc (.cells #[.int .i64 k,.int .u64 (a:Int),.int .u64 (b:Int),.slice A ps.length c] 57):=⟨_,rfl⟩
   rw [← hw1] at hbx hb0 hsx
   have e0:=cell_of_row w1 _ 0 _ _ _ hbx
   have e3:=cell_of_row w1 _ 3 _ _ _ hbx
   simp at e0 e3
   have HB0:=Lib_hid (And.intro hb0 hbx)
   clear hb0 hbx
   subst hw1
   go_enter Tryz.func97,Tryz.ntmps97
   go_upto_region 1 with (fail)
   generalize w.alloc (.cells #[.int .i64 k,.int .u64 (a:Int),.int .u64 (b:Int),.slice A ps.length c] 57)=w1 at *
   rcases h67 with rfl | rfl
   · have HXb:Hid (res=[38,40] ++ Lib.join (T.tellL (V.absL ps)) [44] ++ [41]):=HX
     clear HX
     go_wp2
     go_loopw [3,4] (fun v z W=>∃ (i:Nat) (X:List UInt8),z=.int .i64 i∧i≤ps.length∧v=.string ⟨X.toArray⟩∧Hid (X=[38,40] ++ Lib.join (T.tellL (V.absL (ps.take i))) [44])∧X.length≤50002∧Hid (Below w.heap.size w W)∧W.heap[w.heap.size]? = some (.cells #[.int .i64 6,.int .u64 (a:Int),.int .u64 (b:Int),.slice A ps.length c] 57 (0,0))) (fun _ z _=>ps.length - (intOf z).toNat)
     case atStart=>exact ⟨0,[38,40],rfl,Nat.zero_le _,rfl,Lib_hid (by simp [V.absL,T.tellL,Lib.join_nil]),by decide,HB0.out.1,HB0.out.2⟩
     case round=>
      clear e0 e3
      obtain ⟨i,X,rfl,hi1,rfl,hX,hXl,hbW,hqW⟩:=hrel
      rename World=>W
      have e3:=cell_of_row W _ 3 _ _ _ hqW
      simp at e3
      by_cases hlt:i<ps.length
      · obtain ⟨bb,off,p,rfl,hbb,hlb,hp,hLp,d0,d1,d2,d3⟩:=(HL.out W hbW.out).nth hlt
        have CH:=IH.out i p hp W hbW.out
        have hpl:=HPL.out i p hp
        have hjl:=HJL.out (i+1)
        have hps:p.sl=.slice p.addr p.parts.length p.cap:=rfl
        rw [hps] at d3
        have hn:=join_snoc (T.tellL (V.absL (ps.take i))) p.abs.tell [44]
        rw [← tellL_take hp] at hn
        have hne:(T.tellL (V.absL (ps.take i))=[])↔i=0:=by
         rw [← List.length_eq_zero_iff,tellL_length,absL_length,List.length_take]
         omega
        have HN:=Lib_hid hn
        have HNE:=Lib_hid hne
        have HQW:=Lib_hid hqW
        clear hp hps hLp hn hne hqW
        generalize p.abs.tell=dd at *
        generalize p.addr=pA at *
        generalize p.cap=pc at *
        generalize p.parts.length=pl at *
        generalize p.kind=pk at *
        generalize (p.a:Int)=pa at *
        generalize (p.b:Int)=pb2 at *
        by_cases h0:i=0
        · have hgt:decide ((0:Int)<(i:Int))=false:=by simp; omega
          have hgt2:¬ 0<i:=by omega
          have hgt3:¬ (0:Int)<(i:Int):=by omega
          have hz1:¬ 9223372036854775807<X.length+dd.length:=by omega
          have HV:Hid (Value.string (⟨X.toArray⟩ ++ ⟨dd.toArray⟩)=.string ⟨(X ++ dd).toArray⟩):=by unfold Hid; rw [bcat]
          have HNX:Hid (X ++ dd=[38,40] ++ Lib.join (T.tellL (V.absL (ps.take (i+1)))) [44]):=by
           unfold Hid
           rw [HN.out,if_pos (HNE.out.2 h0),hX.out]
           simp
          have hl':(X ++ dd).length≤50002:=by rw [HNX.out]; simp; omega
          clear hX HN HNE hjl h0
          go_wp2_with fail
          refine CH.mono ?_
          rintro e w5 ⟨rfl,hb5⟩
          have hb6:Hid (Below w.heap.size w w5):=hbW.out.trans (hb5.mono hbW.out.size)
          have hq5:Hid (w5.heap[w.heap.size]? = _):=(hb5.block _ (Array.getElem?_eq_some_iff.1 HQW.out).1).trans HQW.out
          clear CH hb5 d0 d1 d2 d3 e3
          go_wp2_with fail
          go_roundw
          case rel=>exact ⟨i+1,X ++ dd,by go_num,by omega,HV.out,HNX,hl',hb6,hq5.out⟩
          case measure=>simp [intOf]; omega
        · have hgt:decide ((0:Int)<(i:Int))=true:=by simp; omega
          have hgt2:0<i:=by omega
          have hgt3:(0:Int)<(i:Int):=by omega
          have hz1:¬ 9223372036854775807<X.length+1:=by omega
          have hz2:¬ 9223372036854775807<X.length+1+dd.length:=by omega
          have HV:Hid (Value.string (⟨X.toArray⟩ ++ ⟨#[44]⟩ ++ ⟨dd.toArray⟩)=.string ⟨(X ++ [44] ++ dd).toArray⟩):=by unfold Hid; rw [show (⟨#[44]⟩:ByteArray)=⟨[(44:UInt8)].toArray⟩ from rfl,bcat,bcat]
          have HNX:Hid (X ++ [44] ++ dd=[38,40] ++ Lib.join (T.tellL (V.absL (ps.take (i+1)))) [44]):=by
           unfold Hid
           rw [HN.out,if_neg (fun e=>h0 (HNE.out.1 e)),hX.out]
           simp [List.append_assoc]
          have hl':(X ++ [44] ++ dd).length≤50002:=by rw [HNX.out]; simp; omega
          clear hX HN HNE hjl h0
          go_wp2_with fail
          refine CH.mono ?_
          rintro e w5 ⟨rfl,hb5⟩
          have hb6:Hid (Below w.heap.size w w5):=hbW.out.trans (hb5.mono hbW.out.size)
          have hq5:Hid (w5.heap[w.heap.size]? = _):=(hb5.block _ (Array.getElem?_eq_some_iff.1 HQW.out).1).trans HQW.out
          clear CH hb5 d0 d1 d2 d3 e3
          go_wp2_with fail
          go_roundw
          case rel=>exact ⟨i+1,X ++ [44] ++ dd,by go_num,by omega,HV.out,HNX,hl',hb6,hq5.out⟩
          case measure=>simp [intOf]; omega
      · obtain rfl:i=ps.length:=by omega
        rw [List.take_length] at hX
        have HF:Hid (Ending.returned (.string (⟨X.toArray⟩ ++ ⟨#[41]⟩))=.returned (.string ⟨res.toArray⟩)):=by
         unfold Hid
         rw [HXb.out,← hX.out,show (⟨#[41]⟩:ByteArray)=⟨[(41:UInt8)].toArray⟩ from rfl,bcat]
        have hz1:¬ 9223372036854775807<X.length+1:=by omega
        clear hX HXb hqW
        go_wp2_with fail
        go_ret
        exact ⟨HF.out,hbW.out⟩
   · have HXb:Hid (res=[124,40] ++ Lib.join (T.tellL (V.absL ps)) [44] ++ [41]):=HX
     clear HX
     go_wp2
     go_loopw [3,4] (fun v z W=>∃ (i:Nat) (X:List UInt8),z=.int .i64 i∧i≤ps.length∧v=.string ⟨X.toArray⟩∧Hid (X=[124,40] ++ Lib.join (T.tellL (V.absL (ps.take i))) [44])∧X.length≤50002∧Hid (Below w.heap.size w W)∧W.heap[w.heap.size]? = some (.cells #[.int .i64 7,.int .u64 (a:Int),.int .u64 (b:Int),.slice A ps.length c] 57 (0,0))) (fun _ z _=>ps.length - (intOf z).toNat)
     case atStart=>exact ⟨0,[124,40],rfl,Nat.zero_le _,rfl,Lib_hid (by simp [V.absL,T.tellL,Lib.join_nil]),by decide,HB0.out.1,HB0.out.2⟩
     case round=>
      clear e0 e3
      obtain ⟨i,X,rfl,hi1,rfl,hX,hXl,hbW,hqW⟩:=hrel
      rename World=>W
      have e3:=cell_of_row W _ 3 _ _ _ hqW
      simp at e3
      by_cases hlt:i<ps.length
      · obtain ⟨bb,off,p,rfl,hbb,hlb,hp,hLp,d0,d1,d2,d3⟩:=(HL.out W hbW.out).nth hlt
        have CH:=IH.out i p hp W hbW.out
        have hpl:=HPL.out i p hp
        have hjl:=HJL.out (i+1)
        have hps:p.sl=.slice p.addr p.parts.length p.cap:=rfl
        rw [hps] at d3
        have hn:=join_snoc (T.tellL (V.absL (ps.take i))) p.abs.tell [44]
        rw [← tellL_take hp] at hn
        have hne:(T.tellL (V.absL (ps.take i))=[])↔i=0:=by
         rw [← List.length_eq_zero_iff,tellL_length,absL_length,List.length_take]
         omega
        have HN:=Lib_hid hn
        have HNE:=Lib_hid hne
        have HQW:=Lib_hid hqW
        clear hp hps hLp hn hne hqW
        generalize p.abs.tell=dd at *
        generalize p.addr=pA at *
        generalize p.cap=pc at *
        generalize p.parts.length=pl at *
        generalize p.kind=pk at *
        generalize (p.a:Int)=pa at *
        generalize (p.b:Int)=pb2 at *
        by_cases h0:i=0
        · have hgt:decide ((0:Int)<(i:Int))=false:=by simp; omega
          have hgt2:¬ 0<i:=by omega
          have hgt3:¬ (0:Int)<(i:Int):=by omega
          have hz1:¬ 9223372036854775807<X.length+dd.length:=by omega
          have HV:Hid (Value.string (⟨X.toArray⟩ ++ ⟨dd.toArray⟩)=.string ⟨(X ++ dd).toArray⟩):=by unfold Hid; rw [bcat]
          have HNX:Hid (X ++ dd=[124,40] ++ Lib.join (T.tellL (V.absL (ps.take (i+1)))) [44]):=by
           unfold Hid
           rw [HN.out,if_pos (HNE.out.2 h0),hX.out]
           simp
          have hl':(X ++ dd).length≤50002:=by rw [HNX.out]; simp; omega
          clear hX HN HNE hjl h0
          go_wp2_with fail
          refine CH.mono ?_
          rintro e w5 ⟨rfl,hb5⟩
          have hb6:Hid (Below w.heap.size w w5):=hbW.out.trans (hb5.mono hbW.out.size)
          have hq5:Hid (w5.heap[w.heap.size]? = _):=(hb5.block _ (Array.getElem?_eq_some_iff.1 HQW.out).1).trans HQW.out
          clear CH hb5 d0 d1 d2 d3 e3
          go_wp2_with fail
          go_roundw
          case rel=>exact ⟨i+1,X ++ dd,by go_num,by omega,HV.out,HNX,hl',hb6,hq5.out⟩
          case measure=>simp [intOf]; omega
        · have hgt:decide ((0:Int)<(i:Int))=true:=by simp; omega
          have hgt2:0<i:=by omega
          have hgt3:(0:Int)<(i:Int):=by omega
          have hz1:¬ 9223372036854775807<X.length+1:=by omega
          have hz2:¬ 9223372036854775807<X.length+1+dd.length:=by omega
          have HV:Hid (Value.string (⟨X.toArray⟩ ++ ⟨#[44]⟩ ++ ⟨dd.toArray⟩)=.string ⟨(X ++ [44] ++ dd).toArray⟩):=by unfold Hid; rw [show (⟨#[44]⟩:ByteArray)=⟨[(44:UInt8)].toArray⟩ from rfl,bcat,bcat]
          have HNX:Hid (X ++ [44] ++ dd=[124,40] ++ Lib.join (T.tellL (V.absL (ps.take (i+1)))) [44]):=by
           unfold Hid
           rw [HN.out,if_neg (fun e=>h0 (HNE.out.1 e)),hX.out]
           simp [List.append_assoc]
          have hl':(X ++ [44] ++ dd).length≤50002:=by rw [HNX.out]; simp; omega
          clear hX HN HNE hjl h0
          go_wp2_with fail
          refine CH.mono ?_
          rintro e w5 ⟨rfl,hb5⟩
          have hb6:Hid (Below w.heap.size w w5):=hbW.out.trans (hb5.mono hbW.out.size)
          have hq5:Hid (w5.heap[w.heap.size]? = _):=(hb5.block _ (Array.getElem?_eq_some_iff.1 HQW.out).1).trans HQW.out
          clear CH hb5 d0 d1 d2 d3 e3
          go_wp2_with fail
          go_roundw
          case rel=>exact ⟨i+1,X ++ [44] ++ dd,by go_num,by omega,HV.out,HNX,hl',hb6,hq5.out⟩
          case measure=>simp [intOf]; omega
      · obtain rfl:i=ps.length:=by omega
        rw [List.take_length] at hX
        have HF:Hid (Ending.returned (.string (⟨X.toArray⟩ ++ ⟨#[41]⟩))=.returned (.string ⟨res.toArray⟩)):=by
         unfold Hid
         rw [HXb.out,← hX.out,show (⟨#[41]⟩:ByteArray)=⟨[(41:UInt8)].toArray⟩ from rfl,bcat]
        have hz1:¬ 9223372036854775807<X.length+1:=by omega
        clear hX HXb hqW
        go_wp2_with fail
        go_ret
        exact ⟨HF.out,hbW.out⟩
set_option maxRecDepth 100000 in
set_option maxHeartbeats 1600000 in
theorem rtext_any (v:V) (w:World) (lo hi:Nat) (hL:Lies w lo hi v) (hhi:hi≤w.heap.size) (hct:v.abs.count≤1000) :
 Calls Tryz.prog 66 #[v.val] w fun e w'=>e=.returned (.string ⟨v.abs.text.toArray⟩)∧Below w.heap.size w w':=by
 have hbx:=heap_alloc_new w (.cells #[.int .i64 v.kind,.int .u64 (v.a:Int),.int .u64 (v.b:Int),v.sl] 57)
 have hb0:=below_new w (.cells #[.int .i64 v.kind,.int .u64 (v.a:Int),.int .u64 (v.b:Int),v.sl] 57)
 have hhi1:hi≤(w.alloc (.cells #[.int .i64 v.kind,.int .u64 (v.a:Int),.int .u64 (v.b:Int),v.sl] 57)).heap.size:=by have:=hb0.size; omega
 have RR:=rright_any v _ lo hi (hL.under (hb0.mono hhi)) hhi1 hct
 have hTx:Hid (v.abs.text=if v.abs.rightB then v.abs.tell else []):=rfl
 have SS:Hid (∀ W,Below w.heap.size w W→v.abs.rightB=true→Calls Tryz.prog 97 #[v.val] W fun e w'=>e=.returned (.string ⟨v.abs.tell.toArray⟩)∧Below W.heap.size W w'):=fun W hW hr=>
  rtold_any v W lo hi (hL.under (hW.mono hhi)) (by have:=hW.size; omega) (right_all hr).1 hct
 have e0:=cell_of_row (w.alloc (.cells #[.int .i64 v.kind,.int .u64 (v.a:Int),.int .u64 (v.b:Int),v.sl] 57)) _ 0 _ _ _ hbx
 simp only [V.val,V.sl] at RR SS hbx hb0 ⊢
 generalize v.abs.text=res at *
 generalize v.abs.tell=st at *
 generalize v.abs.rightB=r at *
 generalize v.kind=x0 at *
 generalize (v.a:Int)=x1 at *
 generalize (v.b:Int)=x2 at *
 generalize v.addr=pA at *
 generalize v.parts.length=pn at *
 generalize v.cap=pc at *
 clear e0 hL hhi1 hct
 go_enter Tryz.func66,Tryz.ntmps66
 go_wp2_with fail
 refine RR.mono ?_
 rintro e w1 ⟨rfl,hb1⟩
 have hbw:=hb0.trans (hb1.mono hb0.size)
 have hx1:=(hb1.block w.heap.size (by simp)).trans hbx
 have c0:=cell_of_row w1 _ 0 _ _ _ hx1
 have c1:=cell_of_row w1 _ 1 _ _ _ hx1
 have c2:=cell_of_row w1 _ 2 _ _ _ hx1
 have c3:=cell_of_row w1 _ 3 _ _ _ hx1
 simp at c0 c1 c2 c3
 clear hbx hb0 hb1 hx1 RR
 cases r with
 | true=>
  have CS:=SS.out w1 hbw rfl
  have HP:Hid (res=st):=hTx.out.trans (if_pos rfl)
  clear hTx
  go_wp2_with fail
  refine CS.mono ?_
  rintro e w2 ⟨rfl,hb2⟩
  have HF:Hid (Below w.heap.size w w2):=hbw.trans (hb2.mono hbw.size)
  have HX:Hid (Ending.returned (.string ⟨st.toArray⟩)=.returned (.string ⟨res.toArray⟩)):=by rw [HP.out]; exact Lib_hid rfl
  clear CS hb2
  go_wp2
  go_ret
  exact ⟨HX.out,HF.out⟩
 | false=>
  have HF:Hid (res=[]):=hTx.out.trans (if_neg (by simp))
  have HX:Hid (Ending.returned (.string ⟨#[]⟩)=.returned (.string ⟨res.toArray⟩)):=by rw [HF.out]; exact Lib_hid rfl
  clear hTx
  go_wp2
  go_ret
  exact ⟨HX.out,hbw⟩
theorem dec1 {n:Nat} (h:n<10):Lib.decDigits n=[UInt8.ofNat (48+n)]:=by rw [Lib.decDigits,dif_pos h]
end Go.Proofs.YtinmoknbgnngcaaGreatDoor
