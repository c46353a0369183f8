/-
  Layer 5: the document's reading of a text, plainly: loosely, and held against the text.
-/
import Derived.Test.YtinmoknbgnngcaaGreatDoorZwVpm
import Derived.Lib.Bytealg
import Derived.Lib.Strings
namespace Go.Proofs.YtinmoknbgnngcaaGreatDoor
open Go Go.RowKit
set_option linter.unusedVariables false
def cutStep (c:UInt8) (out:List (List UInt8)) (b:UInt8):List (List UInt8):=if b=c then out ++ [[]] else out.dropLast ++ [out.getLastD [] ++ [b]]
def cutsL (c:UInt8) (s:List UInt8):List (List UInt8):=s.foldl (cutStep c) [[]]
theorem cutsL_snoc (c b:UInt8) (s:List UInt8):cutsL c (s ++ [b])=cutStep c (cutsL c s) b:=by simp [cutsL]
theorem cutStep_ne (c b:UInt8) (out:List (List UInt8)):cutStep c out b≠[]:=by unfold cutStep; split <;> simp
theorem cut_fold (c:UInt8) (a:List (List UInt8)):∀ (s:List UInt8) (b:List (List UInt8)),b≠[]→s.foldl (cutStep c) (a ++ b)=a ++ s.foldl (cutStep c) b
 | [],b,_=>rfl
 | x :: s,b,hb=>by
  have e:cutStep c (a ++ b) x=a ++ cutStep c b x:=by
   unfold cutStep
   split
   · rw [List.append_assoc]
   · rw [List.dropLast_append_of_ne_nil hb,List.append_assoc]
     congr 3
     rw [List.getLastD_eq_getLast?,List.getLastD_eq_getLast?,List.getLast?_append]
     cases hl:b.getLast? with
     | none=>exact absurd (List.getLast?_eq_none_iff.1 hl) hb
     | some y=>rfl
  rw [List.foldl_cons,List.foldl_cons,e]
  exact cut_fold c a s _ (cutStep_ne _ _ _)
theorem cut_word (c:UInt8):∀ (x a:List UInt8),c ∉ x→x.foldl (cutStep c) [a]=[a ++ x]
 | [],a,_=>by simp
 | b :: x,a,h=>by
  have hb:b≠c:=fun e=>h (by rw [e]; simp)
  have e:cutStep c [a] b=[a ++ [b]]:=by unfold cutStep; rw [if_neg hb]; rfl
  rw [List.foldl_cons,e,cut_word c x _ (fun e=>h (by simp [e]))]
  simp
theorem cutsL_none {c:UInt8} {x:List UInt8} (h:c ∉ x):cutsL c x=[x]:=by
 unfold cutsL
 rw [cut_word c x [] h]; rfl
theorem cutsL_app {c:UInt8} {x:List UInt8} (h:c ∉ x) (y:List UInt8):cutsL c (x ++ c :: y)=x :: cutsL c y:=by
 unfold cutsL
 rw [List.foldl_append,List.foldl_cons,cut_word c x [] h]
 have e:cutStep c [[] ++ x] c=[x] ++ [[]]:=by unfold cutStep; rw [if_pos rfl]; rfl
 rw [e,cut_fold c [x] y [[]] (by simp)]
 rfl
theorem cutsL_words {c:UInt8}:∀ (l:List (List UInt8)) (x:List UInt8),c ∉ x→(∀ y∈l,c ∉ y)→cutsL c (x ++ l.flatMap ([c] ++ ·))=x :: l
 | [],x,hx,_=>by rw [List.flatMap_nil,List.append_nil]; exact cutsL_none hx
 | y :: l,x,hx,h=>by
  rw [List.flatMap_cons,show x ++ ([c] ++ y ++ l.flatMap ([c] ++ ·))=x ++ c :: (y ++ l.flatMap ([c] ++ ·)) by simp,cutsL_app hx,cutsL_words l y (h y (by simp)) (fun z hz=>h z (by simp [hz]))]
theorem cutsL_ne (c:UInt8) (s:List UInt8):cutsL c s≠[]:=by
 rcases List.eq_nil_or_concat s with rfl | ⟨l,b,rfl⟩
 · simp [cutsL]
 · rw [List.concat_eq_append,cutsL_snoc]; exact cutStep_ne _ _ _
theorem cutsL_len (c:UInt8):∀ s:List UInt8,(cutsL c s).length≤s.length+1:=by
 have key:∀ (s:List UInt8) (out:List (List UInt8)),(s.foldl (cutStep c) out).length≤s.length+max out.length 1:=by
  intro s
  induction s with
  | nil=>intro out; simp; omega
  | cons b s ih=>
   intro out
   rw [List.foldl_cons]
   have h1:=ih (cutStep c out b)
   have h2:(cutStep c out b).length≤max out.length 1+1:=by
    unfold cutStep
    split
    · simp only [List.length_append,List.length_cons,List.length_nil]; omega
    · simp only [List.length_append,List.length_dropLast,List.length_cons,List.length_nil]; omega
   simp only [List.length_cons]
   omega
 intro s
 have:=key s [[]]
 simpa [cutsL] using this
theorem cutsL_mem (c:UInt8):∀ (s x:List UInt8),x∈cutsL c s→x.length≤s.length:=by
 have key:∀ (s:List UInt8) (out:List (List UInt8)) (n:Nat),(∀ x∈out,x.length≤n)→∀ x∈s.foldl (cutStep c) out,x.length≤s.length+n:=by
  intro s
  induction s with
  | nil=>intro out n h x hx; have:=h x hx; simp; omega
  | cons b s ih=>
   intro out n h x hx
   rw [List.foldl_cons] at hx
   have:=ih (cutStep c out b) (n+1) (by
    intro y hy
    unfold cutStep at hy
    split at hy
    · rcases List.mem_append.1 hy with hy | hy
      · have:=h y hy; omega
      · obtain rfl:y=[]:=by simpa using hy
        simp
    · rcases List.mem_append.1 hy with hy | hy
      · have:=h y (List.dropLast_subset _ hy); omega
      · obtain rfl:y=out.getLastD [] ++ [b]:=by simpa using hy
        have hg:(out.getLastD []).length≤n:=by
         rw [List.getLastD_eq_getLast?]
         cases hl:out.getLast? with
         | none=>simp
         | some z=>exact h z (List.mem_of_getLast? hl)
        rw [List.length_append]
        simp only [List.length_cons,List.length_nil]
        omega) x hx
   simp only [List.length_cons]
   omega
 intro s x hx
 have:=key s [[]] 0 (by simp) x hx
 omega
def valStep (n:Nat) (b:UInt8):Nat:=(n * 10+(b.toNat+208) % 256) % 18446744073709551616
def valW (s:List UInt8):Nat:=s.foldl valStep 0
theorem valW_lt (s:List UInt8):valW s<18446744073709551616:=by
 rcases List.eq_nil_or_concat s with rfl | ⟨l,b,rfl⟩
 · decide
 · unfold valW
   rw [List.concat_eq_append,List.foldl_append]
   exact Nat.mod_lt _ (by decide)
theorem valW_dec (n:Nat):n<18446744073709551616→valW (Lib.decDigits n)=n:=by
 induction n using Nat.strongRecOn with
 | _ n ih=>
 intro hn
 have hd:∀ m:Nat,m<10→((UInt8.ofNat (48+m)).toNat+208) % 256=m:=fun m hm=>by
  have:(UInt8.ofNat (48+m)).toNat=48+m:=by simp; omega
  omega
 by_cases h:n<10
 · rw [dec1 h]
   show valStep 0 _=n
   unfold valStep
   rw [hd n h]
   omega
 · have e:Lib.decDigits n=Lib.decDigits (n / 10) ++ [UInt8.ofNat (48+n % 10)]:=by
    conv=>lhs; rw [Lib.decDigits,dif_neg h]
   have e2:valW (Lib.decDigits n)=valStep (valW (Lib.decDigits (n / 10))) (UInt8.ofNat (48+n % 10)):=by
    unfold valW
    rw [e,List.foldl_append]
    rfl
   rw [e2,ih (n / 10) (by omega) (by omega)]
   unfold valStep
   rw [hd _ (Nat.mod_lt _ (by omega))]
   omega
def lverL (s:List UInt8):Nat×Nat:=if (cutsL 46 s).length=2 then (valW ((cutsL 46 s).getD 0 []),valW ((cutsL 46 s).getD 1 [])) else (0,0)
theorem lverL_lt (s:List UInt8):(lverL s).1<18446744073709551616∧(lverL s).2<18446744073709551616:=by
 unfold lverL
 split
 · exact ⟨valW_lt _,valW_lt _⟩
 · exact ⟨by decide,by decide⟩
theorem lverL_tell {a b:Nat} (ha:a<18446744073709551616) (hb:b<18446744073709551616):lverL (verL a b)=(a,b):=by
 have e:cutsL 46 (verL a b)=[Lib.decDigits a,Lib.decDigits b]:=by
  rw [show verL a b=Lib.decDigits a ++ 46 :: Lib.decDigits b by simp [verL],cutsL_app (dec_no (by decide)),cutsL_none (dec_no (by decide))]
 unfold lverL
 rw [e,if_pos (by rfl)]
 show (valW (Lib.decDigits a),valW (Lib.decDigits b))=_
 rw [valW_dec a ha,valW_dec b hb]
def lentL (s:List UInt8):Option En:=if (cutsL 58 s).length=3 then some ⟨valW ((cutsL 58 s).getD 0 []),(lverL ((cutsL 58 s).getD 1 [])).1,(lverL ((cutsL 58 s).getD 1 [])).2,decide ((cutsL 58 s).getD 2 []=[49])⟩ else none
theorem lentL_ok {s:List UInt8} {e:En} (h:lentL s=some e):e.ok:=by
 unfold lentL at h
 split at h
 · injection h with h
   subst h
   have h1:=valW_lt ((cutsL 58 s).getD 0 [])
   have h2:=lverL_lt ((cutsL 58 s).getD 1 [])
   refine ⟨?_,?_,?_⟩
   · show ((valW _:Nat):Int)≤_; omega
   · show (((lverL _).1:Nat):Int)≤_; omega
   · show (((lverL _).2:Nat):Int)≤_; omega
 · cases h
theorem lentL_tell {e:En} (h:e.ok):lentL e.tell=some e:=by
 obtain ⟨h1,h2,h3⟩:=h
 obtain ⟨x,a,b,m⟩:=e
 simp only at h1 h2 h3
 have hc:cutsL 58 (En.tell ⟨x,a,b,m⟩)=[Lib.decDigits x,verL a b,[if m then 49 else 48]]:=by
  rw [en_tell]
  show cutsL 58 (Lib.decDigits x ++ 58 :: (verL a b ++ 58 :: [if m then 49 else 48]))=_
  rw [cutsL_app (dec_no (by decide)),cutsL_app (ver_no (by decide) (by decide)),cutsL_none (by cases m <;> decide)]
 unfold lentL
 rw [hc,if_pos (by rfl)]
 show some (En.mk (valW (Lib.decDigits x)) (lverL (verL a b)).1 (lverL (verL a b)).2 (decide ([if m then (49:UInt8) else 48]=[49])))=_
 rw [valW_dec x (by omega),lverL_tell (by omega) (by omega)]
 cases m <;> simp
def lentsL:List (List UInt8)→Option (List En)
 | []=>some []
 | s :: l=>match lentL s with
  | some e=>(lentsL l).map (e :: ·)
  | none=>none
theorem lentsL_ok:∀ {l:List (List UInt8)} {es:List En},lentsL l=some es→∀ e∈es,e.ok
 | [],es,h,e,he=>by injection h with h; subst h; cases he
 | s :: l,es,h,e,he=>by
  unfold lentsL at h
  split at h
  · rename_i e1 h1
    obtain ⟨es',h2,rfl⟩:=Option.map_eq_some_iff.1 h
    rcases List.mem_cons.1 he with rfl | he
    · exact lentL_ok h1
    · exact lentsL_ok h2 e he
  · cases h
theorem lentsL_tell:∀ {es:List En},(∀ e∈es,e.ok)→lentsL (es.map En.tell)=some es
 | [],_=>rfl
 | e :: es,h=>by
  show (match lentL e.tell with | some e=>(lentsL (es.map En.tell)).map (e :: ·) | none=>none)=_
  rw [lentL_tell (h e (by simp)),lentsL_tell fun x hx=>h x (by simp [hx])]
  rfl
theorem lentsL_snoc (s:List UInt8):∀ l:List (List UInt8),lentsL (l ++ [s])=(lentsL l).bind fun es=>(lentL s).map fun e=>es ++ [e]
 | []=>by
  show (match lentL s with | some e=>(some []).map (e :: ·) | none=>none)=_
  cases lentL s <;> rfl
 | x :: l=>by
  show (match lentL x with | some e=>(lentsL (l ++ [s])).map (e :: ·) | none=>none)=(match lentL x with | some e=>(lentsL l).map (e :: ·) | none=>none).bind _
  cases lentL x with
  | none=>rfl
  | some e=>
   rw [lentsL_snoc s l]
   show ((lentsL l).bind _).map _=((lentsL l).map _).bind _
   cases lentsL l with
   | none=>rfl
   | some es=>cases lentL s <;> rfl
theorem lentsL_take {l:List (List UInt8)} (i:Nat) (h:lentsL (l.take i)=none):lentsL l=none:=by
 have key:∀ a b:List (List UInt8),lentsL a=none→lentsL (a ++ b)=none:=by
  intro a
  induction a with
  | nil=>intro b h; cases h
  | cons x a ih=>
   intro b h
   show (match lentL x with | some e=>(lentsL (a ++ b)).map (e :: ·) | none=>none)=none
   have h':(match lentL x with | some e=>(lentsL a).map (e :: ·) | none=>none)=none:=h
   cases hx:lentL x with
   | none=>rfl
   | some e=>
    rw [hx] at h'
    simp only at h' ⊢
    cases ha:lentsL a with
    | none=>rw [ih b ha]; rfl
    | some es=>rw [ha] at h'; cases h'
 have:=key (l.take i) (l.drop i) h
 rwa [List.take_append_drop] at this
theorem lentsL_len:∀ {l:List (List UInt8)} {es:List En},lentsL l=some es→es.length=l.length
 | [],es,h=>by injection h with h; subst h; rfl
 | s :: l,es,h=>by
  unfold lentsL at h
  split at h
  · obtain ⟨es',h2,rfl⟩:=Option.map_eq_some_iff.1 h
    rw [List.length_cons,List.length_cons,lentsL_len h2]
  · cases h
def manyN (k:Nat):Nat:=if k=0 then 0 else if k=2∨k=3 then 4 else if k=4∨k=5 then 3 else 2
def looseL (k:Nat) (l:List (List UInt8)):Option Rc:=
 if k=2 then some {Rc.zero 2 with t:=valW (l.getD 1 []),x:=valW (l.getD 2 []),w:=(lverL (l.getD 3 [])).1,n:=(lverL (l.getD 3 [])).2}
 else if k=3 then some {Rc.zero 3 with t:=valW (l.getD 1 []),x:=valW (l.getD 2 []),v:=valW (l.getD 3 [])}
 else if k=4 then some {Rc.zero 4 with t:=valW (l.getD 1 []),x:=valW (l.getD 2 [])}
 else if k=5 then (readT (l.getD 2 [])).bind fun p=>(lentsL (l.drop 3)).map fun es=>{Rc.zero 5 with t:=valW (l.getD 1 []),p:=p,es:=es}
 else some {Rc.zero k with t:=valW (l.getD 1 [])}
def lineD (s:List UInt8):Option Rc:=
 if kindL ((cutsL 32 s).getD 0 [])=0∨(cutsL 32 s).length<manyN (kindL ((cutsL 32 s).getD 0 []))∨(kindL ((cutsL 32 s).getD 0 [])≠5∧manyN (kindL ((cutsL 32 s).getD 0 []))<(cutsL 32 s).length) then none
 else (looseL (kindL ((cutsL 32 s).getD 0 [])) (cutsL 32 s)).bind fun r=>if r.text=s then some r else none
theorem looseL_ok {k:Nat} {l:List (List UInt8)} {r:Rc} (h:looseL k l=some r):r.okR:=by
 have z8:(0:Nat)<18446744073709551616:=by omega
 unfold looseL at h
 repeat' split at h
 · injection h with h; subst h
   exact ⟨valW_lt _,valW_lt _,(lverL_lt _).1,(lverL_lt _).2,z8,okN_zero,by intro e he; cases he⟩
 · injection h with h; subst h
   exact ⟨valW_lt _,valW_lt _,z8,z8,valW_lt _,okN_zero,by intro e he; cases he⟩
 · injection h with h; subst h
   exact ⟨valW_lt _,valW_lt _,z8,z8,z8,okN_zero,by intro e he; cases he⟩
 · obtain ⟨p,h1,h2⟩:=Option.bind_eq_some_iff.1 h
   obtain ⟨es,h3,rfl⟩:=Option.map_eq_some_iff.1 h2
   exact ⟨valW_lt _,z8,z8,z8,z8,(read_some h1).2.1,lentsL_ok h3⟩
 · injection h with h; subst h
   exact ⟨valW_lt _,z8,z8,z8,z8,okN_zero,by intro e he; cases he⟩
theorem wordsP_no {r:Rc} (i:Nat):∀ x∈r.wordsP i,(32:UInt8) ∉ x:=by
 intro x hx
 unfold Rc.wordsP at hx
 repeat' split at hx
 · obtain rfl:x=_:=by simpa using hx
   exact dec_no (by decide)
 · obtain rfl:x=_:=by simpa using hx
   exact dec_no (by decide)
 · obtain rfl:x=_:=by simpa using hx
   exact ver_no' _ _
 · obtain rfl:x=_:=by simpa using hx
   exact dec_no (by decide)
 · obtain rfl:x=_:=by simpa using hx
   unfold T.text
   split
   · exact tell_no _
   · simp
 · obtain ⟨e,_,rfl⟩:=List.mem_map.1 hx
   exact en_no e
theorem cuts_tell (r:Rc):cutsL 32 r.tell=nameL r.kind :: r.wordsN (partsN r.kind 6):=by
 rw [tell_ws]
 unfold wsL
 refine cutsL_words _ _ (nameL_no _) fun x hx=>?_
 unfold Rc.wordsN at hx
 obtain ⟨i,_,hx⟩:=List.mem_flatMap.1 hx
 exact wordsP_no i x hx
set_option maxRecDepth 100000 in
theorem lineD_tell {r:Rc} (h:r.rightB=true) (ok:r.okR):lineD r.tell=some r:=by
 obtain ⟨hk,he,hp⟩:=right_shape h
 obtain ⟨k,hkk⟩:∃ k:Nat,r.kind=k:=⟨r.kind.toNat,by omega⟩
 have hc:=cuts_tell r
 have ht:r.text=r.tell:=by unfold Rc.text; rw [if_pos h]
 have key:looseL k (cutsL 32 r.tell)=some r∧(cutsL 32 r.tell).length=(if k=5 then manyN k+r.es.length else manyN k):=by
  rw [hc]
  have E1:ofB 1 r.kind=false→r.x=0:=fun h=>of_decide_eq_true (he 1 (by omega) h)
  have E2:ofB 2 r.kind=false→r.w=0∧r.n=0:=fun h=>of_decide_eq_true (he 2 (by omega) h)
  have E3:ofB 3 r.kind=false→r.v=0:=fun h=>of_decide_eq_true (he 3 (by omega) h)
  have E4:ofB 4 r.kind=false→r.p=.node 0 0 0 []:=fun h=>(sameB_iff _ _).1 (he 4 (by omega) h)
  have E5:ofB 5 r.kind=false→r.es=[]:=fun h=>of_decide_eq_true (he 5 (by omega) h)
  have hk7:k=1∨k=2∨k=3∨k=4∨k=5∨k=6∨k=7:=by omega
  obtain ⟨o1,o2,o3,o4,o5,o6,o7⟩:=ok
  obtain ⟨k',t,x,wn,n,v,p,es⟩:=r
  simp only at hkk E1 E2 E3 E4 E5 o1 o2 o3 o4 o5 o6 o7 hp
  clear hc ht he h
  rcases hk7 with rfl | rfl | rfl | rfl | rfl | rfl | rfl <;> subst hkk
  · obtain ⟨rfl,⟨rfl,rfl⟩,rfl,rfl,rfl⟩:x=0∧(wn=0∧n=0)∧v=0∧p=.node 0 0 0 []∧es=[]:=⟨E1 rfl,E2 rfl,E3 rfl,E4 rfl,E5 rfl⟩
    rw [partsN_of]
    refine ⟨?_,rfl⟩
    show some ({Rc.zero (1:Nat) with t:=valW (Lib.decDigits t)}:Rc)=_
    rw [valW_dec t o1]
    rfl
  · obtain ⟨rfl,rfl,rfl⟩:v=0∧p=.node 0 0 0 []∧es=[]:=⟨E3 rfl,E4 rfl,E5 rfl⟩
    rw [partsN_of]
    refine ⟨?_,rfl⟩
    show some ({Rc.zero 2 with t:=valW (Lib.decDigits t),x:=valW (Lib.decDigits x),w:=(lverL (verL wn n)).1,n:=(lverL (verL wn n)).2}:Rc)=_
    rw [valW_dec t o1,valW_dec x o2,lverL_tell o3 o4]
    rfl
  · obtain ⟨⟨rfl,rfl⟩,rfl,rfl⟩:(wn=0∧n=0)∧p=.node 0 0 0 []∧es=[]:=⟨E2 rfl,E4 rfl,E5 rfl⟩
    rw [partsN_of]
    refine ⟨?_,rfl⟩
    show some ({Rc.zero 3 with t:=valW (Lib.decDigits t),x:=valW (Lib.decDigits x),v:=valW (Lib.decDigits v)}:Rc)=_
    rw [valW_dec t o1,valW_dec x o2,valW_dec v o5]
    rfl
  · obtain ⟨⟨rfl,rfl⟩,rfl,rfl,rfl⟩:(wn=0∧n=0)∧v=0∧p=.node 0 0 0 []∧es=[]:=⟨E2 rfl,E3 rfl,E4 rfl,E5 rfl⟩
    rw [partsN_of]
    refine ⟨?_,rfl⟩
    show some ({Rc.zero 4 with t:=valW (Lib.decDigits t),x:=valW (Lib.decDigits x)}:Rc)=_
    rw [valW_dec t o1,valW_dec x o2]
    rfl
  · obtain ⟨rfl,⟨rfl,rfl⟩,rfl⟩:x=0∧(wn=0∧n=0)∧v=0:=⟨E1 rfl,E2 rfl,E3 rfl⟩
    rw [partsN_of]
    have hr:p.rightB=true:=hp rfl
    have hw:(nameL 5 :: Rc.wordsN (Rc.mk 5 t 0 0 0 0 p es) [0,4,5])=nameL 5 :: Lib.decDigits t :: p.text :: es.map En.tell:=by
     show nameL 5 :: ([Lib.decDigits t] ++ ([p.text] ++ (es.map En.tell ++ [])))=_
     simp
    have e5:(if (5:Int)=2 then [0,1,2] else if (5:Int)=3 then [0,1,3] else if (5:Int)=4 then [0,1] else if (5:Int)=5 then [0,4,5] else [0])=[0,4,5]:=rfl
    rw [show (((5:Nat):Int))=5 from rfl,e5,hw]
    refine ⟨?_,?_⟩
    · show (readT p.text).bind (fun p=>(lentsL (es.map En.tell)).map fun es=>({Rc.zero 5 with t:=valW (Lib.decDigits t),p:=p,es:=es}:Rc))=_
      rw [show p.text=p.tell by unfold T.text; rw [if_pos hr],read_tell hr o6,lentsL_tell o7,valW_dec t o1]
      rfl
    · simp [manyN]; omega
  · obtain ⟨rfl,⟨rfl,rfl⟩,rfl,rfl,rfl⟩:x=0∧(wn=0∧n=0)∧v=0∧p=.node 0 0 0 []∧es=[]:=⟨E1 rfl,E2 rfl,E3 rfl,E4 rfl,E5 rfl⟩
    rw [partsN_of]
    refine ⟨?_,rfl⟩
    show some ({Rc.zero (6:Nat) with t:=valW (Lib.decDigits t)}:Rc)=_
    rw [valW_dec t o1]
    rfl
  · obtain ⟨rfl,⟨rfl,rfl⟩,rfl,rfl,rfl⟩:x=0∧(wn=0∧n=0)∧v=0∧p=.node 0 0 0 []∧es=[]:=⟨E1 rfl,E2 rfl,E3 rfl,E4 rfl,E5 rfl⟩
    rw [partsN_of]
    refine ⟨?_,rfl⟩
    show some ({Rc.zero (7:Nat) with t:=valW (Lib.decDigits t)}:Rc)=_
    rw [valW_dec t o1]
    rfl
 have hd:(cutsL 32 r.tell).getD 0 []=nameL k:=by rw [hc,hkk]; rfl
 unfold lineD
 rw [hd,kindL_of (by omega) (by omega),key.1,Option.bind_some,ht,if_pos rfl,if_neg]
 rw [key.2]
 rintro (h0 | h0 | ⟨h0,h1⟩)
 · omega
 · split at h0 <;> omega
 · rw [if_neg h0] at h1; omega
theorem lineD_eq (s:List UInt8):lineD s=lineB s:=by
 cases h:lineB s with
 | some r=>
  obtain ⟨h1,h2,rfl⟩:=line_some h
  exact lineD_tell h1 h2
 | none=>
  cases h2:lineD s with
  | none=>rfl
  | some r=>
   unfold lineD at h2
   split at h2
   · cases h2
   · rename_i hn
     obtain ⟨r',h3,h4⟩:=Option.bind_eq_some_iff.1 h2
     split at h4
     · rename_i ht
       injection h4 with h4
       subst h4
       have ok:=looseL_ok h3
       cases hr:r'.rightB with
       | true=>
        unfold Rc.text at ht
        rw [hr,if_pos rfl] at ht
        rw [← ht,line_tell hr ok] at h
        cases h
       | false=>
        unfold Rc.text at ht
        rw [hr,if_neg (by decide)] at ht
        subst ht
        exact absurd (.inl rfl) hn
     · cases h4
def lnsL (s:List UInt8):List (List UInt8):=if (cutsL 10 s).getLast? = some [] then (cutsL 10 s).dropLast else cutsL 10 s
theorem ahead_cases (c:UInt8):∀ s:List UInt8,(c∈s∧s=ahead c s ++ c :: behind c s∧c ∉ ahead c s)∨(c ∉ s∧ahead c s=s∧behind c s=[])
 | []=>.inr ⟨by simp,rfl,rfl⟩
 | b :: s=>by
  rw [ahead_cons,behind_cons]
  by_cases h:b=c
  · rw [if_pos h,if_pos h]
    exact .inl ⟨by simp [h],by simp [h],by simp⟩
  · rw [if_neg h,if_neg h]
    have h':¬ c=b:=fun e=>h e.symm
    rcases ahead_cases c s with ⟨h1,h2,h3⟩ | ⟨h1,h2,h3⟩
    · refine .inl ⟨List.mem_cons_of_mem _ h1,?_,by simp [h',h3]⟩
      show b :: s=b :: (ahead c s ++ c :: behind c s)
      rw [← h2]
    · exact .inr ⟨by simp [h',h1],by rw [h2],h3⟩
theorem lnsL_step {s:List UInt8} (h:s≠[]):lnsL s=ahead 10 s :: lnsL (behind 10 s):=by
 rcases ahead_cases 10 s with ⟨h1,h2,h3⟩ | ⟨h1,h2,h3⟩
 · have e:cutsL 10 s=ahead 10 s :: cutsL 10 (behind 10 s):=by
    conv=>lhs; rw [h2]
    exact cutsL_app h3 _
   have hne:=cutsL_ne 10 (behind 10 s)
   unfold lnsL
   rw [e]
   generalize cutsL 10 (behind 10 s)=d at *
   match d,hne with
   | x :: d,_=>
    rw [List.getLast?_cons_cons]
    split
    · rfl
    · rfl
 · rw [h2,h3]
   have e:cutsL 10 s=[s]:=cutsL_none h1
   unfold lnsL
   rw [e]
   simp [h,cutsL]
theorem behind_lt {c:UInt8} {s:List UInt8} (h:s≠[]):(behind c s).length<s.length:=by
 rcases ahead_cases c s with ⟨h1,h2,h3⟩ | ⟨h1,h2,h3⟩
 · have:=congrArg List.length h2
   simp at this
   omega
 · rw [h3]
   have:=List.length_pos_iff.2 h
   simpa using this
theorem ahead_le (c:UInt8) (s:List UInt8):(ahead c s).length≤s.length:=by
 rcases ahead_cases c s with ⟨h1,h2,h3⟩ | ⟨h1,h2,h3⟩
 · have:=congrArg List.length h2
   simp at this
   omega
 · rw [h2]; exact Nat.le_refl _
def goL:List (List UInt8)→Nat→List Rc→List Rc×Nat×Nat
 | [],n,acc=>(acc,n,0)
 | x :: ls,n,acc=>if x=[]∨x.head? = some 35 then goL ls (n+1) acc else
  match lineB x with
  | none=>([],n+1,50)
  | some r=>goL ls (n+1) (acc ++ [r])
def Mute (x:List UInt8):Prop:=x=[]∨x.head? = some 35
theorem goL_mute {x:List UInt8} {ls:List (List UInt8)} {n:Nat} {acc:List Rc} (h:Mute x):goL (x :: ls) n acc=goL ls (n+1) acc:=by rw [goL,if_pos (show x=[]∨x.head? = some 35 from h)]
theorem goL_none {x:List UInt8} {ls:List (List UInt8)} {n:Nat} {acc:List Rc} (h:¬ Mute x) (hb:lineB x=none):goL (x :: ls) n acc=([],n+1,50):=by rw [goL,if_neg (show ¬ (x=[]∨x.head? = some 35) from h),hb]
theorem goL_some {x:List UInt8} {ls:List (List UInt8)} {n:Nat} {acc:List Rc} {r:Rc} (h:¬ Mute x) (hb:lineB x=some r):goL (x :: ls) n acc=goL ls (n+1) (acc ++ [r]):=by rw [goL,if_neg (show ¬ (x=[]∨x.head? = some 35) from h),hb]
def pieceL (t:List UInt8):List UInt8:=if 10∈t then ahead 10 t ++ [10] else t
theorem index_ahead (c:UInt8):∀ s:List UInt8,Lib.indexByte s c=if c∈s then ((ahead c s).length:Int) else -1
 | []=>by simp [Lib.indexByte]
 | b :: s=>by
  rw [Lib.indexByte,ahead_cons,index_ahead c s]
  by_cases h:b=c
  · subst h; simp
  · have h':¬ c=b:=fun e=>h e.symm
    by_cases hm:c∈s
    · simp [h,h',hm]
    · simp [h,h',hm]
theorem piece_in {t:List UInt8} (h:(10:UInt8)∈t):(ahead 10 t).length+1≤t.length∧t.take ((ahead 10 t).length+1)=pieceL t∧t.drop ((ahead 10 t).length+1)=behind 10 t:=by
 have h2:=ahead_some h
 unfold pieceL
 rw [if_pos h]
 have hl:=congrArg List.length h2
 simp at hl
 refine ⟨by omega,?_,?_⟩
 · have e:t=(ahead 10 t ++ [10]) ++ behind 10 t:=by rw [List.append_assoc]; exact h2
   have hl2:(ahead 10 t).length+1=(ahead 10 t ++ [10]).length:=by simp
   rw [hl2]
   exact (congrArg (List.take _) e).trans (List.take_left' rfl)
 · have e:t=(ahead 10 t ++ [10]) ++ behind 10 t:=by rw [List.append_assoc]; exact h2
   have hl2:(ahead 10 t).length+1=(ahead 10 t ++ [10]).length:=by simp
   rw [hl2]
   exact (congrArg (List.drop _) e).trans (List.drop_left' rfl)
theorem piece_out {t:List UInt8} (h:(10:UInt8) ∉ t):pieceL t=t∧behind 10 t=[]∧ahead 10 t=t:=by
 unfold pieceL
 rw [if_neg h]
 exact ⟨rfl,(ahead_none h).2,(ahead_none h).1⟩
theorem trim_piece (t:List UInt8):Lib.trimSuffix (pieceL t) [10]=ahead 10 t:=by
 by_cases h:(10:UInt8)∈t
 · unfold pieceL Lib.trimSuffix Lib.hasSuffix
   rw [if_pos h,if_pos (by simp [List.isSuffixOf_iff_suffix])]
   simp
 · rw [(piece_out h).1,(piece_out h).2.2]
   unfold Lib.trimSuffix Lib.hasSuffix
   rw [if_neg]
   rw [List.isSuffixOf_iff_suffix]
   rintro ⟨l,hl⟩
   exact h (by rw [← hl]; simp)
theorem piece_le (t:List UInt8):(pieceL t).length≤t.length:=by
 by_cases h:(10:UInt8)∈t
 · have:=(piece_in h).1
   unfold pieceL
   rw [if_pos h]
   simpa using this
 · rw [(piece_out h).1]; exact Nat.le_refl _
end Go.Proofs.YtinmoknbgnngcaaGreatDoor
