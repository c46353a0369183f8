/-
  Layer 4: the document's read, plainly.
-/
import Derived.Test.YtinmoknbgnngcaaGreatDoorZwTex
import Derived.Test.YtinmoknbgnngcaaGreatDoorZwTnq
namespace Go.Proofs.YtinmoknbgnngcaaGreatDoor
open Go Go.RowKit
set_option linter.unusedVariables false
def listB (f:List UInt8→Option (T×List UInt8)) (q:List UInt8):Option (List T×List UInt8):=
 if Lib.hasPrefix q [41] then some ([],Lib.trimPrefix q [41]) else (f q).bind fun (t,r')=>(moreS f (r'.length+1) r').map fun (ts,r2)=>(t :: ts,r2)
def contS (f:List UInt8→Option (T×List UInt8)) (q:List UInt8):Option (List T×List UInt8):=(f q).bind fun (t,r')=>(moreS f (r'.length+1) r').map fun (ts,r2)=>(t :: ts,r2)
theorem listS_B (f:List UInt8→Option (T×List UInt8)) (s:List UInt8):listS f s=if Lib.hasPrefix s [40] then listB f (Lib.trimPrefix s [40]) else none:=rfl
theorem pre_one (c x:UInt8) (l:List UInt8):Lib.hasPrefix (c :: l) [x]=(x == c):=by simp [Lib.hasPrefix,List.isPrefixOf]
theorem pre_nil (x:UInt8):Lib.hasPrefix [] [x]=false:=rfl
theorem trim_one (c:UInt8) (l:List UInt8):Lib.trimPrefix (c :: l) [c]=l:=by unfold Lib.trimPrefix; rw [pre_one]; simp
theorem trim_yes {s x:List UInt8} (h:Lib.hasPrefix s x=true):Lib.trimPrefix s x=s.drop x.length:=by unfold Lib.trimPrefix; rw [if_pos h]
theorem pre_len {s x:List UInt8} (h:Lib.hasPrefix s x=true):x.length≤s.length:=by
 unfold Lib.hasPrefix at h
 exact (List.isPrefixOf_iff_prefix.1 h).length_le
section
variable {f:List UInt8→Option (T×List UInt8)} {q rest:List UInt8} {t:T}
theorem cont_none (h:f q=none):contS f q=none:=by unfold contS; rw [h]; rfl
theorem cont_end (h:f q=some (t,[])):contS f q=none:=by
 unfold contS; rw [h]
 simp only [Option.bind_some]
 rw [show moreS f ([].length+1) []=none by unfold moreS; simp [pre_nil]]
 rfl
theorem cont_shut {l:List UInt8} (h:f q=some (t,41 :: l)):contS f q=some ([t],l):=by
 unfold contS; rw [h]
 simp only [Option.bind_some]
 rw [show moreS f ((41 :: l).length+1) (41 :: l)=some ([],l) by unfold moreS; rw [pre_one,pre_one,trim_one]; rfl]
 rfl
theorem cont_bad {c:UInt8} {l:List UInt8} (h:f q=some (t,c :: l)) (h1:c≠41) (h2:c≠44):contS f q=none:=by
 unfold contS; rw [h]
 simp only [Option.bind_some]
 rw [show moreS f ((c :: l).length+1) (c :: l)=none by
  unfold moreS
  rw [pre_one,pre_one]
  have e1:(44 == c)=false:=by simp; exact fun e=>h2 e.symm
  have e2:(41 == c)=false:=by simp; exact fun e=>h1 e.symm
  rw [e1,e2]; rfl]
 rfl
theorem cont_more {l:List UInt8} (hf:∀ s t r,f s=some (t,r)→r.length<s.length) (h:f q=some (t,44 :: l)):contS f q=(contS f l).map fun (ts,r)=>(t :: ts,r):=by
 conv=>lhs; unfold contS
 rw [h]
 simp only [Option.bind_some]
 have:moreS f ((44 :: l).length+1) (44 :: l)=contS f l:=by
  conv=>lhs; unfold moreS
  rw [pre_one,trim_one]
  simp only [beq_self_eq_true,if_true]
  unfold contS
  cases hl:f l with
  | none=>rfl
  | some x=>
   obtain ⟨t2,r2⟩:=x
   have:=hf _ _ _ hl
   simp only [Option.bind_some]
   rw [moreS_fuel hf (44 :: l).length (r2.length+1) r2 (by simp; omega) (Nat.le_refl _)]
 rw [this]
end
section
variable {d:Nat} {s:List UInt8}
theorem kind_hit {j:Nat} (h1:1≤j) (h7:j≤7) (hn:∀ i,1≤i→i<j→Lib.hasPrefix s (wordL i)=false) (hy:Lib.hasPrefix s (wordL j)=true):kindS s=(j,s.drop (wordL j).length):=by
 rw [kindS_at h1 h7 hn hy,trim_yes hy]
theorem rd_all (h:Lib.hasPrefix s [97,108,108]=true):rdS (d+1) s=some (.node 1 0 0 [],s.drop 3):=by
 rw [rdS_succ (kind_hit (j:=1) (by omega) (by omega) (fun i h1 h2=>by omega) h) (by omega)]
 rfl
theorem rd_x (h1:Lib.hasPrefix s [97,108,108]=false) (h:Lib.hasPrefix s [120,60,61]=true):rdS (d+1) s=(numS (s.drop 3)).map fun x=>(.node 2 x.1 0 [],x.2):=by
 rw [rdS_succ (kind_hit (j:=2) (by omega) (by omega) (fun i q1 q2=>by
  obtain rfl:i=1:=by omega
  exact h1) h) (by omega)]
 show (numsS 1 (s.drop 3)).bind _=_
 show (((numS (s.drop 3)).map _).bind _)=_
 cases numS (s.drop 3) with
 | none=>rfl
 | some x=>rfl
theorem rd_v (h1:Lib.hasPrefix s [97,108,108]=false) (h2:Lib.hasPrefix s [120,60,61]=false) (h:Lib.hasPrefix s [118,60,61]=true):rdS (d+1) s=(numS (s.drop 3)).map fun x=>(.node 3 x.1 0 [],x.2):=by
 rw [rdS_succ (kind_hit (j:=3) (by omega) (by omega) (fun i q1 q2=>by
  have:i=1∨i=2:=by omega
  rcases this with rfl | rfl
  · exact h1
  · exact h2) h) (by omega)]
 show (((numS (s.drop 3)).map _).bind _)=_
 cases numS (s.drop 3) with
 | none=>rfl
 | some x=>rfl
theorem rd_m (h1:Lib.hasPrefix s [97,108,108]=false) (h2:Lib.hasPrefix s [120,60,61]=false) (h3:Lib.hasPrefix s [118,60,61]=false) (h:Lib.hasPrefix s [118,37]=true) :
 rdS (d+1) s=(numS (s.drop 2)).bind fun x=>if Lib.hasPrefix x.2 [61] then (numS (x.2.drop 1)).map fun y=>(.node 4 x.1 y.1 [],y.2) else none:=by
 rw [rdS_succ (kind_hit (j:=4) (by omega) (by omega) (fun i q1 q2=>by
  have:i=1∨i=2∨i=3:=by omega
  rcases this with rfl | rfl | rfl
  · exact h1
  · exact h2
  · exact h3) h) (by omega)]
 show (((((numS (s.drop 2)).map _).bind _).bind _))=_
 cases numS (s.drop 2) with
 | none=>rfl
 | some x=>
  obtain ⟨v,r⟩:=x
  simp only [Option.map_some,Option.bind_some]
  cases h61:Lib.hasPrefix r [61] with
  | false=>rfl
  | true=>
   simp only [if_true,trim_yes h61]
   show (((numS (r.drop 1)).map _).bind _)=_
   cases numS (r.drop 1) with
   | none=>rfl
   | some y=>rfl
theorem rd_n (hn:∀ i,1≤i→i<5→Lib.hasPrefix s (wordL i)=false) (h:Lib.hasPrefix s [33]=true):rdS (d+1) s=(rdS d (s.drop 1)).map fun x=>(.node 5 0 0 [x.1],x.2):=by
 rw [rdS_succ (kind_hit (j:=5) (by omega) (by omega) hn h) (by omega)]
 show (((rdS d (s.drop 1)).map _).map _)=_
 cases rdS d (s.drop 1) with
 | none=>rfl
 | some x=>rfl
theorem pre_two {a b:UInt8}:Lib.hasPrefix s [a,b]=(Lib.hasPrefix s [a] && Lib.hasPrefix (s.drop 1) [b]):=by
 cases s with
 | nil=>rfl
 | cons c l=>
  cases l with
  | nil=>simp [Lib.hasPrefix,List.isPrefixOf]
  | cons x l=>simp [Lib.hasPrefix,List.isPrefixOf]
theorem rd_r (j:Nat) (c:UInt8) (hj:j=6∧c=38∨j=7∧c=124) (hn:∀ i,1≤i→i<j→Lib.hasPrefix s (wordL i)=false) (h:Lib.hasPrefix s [c]=true) :
 rdS (d+1) s=if Lib.hasPrefix s [c,40] then (listB (rdS d) (s.drop 2)).map fun x=>(.node j 0 0 x.1,x.2) else none:=by
 have hk:kindS s=(j,s.drop 1):=by
  rcases hj with ⟨rfl,rfl⟩ | ⟨rfl,rfl⟩
  · exact kind_hit (by omega) (by omega) hn h
  · exact kind_hit (by omega) (by omega) hn h
 rw [rdS_succ hk (by omega),pre_two,h,Bool.true_and]
 have h0:numN ((j:Nat):Int)=0:=by rcases hj with ⟨rfl,_⟩ | ⟨rfl,_⟩ <;> rfl
 rw [h0]
 show (((partsS (rdS d) j (s.drop 1)).map _))=_
 have hp:partsS (rdS d) j (s.drop 1)=listS (rdS d) (s.drop 1):=by unfold partsS; rw [if_neg (by omega),if_pos (by omega)]
 rw [hp,listS_B]
 cases h40:Lib.hasPrefix (s.drop 1) [40] with
 | false=>rfl
 | true=>
  rw [if_pos rfl,if_pos rfl,trim_yes h40,List.drop_drop]
  rfl
theorem rd_0 (hn:∀ i,1≤i→i<6→Lib.hasPrefix s (wordL i)=false) (h6:Lib.hasPrefix s [38,40]=false) (h7:Lib.hasPrefix s [124,40]=false):rdS (d+1) s=none:=by
 cases e6:Lib.hasPrefix s [38] with
 | true=>rw [rd_r 6 38 (.inl ⟨rfl,rfl⟩) hn e6,h6]; rfl
 | false=>
  have hn7:∀ i,1≤i→i<7→Lib.hasPrefix s (wordL i)=false:=fun i q1 q2=>by
   rcases Nat.lt_or_ge i 6 with h | h
   · exact hn i q1 h
   · obtain rfl:i=6:=by omega
     exact e6
  cases e7:Lib.hasPrefix s [124] with
  | true=>rw [rd_r 7 124 (.inr ⟨rfl,rfl⟩) hn7 e7,h7]; rfl
  | false=>
   have hk:=kindS_none (s:=s) (fun i q1 q2=>by
    rcases Nat.lt_or_ge i 7 with h | h
    · exact hn7 i q1 h
    · obtain rfl:i=7:=by omega
      exact e7)
   show (if (kindS s).1=0 then none else _)=_
   rw [hk,if_pos rfl]
end
end Go.Proofs.YtinmoknbgnngcaaGreatDoor
