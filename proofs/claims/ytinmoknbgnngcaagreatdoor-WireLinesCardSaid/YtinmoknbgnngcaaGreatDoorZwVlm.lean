/-
  Layer 5: the record of a payload, plainly: part by part; it is the record that stands so.
-/
import Derived.Test.YtinmoknbgnngcaaGreatDoorZwVyb
import Derived.Test.YtinmoknbgnngcaaGreatDoorZwVpm
import Derived.Test.YtinmoknbgnngcaaGreatDoorZwGet
import Derived.Test.YtinmoknbgnngcaaGreatDoorZwWrite
import Derived.Laws.IdiomStrings
import Derived.Laws.BytesString
import Derived.Handy
import Derived.Lib.Strings
import Derived.Deep.RegionHeld3
import Derived.Test.YtinmoknbgnngcaaGreatDoorZwVlj
namespace Go.Proofs.YtinmoknbgnngcaaGreatDoor
open Go Go.RowKit
set_option linter.unusedVariables false
def txtT (l:List Nat) (a:Nat):Option (List Nat×Nat):=(numT l a).bind fun x=>if (l.length:Int) - x.2<x.1 then none else some ((l.drop x.2).take x.1,x.2+x.1)
def entT (l:List Nat) (a:Nat):Option (En×Nat):=
 (numT l a).bind fun x=>(numT l x.2).bind fun y=>(numT l y.2).bind fun z=>if z.2<l.length∧l.getD z.2 0≤1 then some (⟨x.1,y.1,z.1,l.getD z.2 0 == 1⟩,z.2+1) else none
def entsT (l:List Nat):Nat→Nat→Option (List En×Nat)
 | 0,a=>some ([],a)
 | n+1,a=>(entT l a).bind fun x=>(entsT l n x.2).map fun y=>(x.1 :: y.1,y.2)
def Rc.takeP (q:Rc) (l:List Nat) (a i:Nat):Option (Rc×Nat):=
 if i=0 then (numT l a).map fun x=>({q with t:=x.1},x.2)
 else if i=1 then (numT l a).map fun x=>({q with x:=x.1},x.2)
 else if i=2 then (numT l a).bind fun x=>(numT l x.2).map fun y=>({q with w:=x.1,n:=y.1},y.2)
 else if i=3 then (numT l a).map fun x=>({q with v:=x.1},x.2)
 else if i=4 then (txtT l a).bind fun x=>(parseT x.1).map fun t=>({q with p:=t},x.2)
 else (numT l a).bind fun x=>(entsT l x.1 x.2).map fun y=>({q with es:=y.1},y.2)
def goT (l:List Nat):Rc→Nat→List Nat→Option (Rc×Nat)
 | q,a,[]=>some (q,a)
 | q,a,i :: is=>(q.takeP l a i).bind fun x=>goT l x.1 x.2 is
def payB (k:Nat) (l:List Nat):Option Rc:=(goT l (Rc.zero k) 0 (partsN k 6)).bind fun x=>if x.2=l.length then some x.1 else none
theorem goT_snoc (l:List Nat) (i:Nat):∀ (is:List Nat) (q:Rc) (a:Nat),goT l q a (is ++ [i])=(goT l q a is).bind fun x=>x.1.takeP l x.2 i
 | [],q,a=>by
  show (q.takeP l a i).bind _=_
  rw [show goT l q a []=some (q,a) from rfl,Option.bind_some]
  cases q.takeP l a i with
  | none=>rfl
  | some x=>rfl
 | j :: is,q,a=>by
  show (q.takeP l a j).bind _=((q.takeP l a j).bind _).bind _
  cases q.takeP l a j with
  | none=>rfl
  | some x=>exact goT_snoc l i is x.1 x.2
def Rc.okP (r:Rc) (i:Nat):Prop:=if i=0 then r.t<18446744073709551616 else if i=1 then r.x<18446744073709551616 else if i=2 then r.w<18446744073709551616∧r.n<18446744073709551616 else if i=3 then r.v<18446744073709551616 else if i=4 then r.p.okN else ∀ e∈r.es,e.ok
theorem Rc.okR.part {r:Rc} (h:r.okR) (i:Nat):r.okP i:=by
 unfold Rc.okP
 split; exact h.t
 split; exact h.x
 split; exact ⟨h.w,h.n⟩
 split; exact h.v
 split; exact h.p
 exact h.es
theorem entT_some {l:List Nat} (hb:∀ x∈l,x<256) {a r:Nat} {e:En} (h:entT l a=some (e,r)):e.ok∧l.drop a=e.stand ++ l.drop r∧r≤l.length∧a+4≤r:=by
 obtain ⟨⟨x,a1⟩,h1,h⟩:=Option.bind_eq_some_iff.1 h
 obtain ⟨⟨y,a2⟩,h2,h⟩:=Option.bind_eq_some_iff.1 h
 obtain ⟨⟨z,a3⟩,h3,h⟩:=Option.bind_eq_some_iff.1 h
 simp only at h2 h3 h
 split at h
 · rename_i hc
   injection h with h
   injection h with h4 h5
   subst h4 h5
   obtain ⟨e1,e2,e3,-⟩:=numT_some hb h1
   obtain ⟨f1,f2,f3,-⟩:=numT_some hb h2
   obtain ⟨g1,g2,g3,-⟩:=numT_some hb h3
   have p1:=enc_pos x
   have p2:=enc_pos y
   have p3:=enc_pos z
   refine ⟨⟨by show (x:Int)≤_; omega,by show (y:Int)≤_; omega,by show (z:Int)≤_; omega⟩,?_,by omega,by omega⟩
   rw [e2,f2,g2,List.drop_eq_getElem_cons hc.1]
   have hm:(if (l.getD a3 0 == 1)=true then 1 else 0:Nat)=l[a3]:=by
    have hx:l.getD a3 0=l[a3]:=by rw [List.getD_eq_getElem?_getD,List.getElem?_eq_getElem hc.1]; rfl
    have h1:=hc.2
    rw [hx] at h1 ⊢
    by_cases e:l[a3]=1
    · simp [e]
    · have:l[a3]=0:=by omega
      simp [this]
   show _=(encs [x,y,z] ++ [if (l.getD a3 0 == 1)=true then 1 else 0]) ++ _
   rw [hm]
   simp [encs]
 · cases h
theorem Rd.drewNn {w:World} {B size n:Nat} {A:Option Addr} {xs:List Value} (h:Rd w B size A n xs) (k:Nat):Rd (w.drewN k) B size A n xs:=h.keep fun _ _=>rfl
theorem get_tupl {B:Nat} {A:Option Addr} {n c:Nat} {l:List Nat} {a:Int} (w:World) (x y z:Nat) (hx:getS l a=(x,y,z)) (h:Rd w B 1 A n (bs l)) (hb:∀ x∈l,x<256) (hn:n≤c) (hc:c≤9223372036854775807) :
 Calls Tryz.prog 112 #[.slice A n c,.int .i64 a] w fun e w'=>e=.returned (.tuple #[.int .u64 x,.int .i64 y,.int .i64 z])∧w=w':=by
 have G:=get_any B A n c l a w h hb hn hc
 rw [hx] at G
 exact G
def numR (l:List Nat) (a e:Nat):Nat×Nat×Nat:=
 if e≠0 then (a,e,0) else if (getS l a).2.2≠0 then (a,(getS l a).2.2,0) else ((getS l a).2.1,0,(getS l a).1)
theorem blk3 {w:World} {b:Nat} {x y z:Value} {T:TypeId} (h:w.heap[b]? = some (.cells #[x,y,z] T (0,0))) :
 w.cell? ⟨b,0,none⟩=some x∧w.cell? ⟨b,1,none⟩=some y∧w.cell? ⟨b,2,none⟩=some z∧w.frozen? ⟨b,0,none⟩=false∧w.frozen? ⟨b,1,none⟩=false∧w.frozen? ⟨b,2,none⟩=false:=
 ⟨cell_of_row w b 0 _ T (0,0) h,cell_of_row w b 1 _ T (0,0) h,cell_of_row w b 2 _ T (0,0) h,frozen_of_row w b 0 _ T h,frozen_of_row w b 1 _ T h,frozen_of_row w b 2 _ T h⟩
def rawS (l:List Nat) (a e:Nat) (n:Int):Nat×Nat×List Nat:=
 if e≠0 then (a,e,[]) else if n<0 then (a,2,[]) else if (l.length:Int) - a<n then (a,4,[]) else (a+n.toNat,0,(l.drop a).take n.toNat)
theorem Rd.off {w w':World} {B B' size n:Nat} {A:Option Addr} {xs:List Value} (h:Rd w B size A n xs) (hk:∀ ad,A=some ad→ad.block<B→w'.heap[ad.block]? = w.heap[ad.block]?) (hB:B≤B'):Rd w' B' size A n xs:=
 ⟨h.len,fun hn=>by
  obtain ⟨ad,e,hb,hc⟩:=h.lies hn
  exact ⟨ad,e,by omega,fun j u hu=>(World.cell?_of_block (by rw [add_block]; exact hk ad e hb)).trans (hc j u hu)⟩⟩
def textS (l:List Nat) (a e:Nat):Nat×Nat×List Nat:=
 if (numR l a e).2.1≠0 then (a,(numR l a e).2.1,[]) else if (l.length:Int) - (numR l a e).1<(numR l a e).2.2 then (a,4,[]) else
  ((numR l a e).1+(numR l a e).2.2,0,(l.drop (numR l a e).1).take (numR l a e).2.2)
theorem getS_le {l:List Nat} {a:Nat} {x y z:Nat} (hb:∀ x∈l,x<256) (ha:a≤l.length) (h:getS l a=(x,y,z)):y≤l.length∧(x:Int)≤18446744073709551615∧z<1000:=by
 unfold getS at h
 rw [if_neg (by omega),Int.toNat_natCast] at h
 cases hg:got (l.drop a) with
 | num v k=>
  rw [hg] at h
  simp only [ans,Prod.mk.injEq] at h
  obtain ⟨rfl,rfl,rfl⟩:=h
  have:=got_put (fun x hx=>hb x (List.mem_of_mem_drop hx)) hg
  rw [List.length_drop] at this
  omega
 | err e=>
  rw [hg] at h
  simp only [ans,Prod.mk.injEq] at h
  obtain ⟨rfl,rfl,rfl⟩:=h
  have key:∀ k i v (r:List Nat) (e:Nat),scan k i v r=.err e→e<1000:=by
   intro k
   induction k with
   | zero=>intro i v r e hh; simp [scan] at hh; omega
   | succ k ih=>
    intro i v r e hh
    cases r with
    | nil=>simp [scan] at hh; omega
    | cons c r=>
     simp only [scan] at hh
     split at hh
     · exact ih _ _ _ _ hh
     · split at hh
       · cases hh
       · injection hh with hh; omega
  have:=key _ _ _ _ _ hg
  omega
theorem numR_le {l:List Nat} {a e a' e' v:Nat} (hb:∀ x∈l,x<256) (ha:a≤l.length) (he:e<1000) (h:numR l a e=(a',e',v)):a'≤l.length∧e'<1000∧(v:Int)≤18446744073709551615:=by
 unfold numR at h
 obtain ⟨⟨x,y,z⟩,hx⟩:∃ x,getS l a=x:=⟨_,rfl⟩
 have hle:=getS_le hb ha hx
 rw [hx] at h
 split at h
 · simp only [Prod.mk.injEq] at h; omega
 · split at h <;> (simp only [Prod.mk.injEq] at h; omega)
structure Rr (T:TypeId) (w:World) (g:Nat) (A:Option Addr) (n c:Nat) (l:List Nat) (a e:Nat):Prop where
 blk:w.heap[g]? = some (.cells #[.int .i64 (a:Int),.int .i64 (e:Int),.slice A n c] T (0,0))
 rd:Rd w g 1 A n (bs l)
 nc:n≤c∧c≤9223372036854775807
 b8:∀ x∈l,x<256
 len:l.length≤100000
 place:a≤l.length
 err:e<1000
structure RStp (w w':World) (g:Nat):Prop where
 os:w'.os=w.os
 tape:w'.tape=w.tape
 output:w'.output=w.output
 size:w.heap.size≤w'.heap.size
 block:∀ k,k<w.heap.size→k≠g→w'.heap[k]? = w.heap[k]?
theorem RStp.refl (w:World) (g:Nat):RStp w w g:=⟨rfl,rfl,rfl,Nat.le_refl _,fun _ _ _=>rfl⟩
theorem RStp.trans {a b c:World} {g:Nat} (h:RStp a b g) (k:RStp b c g):RStp a c g:=
 ⟨k.os.trans h.os,k.tape.trans h.tape,k.output.trans h.output,Nat.le_trans h.size k.size,fun i hi hg=>(k.block i (Nat.lt_of_lt_of_le hi h.size) hg).trans (h.block i hi hg)⟩
theorem RStp.of {w w':World} (h:Below w.heap.size w w') (g:Nat):RStp w w' g:=⟨h.os,h.tape,h.output,h.size,fun k hk _=>h.block k hk⟩
theorem RStp.drewN (w:World) (g n:Nat):RStp w (w.drewN n) g:=RStp.of (below_drew_ (Below.refl _ w)) g
theorem RStp.store (w:World) (g o:Nat) (u:Value):RStp w (w.setCell ⟨g,o,none⟩ u) g:=⟨rfl,rfl,rfl,by simp,fun k _ hg=>Below.heap_setCell w _ _ _ hg⟩
theorem RStp.below {w w':World} {g:Nat} (h:RStp w w' g) {B:Nat} (hB:B≤w.heap.size) (hg:B≤g):Below B w w':=⟨h.os,h.tape,h.output,h.size,fun k hk=>h.block k (by omega) (by omega)⟩
theorem three_set {w:World} {g:Nat} {x y z u:Value} {T:TypeId} (h:w.heap[g]? = some (.cells #[x,y,z] T (0,0))) :
 (w.setCell ⟨g,0,none⟩ u).heap[g]? = some (.cells #[u,y,z] T (0,0))∧(w.setCell ⟨g,1,none⟩ u).heap[g]? = some (.cells #[x,u,z] T (0,0)):=
 ⟨heap_setCell_same w g 0 _ T u h,heap_setCell_same w g 1 _ T u h⟩
section
variable {T:TypeId} {w w':World} {g n c a e:Nat} {A:Option Addr} {l:List Nat}
theorem Rr.lt (h:Rr T w g A n c l a e):g<w.heap.size:=lt_of_block h.blk
theorem Rr.cells (h:Rr T w g A n c l a e):w.cell? ⟨g,0,none⟩=some (.int .i64 (a:Int))∧w.cell? ⟨g,1,none⟩=some (.int .i64 (e:Int))∧w.cell? ⟨g,2,none⟩=some (.slice A n c)∧w.frozen? ⟨g,0,none⟩=false∧w.frozen? ⟨g,1,none⟩=false:=by
 obtain ⟨h1,h2,h3,h4,h5,_⟩:=blk3 h.blk
 exact ⟨h1,h2,h3,h4,h5⟩
theorem Rr.kept (h:Rr T w g A n c l a e) (hb:Below w.heap.size w w'):Rr T w' g A n c l a e:=
 ⟨(hb.block g h.lt).trans h.blk,h.rd.below (hb.mono (Nat.le_of_lt h.lt)),h.nc,h.b8,h.len,h.place,h.err⟩
theorem Rr.kept' {v v':Value} (h:Rr T w g A n c l a e) (hs:Stp w w' v v') (hv:∀ k,v.ownBlock=some k→g<k):Rr T w' g A n c l a e:=
 ⟨(hs.grow.block g h.lt (fun q=>by have:=hv g q.symm; omega)).trans h.blk,h.rd.keep (fun p hp=>World.cell?_of_block (hs.grow.block p.block (by have:=h.lt; omega) (fun q=>by have:=hv p.block q.symm; omega))),h.nc,h.b8,h.len,h.place,h.err⟩
theorem Rr.drewN (h:Rr T w g A n c l a e) (k:Nat):Rr T (w.drewN k) g A n c l a e:=h.kept (below_drew_ (Below.refl _ w))
theorem Rr.stored (h:Rr T w g A n c l a e) (a' e':Nat) (ha:a'≤l.length) (he:e'<1000):Rr T ((w.setCell ⟨g,0,none⟩ (.int .i64 (a':Int))).setCell ⟨g,1,none⟩ (.int .i64 (e':Int))) g A n c l a' e':=by
 refine ⟨(three_set (three_set h.blk).1).2,h.rd.keep fun p hp=>?_,h.nc,h.b8,h.len,ha,he⟩
 rw [World.cell?_setCell_other _ _ _ _ (fun q=>by rw [← q] at hp; simp at hp),World.cell?_setCell_other _ _ _ _ (fun q=>by rw [← q] at hp; simp at hp)]
theorem Rr.moved (h:Rr T w g A n c l a e) (a':Nat) (ha:a'≤l.length):Rr T (w.setCell ⟨g,0,none⟩ (.int .i64 (a':Int))) g A n c l a' e:=by
 refine ⟨(three_set h.blk).1,h.rd.keep fun p hp=>?_,h.nc,h.b8,h.len,ha,h.err⟩
 rw [World.cell?_setCell_other _ _ _ _ (fun q=>by rw [← q] at hp; simp at hp)]
end
theorem fail_any (g:Nat) (A:Option Addr) (n c a e:Nat) (l:List Nat) (a' e':Int) (w:World) (h:Rr 233 w g A n c l a e) :
 Calls Tryz.prog 199 #[.pointer (some ⟨g,0,none⟩),.int .i64 a',.int .i64 e'] w fun en w'=>en=.returned (.tuple #[])∧(w.setCell ⟨g,0,none⟩ (.int .i64 a')).setCell ⟨g,1,none⟩ (.int .i64 e')=w':=by
 obtain ⟨c0,c1,c2,f0,f1⟩:=h.cells
 go_enter Tryz.func199,Tryz.ntmps199
 go_wp2
 go_end0
 exact ⟨rfl,rfl⟩
theorem err_any (g:Nat) (A:Option Addr) (n c a e:Nat) (l:List Nat) (w:World) (h:Rr 233 w g A n c l a e) :
 Calls Tryz.prog 114 #[.pointer (some ⟨g,0,none⟩)] w fun en w'=>en=.returned (.int .i64 (e:Int))∧w=w':=by
 obtain ⟨c0,c1,c2,f0,f1⟩:=h.cells
 go_enter Tryz.func114,Tryz.ntmps114
 go_wp2
 go_ret
 exact ⟨rfl,rfl⟩
theorem at_any (g:Nat) (A:Option Addr) (n c a e:Nat) (l:List Nat) (w:World) (h:Rr 233 w g A n c l a e) :
 Calls Tryz.prog 221 #[.pointer (some ⟨g,0,none⟩)] w fun en w'=>en=.returned (.int .i64 (a:Int))∧w=w':=by
 obtain ⟨c0,c1,c2,f0,f1⟩:=h.cells
 go_enter Tryz.func221,Tryz.ntmps221
 go_wp2
 go_ret
 exact ⟨rfl,rfl⟩
theorem left_any (g:Nat) (A:Option Addr) (n c a e:Nat) (l:List Nat) (w:World) (h:Rr 233 w g A n c l a e) :
 Calls Tryz.prog 91 #[.pointer (some ⟨g,0,none⟩)] w fun en w'=>en=.returned (.int .i64 ((n:Int) - a))∧∃ q,w'=w.drewN q:=by
 obtain ⟨c0,c1,c2,f0,f1⟩:=h.cells
 have hl:=h.rd.count
 have hp:=h.place
 have hn:=h.len
 have hw:IntKind.i64.wrap ((n:Int) - (a:Int))=(n:Int) - (a:Int):=IntWalk.i64_in _ (by omega)
 clear hl
 go_enter Tryz.func91,Tryz.ntmps91
 go_wp2
 go_quiet (fail)
 go_wp2
 go_ret
 exact ⟨rfl,nq,rfl⟩
theorem get_quiet {B:Nat} {A:Option Addr} {n c:Nat} {l:List Nat} {a:Int} {w:World} {k:Nat} (x y z:Nat) (hx:getS l a=(x,y,z)) (h:Rd w B 1 A n (bs l)) (hb:∀ x∈l,x<256) (hn:n≤c) (hc:c≤9223372036854775807) :
 Calls Tryz.prog 112 #[.slice A n c,.int .i64 a] (w.drewN k) fun e w''=>e=.returned (.tuple #[.int .u64 x,.int .i64 y,.int .i64 z])∧∃ q,w''=w.drewN q:=by
 refine (get_tupl (w.drewN k) x y z hx (h.drewNn k) hb hn hc).mono ?_
 rintro e w' ⟨h1,rfl⟩
 exact ⟨h1,k,rfl⟩
def RLeft (g:Nat) (A:Option Addr) (n c:Nat) (l:List Nat) (a e:Nat) (w w':World):Prop:=Rr 233 w' g A n c l a e∧RStp w w' g
set_option maxRecDepth 100000 in
theorem number_any (g:Nat) (A:Option Addr) (n c a e:Nat) (l:List Nat) (w:World) (h:Rr 233 w g A n c l a e) (a' e' v:Nat) (hS:numR l a e=(a',e',v)) :
 Calls Tryz.prog 141 #[.pointer (some ⟨g,0,none⟩)] w fun en w'=>en=.returned (.int .u64 (v:Int))∧RLeft g A n c l a' e' w w':=by
 obtain ⟨c0,c1,c2,f0,f1⟩:=h.cells
 obtain ⟨hle,hee,hv⟩:=numR_le h.b8 h.place h.err hS
 by_cases h0:e=0
 · subst h0
   obtain ⟨⟨x,y,z⟩,hx⟩:∃ x,getS l a=x:=⟨_,rfl⟩
   have h1:numR l a 0=if z≠0 then (a,z,0) else (y,0,x):=by unfold numR; rw [if_neg (by omega),hx]
   rw [h1] at hS
   have HX:=Lib_hid hx
   have hrd:=h.rd
   have HB:=Lib_hid h.b8
   have hnc:=h.nc
   clear hx h1
   by_cases hz:z=0
   · subst hz
     simp only [ne_eq,not_true_eq_false,if_false,Prod.mk.injEq] at hS
     obtain ⟨rfl,rfl,rfl⟩:=hS
     go_enter Tryz.func141,Tryz.ntmps141
     go_wp2_with (go_at_call 114; refine (err_any g A n c a 0 l w h).mono ?_; rintro en w1 ⟨rfl,rfl⟩)
     go_quiet ((go_at_call 112; exact get_quiet x y 0 HX.out hrd HB.out hnc.1 hnc.2))
     go_wp2
     go_ret
     exact ⟨rfl,(h.moved y hle).drewN nq,(RStp.store _ _ _ _).trans (RStp.drewN _ _ _)⟩
   · rw [if_pos hz] at hS
     simp only [Prod.mk.injEq] at hS
     obtain ⟨rfl,rfl,rfl⟩:=hS
     have hz0:((z:Int) != 0)=true:=by simpa using hz
     go_enter Tryz.func141,Tryz.ntmps141
     go_wp2_with (go_at_call 114; refine (err_any g A n c a 0 l w h).mono ?_; rintro en w1 ⟨rfl,rfl⟩)
     go_quiet ((go_at_call 112; exact get_quiet x y z HX.out hrd HB.out hnc.1 hnc.2))
     go_wp2
     go_region_held3 (fun W=>W.cell? ⟨g,0,none⟩=some (.int .i64 (a:Int))) (first | exact c0 | exact hst.cells.1)
      ((first | (go_at_call 199; refine (fail_any g A n c a 0 l a z (w.drewN (nq+1)) (h.drewN (nq+1))).mono ?_; rintro en w2 ⟨rfl,rfl⟩; have hst:=(h.drewN (nq+1)).stored a z h.place hee)))
     all_goals
      go_wp2
      go_ret
      exact ⟨rfl,(h.stored a z h.place hee).drewN (nq+1),((RStp.store _ _ _ _).trans (RStp.store _ _ _ _)).trans (RStp.drewN _ _ _)⟩
 · have h0':((e:Int) != 0)=true:=by simpa using h0
   unfold numR at hS
   rw [if_pos h0] at hS
   simp only [Prod.mk.injEq] at hS
   obtain ⟨rfl,rfl,rfl⟩:=hS
   go_enter Tryz.func141,Tryz.ntmps141
   go_wp2_with (go_at_call 114; refine (err_any g A n c a e l w h).mono ?_; rintro en w1 ⟨rfl,rfl⟩)
   go_ret
   exact ⟨rfl,h,RStp.refl _ _⟩
def BPost (g:Nat) (A:Option Addr) (n c:Nat) (l:List Nat) (R:Nat×Nat×List Nat) (w:World) (en:Ending) (w':World):Prop:=
 ∃ A' c',en=.returned (.slice A' R.2.2.length c')∧w'.ownsRow w.heap.size 5 1 (.slice A' R.2.2.length c') R.2.2.length (bs R.2.2)∧RLeft g A n c l R.1 R.2.1 w w'
set_option maxRecDepth 100000 in
set_option maxHeartbeats 800000 in
theorem raw_any (g:Nat) (A:Option Addr) (n c a e:Nat) (l:List Nat) (k:Int) (w:World) (h:Rr 233 w g A n c l a e) (hk64 : -9223372036854775808≤k∧k≤9223372036854775807) :
 Calls Tryz.prog 222 #[.pointer (some ⟨g,0,none⟩),.int .i64 k] w (BPost g A n c l (rawS l a e k) w):=by
 obtain ⟨c0,c1,c2,f0,f1⟩:=h.cells
 have hl:=h.rd.count
 have hpl:=h.place
 have hlen:=h.len
 by_cases h0:e=0
 · subst h0
   by_cases hn:k<0
   · have hs:rawS l a 0 k=(a,2,[]):=by unfold rawS; rw [if_neg (by omega),if_pos hn]
     rw [hs]
     clear hl
     go_enter Tryz.func222,Tryz.ntmps222
     go_wp2_with (go_at_call 114; refine (err_any g A n c a 0 l w h).mono ?_; rintro en w1 ⟨rfl,rfl⟩)
     go_region_held3 (fun W=>W.cell? ⟨g,0,none⟩=some (.int .i64 (a:Int))) (first | exact c0 | exact hst.cells.1)
      ((first | (go_at_call 199; refine (fail_any g A n c a 0 l a 2 w.drew (h.drewN 1)).mono ?_; rintro en w2 ⟨rfl,rfl⟩; have hst:=(h.drewN 1).stored a 2 hpl (by omega))))
     all_goals
      go_wp2
      go_ret
      exact ⟨none,0,rfl,own_none _ _ _,(h.stored a 2 hpl (by omega)).drewN 1,((RStp.store _ _ _ _).trans (RStp.store _ _ _ _)).trans (RStp.drewN _ _ 1)⟩
   · obtain ⟨m,rfl⟩:∃ m:Nat,k=m:=⟨k.toNat,by omega⟩
     by_cases hk:(l.length:Int) - a<m
     · have hs:rawS l a 0 m=(a,4,[]):=by unfold rawS; rw [if_neg (by omega),if_neg (by omega),if_pos hk]
       rw [hs]
       subst hl
       go_enter Tryz.func222,Tryz.ntmps222
       go_wp2_with (first | (go_at_call 114; refine (err_any g A _ c a 0 l w h).mono ?_; rintro en w1 ⟨rfl,rfl⟩) | (go_at_call 91; refine (left_any g A _ c a 0 l w h).mono ?_; rintro en w1 ⟨rfl,q1,rfl⟩))
       go_region_held3 (fun W=>W.cell? ⟨g,0,none⟩=some (.int .i64 (a:Int))) (first | exact c0 | exact hst.cells.1)
        ((first | (go_at_call 199; refine (fail_any g A l.length c a 0 l a 4 (w.drewN (q1+1)) (h.drewN (q1+1))).mono ?_; rintro en w2 ⟨rfl,rfl⟩; have hst:=(h.drewN (q1+1)).stored a 4 hpl (by omega))))
       all_goals
        go_wp2
        go_ret
        exact ⟨none,0,rfl,own_none _ _ _,(h.stored a 4 hpl (by omega)).drewN (q1+1),((RStp.store _ _ _ _).trans (RStp.store _ _ _ _)).trans (RStp.drewN _ _ (q1+1))⟩
     · obtain ⟨u,hu⟩:∃ u,u=(l.drop a).take m:=⟨_,rfl⟩
       have hs:rawS l a 0 m=(a+m,0,u):=by unfold rawS; rw [if_neg (by omega),if_neg (by omega),if_neg hk,hu]; rfl
       rw [hs]
       subst hl
       have hul:u.length=m:=by rw [hu,List.length_take,List.length_drop]; omega
       obtain ⟨A2,hsl,hr2⟩:=slice_lh (j:=a) (k:=a+m) h.rd (by omega) (by omega) h.nc.1
       rw [← bs_take,← bs_drop,show (l.take (a+m)).drop a=u by rw [hu,List.take_drop]] at hr2
       rw [show a+m - a=m by omega] at hsl hr2
       have hcast:((a+m:Nat):Int)=(a:Int)+(m:Int):=by omega
       have hmv:=fun q=>(h.drewN q).moved (a+m) (by omega)
       have hmr:∀ q,Rd ((w.drewN q).setCell ⟨g,0,none⟩ (.int .i64 ((a:Int)+m))) g 1 A2 m (bs u):=fun q=>
        (hr2.drewNn q).keep fun p hp=>World.cell?_setCell_other _ _ _ _ (fun e=>by rw [← e] at hp; simp at hp)
       have hms:=fun q=>(RStp.drewN w g q).trans (RStp.store (w.drewN q) g 0 (.int .i64 ((a:Int)+m)))
       rw [hcast] at hsl hmv
       have HUL:=Lib_hid hul
       have HMV:=Lib_hid hmv
       have HMR:=Lib_hid hmr
       have HMS:=Lib_hid hms
       clear hu hs hr2 hul hcast hmv hmr hms
       go_enter Tryz.func222,Tryz.ntmps222
       go_wp2_with (first | (go_at_call 114; refine (err_any g A _ c a 0 l w h).mono ?_; rintro en w1 ⟨rfl,rfl⟩) | (go_at_call 91; refine (left_any g A _ c a 0 l w h).mono ?_; rintro en w1 ⟨rfl,q1,rfl⟩))
       obtain ⟨W1,hW1⟩:∃ W1,W1=(w.drewN q1).setCell ⟨g,0,none⟩ (.int .i64 ((a:Int)+m)):=⟨_,rfl⟩
       have R1:Rr 233 W1 g A l.length c l (a+m) 0:=by rw [hW1]; exact HMV.out q1
       have R2:Rd W1 g 1 A2 m (bs u):=by rw [hW1]; exact HMR.out q1
       have R3:RStp w W1 g:=by rw [hW1]; exact HMS.out q1
       rw [← hW1]
       clear hW1 HMV HMR HMS
       obtain ⟨d0,d1,d2,_,_⟩:=R1.cells
       rw [Int.natCast_add] at d0
       have hgl:=R1.lt
       go_region_held3 (fun W=>W.cell? ⟨g,0,none⟩=some (.int .i64 ((a:Int)+m))∧W.cell? ⟨g,2,none⟩=some (.slice A l.length c)) (first | exact ⟨d0,d2⟩ | exact ⟨e0,e2⟩)
        ((first | (go_at_call 100; refine (clone_any g A2 m _ u W1.drew (R2.drewNn 1) (by omega) (by simp; omega)).mono ?_; rintro en w2 ⟨A3,c3,rfl,ho3,hb3⟩; have hR4:=(R1.drewN 1).kept hb3; obtain ⟨e0,_,e2,_,_⟩:=hR4.cells; rw [Int.natCast_add] at e0)))
       all_goals
        go_wp2
        go_ret
        exact ⟨A3,c3,rfl,own_base ho3 (fun k hk=>by have h9:W1.heap.size≤k:=own_ge ho3 k hk; have:=R3.size; omega),hR4,R3.trans ((RStp.drewN W1 g 1).trans (RStp.of hb3 g))⟩
 · have h0':((e:Int) != 0)=true:=by simpa using h0
   have hs:rawS l a e k=(a,e,[]):=by unfold rawS; rw [if_pos h0]
   rw [hs]
   clear hl
   go_enter Tryz.func222,Tryz.ntmps222
   go_wp2_with (go_at_call 114; refine (err_any g A n c a e l w h).mono ?_; rintro en w1 ⟨rfl,rfl⟩)
   go_ret
   exact ⟨none,0,rfl,own_none _ _ _,h,RStp.refl _ _⟩
theorem numR_err {l:List Nat} {a e a' e' v:Nat} (h:numR l a e=(a',e',v)) (he:e'≠0):a'=a:=by
 unfold numR at h
 split at h
 · simp only [Prod.mk.injEq] at h; omega
 · split at h <;> (simp only [Prod.mk.injEq] at h; omega)
set_option maxRecDepth 100000 in
set_option maxHeartbeats 800000 in
theorem text_any (g:Nat) (A:Option Addr) (n c a e:Nat) (l:List Nat) (w:World) (h:Rr 233 w g A n c l a e) :
 Calls Tryz.prog 206 #[.pointer (some ⟨g,0,none⟩)] w (BPost g A n c l (textS l a e) w):=by
 obtain ⟨⟨a',e',v⟩,hS⟩:∃ x,numR l a e=x:=⟨_,rfl⟩
 obtain ⟨hle,hee,hv⟩:=numR_le h.b8 h.place h.err hS
 have hT:textS l a e=if e'≠0 then (a,e',[]) else if (l.length:Int) - a'<v then (a,4,[]) else (a'+v,0,(l.drop a').take v):=by unfold textS; rw [hS]
 have N:=number_any g A n c a e l w h a' e' v hS
 have hea:=numR_err hS
 have hl:=h.rd.count
 have hlen:=h.len
 have hpl:=h.place
 subst hl
 by_cases h0:e'=0
 · subst h0
   have hr:Hid (textS l a e=if (l.length:Int) - a'<v then (a,4,[]) else (a'+v,0,(l.drop a').take v)):=by unfold Hid; rw [hT,if_neg (by omega)]
   clear hT hS hea
   obtain ⟨R,hR⟩:∃ R,R=textS l a e:=⟨_,rfl⟩
   rw [← hR] at hr ⊢
   clear hR
   have hwr:IntKind.u64.wrap ((l.length:Int) - (a':Int))=(l.length:Int) - (a':Int):=IntWalk.u64_in _ (by omega)
   by_cases hsh:(l.length:Int) - a'<v
   · have HR:Hid (R=(a,4,[])):=by unfold Hid; rw [hr.out,if_pos hsh]
     clear hr
     go_enter Tryz.func206,Tryz.ntmps206
     go_wp2_with (first
      | (go_at_call 221; refine (at_any g A _ c a e l w h).mono ?_; rintro en w1 ⟨rfl,rfl⟩)
      | (go_at_call 141; refine N.mono ?_; rintro en w1 ⟨rfl,hn1,hs1⟩)
      | (go_at_call 114; refine (err_any g A _ c a' 0 l w1 hn1).mono ?_; rintro en w2 ⟨rfl,rfl⟩)
      | (go_at_call 91; refine (left_any g A _ c a' 0 l w1 hn1).mono ?_; rintro en w2 ⟨rfl,q2,rfl⟩)
      | (go_at_call 199; refine (fail_any g A _ c a' 0 l a 4 (w1.drewN q2) (hn1.drewN q2)).mono ?_; rintro en w3 ⟨rfl,rfl⟩))
     go_ret
     rw [HR.out]
     exact ⟨none,0,rfl,own_none _ _ _,(hn1.drewN q2).stored a 4 hpl (by omega),hs1.trans ((RStp.drewN _ _ _).trans ((RStp.store _ _ _ _).trans (RStp.store _ _ _ _)))⟩
   · obtain ⟨u,hu⟩:∃ u,u=(l.drop a').take v:=⟨_,rfl⟩
     have HR:Hid (R=(a'+v,0,u)):=by unfold Hid; rw [hr.out,if_neg hsh,hu]
     have hraw:rawS l a' 0 v=(a'+v,0,u):=by unfold rawS; rw [if_neg (by omega),if_neg (by omega),if_neg hsh,hu]; rfl
     have hraw2:=fun W (hW:Rr 233 W g A l.length c l a' 0)=>raw_any g A l.length c a' 0 l v W hW (by omega)
     rw [hraw] at hraw2
     have HRAW:=Lib_hid hraw2
     clear hr hraw hraw2 hu
     go_enter Tryz.func206,Tryz.ntmps206
     go_wp2_with (first
      | (go_at_call 221; refine (at_any g A _ c a e l w h).mono ?_; rintro en w1 ⟨rfl,rfl⟩)
      | (go_at_call 141; refine N.mono ?_; rintro en w1 ⟨rfl,hn1,hs1⟩)
      | (go_at_call 114; refine (err_any g A _ c a' 0 l w1 hn1).mono ?_; rintro en w2 ⟨rfl,rfl⟩)
      | (go_at_call 91; refine (left_any g A _ c a' 0 l w1 hn1).mono ?_; rintro en w2 ⟨rfl,q2,rfl⟩)
      | (go_at_call 222; refine (HRAW.out (w1.drewN q2) (hn1.drewN q2)).mono ?_; rintro en w3 ⟨A3,c3,rfl,ho3,hr3,hs3⟩))
     go_ret
     rw [HR.out]
     exact ⟨A3,c3,rfl,own_base ho3 (fun k hk=>by have h9:w1.heap.size≤k:=own_ge ho3 k hk; have:=hs1.size; omega),hr3,hs1.trans ((RStp.drewN _ _ _).trans hs3)⟩
 · have hr:textS l a e=(a,e',[]):=by rw [hT,if_pos h0]
   obtain rfl:=hea h0
   rw [hr]
   have hz0:((e':Int) != 0)=true:=by simpa using h0
   clear hT hS hea hr h0
   go_enter Tryz.func206,Tryz.ntmps206
   go_wp2_with (first
    | (go_at_call 221; refine (at_any g A _ c _ e l w h).mono ?_; rintro en w1 ⟨rfl,rfl⟩)
    | (go_at_call 141; refine N.mono ?_; rintro en w1 ⟨rfl,hn1,hs1⟩)
    | (go_at_call 114; refine (err_any g A _ c _ e' l w1 hn1).mono ?_; rintro en w2 ⟨rfl,rfl⟩))
   go_ret
   exact ⟨none,0,rfl,own_none _ _ _,hn1,hs1⟩
def EnvM (B:Nat) (w:World):Prop:=Env B w∧0<B∧∃ m:Int,w.cell? ⟨0,0,none⟩=some (.int .i64 m)
theorem EnvM.under {B B':Nat} {w w':World} (h:EnvM B w) (hb:Below B' w w') (hB:B≤B'):EnvM B w':=
 ⟨h.1.under hb hB,h.2.1,by obtain ⟨m,hm⟩:=h.2.2; exact ⟨m,(hb.cell (p:=⟨0,0,none⟩) (by have:=h.2.1; show 0<B'; omega)).trans hm⟩⟩
theorem decimal_any (B u:Nat) (hu:u<18446744073709551616) (w:World) (hE:Env B w):Calls Tryz.prog 143 #[.int .u64 (u:Int)] w fun e w'=>e=.returned (.string ⟨(Lib.decDigits u).toArray⟩)∧Below w.heap.size w w':=by
 have F:=Lib_hid (fmt_any B u hu w hE)
 generalize Lib.decDigits u=d at *
 clear hE
 go_enter Tryz.func143,Tryz.ntmps143
 go_wp2_with fail
 refine F.out.mono ?_
 rintro e w1 ⟨rfl,hb⟩
 go_wp2
 go_ret
 exact ⟨rfl,hb⟩
def WdC (s:List UInt8) (bad:Bool):Obj:=.cells #[.string ⟨s.toArray⟩,.bool bad] 188 (0,0)
theorem restW_len (l:List UInt8):(restW l).length≤l.length:=by
 unfold restW Lib.trimPrefix
 split
 · simp
 · exact Nat.le_refl _
theorem wordW_len (l:List UInt8):(wordW l).length≤(restW l).length:=(ahead_len 32 (restW l)).1
set_option maxRecDepth 100000 in
set_option maxHeartbeats 1600000 in
theorem next_any (B g:Nat) (s:List UInt8) (bad:Bool) (w:World) (hg:w.heap[g]? = some (WdC s bad)) (hE:EnvM B w) (hl:s.length≤1000000) :
 Calls Tryz.prog 146 #[.pointer (some ⟨g,0,none⟩)] w fun e w'=>e=.returned (.string ⟨(wordW s).toArray⟩)∧w'.heap[g]? = some (WdC (leftW s) bad)∧w.grownBy w' (some g):=by
 obtain ⟨m,hm⟩:=hE.2.2
 have T:=Lib_hid (Tryz.strings_TrimPrefix ⟨s.toArray⟩ ⟨#[32]⟩ w)
 have hrl:=restW_len s
 have C:=Lib_hid (Tryz.strings_Cut ⟨(restW s).toArray⟩ ⟨#[32]⟩ m w (by show (restW s).toArray.size<_; simp; omega) hm)
 have e1:(Lib.cut (restW s) [32]).1=wordW s:=(cut_one 32 (restW s)).1
 have hT:(⟨(Lib.trimPrefix (⟨s.toArray⟩:ByteArray).data.toList (⟨#[32]⟩:ByteArray).data.toList).toArray⟩:ByteArray)=⟨(restW s).toArray⟩:=rfl
 have hC:(⟨(Lib.cut (⟨(restW s).toArray⟩:ByteArray).data.toList (⟨#[32]⟩:ByteArray).data.toList).1.toArray⟩:ByteArray)=⟨(wordW s).toArray⟩:=by rw [← e1]
 have hwl:=wordW_len s
 have hsl:∀ W,(Instr.slice 9 (.string ⟨(restW s).toArray⟩) (some (.int .i64 ((wordW s).length:Int))) none none).run Tryz.prog W=.ok (.string ⟨(leftW s).toArray⟩) W:=fun W=>sl_drop (restW s) (wordW s).length hwl W
 have hsz:(⟨(wordW s).toArray⟩:ByteArray).size=(wordW s).length:=by simp [ByteArray.size]
 have c0:=cell_of_row _ _ 0 _ _ _ hg
 have z0:=frozen_of_row _ _ 0 _ _ hg
 have HG:=Lib_hid hg
 rw [hT] at T
 rw [hC] at C
 generalize (Lib.cut (⟨(restW s).toArray⟩:ByteArray).data.toList (⟨#[32]⟩:ByteArray).data.toList).2.1.toArray=c1 at *
 generalize (Lib.cut (⟨(restW s).toArray⟩:ByteArray).data.toList (⟨#[32]⟩:ByteArray).data.toList).2.2=c2 at *
 generalize (⟨(restW s).toArray⟩:ByteArray)=rs at *
 have FIN:Hid (∀ q,((w.drewN q).setCell ⟨g,0,none⟩ (.string ⟨(leftW s).toArray⟩)).heap[g]? = some (WdC (leftW s) bad)∧w.grownBy ((w.drewN q).setCell ⟨g,0,none⟩ (.string ⟨(leftW s).toArray⟩)) (some g)):=fun q=>by
  refine ⟨?_,⟨rfl,rfl,rfl,by simp,fun k _ hne=>heap_setCell_other (w.drewN q) ⟨g,0,none⟩ k _ (fun e=>hne (by rw [e]))⟩⟩
  rw [heap_setCell_same (w.drewN q) g 0 _ _ _ HG.out]
  rfl
 generalize (⟨(leftW s).toArray⟩:ByteArray)=lf at *
 generalize (wordW s).length=n at *
 generalize (⟨(wordW s).toArray⟩:ByteArray)=wd at *
 clear hE hm hg hT hC e1 hrl hwl
 go_enter Tryz.func146,Tryz.ntmps146
 go_wp2_with fail
 refine T.out.mono ?_
 rintro e w1 ⟨rfl,rfl⟩
 go_wp2_with fail
 refine C.out.mono ?_
 rintro e w2 ⟨rfl,q,rfl⟩
 have F:=Lib_hid (FIN.out q)
 clear T C FIN
 go_wp2
 go_ret
 exact ⟨rfl,F.out.1,F.out.2⟩
def NumEnd5 (x s:List UInt8) (bad:Bool) (g:Nat) (w:World) (e:Ending) (w':World):Prop:=
 w.grownBy w' (some g)∧((∃ v,numW x=some v∧e=.returned (.int .u64 (v:Int))∧w'.heap[g]? = some (WdC s bad))∨(numW x=none∧e=.returned (.int .u64 0)∧w'.heap[g]? = some (WdC s true)))
theorem numW_ok {s:List UInt8} {u:Nat} (h:Lib.parseUintB 64 s=.ok u):numW s=if Lib.decDigits u=s then some u else none:=by
 unfold numW; rw [h]
theorem numW_bad {s:List UInt8} (h:∀ u,Lib.parseUintB 64 s≠.ok u):numW s=none:=by
 unfold numW
 split
 · rename_i u hu; exact absurd hu (h u)
 · rfl
set_option maxRecDepth 100000 in
set_option maxHeartbeats 1600000 in
theorem number5_any (B g:Nat) (x s:List UInt8) (bad:Bool) (w:World) (hg:w.heap[g]? = some (WdC s bad)) (hE:EnvM B w) (hB:B≤g) (hl:x.length≤1000000) :
 Calls Tryz.prog 145 #[.pointer (some ⟨g,0,none⟩),.string ⟨x.toArray⟩] w (NumEnd5 x s bad g w):=by
 have hgl:=(Array.getElem?_eq_some_iff.1 hg).1
 have HPA:=Lib_hid (parse_any B x hl w hE.1)
 have HFM:Hid (∀ (W:World) (u:Nat),Below w.heap.size w W→u<18446744073709551616→Calls Tryz.prog 143 #[.int .u64 (u:Int)] W fun e w'=>e=.returned (.string ⟨(Lib.decDigits u).toArray⟩)∧Below W.heap.size W w'):=fun W u h hu=>decimal_any B u hu W (hE.1.under h (by omega))
 have HOK:Hid (∀ u,Lib.parseUintB 64 x=.ok u→numW x=if Lib.decDigits u=x then some u else none):=fun u h=>numW_ok h
 have HBD:Hid ((∀ u,Lib.parseUintB 64 x≠.ok u)→numW x=none):=fun h=>numW_bad h
 have HLT:Hid (∀ u,Lib.parseUintB 64 x=.ok u→u<18446744073709551616):=fun u h=>by have:=Lib.parseUintB_le h; omega
 have HNE:Hid (∀ (w':World) (e:Ending),w.grownBy w' (some g)→((∃ v,numW x=some v∧e=.returned (.int .u64 (v:Int))∧w'.heap[g]? = some (WdC s bad))∨(numW x=none∧e=.returned (.int .u64 0)∧w'.heap[g]? = some (WdC s true)))→NumEnd5 x s bad g w e w'):=fun w' e h1 h2=>⟨h1,h2⟩
 clear hE
 generalize hnm:numW x=nm at *
 clear hnm
 go_enter Tryz.func145,Tryz.ntmps145
 go_wp2_with fail
 refine HPA.out.mono ?_
 rintro e w2 ⟨hb2,hr⟩
 have hg2:=(hb2.block g hgl).trans hg
 rcases hr with ⟨u,hu,rfl⟩ | ⟨hu,y,N,rfl⟩
 · have hF:=HFM.out w2 u hb2 (HLT.out u hu)
   have hN2:=HOK.out u hu
   go_wp2_with fail
   refine hF.mono ?_
   rintro e w3 ⟨rfl,hb3⟩
   have hb3w:=hb2.trans (hb3.mono hb2.size)
   have hg3:=(hb3w.block g hgl).trans hg
   have c1:=cell_of_row w3 _ 1 _ _ _ hg3
   have z1:=frozen_of_row w3 g 1 _ _ hg3
   simp at c1
   have hgr:=grow_below hb3w (some g)
   have HB2:Hid ((w3.setCell ⟨g,1,none⟩ (.bool true)).heap[g]? = some (WdC s true)):=Joins.block_setCell (i:=1) hg3 _
   generalize hdd:Lib.decDigits u=dd at *
   by_cases hq:dd=x
   · have hqb:(dd == x)=true:=by simp [hq]
     have HX:Hid (NumEnd5 x s bad g w (.returned (.int .u64 (u:Int))) w3):=HNE.out _ _ hgr (.inl ⟨u,by rw [hN2,if_pos hq],rfl,hg3⟩)
     subst hq
     clear hqb hN2 hF
     go_wp2_with fail
     go_ret
     exact HX.out
   · have hqb:(dd == x)=false:=by simp [hq]
     have HX:Hid (NumEnd5 x s bad g w (.returned (.int .u64 0)) (w3.setCell ⟨g,1,none⟩ (.bool true))):=HNE.out _ _ (hgr.trans (grow_set w3 g 1 _)) (.inr ⟨by rw [hN2,if_neg hq],rfl,HB2.out⟩)
     clear hN2 hF
     go_wp2_with fail
     go_ret
     exact HX.out
 · have hN2:=HBD.out hu
   have c1:=cell_of_row w2 _ 1 _ _ _ hg2
   have z1:=frozen_of_row w2 g 1 _ _ hg2
   simp at c1
   have hgr:=grow_below hb2 (some g)
   have HB2:Hid ((w2.setCell ⟨g,1,none⟩ (.bool true)).heap[g]? = some (WdC s true)):=Joins.block_setCell (i:=1) hg2 _
   have HX:Hid (NumEnd5 x s bad g w (.returned (.int .u64 0)) (w2.setCell ⟨g,1,none⟩ (.bool true))):=HNE.out _ _ (hgr.trans (grow_set w2 g 1 _)) (.inr ⟨hN2,rfl,HB2.out⟩)
   clear hN2 hu
   go_wp2_with fail
   go_ret
   exact HX.out
end Go.Proofs.YtinmoknbgnngcaaGreatDoor
