/-
  Layer 5: of each part the function that writes it.
-/
import Derived.Test.YtinmoknbgnngcaaGreatDoorZwTqk
import Derived.Test.YtinmoknbgnngcaaGreatDoorZwWrite
import Derived.Test.YtinmoknbgnngcaaGreatDoorZwTqc
import Derived.Handy
import Derived.Laws.BitsAllLaws
import Derived.Laws.Bits64b
namespace Go.Proofs.YtinmoknbgnngcaaGreatDoor
open Go Go.RowKit
set_option linter.unusedVariables false
def VPost (g:Nat) (v:Value) (ys:List Nat) (w:World) (e:Ending) (w':World):Prop:=
 ∃ A n c,e=.returned (.tuple #[])∧Wr 161 5 w' g A n c ys∧WStp w w' g v (.slice A n c)
theorem away_new {w:World} {g n c b m:Nat} {A:Option Addr} {E:TypeId} {B:Nat} {ys:List Value} (hg:g<b) (ho:w.ownsRow B E 1 (.slice A n c) n ys) (hb:w.heap.size≤b):Away g (.slice A n c) (some ⟨b,0,none⟩) m:=by
 intro _ ad e
 injection e with e
 subst e
 refine ⟨by show b≠g; omega,fun h=>?_⟩
 have:=own_lt ho b h.symm
 omega
def En.stand (e:En):List Nat:=encs [e.x,e.w,e.n] ++ [if e.m then 1 else 0]
def Rc.standP (r:Rc) (i:Nat):List Nat:=
 if i=0 then enc r.t else if i=1 then enc r.x else if i=2 then encs [r.w,r.n] else if i=3 then enc r.v else if i=4 then enc r.p.put.length ++ r.p.put else enc r.es.length ++ r.es.flatMap En.stand
theorem encs_one (a:Nat):encs [a]=enc a:=by simp [encs]
theorem wnumber_new {g n c:Nat} {A:Option Addr} {ys:List Nat} {W:World} (h:Wr 161 5 W g A n c ys) (hn:n≤100000) (l:List Nat) (cs:Array Value) (hcs:cs=(us l).toArray) (h64:∀ x∈l,(x:Int)≤18446744073709551615) (hl:l.length≤1000)
 (E:TypeId) (b:Nat) (hb:b=W.heap.size) (m:Nat) (hm:m=l.length) :
 Calls Tryz.prog 139 #[.pointer (some ⟨g,0,none⟩),.slice (some ⟨b,0,none⟩) m m] (W.alloc (.cells cs E)) (WPost 161 5 g (.slice A n c) (ys ++ encs l) W):=by
 subst hb hm hcs
 have hk:=h.kept (below_new W (.cells (us l).toArray E))
 have hr:=rd_row (size:=1) (n:=l.length) (heap_alloc_new W (.cells (us l).toArray E)) (by rw [us_length]; omega)
 refine (wnumber_any g A n c ys _ hk hn _ _ l.length l.length l hr h64 (by omega) (by simp) (away_new h.lt h.own (Nat.le_refl _))).mono ?_
 rintro e w' ⟨A',n',c',he,hw,hs⟩
 exact ⟨A',n',c',he,hw,(WStp.of g (Stp.alloc W _ _)).trans hs⟩
set_option maxHeartbeats 800000 in
theorem putT_any (r:Rv) (g n c:Nat) (A:Option Addr) (ys:List Nat) (w:World) (h:Wr 161 5 w g A n c ys) (hn:n≤100000) (ht:(r.t:Int)≤18446744073709551615) :
 Calls Tryz.prog 138 #[r.val,.pointer (some ⟨g,0,none⟩)] w (VPost g (.slice A n c) (ys ++ r.abs.standP 0) w):=by
 obtain ⟨k,t,x,wn,nn,v,p,Ae,ce,es⟩:=r
 have hW1:=h.kept (below_new w (.cells #[.int .i64 k,.int .u64 (t:Int),.int .u64 (x:Int),.int .u64 (wn:Int),.int .u64 (nn:Int),.int .u64 (v:Int),.int .i64 p.kind,.int .u64 (p.a:Int),.int .u64 (p.b:Int),.slice p.addr p.parts.length p.cap,.slice Ae es.length ce] 68))
 have N:=wnumber_new hW1 hn [t] #[.int .u64 (t:Int)] rfl (by intro y hy; obtain rfl:y=t:=(by simpa using hy); exact ht) (by simp) 52 (w.heap.size+1) (by simp) 1 rfl
 have HS:=WStp.of g (Stp.alloc w (.cells #[.int .i64 k,.int .u64 (t:Int),.int .u64 (x:Int),.int .u64 (wn:Int),.int .u64 (nn:Int),.int .u64 (v:Int),.int .i64 p.kind,.int .u64 (p.a:Int),.int .u64 (p.b:Int),.slice p.addr p.parts.length p.cap,.slice Ae es.length ce] 68) (.slice A n c))
 show Calls Tryz.prog 138 #[.agg #[.int .i64 k,.int .u64 (t:Int),.int .u64 (x:Int),.int .u64 (wn:Int),.int .u64 (nn:Int),.int .u64 (v:Int),.int .i64 p.kind,.int .u64 (p.a:Int),.int .u64 (p.b:Int),.slice p.addr p.parts.length p.cap,.slice Ae es.length ce],.pointer (some ⟨g,0,none⟩)] w (VPost g (.slice A n c) (ys ++ enc t) w)
 rw [← encs_one]
 go_enter Tryz.func138,Tryz.ntmps138
 go_wp2_with fail
 refine N.mono ?_
 rintro e w1 ⟨A',n',c',rfl,hw,hs⟩
 replace hs:=HS.trans hs
 clear HS N hW1
 go_wp2
 go_end0
 exact ⟨A',n',c',rfl,hw,hs⟩
set_option maxHeartbeats 800000 in
theorem putX_any (r:Rv) (g n c:Nat) (A:Option Addr) (ys:List Nat) (w:World) (h:Wr 161 5 w g A n c ys) (hn:n≤100000) (hx:(r.x:Int)≤18446744073709551615) :
 Calls Tryz.prog 149 #[r.val,.pointer (some ⟨g,0,none⟩)] w (VPost g (.slice A n c) (ys ++ r.abs.standP 1) w):=by
 obtain ⟨k,t,x,wn,nn,v,p,Ae,ce,es⟩:=r
 have hW1:=h.kept (below_new w (.cells #[.int .i64 k,.int .u64 (t:Int),.int .u64 (x:Int),.int .u64 (wn:Int),.int .u64 (nn:Int),.int .u64 (v:Int),.int .i64 p.kind,.int .u64 (p.a:Int),.int .u64 (p.b:Int),.slice p.addr p.parts.length p.cap,.slice Ae es.length ce] 68))
 have N:=wnumber_new hW1 hn [x] #[.int .u64 (x:Int)] rfl (by intro y hy; obtain rfl:y=x:=(by simpa using hy); exact hx) (by simp) 52 (w.heap.size+1) (by simp) 1 rfl
 have HS:=WStp.of g (Stp.alloc w (.cells #[.int .i64 k,.int .u64 (t:Int),.int .u64 (x:Int),.int .u64 (wn:Int),.int .u64 (nn:Int),.int .u64 (v:Int),.int .i64 p.kind,.int .u64 (p.a:Int),.int .u64 (p.b:Int),.slice p.addr p.parts.length p.cap,.slice Ae es.length ce] 68) (.slice A n c))
 show Calls Tryz.prog 149 #[.agg #[.int .i64 k,.int .u64 (t:Int),.int .u64 (x:Int),.int .u64 (wn:Int),.int .u64 (nn:Int),.int .u64 (v:Int),.int .i64 p.kind,.int .u64 (p.a:Int),.int .u64 (p.b:Int),.slice p.addr p.parts.length p.cap,.slice Ae es.length ce],.pointer (some ⟨g,0,none⟩)] w (VPost g (.slice A n c) (ys ++ enc x) w)
 rw [← encs_one]
 go_enter Tryz.func149,Tryz.ntmps149
 go_wp2_with fail
 refine N.mono ?_
 rintro e w1 ⟨A',n',c',rfl,hw,hs⟩
 replace hs:=HS.trans hs
 clear HS N hW1
 go_wp2
 go_end0
 exact ⟨A',n',c',rfl,hw,hs⟩
set_option maxHeartbeats 800000 in
theorem putV_any (r:Rv) (g n c:Nat) (A:Option Addr) (ys:List Nat) (w:World) (h:Wr 161 5 w g A n c ys) (hn:n≤100000) (hw:(r.w:Int)≤18446744073709551615) (hv2:(r.n:Int)≤18446744073709551615) :
 Calls Tryz.prog 156 #[r.val,.pointer (some ⟨g,0,none⟩)] w (VPost g (.slice A n c) (ys ++ r.abs.standP 2) w):=by
 obtain ⟨k,t,x,wn,nn,v,p,Ae,ce,es⟩:=r
 have hW1:=h.kept (below_new w (.cells #[.int .i64 k,.int .u64 (t:Int),.int .u64 (x:Int),.int .u64 (wn:Int),.int .u64 (nn:Int),.int .u64 (v:Int),.int .i64 p.kind,.int .u64 (p.a:Int),.int .u64 (p.b:Int),.slice p.addr p.parts.length p.cap,.slice Ae es.length ce] 68))
 have N:=wnumber_new hW1 hn [wn,nn] #[.int .u64 (wn:Int),.int .u64 (nn:Int)] rfl (by intro y hy; simp only [List.mem_cons,List.not_mem_nil,or_false] at hy; rcases hy with rfl | rfl <;> first | exact hw | exact hv2) (by simp) 52 (w.heap.size+1) (by simp) 2 rfl
 have HS:=WStp.of g (Stp.alloc w (.cells #[.int .i64 k,.int .u64 (t:Int),.int .u64 (x:Int),.int .u64 (wn:Int),.int .u64 (nn:Int),.int .u64 (v:Int),.int .i64 p.kind,.int .u64 (p.a:Int),.int .u64 (p.b:Int),.slice p.addr p.parts.length p.cap,.slice Ae es.length ce] 68) (.slice A n c))
 show Calls Tryz.prog 156 #[.agg #[.int .i64 k,.int .u64 (t:Int),.int .u64 (x:Int),.int .u64 (wn:Int),.int .u64 (nn:Int),.int .u64 (v:Int),.int .i64 p.kind,.int .u64 (p.a:Int),.int .u64 (p.b:Int),.slice p.addr p.parts.length p.cap,.slice Ae es.length ce],.pointer (some ⟨g,0,none⟩)] w (VPost g (.slice A n c) (ys ++ encs [wn,nn]) w)
 go_enter Tryz.func156,Tryz.ntmps156
 go_wp2_with fail
 refine N.mono ?_
 rintro e w1 ⟨A',n',c',rfl,hw,hs⟩
 replace hs:=HS.trans hs
 clear HS N hW1
 go_wp2
 go_end0
 exact ⟨A',n',c',rfl,hw,hs⟩
set_option maxHeartbeats 800000 in
theorem putValue_any (r:Rv) (g n c:Nat) (A:Option Addr) (ys:List Nat) (w:World) (h:Wr 161 5 w g A n c ys) (hn:n≤100000) (hv:(r.v:Int)≤18446744073709551615) :
 Calls Tryz.prog 165 #[r.val,.pointer (some ⟨g,0,none⟩)] w (VPost g (.slice A n c) (ys ++ r.abs.standP 3) w):=by
 obtain ⟨k,t,x,wn,nn,v,p,Ae,ce,es⟩:=r
 have hW1:=h.kept (below_new w (.cells #[.int .i64 k,.int .u64 (t:Int),.int .u64 (x:Int),.int .u64 (wn:Int),.int .u64 (nn:Int),.int .u64 (v:Int),.int .i64 p.kind,.int .u64 (p.a:Int),.int .u64 (p.b:Int),.slice p.addr p.parts.length p.cap,.slice Ae es.length ce] 68))
 have N:=wnumber_new hW1 hn [v] #[.int .u64 (v:Int)] rfl (by intro y hy; obtain rfl:y=v:=(by simpa using hy); exact hv) (by simp) 52 (w.heap.size+1) (by simp) 1 rfl
 have HS:=WStp.of g (Stp.alloc w (.cells #[.int .i64 k,.int .u64 (t:Int),.int .u64 (x:Int),.int .u64 (wn:Int),.int .u64 (nn:Int),.int .u64 (v:Int),.int .i64 p.kind,.int .u64 (p.a:Int),.int .u64 (p.b:Int),.slice p.addr p.parts.length p.cap,.slice Ae es.length ce] 68) (.slice A n c))
 show Calls Tryz.prog 165 #[.agg #[.int .i64 k,.int .u64 (t:Int),.int .u64 (x:Int),.int .u64 (wn:Int),.int .u64 (nn:Int),.int .u64 (v:Int),.int .i64 p.kind,.int .u64 (p.a:Int),.int .u64 (p.b:Int),.slice p.addr p.parts.length p.cap,.slice Ae es.length ce],.pointer (some ⟨g,0,none⟩)] w (VPost g (.slice A n c) (ys ++ enc v) w)
 rw [← encs_one]
 go_enter Tryz.func165,Tryz.ntmps165
 go_wp2_with fail
 refine N.mono ?_
 rintro e w1 ⟨A',n',c',rfl,hw,hs⟩
 replace hs:=HS.trans hs
 clear HS N hW1
 go_wp2
 go_end0
 exact ⟨A',n',c',rfl,hw,hs⟩
theorem away_own {w:World} {g B B2 n c n2 c2 m sz:Nat} {A A2:Option Addr} {E E2:TypeId} {ys zs:List Value} (hB:w.heap.size≤B) (ho:w.ownsRow B2 E2 1 (.slice A2 n2 c2) n2 ys) (hg:g<w.heap.size) {W:World} (h:W.ownsRow B E sz (.slice A n c) n zs):Away g (.slice A2 n2 c2) A m:=by
 intro _ ad e
 subst e
 rcases h.2 with ⟨e,_⟩ | ⟨b,cap,cur,e,h1,_⟩
 · cases e
 · have hb:=own_ge h b (by rw [e]; rfl)
   have e2:ad=⟨b,0,none⟩:=by injection e with e; injection e
   subst e2
   refine ⟨by show b≠g; omega,fun h=>?_⟩
   have:=own_lt ho b h.symm
   omega
theorem put_len {w:World} {lo hi:Nat} {p:V} (h:Lies w lo hi p):p.abs.put.length≤992:=by
 unfold T.put
 split
 · rename_i hr
   have:=stand_len p h
   have:=(right_all hr).2
   omega
 · simp
set_option maxHeartbeats 800000 in
theorem putP_any (r:Rv) (g n c:Nat) (A:Option Addr) (ys:List Nat) (w:World) (h:Wr 161 5 w g A n c ys) (hn:n≤100000) (lo hi:Nat) (hL:RLies w lo hi r) (hhi:hi≤w.heap.size) :
 Calls Tryz.prog 172 #[r.val,.pointer (some ⟨g,0,none⟩)] w (VPost g (.slice A n c) (ys ++ r.abs.standP 4) w):=by
 obtain ⟨k,t,x,wn,nn,v,p,Ae,ce,es⟩:=r
 have hb1:=below_new w (.cells #[.int .i64 k,.int .u64 (t:Int),.int .u64 (x:Int),.int .u64 (wn:Int),.int .u64 (nn:Int),.int .u64 (v:Int),.int .i64 p.kind,.int .u64 (p.a:Int),.int .u64 (p.b:Int),.slice p.addr p.parts.length p.cap,.slice Ae es.length ce] 68)
 have hW1:=h.kept hb1
 have PP:=pput_any p _ lo hi (hL.p.under (hb1.mono hhi)) (Nat.le_trans hhi hb1.size)
 have HS:=WStp.of g (Stp.alloc w (.cells #[.int .i64 k,.int .u64 (t:Int),.int .u64 (x:Int),.int .u64 (wn:Int),.int .u64 (nn:Int),.int .u64 (v:Int),.int .i64 p.kind,.int .u64 (p.a:Int),.int .u64 (p.b:Int),.slice p.addr p.parts.length p.cap,.slice Ae es.length ce] 68) (.slice A n c))
 have hpl:p.abs.put.length≤100000:=Nat.le_trans (put_len hL.p) (by omega)
 show Calls Tryz.prog 172 #[.agg #[.int .i64 k,.int .u64 (t:Int),.int .u64 (x:Int),.int .u64 (wn:Int),.int .u64 (nn:Int),.int .u64 (v:Int),.int .i64 p.kind,.int .u64 (p.a:Int),.int .u64 (p.b:Int),.slice p.addr p.parts.length p.cap,.slice Ae es.length ce],.pointer (some ⟨g,0,none⟩)] w (VPost g (.slice A n c) (ys ++ (enc p.abs.put.length ++ p.abs.put)) w)
 simp only [V.val,V.sl] at PP
 go_enter Tryz.func172,Tryz.ntmps172
 go_wp2_with fail
 refine PP.mono ?_
 rintro e w1 ⟨A1,c1,rfl,ho1,hb1⟩
 have hW2:=hW1.kept hb1
 have T:=wtext_any g A n c ys w1 hW2 hn _ A1 p.abs.put.length c1 p.abs.put (Rd.own ho1) hpl (Nat.le_refl _) (away_own (Nat.le_refl _) hW1.own hW1.lt ho1)
 have HS2:=HS.trans (WStp.of g ⟨⟨hb1.os,hb1.tape,hb1.output,hb1.size,fun k hk _=>hb1.block k hk⟩,.inl rfl⟩)
 rw [List.append_assoc] at T
 clear HS PP hW1 ho1 hb1
 generalize enc p.abs.put.length ++ p.abs.put=zs at *
 go_wp2_with fail
 refine T.mono ?_
 rintro e w2 ⟨A',n',c',rfl,hw,hs⟩
 replace hs:=HS2.trans hs
 clear HS2 T
 go_wp2
 go_end0
 exact ⟨A',n',c',rfl,hw,hs⟩
theorem wraw_new {g n c:Nat} {A:Option Addr} {ys:List Nat} {W:World} (h:Wr 161 5 W g A n c ys) (hn:n≤100000) (l:List Nat) (cs:Array Value) (hcs:cs=(bs l).toArray) (hl:l.length≤1000)
 (E:TypeId) (b:Nat) (hb:b=W.heap.size) (m:Nat) (hm:m=l.length) :
 Calls Tryz.prog 209 #[.pointer (some ⟨g,0,none⟩),.slice (some ⟨b,0,none⟩) m m] (W.alloc (.cells cs E)) (WPost 161 5 g (.slice A n c) (ys ++ l) W):=by
 subst hb hm hcs
 have hk:=h.kept (below_new W (.cells (bs l).toArray E))
 have hr:=rd_row (size:=1) (n:=l.length) (heap_alloc_new W (.cells (bs l).toArray E)) (by rw [bs_length]; omega)
 refine (wraw_any g A n c ys _ hk hn _ _ l.length l.length l hr (by omega)).mono ?_
 rintro e w' ⟨A',n',c',he,hw,hs⟩
 exact ⟨A',n',c',he,hw,(WStp.of g (Stp.alloc W _ _)).trans hs⟩
theorem digit_any (m:Bool) (w:World):Calls Tryz.prog 210 #[.bool m] w fun e w'=>e=.returned (.int .u8 (((if m then 1 else 0:Nat):Nat):Int))∧w'=w:=by
 cases m with
 | true=>
  go_enter Tryz.func210,Tryz.ntmps210
  go_wp2
  go_ret
  exact ⟨rfl,rfl⟩
 | false=>
  go_enter Tryz.func210,Tryz.ntmps210
  go_wp2
  go_ret
  exact ⟨rfl,rfl⟩
theorem en_nth {w:World} {hi:Nat} {A:Option Addr} {es:List En} (h:Rd w hi 4 A es.length (enCells es)) {i:Nat} (hi':i<es.length) :
 ∃ (b off:Nat) (e:En),A=some ⟨b,off,none⟩∧b<hi∧es[i]? = some e∧w.cell? ⟨b,off+i * 4,none⟩=some (.int .u64 (e.x:Int))∧w.cell? ⟨b,off+i * 4+1,none⟩=some (.int .u64 (e.w:Int))∧w.cell? ⟨b,off+i * 4+2,none⟩=some (.int .u64 (e.n:Int))∧w.cell? ⟨b,off+i * 4+3,none⟩=some (.bool e.m):=by
 have hx:es[i]? = some (es[i]):=List.getElem?_eq_getElem hi'
 obtain ⟨ad,e,hb,hc⟩:=h.lies (by omega)
 obtain ⟨bb,off,spot⟩:=ad
 have h0:es[0]? = some (es[0]'(by omega)):=List.getElem?_eq_getElem (by omega)
 have hspot:spot=none:=World.cell?_spot (a:=⟨bb,off,spot⟩) (hc 0 _ (enCells_get es 0 0 _ h0 (by omega)))
 subst hspot
 have hc4:∀ j u,j<4→(En.cells (es[i]'hi'))[j]? = some u→w.cell? ⟨bb,off+i * 4+j,none⟩=some u:=by
  intro j u hj hu
  have:=hc (i * 4+j) u ((enCells_get es i j _ hx hj).trans hu)
  rw [show (⟨bb,off,none⟩:Addr).add (i * 4+j)=⟨bb,off+(i * 4+j),none⟩ by unfold Addr.add; split <;> simp_all,← Nat.add_assoc] at this
  exact this
 exact ⟨bb,off,_,e,hb,hx,hc4 0 _ (by omega) rfl,hc4 1 _ (by omega) rfl,hc4 2 _ (by omega) rfl,hc4 3 _ (by omega) rfl⟩
def esS (es:List En) (i:Nat):List Nat:=(es.take i).flatMap En.stand
theorem esS_snoc {es:List En} {i:Nat} {e:En} (h:es[i]? = some e):esS es (i+1)=esS es i ++ e.stand:=by
 unfold esS; rw [take_one h]; simp
theorem En.stand_len {e:En} (h:e.ok):e.stand.length≤31:=by
 have:=encs_le [e.x,e.w,e.n] (by intro y hy; simp only [List.mem_cons,List.not_mem_nil,or_false] at hy; obtain ⟨h1,h2,h3⟩:=h; rcases hy with rfl | rfl | rfl <;> assumption)
 simp [En.stand] at *
 omega
theorem esS_len {es:List En} (h:∀ e∈es,e.ok):∀ i,(esS es i).length≤31 * i:=by
 intro i
 induction i with
 | zero=>simp [esS]
 | succ i ih=>
  by_cases hi:i<es.length
  · rw [esS_snoc (List.getElem?_eq_getElem hi),List.length_append]
    have:=En.stand_len (h _ (List.getElem_mem hi))
    omega
  · have:esS es (i+1)=esS es i:=by unfold esS; rw [List.take_of_length_le (by omega),List.take_of_length_le (by omega)]
    rw [this]; omega
set_option maxRecDepth 100000 in
set_option maxHeartbeats 3200000 in
theorem pute_any (g n c hi ce:Nat) (A Ae:Option Addr) (ys:List Nat) (es:List En) (w:World) (h:Wr 161 5 w g A n c ys) (hn:n≤20000) (hrd:Rd w hi 4 Ae es.length (enCells es)) (hok:∀ e∈es,e.ok) (hlen:es.length≤1000) (hcap:es.length≤ce∧ce≤9223372036854775807) (hhi:hi≤w.heap.size) (hg:hi≤g) :
 Calls Tryz.prog 184 #[.pointer (some ⟨g,0,none⟩),.slice Ae es.length ce] w (VPost g (.slice A n c) (ys ++ (enc es.length ++ es.flatMap En.stand)) w):=by
 have hyl:ys.length=n:=by have:=h.own.1; rw [bs_length] at this; omega
 have N:=wnumber_new h (by omega) [es.length] #[.int .u64 (es.length:Int)] rfl (by intro y hy; obtain rfl:y=es.length:=(by simpa using hy); omega) (by simp) 52 w.heap.size rfl 1 rfl
 rw [encs_one] at N
 have HV:Hid (∀ k,(Value.slice A n c).ownBlock=some k→hi≤k):=fun k hk=>Nat.le_trans hg (Nat.le_of_succ_le (own_ge h.own k hk))
 have HR:Hid (∀ W A' n' c',WStp w W g (.slice A n c) (.slice A' n' c')→Rd W hi 4 Ae es.length (enCells es)):=fun W A' n' c' hW=>hrd.below (hW.below hhi hg HV.out)
 have HO:=Lib_hid hok
 have HL:=Lib_hid (esS_len hok)
 have HE:Hid (esS es es.length=es.flatMap En.stand∧esS es 0=[]):=⟨by unfold esS; rw [List.take_length],by simp [esS]⟩
 have het:=enc_ten (v:=es.length) (by omega)
 have HY:Hid (ys.length=n∧(enc es.length).length≤10):=⟨hyl,het⟩
 clear hrd hok hyl het h
 go_enter Tryz.func184,Tryz.ntmps184
 go_wp2_with fail
 refine N.mono ?_
 rintro e w1 ⟨A1,n1,c1,rfl,hw1,hs1⟩
 clear N
 go_wp2
 go_loopw [14] (fun z wr=>∃ (i n' c':Nat) (A':Option Addr),z=.int .i64 i∧i≤es.length∧Hid (Wr 161 5 wr g A' n' c' (ys ++ enc es.length ++ esS es i))∧Hid (WStp w wr g (.slice A n c) (.slice A' n' c'))) (fun z _=>es.length - (intOf z).toNat)
 case atStart=>exact ⟨0,n1,c1,A1,rfl,Nat.zero_le _,Lib_hid (by rw [HE.out.2,List.append_nil]; exact hw1),hs1⟩
 case round=>
  clear hw1 hs1
  obtain ⟨i,n',c',A',rfl,hi1,hw,hs⟩:=hrel
  by_cases hlt:i<es.length
  · obtain ⟨b,off,e,rfl,hbh,he,d0,d1,d2,d3⟩:=en_nth (HR.out _ _ _ _ hs.out) hlt
    have hn':n'≤60000:=by
     have h1:=hw.out.own.1
     rw [bs_length,List.length_append,List.length_append] at h1
     have:=HL.out i
     have:=HY.out
     omega
    have hokE:=HO.out e (List.mem_of_getElem? he)
    have HS:Hid (esS es (i+1)=esS es i ++ e.stand):=esS_snoc he
    have hw2:=hw.out.kept (below_new wr (.cells #[.int .u64 (e.x:Int),.int .u64 (e.w:Int),.int .u64 (e.n:Int),.bool e.m] 125))
    have hp2:=heap_alloc_new wr (.cells #[.int .u64 (e.x:Int),.int .u64 (e.w:Int),.int .u64 (e.n:Int),.bool e.m] 125)
    have hs2:=hs.out.trans (WStp.of g (Stp.alloc wr (.cells #[.int .u64 (e.x:Int),.int .u64 (e.w:Int),.int .u64 (e.n:Int),.bool e.m] 125) (.slice A' n' c')))
    have hgw:=hw.out.lt
    have hown:=own_lt hw.out.own
    obtain ⟨ex,ew,en⟩:=hokE
    clear hw hs
    go_upto_region 4 with (fail)
    generalize wr.alloc (.cells #[.int .u64 (e.x:Int),.int .u64 (e.w:Int),.int .u64 (e.n:Int),.bool e.m] 125)=w2 at *
    have hsz2:=lt_of_block hp2
    have q0:w2.cell? ⟨wr.heap.size,0,none⟩=some (.int .u64 (e.x:Int)):=cell_of_row w2 _ 0 _ _ _ hp2
    have q1:w2.cell? ⟨wr.heap.size,1,none⟩=some (.int .u64 (e.w:Int)):=cell_of_row w2 _ 1 _ _ _ hp2
    have q2:w2.cell? ⟨wr.heap.size,2,none⟩=some (.int .u64 (e.n:Int)):=cell_of_row w2 _ 2 _ _ _ hp2
    have N:=wnumber_new hw2 (by omega) [e.x,e.w,e.n] #[.int .u64 (e.x:Int),.int .u64 (e.w:Int),.int .u64 (e.n:Int)] rfl (by intro y hy; simp only [List.mem_cons,List.not_mem_nil,or_false] at hy; rcases hy with rfl | rfl | rfl <;> assumption) (by simp) 52 w2.heap.size rfl 3 rfl
    have HL3:Hid (∀ m,(ys ++ enc es.length ++ esS es i ++ encs [e.x,e.w,e.n]).length=m→m≤90000):=fun m hm=>by
     have h1:=HL.out i
     have h2:=HY.out
     have h3:=encs_le [e.x,e.w,e.n] (by intro y hy; simp only [List.mem_cons,List.not_mem_nil,or_false] at hy; rcases hy with rfl | rfl | rfl <;> assumption)
     simp only [List.length_append,List.length_cons,List.length_nil] at hm h3
     omega
    clear d0 d1 d2 d3
    go_wp2_with fail
    refine N.mono ?_
    rintro _ w3 ⟨A3,n3,c3,rfl,hw3,hs3⟩
    have hp3:=(hs3.block wr.heap.size hsz2 (by omega) (fun h=>by have:=hown _ h.symm; omega)).trans hp2
    have m3:w3.cell? ⟨wr.heap.size,3,none⟩=some (.bool e.m):=cell_of_row w3 _ 3 _ _ _ hp3
    have hs3':=hs2.trans hs3
    have hn3:n3≤100000:=by
     have h1:=hw3.own.1
     rw [bs_length] at h1
     have:=HL3.out _ h1
     omega
    clear N q0 q1 q2 hp3 hp2 hs2 hs3 hw2 hown
    go_wp2_with fail
    refine (digit_any e.m _).mono ?_
    rintro _ w4 ⟨rfl,rfl⟩
    have HD:Hid (e.stand=encs [e.x,e.w,e.n] ++ [if e.m then 1 else 0]):=rfl
    have R:=wraw_new hw3 hn3 [if e.m then 1 else 0] #[.int .u8 (((if e.m then 1 else 0:Nat):Nat):Int)] rfl (by simp) 5 w4.heap.size rfl 1 rfl
    have HWR:Hid (∀ A5 n5 c5 W,Wr 161 5 W g A5 n5 c5 (ys ++ enc es.length ++ esS es i ++ encs [e.x,e.w,e.n] ++ [if e.m then 1 else 0])→Wr 161 5 W g A5 n5 c5 (ys ++ enc es.length ++ esS es (i+1))):=fun A5 n5 c5 W h=>by
     rw [HS.out,HD.out,← List.append_assoc,← List.append_assoc]
     exact h
    clear hw3 m3
    generalize (if e.m then 1 else 0:Nat)=dg at *
    go_wp2_with fail
    refine R.mono ?_
    rintro _ w5 ⟨A5,n5,c5,rfl,hw5,hs5⟩
    have hw6:=Lib_hid (HWR.out _ _ _ _ hw5)
    have hs6:=Lib_hid (hs3'.trans hs5)
    clear R hw5 hs5 hs3' HWR
    go_wp2
    go_roundw
    case rel=>exact ⟨i+1,n5,c5,A5,by go_num,by omega,hw6,hs6⟩
    case measure=>simp [intOf]; omega
  · obtain rfl:i=es.length:=by omega
    have HF:Hid (Wr 161 5 wr g A' n' c' (ys ++ (enc es.length ++ es.flatMap En.stand))):=by
     have:=hw.out
     rw [HE.out.1,List.append_assoc] at this
     exact this
    go_wp2
    go_end0
    exact ⟨A',n',c',rfl,HF.out,hs.out⟩
set_option maxHeartbeats 800000 in
theorem putEntries_any (r:Rv) (g n c:Nat) (A:Option Addr) (ys:List Nat) (w:World) (h:Wr 161 5 w g A n c ys) (hn:n≤20000) (lo hi:Nat) (hL:RLies w lo hi r) (hlen:r.es.length≤1000) (hhi:hi≤w.heap.size) (hg:hi≤g) :
 Calls Tryz.prog 183 #[r.val,.pointer (some ⟨g,0,none⟩)] w (VPost g (.slice A n c) (ys ++ r.abs.standP 5) w):=by
 obtain ⟨k,t,x,wn,nn,v,p,Ae,ce,es⟩:=r
 have hb1:=below_new w (.cells #[.int .i64 k,.int .u64 (t:Int),.int .u64 (x:Int),.int .u64 (wn:Int),.int .u64 (nn:Int),.int .u64 (v:Int),.int .i64 p.kind,.int .u64 (p.a:Int),.int .u64 (p.b:Int),.slice p.addr p.parts.length p.cap,.slice Ae es.length ce] 68)
 have E:=pute_any g n c hi ce A Ae ys es _ (h.kept hb1) hn (hL.es.below (hb1.mono hhi)) hL.ok hlen hL.cap (Nat.le_trans hhi hb1.size) hg
 have HS:=WStp.of g (Stp.alloc w (.cells #[.int .i64 k,.int .u64 (t:Int),.int .u64 (x:Int),.int .u64 (wn:Int),.int .u64 (nn:Int),.int .u64 (v:Int),.int .i64 p.kind,.int .u64 (p.a:Int),.int .u64 (p.b:Int),.slice p.addr p.parts.length p.cap,.slice Ae es.length ce] 68) (.slice A n c))
 show Calls Tryz.prog 183 #[.agg #[.int .i64 k,.int .u64 (t:Int),.int .u64 (x:Int),.int .u64 (wn:Int),.int .u64 (nn:Int),.int .u64 (v:Int),.int .i64 p.kind,.int .u64 (p.a:Int),.int .u64 (p.b:Int),.slice p.addr p.parts.length p.cap,.slice Ae es.length ce],.pointer (some ⟨g,0,none⟩)] w (VPost g (.slice A n c) (ys ++ (enc es.length ++ es.flatMap En.stand)) w)
 generalize enc es.length ++ es.flatMap En.stand=zs at *
 go_enter Tryz.func183,Tryz.ntmps183
 go_wp2_with fail
 refine E.mono ?_
 rintro e w1 ⟨A',n',c',rfl,hw,hs⟩
 replace hs:=HS.trans hs
 clear HS E
 go_wp2
 go_end0
 exact ⟨A',n',c',rfl,hw,hs⟩
theorem put6_any (i:Nat) (hi6:i<6) (r:Rv) (g n c:Nat) (A:Option Addr) (ys:List Nat) (w:World) (h:Wr 161 5 w g A n c ys) (hn:n≤20000) (lo hi:Nat) (hL:RLies w lo hi r) (hlen:r.es.length≤1000) (hhi:hi≤w.heap.size) (hg:hi≤g) :
 Calls Tryz.prog (mputF i) #[r.val,.pointer (some ⟨g,0,none⟩)] w (VPost g (.slice A n c) (ys ++ r.abs.standP i) w):=by
 have:i=0∨i=1∨i=2∨i=3∨i=4∨i=5:=by omega
 rcases this with rfl | rfl | rfl | rfl | rfl | rfl
 · exact putT_any r g n c A ys w h (by omega) hL.t
 · exact putX_any r g n c A ys w h (by omega) hL.x
 · exact putV_any r g n c A ys w h (by omega) hL.wn hL.n
 · exact putValue_any r g n c A ys w h (by omega) hL.v
 · exact putP_any r g n c A ys w h (by omega) lo hi hL hhi
 · exact putEntries_any r g n c A ys w h hn lo hi hL hlen hhi hg
set_option maxRecDepth 100000 in
theorem call_put {i:Nat} (hi6:i<6):∀ (args:Array Value) (wx:World),(callFunc (mputF i) args).run Tryz.prog wx=.ok (.enter (mputF i) args) wx:=by
 have:i=0∨i=1∨i=2∨i=3∨i=4∨i=5:=by omega
 rcases this with rfl | rfl | rfl | rfl | rfl | rfl <;> exact fun args wx=>by kernel_rfl
def Rc.standN (r:Rc) (l:List Nat):List Nat:=l.flatMap r.standP
def Rc.stand (r:Rc):List Nat:=r.standN (partsN r.kind 6)
theorem standN_snoc {r:Rc} {l:List Nat} {i j:Nat} (h:l[i]? = some j):r.standN (l.take (i+1))=r.standN (l.take i) ++ r.standP j:=by
 unfold Rc.standN; rw [take_one h]; simp
theorem partsN_lt {k:Int} {i j:Nat} (h:j∈partsN k i):j<i:=by
 simp only [partsN,List.mem_filter,List.mem_range] at h
 exact h.1
theorem standP_len {w:World} {lo hi:Nat} {r:Rv} (h:RLies w lo hi r) (hlen:r.es.length≤100) (i:Nat):(r.abs.standP i).length≤3300:=by
 have h1:=enc_ten (v:=r.t) (by have:=h.t; omega)
 have h2:=enc_ten (v:=r.x) (by have:=h.x; omega)
 have h3:=encs_le [r.w,r.n] (by intro y hy; simp only [List.mem_cons,List.not_mem_nil,or_false] at hy; rcases hy with rfl | rfl; exact h.wn; exact h.n)
 have h4:=enc_ten (v:=r.v) (by have:=h.v; omega)
 have h5:=put_len h.p
 have h6:=enc_ten (v:=r.p.abs.put.length) (by omega)
 have h7:=enc_ten (v:=r.es.length) (by omega)
 have h8:=esS_len h.ok r.es.length
 have h9:esS r.es r.es.length=r.es.flatMap En.stand:=by unfold esS; rw [List.take_length]
 rw [h9] at h8
 simp only [List.length_cons,List.length_nil] at h3
 unfold Rc.standP Rv.abs
 simp only
 split; omega
 split; omega
 split; omega
 split; omega
 split
 · rw [List.length_append]; omega
 · rw [List.length_append]; omega
theorem stand_byte:∀ t:T,t.allB=true→∀ x∈t.stand,x<256:=by
 refine T.ind fun k a b ps ih hall=>?_
 rw [T.allB,Bool.and_eq_true] at hall
 have hk:=fits_kind hall.2
 have hsl:∀ qs:List T,(∀ q∈qs,q∈ps)→∀ x∈T.standL qs,x<256:=by
  intro qs
  induction qs with
  | nil=>intro _ x hx; simp [T.standL] at hx
  | cons q qs ih2=>
   intro hq x hx
   rw [T.standL,List.mem_append] at hx
   rcases hx with hx | hx
   · exact ih q (hq q (by simp)) (all_mem hall.1 q (hq q (by simp))) x hx
   · exact ih2 (fun y hy=>hq y (by simp [hy])) x hx
 intro x hx
 rw [T.stand,List.mem_cons,List.mem_append,List.mem_append,List.mem_flatMap] at hx
 rcases hx with rfl | (⟨n,-,hx⟩ | hx) | hx
 · omega
 · exact enc_byte n x hx
 · split at hx
   · exact enc_byte _ x hx
   · simp at hx
 · exact hsl ps (fun q hq=>hq) x hx
theorem encs_byte (l:List Nat):∀ x∈encs l,x<256:=fun x hx=>by
 obtain ⟨v,_,h⟩:=List.mem_flatMap.1 hx
 exact enc_byte v x h
theorem standP_byte (r:Rc) (i:Nat):∀ x∈r.standP i,x<256:=by
 unfold Rc.standP
 split; exact enc_byte _
 split; exact enc_byte _
 split; exact encs_byte _
 split; exact enc_byte _
 split
 · intro x hx
   rcases List.mem_append.1 hx with hx | hx
   · exact enc_byte _ x hx
   · unfold T.put at hx
     split at hx
     · rename_i hr
       exact stand_byte _ (right_all hr).1 x hx
     · cases hx
 · intro x hx
   rcases List.mem_append.1 hx with hx | hx
   · exact enc_byte _ x hx
   · obtain ⟨e,_,hx⟩:=List.mem_flatMap.1 hx
     rcases List.mem_append.1 hx with hx | hx
     · exact encs_byte _ x hx
     · have hx:x=if e.m then 1 else 0:=by simpa using hx
       rw [hx]; split <;> omega
theorem stand_byteR (r:Rc):∀ x∈r.stand,x<256:=fun x hx=>by
 obtain ⟨i,_,h⟩:=List.mem_flatMap.1 hx
 exact standP_byte r i x h
def tup (x:Nat×Nat×Nat):Value:=.tuple #[.int .u64 (x.1:Int),.int .i64 (x.2.1:Int),.int .i64 (x.2.2:Int)]
def orS (z x k:Nat):Nat:=z ||| (x % 128 * 2 ^ (7 * k)) % 18446744073709551616
set_option maxRecDepth 100000 in
theorem or_any (z x k:Nat) (hz:z<18446744073709551616):bits .or .u64 (z:Int) (IntKind.u64.wrap ((x:Int) % 128 * 2 ^ (7 * k)))=((orS z x k:Nat):Int):=by
 have e:IntKind.u64.wrap ((x:Int) % 128 * 2 ^ (7 * k))=(((x % 128 * 2 ^ (7 * k)) % 18446744073709551616:Nat):Int):=by
  have h1:((x:Int) % 128 * 2 ^ (7 * k))=((x % 128 * 2 ^ (7 * k):Nat):Int):=by rw [Int.natCast_mul,Int.natCast_pow]; rfl
  rw [IntKind.wrap_u64,h1]
  generalize x % 128 * 2 ^ (7 * k)=y
  omega
 rw [e,bits_or_u64_nat z _ hz (Nat.mod_lt _ (by decide))]
 rfl
theorem pow128 (k:Nat):2 ^ (7 * k)=128 ^ k:=by rw [Nat.pow_mul]
theorem orS_fit {z x k:Nat} (hz:z<128 ^ k) (hx:x % 128 * 128 ^ k<18446744073709551616):orS z x k=z+x % 128 * 128 ^ k:=by
 unfold orS
 rw [pow128,Nat.mod_eq_of_lt hx,Nat.or_comm,nat_join (7 * k) _ z (by rw [pow128]; exact Nat.mul_mod_left _ _) (by rw [pow128]; exact hz),Nat.add_comm]
theorem pow_le9 {k:Nat} (h:k≤9):128 ^ k≤9223372036854775808:=Nat.le_trans (Nat.pow_le_pow_right (by decide) h) (by decide)
theorem pow_le8 {k:Nat} (h:k≤8):128 ^ k≤72057594037927936:=Nat.le_trans (Nat.pow_le_pow_right (by decide) h) (by decide)
theorem orS_step {z x k:Nat} (hz:z<128 ^ k) (hk:k<9):orS z x k=z+x % 128 * 128 ^ k∧orS z x k<128 ^ (k+1):=by
 have h8:=pow_le8 (k:=k) (by omega)
 have hx:x % 128≤127:=by omega
 have hm:=Nat.mul_le_mul_right (128 ^ k) hx
 have e:=orS_fit (x:=x) hz (by omega)
 refine ⟨e,?_⟩
 rw [e,Nat.pow_succ]
 omega
theorem orS_last {z x k:Nat} (hz:z<128 ^ k) (hk:k≤9) (hx:x<128) (he:mayEnd x k=true):orS z x k=z+x * 128 ^ k:=by
 have e:x % 128=x:=Nat.mod_eq_of_lt hx
 have h9:=pow_le9 hk
 by_cases hk9:k=9
 · subst hk9
   have hx1:x=1:=by simpa [mayEnd] using he
   subst hx1
   exact orS_fit hz (by decide)
 · rw [(orS_step (x:=x) hz (by omega)).1,e]
set_option maxRecDepth 100000 in
theorem get_out (A:Option Addr) (n c:Nat) (a:Int) (w:World) (h:a<0∨(n:Int)<a) :
 Calls Tryz.prog 112 #[.slice A n c,.int .i64 a] w fun e w'=>e=.returned (tup (0,0,2))∧w=w':=by
 by_cases h0:a<0
 · go_enter Tryz.func112,Tryz.ntmps112
   go_wp2
   go_ret3
   exact ⟨rfl,rfl⟩
 · have h1:(n:Int)<a:=by omega
   go_enter Tryz.func112,Tryz.ntmps112
   go_wp2
   go_ret3
   exact ⟨rfl,rfl⟩
set_option maxRecDepth 100000 in
theorem get_in (B:Nat) (A:Option Addr) (n c:Nat) (l:List Nat) (a:Nat) (w:World) (h:Rd w B 1 A n (bs l)) (hb:∀ x∈l,x<256) (hn:n≤c) (hc:c≤9223372036854775807) (ha:a≤n) :
 Calls Tryz.prog 112 #[.slice A n c,.int .i64 (a:Int)] w fun e w'=>e=.returned (tup (getS l a))∧w=w':=by
 have hcut:=h.cut ha hn
 simp only [Nat.mul_one] at hcut
 obtain ⟨A2,hA2⟩:∃ A2,A2=(if c=a then A else A.map (·.add a)):=⟨_,rfl⟩
 rw [← hA2] at hcut
 obtain ⟨m,hm⟩:∃ m,m=n - a:=⟨_,rfl⟩
 rw [← hm] at hcut
 have hsl:∀ wx,(Instr.slice 22 (.slice A n c) (some (.int .i64 (a:Int))) none none).run Tryz.prog wx=.ok (.slice A2 m (c - a)) wx:=by
  intro wx
  rw [hA2,hm]
  have hu:=Tryz.underlying22
  have he:Tryz.prog.elem 22=5:=by kernel_rfl
  rw [run_slice_l wx 22 A n c (by rw [he]; exact hu) .i64 a (by omega) (by omega)]
  rw [he]
  have hs5:((sizeOf 5).run Tryz.prog wx)=.ok 1 wx:=by
   obtain ⟨i0,hi,hz0,hz1,hz2⟩:=info_parts Tryz.info5
   simp [sizeOf,typeInfo,hi,hz1]
  rw [hs5]
  simp [sliced,Result.andThen]
 have hl:=h.count
 obtain ⟨r,hr⟩:∃ r,r=l.drop a:=⟨_,rfl⟩
 have hcut':Rd w B 1 A2 m (bs r):=by rw [hr]; unfold bs at *; rw [List.map_drop]; exact hcut
 have hbr:∀ k,r.getD k 0<256:=by
  intro k
  rw [List.getD_eq_getElem?_getD]
  cases hk:r[k]? with
  | none=>simp
  | some x=>simp only [Option.getD_some]; exact hb x (by have:=List.mem_of_getElem? hk; rw [hr] at this; exact List.mem_of_mem_drop this)
 have hrl:r.length=m:=by rw [hr,List.length_drop,hl,hm]
 have HR:Hid (getS l a=ans a (got r)):=by
  unfold Hid getS
  rw [if_neg (by omega),Int.toNat_natCast,hr]
 have HL:Hid (r.length=m):=hrl
 have hmc:m≤9223372036854775807:=by omega
 have ham:a+m≤9223372036854775807:=by omega
 have HB:=Lib_hid hbr
 clear hA2 hm hl hr hcut hrl hbr hb h
 rcases Nat.lt_or_ge 10 m with hm10 | hm10
 all_goals
  go_enter Tryz.func112,Tryz.ntmps112
  go_wp2
  go_loop [4,24] (fun x i=>∃ k z:Nat,x=.int .u64 z∧i=.int .i64 k∧k≤m∧k≤10∧(k<10→z<128 ^ k)∧ScanAt r k z) (fun _ i=>10 - (intOf i).toNat)
  case atStart=>exact ⟨0,0,rfl,rfl,by omega,by omega,by omega,ScanAt.zero r⟩
  case round=>
   obtain ⟨k,z,rfl,rfl,hkm,hk10,hz,hS⟩:=hrel
   by_cases hlt:k<m∧k<10
   · obtain ⟨hlm,hl10⟩:=hlt
     obtain ⟨ad,rfl,_,hcell⟩:=hcut'.byte hlm
     have hz':=Lib_hid (hz hl10)
     have hx:=HB.out k
     obtain ⟨x,hX⟩:∃ x,x=r.getD k 0:=⟨_,rfl⟩
     rw [← hX] at hcell hx
     have HX:=Lib_hid hX
     clear hX hz
     have hz64:z<18446744073709551616:=Nat.lt_of_lt_of_le hz'.out (Nat.le_trans (pow_le9 (by omega)) (by decide))
     have hor:=or_any z x k hz64
     obtain ⟨Z,hZ⟩:∃ Z,Z=orS z x k:=⟨_,rfl⟩
     rw [← hZ] at hor
     have HZ:=Lib_hid hZ
     clear hZ hz64
     by_cases hc:x<128
     · have E:=ends_any x k w (by omega) (by omega)
       cases hme:mayEnd x k with
       | true=>
        rw [hme] at E
        have hfin:got r=.num Z (k+1):=by
         have:=hS.last hl10 (by rw [HL.out]; exact hlm) (by rw [← HX.out]; exact hc)
         rw [← HX.out,hme,if_pos rfl,← orS_last hz'.out (by omega) hc hme,← HZ.out] at this
         exact this
        have HF:Hid (getS l a=(Z,a+(k+1),0)):=by unfold Hid; rw [HR.out,hfin]; rfl
        clear hfin hme hS
        go_wp2_with (go_at_call 134; refine E.mono ?_; rintro e w' ⟨rfl,rfl⟩)
        go_ret3
        rw [HF.out]
        exact ⟨by unfold tup; simp [go_sem]; omega,rfl⟩
       | false=>
        rw [hme] at E
        have hfin:got r=.err 10:=by
         have:=hS.last hl10 (by rw [HL.out]; exact hlm) (by rw [← HX.out]; exact hc)
         rw [← HX.out,hme] at this
         exact this
        have HF:Hid (getS l a=(0,0,10)):=by unfold Hid; rw [HR.out,hfin]; rfl
        clear hfin hme hS
        go_wp2_with (go_at_call 134; refine E.mono ?_; rintro e w' ⟨rfl,rfl⟩)
        go_ret3
        rw [HF.out]
        exact ⟨rfl,rfl⟩
     · have hS':=hS.more (v':=Z) hl10 (by rw [HL.out]; exact hlm) (by rw [← HX.out]; omega) (fun hk9=>by rw [HZ.out,← HX.out]; exact (orS_step hz'.out hk9).1)
       have hZ':Hid (k+1<10→Z<128 ^ (k+1)):=fun hk9=>by rw [HZ.out]; exact (orS_step hz'.out (by omega)).2
       clear hS
       go_wp2
       go_round
       case rel=>exact ⟨k+1,Z,rfl,by go_num,by omega,by omega,hZ'.out,hS'⟩
       case measure=>simp [intOf]; omega
   · have hkk:k=min r.length 10:=by rw [HL.out]; omega
     have hfin:=hS.end_ hk10 hkk
     rw [HL.out] at hfin
     have HF:=Lib_hid hfin
     clear hkk hfin hS hz
     by_cases h10:10≤m
     · have HG:Hid (getS l a=(0,0,10)):=by unfold Hid; rw [HR.out,HF.out,if_pos h10]; rfl
       obtain rfl:k=10:=by omega
       go_wp2
       go_ret3
       rw [HG.out]
       exact ⟨rfl,rfl⟩
     · have HG:Hid (getS l a=(0,0,4)):=by unfold Hid; rw [HR.out,HF.out,if_neg h10]; rfl
       first
       | (exfalso; omega)
       | (obtain rfl:k=m:=by omega
          go_wp2
          go_ret3
          rw [HG.out]
          exact ⟨rfl,rfl⟩)
theorem get_any (B:Nat) (A:Option Addr) (n c:Nat) (l:List Nat) (a:Int) (w:World) (h:Rd w B 1 A n (bs l)) (hb:∀ x∈l,x<256) (hn:n≤c) (hc:c≤9223372036854775807) :
 Calls Tryz.prog 112 #[.slice A n c,.int .i64 a] w fun e w'=>e=.returned (tup (getS l a))∧w=w':=by
 have hl:=h.count
 by_cases ho:a<0∨(n:Int)<a
 · have e:getS l a=(0,0,2):=by unfold getS; rw [hl,if_pos ho]
   rw [e]
   exact get_out A n c a w ho
 · obtain ⟨k,rfl⟩:∃ k:Nat,a=k:=⟨a.toNat,by omega⟩
   exact get_in B A n c l k w h hb hn hc (by omega)
end Go.Proofs.YtinmoknbgnngcaaGreatDoor
