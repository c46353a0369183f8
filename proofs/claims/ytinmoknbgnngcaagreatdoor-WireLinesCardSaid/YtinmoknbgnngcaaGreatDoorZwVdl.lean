/-
  Layer 5: the document's Line.
-/
import Derived.Test.YtinmoknbgnngcaaGreatDoorZwVdc
import Derived.Test.YtinmoknbgnngcaaGreatDoorZwVtx
import Derived.Test.YtinmoknbgnngcaaGreatDoorZwTdy
namespace Go.Proofs.YtinmoknbgnngcaaGreatDoor
open Go Go.RowKit
set_option linter.unusedVariables false
def DEnd (o:Rc×Nat) (w:World) (e:Ending) (w':World):Prop:=
 ∃ r:Rv,e=.returned (.tuple #[r.val,.int .i64 (o.2:Int)])∧r.abs=o.1∧RLies w' w.heap.size w'.heap.size r∧Below w.heap.size w w'
structure DLn (w:World) (b:Nat) (L:List (List UInt8)) (g:Nat) (r:Rv) (W:World):Prop where
 out:W.heap[w.heap.size]? = some (.cells #[.int .i64 0,.int .u64 0,.int .u64 0,.int .u64 0,.int .u64 0,.int .u64 0,.int .i64 0,.int .u64 0,.int .u64 0,.slice none 0 0,.slice none 0 0] 60 (0,0))
 box:W.heap[g]? = some (.cells r.arr 60 (0,0))
 gl:w.heap.size<g
 bl:b<g
 wds:∀ (i:Nat) (x:List UInt8),L[i]? = some x→W.cell? ⟨b,i,none⟩=some (.string ⟨x.toArray⟩)
 lies:RLies W (g+1) W.heap.size r
 shp:Shp 57 W (g+1) r.p
 own:W.ownsRow (g+1) 120 4 (.slice r.A r.es.length r.c) r.es.length (enCells r.es)
 below:Below w.heap.size w W
section
variable {w W W':World} {b g:Nat} {L:List (List UInt8)} {r r':Rv}
theorem DLn.under (h:DLn w b L g r W) (hb:Below W.heap.size W W'):DLn w b L g r W':=by
 have h1:=lt_of_block h.box
 have h2:=h.bl
 exact ⟨(hb.block _ (lt_of_block h.out)).trans h.out,(hb.block _ h1).trans h.box,h.gl,h.bl,fun i x hx=>(World.cell?_of_block (hb.block b (by omega))).trans (h.wds i x hx),
  (h.lies.under hb).more (Nat.le_refl _) hb.size,h.shp.under hb,own_below h.own hb (own_lt h.own),h.below.trans (hb.mono h.below.size)⟩
theorem DLn.change (h:DLn w b L g r W) (hG:Grow2 W W' g g) (hbox:W'.heap[g]? = some (.cells r'.arr 60 (0,0))) (hl:RLies W (g+1) W.heap.size r')
 (hs:Shp 57 W (g+1) r'.p) (ho:W.ownsRow (g+1) 120 4 (.slice r'.A r'.es.length r'.c) r'.es.length (enCells r'.es)):DLn w b L g r' W':=by
 have h1:=lt_of_block h.box
 have h2:=h.bl
 have h3:=h.gl
 have h4:=h.below.size
 exact ⟨(hG.block _ (by omega) (by omega) (by omega)).trans h.out,hbox,h.gl,h.bl,fun i x hx=>(World.cell?_of_block (hG.block b (by omega) (by omega) (by omega))).trans (h.wds i x hx),
  hl.grow2 hG (by omega) (by omega) (Nat.le_refl _),hs.keep fun k k1 k2=>hG.block k k2 (by omega) (by omega),
  own_keep ho fun k hk=>hG.block k (own_lt ho k hk) (by have:=own_ge ho k hk; omega) (by have:=own_ge ho k hk; omega),h.below.trans (hG.below (by omega) (by omega) (by omega))⟩
theorem DLn.num (h:DLn w b L g r W) (i:Nat) (v:Value) (r':Rv) (harr:r.arr.setIfInBounds i v=r'.arr) (hp:r'.p=r.p∧r'.A=r.A∧r'.c=r.c∧r'.es=r.es) (hk : -9223372036854775808≤r'.kind∧r'.kind≤9223372036854775807)
 (ht:r'.t<18446744073709551616) (hx:r'.x<18446744073709551616) (hw:r'.w<18446744073709551616) (hn:r'.n<18446744073709551616) (hv:r'.v<18446744073709551616):DLn w b L g r' (W.setCell ⟨g,i,none⟩ v):=by
 obtain ⟨k',t',x',w',n',v',p',A',c',es'⟩:=r'
 obtain ⟨k,t,x,wn,n,vv,p,A,c,es⟩:=r
 simp only at hp hk ht hx hw hn hv
 obtain ⟨rfl,rfl,rfl,rfl⟩:=hp
 exact h.change (Grow2.set W g g i v) ((heap_setCell_same W g i _ _ v h.box).trans (by rw [harr]))
  ⟨hk,by show (t':Int)≤_; omega,by show (x':Int)≤_; omega,by show (w':Int)≤_; omega,by show (n':Int)≤_; omega,by show (v':Int)≤_; omega,h.lies.p,h.lies.es,h.lies.cap,h.lies.ok,h.lies.lo⟩ h.shp h.own
theorem DLn.setX (h:DLn w b L g r W) {y:Nat} (hy:y<18446744073709551616):DLn w b L g {r with x:=y} (W.setCell ⟨g,2,none⟩ (.int .u64 (y:Int))):=
 h.num 2 _ _ rfl ⟨rfl,rfl,rfl,rfl⟩ h.lies.kind (by have:=h.lies.t; show r.t<_; omega) hy (by have:=h.lies.wn; show r.w<_; omega) (by have:=h.lies.n; show r.n<_; omega) (by have:=h.lies.v; show r.v<_; omega)
theorem DLn.setW (h:DLn w b L g r W) {y:Nat} (hy:y<18446744073709551616):DLn w b L g {r with w:=y} (W.setCell ⟨g,3,none⟩ (.int .u64 (y:Int))):=
 h.num 3 _ _ rfl ⟨rfl,rfl,rfl,rfl⟩ h.lies.kind (by have:=h.lies.t; show r.t<_; omega) (by have:=h.lies.x; show r.x<_; omega) hy (by have:=h.lies.n; show r.n<_; omega) (by have:=h.lies.v; show r.v<_; omega)
theorem DLn.setN (h:DLn w b L g r W) {y:Nat} (hy:y<18446744073709551616):DLn w b L g {r with n:=y} (W.setCell ⟨g,4,none⟩ (.int .u64 (y:Int))):=
 h.num 4 _ _ rfl ⟨rfl,rfl,rfl,rfl⟩ h.lies.kind (by have:=h.lies.t; show r.t<_; omega) (by have:=h.lies.x; show r.x<_; omega) (by have:=h.lies.wn; show r.w<_; omega) hy (by have:=h.lies.v; show r.v<_; omega)
theorem DLn.setV (h:DLn w b L g r W) {y:Nat} (hy:y<18446744073709551616):DLn w b L g {r with v:=y} (W.setCell ⟨g,5,none⟩ (.int .u64 (y:Int))):=
 h.num 5 _ _ rfl ⟨rfl,rfl,rfl,rfl⟩ h.lies.kind (by have:=h.lies.t; show r.t<_; omega) (by have:=h.lies.x; show r.x<_; omega) (by have:=h.lies.wn; show r.w<_; omega) (by have:=h.lies.n; show r.n<_; omega) hy
theorem DLn.pred (h:DLn w b L g r W) (u:V) (hu:Lies W (g+1) W.heap.size u) (hS:Shp 57 W (g+1) u) :
 DLn w b L g {r with p:=u} ((((W.setCell ⟨g,6,none⟩ (.int .i64 u.kind)).setCell ⟨g,7,none⟩ (.int .u64 (u.a:Int))).setCell ⟨g,8,none⟩ (.int .u64 (u.b:Int))).setCell ⟨g,9,none⟩ u.sl):=by
 have e1:=heap_setCell_same W g 6 _ _ (.int .i64 u.kind) h.box
 have e2:=heap_setCell_same _ g 7 _ _ (.int .u64 (u.a:Int)) e1
 have e3:=heap_setCell_same _ g 8 _ _ (.int .u64 (u.b:Int)) e2
 have e4:=heap_setCell_same _ g 9 _ _ u.sl e3
 exact h.change ((((Grow2.set W g g 6 _).trans (Grow2.set _ g g 7 _)).trans (Grow2.set _ g g 8 _)).trans (Grow2.set _ g g 9 _)) e4
  ⟨h.lies.kind,h.lies.t,h.lies.x,h.lies.wn,h.lies.n,h.lies.v,hu,h.lies.es,h.lies.cap,h.lies.ok,h.lies.lo⟩ hS h.own
theorem DLn.cell (h:DLn w b L g r W) (i:Nat) (v:Value) (hv:r.arr[i]? = some v):W.cell? ⟨g,i,none⟩=some v:=(cell_of_row W g i _ _ _ h.box).trans hv
theorem DLn.app {k:Int} {t x wn n v c c':Nat} {u:V} {A A':Option Addr} {es:List En} (h:DLn w b L g ⟨k,t,x,wn,n,v,u,A,c,es⟩ W) (en:En) (ok:en.ok) {W7:World}
 (hown':W7.ownsRow (g+1) 120 4 (.slice A' (es.length+1) c') (es.length+1) (enCells es ++ en.cells)) (hst:Stp W W7 (.slice A es.length c) (.slice A' (es.length+1) c')) :
 W7.heap[g]? = some (.cells (Rv.arr ⟨k,t,x,wn,n,v,u,A,c,es⟩) 60 (0,0))∧DLn w b L g ⟨k,t,x,wn,n,v,u,A',c',(es ++ [en])⟩ (W7.setCell ⟨g,10,none⟩ (.slice A' (es.length+1) c')):=by
 have ho6:W.ownsRow (g+1) 120 4 (.slice A es.length c) es.length (enCells es):=h.own
 have hge:=own_ge ho6
 have hg6:W.heap[g]? = some (.cells (Rv.arr ⟨k,t,x,wn,n,v,u,A,c,es⟩) 60 (0,0)):=h.box
 have hgl:=h.gl
 have hbl:=h.bl
 have hlg:=lt_of_block hg6
 have hbs:=h.below.size
 have hg7:=(hst.grow.block g hlg (fun e=>by have:=hge g e.symm; omega)).trans hg6
 refine ⟨hg7,?_⟩
 have hlen:(es ++ [en]).length=es.length+1:=by simp
 have hec:enCells (es ++ [en])=enCells es ++ en.cells:=by rw [enCells_append]; simp [enCells]
 obtain ⟨W8,hW8⟩:∃ W8,W8=W7.setCell ⟨g,10,none⟩ (.slice A' (es.length+1) c'):=⟨_,rfl⟩
 have R2:=heap_setCell_same W7 g 10 _ _ (.slice A' (es.length+1) c') hg7
 have hel:∀ j,j≠g→W8.heap[j]? = W7.heap[j]?:=fun j hj=>by rw [hW8]; exact heap_setCell_other W7 ⟨g,10,none⟩ j _ hj
 have hsz8:W8.heap.size=W7.heap.size:=by rw [hW8]; simp
 have hsg:=hst.grow.size
 have hbel:Below w.heap.size w W8:=by
  rw [hW8]
  exact (h.below.trans (hst.below (B:=w.heap.size) (by omega) (fun j hj=>by have:=hge j hj; omega))).setCell (p:=⟨g,10,none⟩) (by show w.heap.size≤g; omega) _
 rw [← hW8] at R2 ⊢
 clear hW8
 have hkeep:∀ g',g'<W.heap.size→g'≠g→(Value.slice A es.length c).ownBlock≠some g'→W8.heap[g']? = W.heap[g']?:=fun g' h1 h2 h3=>(hel g' h2).trans (hst.grow.block g' h1 (fun e=>h3 e.symm))
 have hlow:∀ g',g'<g→W8.heap[g']? = W.heap[g']?:=fun g' h1=>hkeep g' (by omega) (by omega) (fun e=>by have:=hge g' e; omega)
 have hAS:∀ (g':Nat) (arr:Array Value),W.heap[g']? = some (Obj.cells arr 57 (0,0))→W8.heap[g']? = W.heap[g']?:=fun g' arr hq=>hkeep g' (lt_of_block hq) (fun e=>by subst e; rw [hg6] at hq; injection hq with hq; injection hq with h1 h2; cases h2) (fun e=>by
  rcases ho6.2 with ⟨q,_⟩ | ⟨g2,cp,cur,q,_,hh,_⟩
  · injection q with q; subst q; cases e
  · injection q with q1 q2 q3
    subst q1
    have:g2=g':=by injection e
    subst this
    rw [hq] at hh
    injection hh with hh
    injection hh with h1 h2
    cases h2)
 have hne7:∀ j,(Value.slice A' (es.length+1) c').ownBlock=some j→j≠g:=fun j hj e=>by have:=own_ge hown' j hj; omega
 have hown8:W8.ownsRow (g+1) 120 4 (.slice A' (es ++ [en]).length c') (es ++ [en]).length (enCells (es ++ [en])):=by
  rw [hlen,hec]
  exact own_keep hown' fun j hj=>hel j (hne7 j hj)
 have hp:Lies W8 (g+1) W8.heap.size u:=(h.lies.p.aside h.shp hAS).more (Nat.le_refl _) (by omega)
 refine ⟨(hlow _ hgl).trans h.out,?_,h.gl,h.bl,fun i y hy=>(World.cell?_of_block (hlow b hbl)).trans (h.wds i y hy),⟨h.lies.kind,h.lies.t,h.lies.x,h.lies.wn,h.lies.n,h.lies.v,hp,Rd.own hown8,own_cap hown8,?_,?_⟩,h.shp.aside2 hAS,hown8,hbel⟩
 · unfold Rv.arr Rv.sl
   simp only [hlen]
   exact R2
 · intro e he
   rcases List.mem_append.1 he with he | he
   · exact h.lies.ok e he
   · obtain rfl:e=en:=by simpa using he
     exact ok
 · intro ad e hn
   obtain ⟨gg,cp,hv,hgg,_⟩:=hown8.form hn
   have hA:A'=some ⟨gg,0,none⟩:=by injection hv
   have e:A'=some ad:=e
   rw [hA] at e
   injection e with e
   subst e
   exact own_ge hown8 gg (by rw [hA]; rfl)
theorem DLn.bad (h1:Below w.heap.size w W) (h2:W.heap[w.heap.size]? = some (.cells #[.int .i64 0,.int .u64 0,.int .u64 0,.int .u64 0,.int .u64 0,.int .u64 0,.int .i64 0,.int .u64 0,.int .u64 0,.slice none 0 0,.slice none 0 0] 60 (0,0))) :
 DEnd (Rc.zero 0,50) w (.returned (.tuple #[.agg #[.int .i64 0,.int .u64 0,.int .u64 0,.int .u64 0,.int .u64 0,.int .u64 0,.int .i64 0,.int .u64 0,.int .u64 0,.slice none 0 0,.slice none 0 0],.int .i64 50])) (put11 W w.heap.size (.int .i64 0) (.int .u64 0) (.int .u64 0) (.int .u64 0) (.int .u64 0) (.int .u64 0) (.int .i64 0) (.int .u64 0) (.int .u64 0) (.slice none 0 0) (.slice none 0 0))∧(put11 W w.heap.size (.int .i64 0) (.int .u64 0) (.int .u64 0) (.int .u64 0) (.int .u64 0) (.int .u64 0) (.int .i64 0) (.int .u64 0) (.int .u64 0) (.slice none 0 0) (.slice none 0 0)).heap[w.heap.size]? = some (.cells #[.int .i64 0,.int .u64 0,.int .u64 0,.int .u64 0,.int .u64 0,.int .u64 0,.int .i64 0,.int .u64 0,.int .u64 0,.slice none 0 0,.slice none 0 0] 60 (0,0)):=by
 refine ⟨?_,put11_row _ _ _ _ _ _ _ _ _ _ _ h2⟩
 exact ⟨⟨0,0,0,0,0,0,.node 0 0 0 none 0 [],none,0,[]⟩,rfl,abs_zero 0,rlies_zero _ _ _ 0 (by omega),h1.trans ((put11_grow _ _ _ _ _ _ _ _ _ _ _ W w.heap.size).below h1.size (Nat.le_refl _) (Nat.le_refl _))⟩
theorem DLn.good (h:DLn w b L g r W):DEnd (r.abs,0) w (.returned (.tuple #[r.val,.int .i64 0])) (put11 W w.heap.size (.int .i64 r.kind) (.int .u64 (r.t:Int)) (.int .u64 (r.x:Int)) (.int .u64 (r.w:Int)) (.int .u64 (r.n:Int)) (.int .u64 (r.v:Int)) (.int .i64 r.p.kind) (.int .u64 (r.p.a:Int)) (.int .u64 (r.p.b:Int)) r.p.sl r.sl):=by
 have h3:=h.gl
 have hGG:=put11_grow (.int .i64 r.kind) (.int .u64 (r.t:Int)) (.int .u64 (r.x:Int)) (.int .u64 (r.w:Int)) (.int .u64 (r.n:Int)) (.int .u64 (r.v:Int)) (.int .i64 r.p.kind) (.int .u64 (r.p.a:Int)) (.int .u64 (r.p.b:Int)) r.p.sl r.sl W (g:=w.heap.size) w.heap.size
 exact ⟨r,rfl,rfl,(h.lies.grow2 hGG (by omega) (by omega) (Nat.le_refl _)).more (by omega) (Nat.le_refl _),h.below.trans (hGG.below h.below.size (Nat.le_refl _) (Nat.le_refl _))⟩
theorem DLn.good2 (h:DLn w b L g r W) {o:Option Rc} (ho:o=some r.abs):DEnd (ansR o) w (.returned (.tuple #[r.val,.int .i64 0])) (put11 W w.heap.size (.int .i64 r.kind) (.int .u64 (r.t:Int)) (.int .u64 (r.x:Int)) (.int .u64 (r.w:Int)) (.int .u64 (r.n:Int)) (.int .u64 (r.v:Int)) (.int .i64 r.p.kind) (.int .u64 (r.p.a:Int)) (.int .u64 (r.p.b:Int)) r.p.sl r.sl):=by
 subst ho
 exact h.good
end
theorem readT_count {s:List UInt8} {t:T} (h:readT s=some t):t.count≤s.length:=by
 unfold readT at h
 cases h8:rdS 8 s with
 | none=>rw [h8] at h; cases h
 | some q=>
  obtain ⟨t',r⟩:=q
  rw [h8] at h
  cases r with
  | nil=>
   have h2:=rdS_count 8 s _ _ h8
   simp only at h
   split at h
   · injection h with h
     subst h
     simpa using h2
   · cases h
  | cons b r=>cases h
theorem dline_ret {Q:Ending→World→Prop} {W:World} {h0:Nat} {z:Int} {x0 x1 x2 x3 x4 x5 x6 x7 x8 x9 x10:Value} (HR:W.heap[h0]? = some (.cells #[x0,x1,x2,x3,x4,x5,x6,x7,x8,x9,x10] 60 (0,0)))
 (HF:Q (.returned (.tuple #[.agg #[x0,x1,x2,x3,x4,x5,x6,x7,x8,x9,x10],.int .i64 z])) W)
 (tmps:Array Value) (h2:tmps.getD 2 undef=.pointer (some ⟨h0,0,none⟩)) (h3:tmps.getD 3 undef=.int .i64 z):bodyPost Tryz.prog Tryz.f46 Q .ret {tmps:=tmps,defers:=[]} W:=by
 rw [Array.getD_eq_getD_getElem?] at h2 h3
 obtain ⟨d0,d1,d2,d3,d4,d5,d6,d7,d8,d9,d10⟩:=rec_cells HR
 exact bodyPost_ret (v:=.tuple #[.agg #[x0,x1,x2,x3,x4,x5,x6,x7,x8,x9,x10],.int .i64 z]) (by simp [results,Tryz.results46,go_sem,h2,h3,d0,d1,d2,d3,d4,d5,d6,d7,d8,d9,d10]) rfl HF
theorem add_zero0 (b i:Nat):(⟨b,0,none⟩:Addr).add i=⟨b,i,none⟩:=by unfold Addr.add; split <;> simp_all
set_option maxRecDepth 100000 in
set_option maxHeartbeats 6400000 in
theorem dline5_any (s:List UInt8) (w:World) (hl:s.length≤900) :
 Calls Tryz.prog 46 #[.string ⟨s.toArray⟩] w (DEnd (ansR (lineD s)) w):=by
 obtain ⟨i0,hi0,hz0,hz1,hz2⟩:=info_parts Tryz.infoE5
 have hw1:=heap_alloc_new w (.cells #[.int .i64 0,.int .u64 0,.int .u64 0,.int .u64 0,.int .u64 0,.int .u64 0,.int .i64 0,.int .u64 0,.int .u64 0,.slice none 0 0,.slice none 0 0] 60)
 have hb1:=below_new w (.cells #[.int .i64 0,.int .u64 0,.int .u64 0,.int .u64 0,.int .u64 0,.int .u64 0,.int .i64 0,.int .u64 0,.int .u64 0,.slice none 0 0,.slice none 0 0] 60)
 have hs1:(w.alloc (.cells #[.int .i64 0,.int .u64 0,.int .u64 0,.int .u64 0,.int .u64 0,.int .u64 0,.int .i64 0,.int .u64 0,.int .u64 0,.slice none 0 0,.slice none 0 0] 60)).heap.size > w.heap.size:=by simp
 have CU:=rcuts_any s 32 (w.alloc (.cells #[.int .i64 0,.int .u64 0,.int .u64 0,.int .u64 0,.int .u64 0,.int .u64 0,.int .i64 0,.int .u64 0,.int .u64 0,.slice none 0 0,.slice none 0 0] 60)) (by omega)
 have HLM:Hid (∀ x∈cutsL 32 s,x.length≤900):=fun x hx=>by have:=cutsL_mem 32 s x hx; omega
 have hLn:=cutsL_len 32 s
 have hLne:=cutsL_ne 32 s
 have HLD:Hid (lineD s=if kindL ((cutsL 32 s).getD 0 [])=0∨(cutsL 32 s).length<manyN (kindL ((cutsL 32 s).getD 0 []))∨(kindL ((cutsL 32 s).getD 0 [])≠5∧manyN (kindL ((cutsL 32 s).getD 0 []))<(cutsL 32 s).length) then none
  else (looseL (kindL ((cutsL 32 s).getD 0 [])) (cutsL 32 s)).bind fun r=>if r.text=s then some r else none):=rfl
 have HSP:Hid (((32:UInt8).toNat:Int)=32):=rfl
 generalize lineD s=o at *
 generalize cutsL 32 s=L at *
 have hlen0:0<L.length:=List.length_pos_iff.2 hLne
 obtain ⟨l0,HL0⟩:∃ l0,Hid (L[0]? = some l0):=⟨_,List.getElem?_eq_getElem hlen0⟩
 have e0:L.getD 0 []=l0:=by rw [List.getD_eq_getElem?_getD,HL0.out]; rfl
 rw [e0] at HLD
 clear e0 hLne
 have hK7:=kindL_le l0
 have HKN:Hid (kindL l0≠0→l0=nameL (kindL l0:Nat)):=fun h=>kindL_name h
 have HKO:Hid (∀ k:Nat,1≤k→k≤7→nameL (k:Int)=l0→kindL l0=k):=fun k h1 h2 h=>by rw [← h]; exact kindL_of h1 h2
 generalize kindL l0=K at *
 go_enter Tryz.func46,Tryz.ntmps46
 go_upto_region 1 with (fail)
 generalize w.alloc (.cells #[.int .i64 0,.int .u64 0,.int .u64 0,.int .u64 0,.int .u64 0,.int .u64 0,.int .i64 0,.int .u64 0,.int .u64 0,.slice none 0 0,.slice none 0 0] 60)=w1 at *
 go_wp2_with fail
 refine CU.mono ?_
 rintro e w2 ⟨A,cap,rfl,hown,hb2⟩
 obtain ⟨b,cap',hv,hgg,hgl⟩:=hown.form hlen0
 injection hv with hv1 hv2 hv3
 subst hv1 hv3
 have hD3:DLn w b L w2.heap.size ⟨0,0,0,0,0,0,.node 0 0 0 none 0 [],none,0,[]⟩ (w2.alloc (.cells #[.int .i64 0,.int .u64 0,.int .u64 0,.int .u64 0,.int .u64 0,.int .u64 0,.int .i64 0,.int .u64 0,.int .u64 0,.slice none 0 0,.slice none 0 0] 60)):=by
  have hb3:=below_new w2 (.cells #[.int .i64 0,.int .u64 0,.int .u64 0,.int .u64 0,.int .u64 0,.int .u64 0,.int .i64 0,.int .u64 0,.int .u64 0,.slice none 0 0,.slice none 0 0] 60)
  have hs2:=hb2.size
  exact ⟨(hb3.block _ (by omega)).trans ((hb2.block _ (lt_of_block hw1)).trans hw1),heap_alloc_new w2 _,by omega,hgl,
   fun i x hx=>(World.cell?_of_block (hb3.block b (by omega))).trans (by have:=hown.cells (g:=b) rfl i (.string ⟨x.toArray⟩) (by unfold strs; rw [List.getElem?_map,hx]; rfl); rw [add_zero0] at this; exact this),
   rlies_zero _ _ _ 0 (by omega),zero_shp _ _ _,World.ownsRow_nil _ _ _ _,(hb1.trans (hb2.mono hb1.size)).trans (hb3.mono (by omega))⟩
 have HD3:=Lib_hid hD3
 clear hD3 hown hv2 CU hb2 hb1 hw1 hs1 hgg hgl
 go_upto_region 3 with (fail)
 generalize w2.alloc (.cells #[.int .i64 0,.int .u64 0,.int .u64 0,.int .u64 0,.int .u64 0,.int .u64 0,.int .i64 0,.int .u64 0,.int .u64 0,.slice none 0 0,.slice none 0 0] 60)=w3 at *
 generalize w2.heap.size=gr at *
 go_wp2
 go_loopw [6] (fun z wr=>∃ j:Nat,z=.int .i64 j∧1≤j∧j≤8∧Hid (DLn w b L gr ⟨((if K<j then K else 0:Nat):Int),0,0,0,0,0,.node 0 0 0 none 0 [],none,0,[]⟩ wr)) (fun z _=>8 - (intOf z).toNat)
 case atStart=>exact ⟨1,rfl,by omega,by omega,by unfold Hid; rw [show (if K<1 then K else 0:Nat)=0 by split <;> omega]; exact HD3.out⟩
 case round=>
  clear HD3
  obtain ⟨j,rfl,hi1,hi8,hD4⟩:=hrel
  by_cases hlt:j<8
  · have hli:(j:Int)<8:=by omega
    have HWV:=Lib_hid (wordsV_at hlt)
    obtain ⟨eqb,HEB,HQ⟩:∃ eqb:Bool,Hid (eqb=(nameL (j:Int) == l0))∧Hid ((eqb=true∧K=j)∨(eqb=false∧K≠j)):=by
     refine ⟨_,rfl,?_⟩
     by_cases hq:nameL (j:Int)=l0
     · exact .inl ⟨by simpa using hq,HKO.out j hi1 (by omega) hq⟩
     · exact .inr ⟨by simpa using hq,fun e=>hq (by rw [HKN.out (by omega),e])⟩
    go_wp2
    refine wp_region_mid (N:=145) (fun i v ww=>([fun v ww=>∃ g,v=.slice (some ⟨g,0,none⟩) 8 8∧ww.heap[g]? = some (.cells wordsV 9 (0,0)),fun v ww=>v=.int .i64 (j:Int),fun v ww=>∃ g,v=.pointer (some ⟨g,j,none⟩)∧ww.heap[g]? = some (.cells wordsV 9 (0,0)),fun v ww=>v=.string ⟨(nameL (j:Int)).toArray⟩,fun v ww=>v=.slice (some ⟨b,0,none⟩) L.length cap,fun v ww=>v=.pointer (some ⟨b,0,none⟩),fun v ww=>v=.string ⟨l0.toArray⟩,fun v ww=>v=.bool eqb]:List (Value→World→Prop)).getD i (fun _ _=>True) v ww) (by kernel_rfl) (by kernel_rfl) rfl ?_ ?_ ?_
    · intro i v wa wb h0 hb hp
      by_cases hi:i<8
      · have hcase:i=0∨i=1∨i=2∨i=3∨i=4∨i=5∨i=6∨i=7:=by omega
        rcases hcase with rfl | rfl | rfl | rfl | rfl | rfl | rfl | rfl
        · obtain ⟨g,e,hg⟩:=hp
          exact ⟨g,e,(hb.block g (lt_of_block hg)).trans hg⟩
        · exact hp
        · obtain ⟨g,e,hg⟩:=hp
          exact ⟨g,e,(hb.block g (lt_of_block hg)).trans hg⟩
        · exact hp
        · exact hp
        · exact hp
        · exact hp
        · exact hp
      · have hnn:([fun v ww=>∃ g,v=.slice (some ⟨g,0,none⟩) 8 8∧ww.heap[g]? = some (.cells wordsV 9 (0,0)),fun v ww=>v=.int .i64 (j:Int),fun v ww=>∃ g,v=.pointer (some ⟨g,j,none⟩)∧ww.heap[g]? = some (.cells wordsV 9 (0,0)),fun v ww=>v=.string ⟨(nameL (j:Int)).toArray⟩,fun v ww=>v=.slice (some ⟨b,0,none⟩) L.length cap,fun v ww=>v=.pointer (some ⟨b,0,none⟩),fun v ww=>v=.string ⟨l0.toArray⟩,fun v ww=>v=.bool eqb]:List (Value→World→Prop))[i]? = none:=List.getElem?_eq_none (by simpa using hi)
        rw [List.getD_eq_getElem?_getD,hnn]
        trivial
    · intro i o a wx hi hM hD
      have hi8:i<8:=(Array.getElem?_eq_some_iff.1 hi).1
      have hcase:i=0∨i=1∨i=2∨i=3∨i=4∨i=5∨i=6∨i=7:=by omega
      clear hi8
      rcases hcase with rfl | rfl | rfl | rfl | rfl | rfl | rfl | rfl
      · obtain rfl:=Option.some.inj hi
        refine ⟨rfl,mid_call (fun v w'=>(∃ g,v=.slice (some ⟨g,0,none⟩) 8 8∧w'.heap[g]? = some (.cells wordsV 9 (0,0)))∧Below wx.heap.size wx w') (fun K hK=>?_) (fun v w' h=>⟨v,rfl,h.1,h.2⟩)⟩
        go_simp
        refine (rwords5_any wx).mono ?_
        rintro e w' ⟨rfl,hr,hb',-⟩
        exact hK _ _ ⟨⟨_,rfl,hr⟩,hb'⟩
      · obtain rfl:=Option.some.inj hi
        have e6:a.tmps.getD 6 undef=.int .i64 (j:Int):=(hM.other 6 (by decide +kernel)).trans rfl
        refine ⟨rfl,mid_step (.int .i64 (j:Int)) wx (fun K hK=>?_) ⟨_,rfl,rfl,Below.refl _ _⟩⟩
        go_simp
        exact hK
      · obtain rfl:=Option.some.inj hi
        obtain ⟨g,e18,hg⟩:=hD 0 (by kernel_rfl) _ 18 rfl rfl
        have e19:a.tmps.getD 19 undef=.int .i64 (j:Int):=hD 1 (by kernel_rfl) _ 19 rfl rfl
        refine ⟨rfl,mid_step (.pointer (some ⟨g,j,none⟩)) wx (fun K hK=>?_) ⟨_,rfl,⟨g,rfl,hg⟩,Below.refl _ _⟩⟩
        go_simp
        exact hK
      · obtain rfl:=Option.some.inj hi
        obtain ⟨g,e20,hg⟩:=hD 2 (by kernel_rfl) _ 20 rfl rfl
        have dk:wx.cell? ⟨g,j,none⟩=some (.string ⟨(nameL (j:Int)).toArray⟩):=(cell_of_row wx _ j _ _ _ hg).trans HWV.out
        refine ⟨rfl,mid_step (.string ⟨(nameL (j:Int)).toArray⟩) wx (fun K hK=>?_) ⟨_,rfl,rfl,Below.refl _ _⟩⟩
        go_simp
        exact hK
      · obtain rfl:=Option.some.inj hi
        have e4:a.tmps.getD 4 undef=.slice (some ⟨b,0,none⟩) L.length cap:=(hM.other 4 (by decide +kernel)).trans rfl
        refine ⟨rfl,mid_step (.slice (some ⟨b,0,none⟩) L.length cap) wx (fun K hK=>?_) ⟨_,rfl,rfl,Below.refl _ _⟩⟩
        go_simp
        exact hK
      · obtain rfl:=Option.some.inj hi
        have e22:a.tmps.getD 22 undef=.slice (some ⟨b,0,none⟩) L.length cap:=hD 4 (by kernel_rfl) _ 22 rfl rfl
        refine ⟨rfl,mid_step (.pointer (some ⟨b,0,none⟩)) wx (fun K hK=>?_) ⟨_,rfl,rfl,Below.refl _ _⟩⟩
        go_simp
        exact hK
      · obtain rfl:=Option.some.inj hi
        have e23:a.tmps.getD 23 undef=.pointer (some ⟨b,0,none⟩):=hD 5 (by kernel_rfl) _ 23 rfl rfl
        have d0:wx.cell? ⟨b,0,none⟩=some (.string ⟨l0.toArray⟩):=(hD4.out.under hM.below).wds 0 l0 HL0.out
        refine ⟨rfl,mid_step (.string ⟨l0.toArray⟩) wx (fun K hK=>?_) ⟨_,rfl,rfl,Below.refl _ _⟩⟩
        go_simp
        exact hK
      · obtain rfl:=Option.some.inj hi
        have e21:a.tmps.getD 21 undef=.string ⟨(nameL (j:Int)).toArray⟩:=hD 3 (by kernel_rfl) _ 21 rfl rfl
        have e24:a.tmps.getD 24 undef=.string ⟨l0.toArray⟩:=hD 6 (by kernel_rfl) _ 24 rfl rfl
        refine ⟨rfl,mid_step (.bool eqb) wx (fun K hK=>?_) ⟨_,rfl,rfl,Below.refl _ _⟩⟩
        go_simp
        rw [← HEB.out]; exact hK
    · intro a wx hM hD
      obtain ⟨g0,q0,-⟩:=hD 0 (by decide) _ 18 rfl rfl
      have q1:=hD 1 (by decide) _ 19 rfl rfl
      obtain ⟨g2,q2,-⟩:=hD 2 (by decide) _ 20 rfl rfl
      have q3:=hD 3 (by decide) _ 21 rfl rfl
      have q4:=hD 4 (by decide) _ 22 rfl rfl
      have q5:=hD 5 (by decide) _ 23 rfl rfl
      have q6:=hD 6 (by decide) _ 24 rfl rfl
      have q7:=hD 7 (by decide) _ 25 rfl rfl
      have hact:=act_puts (a:=a) [(18,.slice (some ⟨g0,0,none⟩) 8 8),(19,.int .i64 (j:Int)),(20,.pointer (some ⟨g2,j,none⟩)),(21,.string ⟨(nameL (j:Int)).toArray⟩),(22,.slice (some ⟨b,0,none⟩) L.length cap),(23,.pointer (some ⟨b,0,none⟩)),(24,.string ⟨l0.toArray⟩),(25,.bool eqb)] _ hM.tmps hM.defers (by
       intro s v hm
       simp only [List.mem_cons,Prod.mk.injEq,List.not_mem_nil,or_false] at hm
       rcases hm with ⟨rfl,rfl⟩ | ⟨rfl,rfl⟩ | ⟨rfl,rfl⟩ | ⟨rfl,rfl⟩ | ⟨rfl,rfl⟩ | ⟨rfl,rfl⟩ | ⟨rfl,rfl⟩ | ⟨rfl,rfl⟩
       · exact ⟨(by show 18<145; decide),q0⟩
       · exact ⟨(by show 19<145; decide),q1⟩
       · exact ⟨(by show 20<145; decide),q2⟩
       · exact ⟨(by show 21<145; decide),q3⟩
       · exact ⟨(by show 22<145; decide),q4⟩
       · exact ⟨(by show 23<145; decide),q5⟩
       · exact ⟨(by show 24<145; decide),q6⟩
       · exact ⟨(by show 25<145; decide),q7⟩) (fun s hs=>hM.other s (by exact hs))
      rw [hact]
      have hBX:=hM.below
      clear hact hD hM q0 q1 q2 q3 q4 q5 q6 q7
      simp only [List.foldl,Act.put,List.setIfInBounds_toArray,List.set_cons_succ,List.set_cons_zero]
      have hD5:=hD4.out.under hBX
      have HD5:=Lib_hid hD5
      have y0:=frozen_of_row wx gr 0 _ _ hD5.box
      have c0:wx.cell? ⟨gr,0,none⟩=some (.int .i64 ((if K<j then K else 0:Nat):Int)):=hD5.cell 0 _ rfl
      clear hD5 hD4 hBX HWV
      rcases HQ.out with ⟨hq,hk⟩ | ⟨hq,hk⟩
      · rw [hq]
        have HD6:Hid (DLn w b L gr ⟨((if K<j+1 then K else 0:Nat):Int),0,0,0,0,0,.node 0 0 0 none 0 [],none,0,[]⟩ (wx.setCell ⟨gr,0,none⟩ (.int .i64 (j:Int)))):=by
         unfold Hid
         rw [if_pos (by omega),hk]
         exact HD5.out.num 0 _ _ rfl ⟨rfl,rfl,rfl,rfl⟩ ⟨by show (_:Int)≤(j:Int); omega,by show (j:Int)≤_; omega⟩ (by show (0:Nat)<_; omega) (by show (0:Nat)<_; omega) (by show (0:Nat)<_; omega) (by show (0:Nat)<_; omega) (by show (0:Nat)<_; omega)
        clear HD5 HQ
        go_wp2
        go_roundw
        case rel=>exact ⟨j+1,by go_num,by omega,by omega,HD6⟩
        case measure=>simp [intOf]; omega
      · rw [hq]
        have HD6:Hid (DLn w b L gr ⟨((if K<j+1 then K else 0:Nat):Int),0,0,0,0,0,.node 0 0 0 none 0 [],none,0,[]⟩ wx):=by
         unfold Hid
         rw [show (if K<j+1 then K else 0:Nat)=(if K<j then K else 0) by split <;> split <;> omega]
         exact HD5.out
        clear HD5 HQ
        go_wp2
        go_roundw
        case rel=>exact ⟨j+1,by go_num,by omega,by omega,HD6⟩
        case measure=>simp [intOf]; omega
  · obtain rfl:j=8:=by omega
    clear HKN HKO
    rw [if_pos (by omega)] at hD4
    have c0:wr.cell? ⟨gr,0,none⟩=some (.int .i64 (K:Int)):=hD4.out.cell 0 _ rfl
    have hK8:K<8:=by omega
    have hK8i:(K:Int)<8:=by omega
    have hb5:=below_new wr (.cells #[.int .i64 0,.int .i64 2,.int .i64 4,.int .i64 4,.int .i64 3,.int .i64 3,.int .i64 2,.int .i64 2] 3)
    have hg5:=heap_alloc_new wr (.cells #[.int .i64 0,.int .i64 2,.int .i64 4,.int .i64 4,.int .i64 3,.int .i64 3,.int .i64 2,.int .i64 2] 3)
    have hD5:=hD4.out.under hb5
    have dK:(#[.int .i64 0,.int .i64 2,.int .i64 4,.int .i64 4,.int .i64 3,.int .i64 3,.int .i64 2,.int .i64 2]:Array Value)[K]? = some (.int .i64 (manyN K:Nat)):=by
     have hk:K=0∨K=1∨K=2∨K=3∨K=4∨K=5∨K=6∨K=7:=by omega
     rcases hk with rfl | rfl | rfl | rfl | rfl | rfl | rfl | rfl <;> rfl
    have dcell:=(cell_of_row _ _ K _ _ _ hg5).trans dK
    have hD5c:(wr.alloc (.cells #[.int .i64 0,.int .i64 2,.int .i64 4,.int .i64 4,.int .i64 3,.int .i64 3,.int .i64 2,.int .i64 2] 3)).cell? ⟨gr,0,none⟩=some (.int .i64 (K:Int)):=hD5.cell 0 _ rfl
    have HD5:=Lib_hid hD5
    clear hD5 hD4 hb5 hg5 dK
    go_upto_region 9 with (fail)
    clear hD5c dcell c0
    generalize wr.alloc (.cells #[.int .i64 0,.int .i64 2,.int .i64 4,.int .i64 4,.int .i64 3,.int .i64 3,.int .i64 2,.int .i64 2] 3)=w5 at *
    have c0:w5.cell? ⟨gr,0,none⟩=some (.int .i64 (K:Int)):=HD5.out.cell 0 _ rfl
    generalize hmn:manyN K=mn at *
    by_cases hb0:K=0
    · have HN:Hid (o=none):=by unfold Hid; rw [HLD.out,if_pos (.inl hb0)]
      have q1:((K:Int) == 0)=true:=by simp [hb0]
      clear HLM HL0 HLD
      have hx0:=HD5.out.out
      obtain ⟨hx1,hx2⟩:=DLn.bad HD5.out.below hx0
      have HXX:Hid (DEnd (ansR o) w (.returned (.tuple #[.agg #[.int .i64 0,.int .u64 0,.int .u64 0,.int .u64 0,.int .u64 0,.int .u64 0,.int .i64 0,.int .u64 0,.int .u64 0,.slice none 0 0,.slice none 0 0],.int .i64 50])) (put11 w5 w.heap.size (.int .i64 0) (.int .u64 0) (.int .u64 0) (.int .u64 0) (.int .u64 0) (.int .u64 0) (.int .i64 0) (.int .u64 0) (.int .u64 0) (.slice none 0 0) (.slice none 0 0))):=by unfold Hid; rw [HN.out]; exact hx1
      have HYY:=Lib_hid hx2
      obtain ⟨e0,e1,e2,e3,e4,e5,e6,e7,e8,e9,e10⟩:=rec_cells hx0
      have y:=fun i=>frozen_of_row w5 w.heap.size i _ _ hx0
      have y0:=y 0
      have y1:=y 1
      have y2:=y 2
      have y3:=y 3
      have y4:=y 4
      have y5:=y 5
      have y6:=y 6
      have y7:=y 7
      have y8:=y 8
      have y9:=y 9
      have y10:=y 10
      clear hx0 hx1 hx2 y HD5 HN
      go_wp2
      show bodyPost _ _ _ _ _ (put11 w5 w.heap.size (.int .i64 0) (.int .u64 0) (.int .u64 0) (.int .u64 0) (.int .u64 0) (.int .u64 0) (.int .i64 0) (.int .u64 0) (.int .u64 0) (.slice none 0 0) (.slice none 0 0))
      generalize put11 w5 w.heap.size (.int .i64 0) (.int .u64 0) (.int .u64 0) (.int .u64 0) (.int .u64 0) (.int .u64 0) (.int .i64 0) (.int .u64 0) (.int .u64 0) (.slice none 0 0) (.slice none 0 0)=W4 at *
      exact dline_ret HYY.out HXX.out _ rfl rfl
    have q1:((K:Int) == 0)=false:=by simp [hb0]
    by_cases hb1:L.length<mn
    · have HN:Hid (o=none):=by unfold Hid; rw [HLD.out,if_pos (.inr (.inl hb1))]
      have q2:(L.length:Int)<(mn:Int):=by omega
      clear HLM HL0 HLD
      have hx0:=HD5.out.out
      obtain ⟨hx1,hx2⟩:=DLn.bad HD5.out.below hx0
      have HXX:Hid (DEnd (ansR o) w (.returned (.tuple #[.agg #[.int .i64 0,.int .u64 0,.int .u64 0,.int .u64 0,.int .u64 0,.int .u64 0,.int .i64 0,.int .u64 0,.int .u64 0,.slice none 0 0,.slice none 0 0],.int .i64 50])) (put11 w5 w.heap.size (.int .i64 0) (.int .u64 0) (.int .u64 0) (.int .u64 0) (.int .u64 0) (.int .u64 0) (.int .i64 0) (.int .u64 0) (.int .u64 0) (.slice none 0 0) (.slice none 0 0))):=by unfold Hid; rw [HN.out]; exact hx1
      have HYY:=Lib_hid hx2
      obtain ⟨e0,e1,e2,e3,e4,e5,e6,e7,e8,e9,e10⟩:=rec_cells hx0
      have y:=fun i=>frozen_of_row w5 w.heap.size i _ _ hx0
      have y0:=y 0
      have y1:=y 1
      have y2:=y 2
      have y3:=y 3
      have y4:=y 4
      have y5:=y 5
      have y6:=y 6
      have y7:=y 7
      have y8:=y 8
      have y9:=y 9
      have y10:=y 10
      clear hx0 hx1 hx2 y HD5 HN
      go_wp2
      show bodyPost _ _ _ _ _ (put11 w5 w.heap.size (.int .i64 0) (.int .u64 0) (.int .u64 0) (.int .u64 0) (.int .u64 0) (.int .u64 0) (.int .i64 0) (.int .u64 0) (.int .u64 0) (.slice none 0 0) (.slice none 0 0))
      generalize put11 w5 w.heap.size (.int .i64 0) (.int .u64 0) (.int .u64 0) (.int .u64 0) (.int .u64 0) (.int .u64 0) (.int .i64 0) (.int .u64 0) (.int .u64 0) (.slice none 0 0) (.slice none 0 0)=W4 at *
      exact dline_ret HYY.out HXX.out _ rfl rfl
    have q2:¬ (L.length:Int)<(mn:Int):=by omega
    by_cases hb2:K≠5∧mn<L.length
    · have HN:Hid (o=none):=by unfold Hid; rw [HLD.out,if_pos (.inr (.inr hb2))]
      have q3:((K:Int) != 5)=true:=by have:=hb2.1; simp; omega
      have q4:(mn:Int)<(L.length:Int):=by have:=hb2.2; omega
      clear HLM HL0 HLD
      have hx0:=HD5.out.out
      obtain ⟨hx1,hx2⟩:=DLn.bad HD5.out.below hx0
      have HXX:Hid (DEnd (ansR o) w (.returned (.tuple #[.agg #[.int .i64 0,.int .u64 0,.int .u64 0,.int .u64 0,.int .u64 0,.int .u64 0,.int .i64 0,.int .u64 0,.int .u64 0,.slice none 0 0,.slice none 0 0],.int .i64 50])) (put11 w5 w.heap.size (.int .i64 0) (.int .u64 0) (.int .u64 0) (.int .u64 0) (.int .u64 0) (.int .u64 0) (.int .i64 0) (.int .u64 0) (.int .u64 0) (.slice none 0 0) (.slice none 0 0))):=by unfold Hid; rw [HN.out]; exact hx1
      have HYY:=Lib_hid hx2
      obtain ⟨e0,e1,e2,e3,e4,e5,e6,e7,e8,e9,e10⟩:=rec_cells hx0
      have y:=fun i=>frozen_of_row w5 w.heap.size i _ _ hx0
      have y0:=y 0
      have y1:=y 1
      have y2:=y 2
      have y3:=y 3
      have y4:=y 4
      have y5:=y 5
      have y6:=y 6
      have y7:=y 7
      have y8:=y 8
      have y9:=y 9
      have y10:=y 10
      clear hx0 hx1 hx2 y HD5 HN
      go_wp2
      show bodyPost _ _ _ _ _ (put11 w5 w.heap.size (.int .i64 0) (.int .u64 0) (.int .u64 0) (.int .u64 0) (.int .u64 0) (.int .u64 0) (.int .i64 0) (.int .u64 0) (.int .u64 0) (.slice none 0 0) (.slice none 0 0))
      generalize put11 w5 w.heap.size (.int .i64 0) (.int .u64 0) (.int .u64 0) (.int .u64 0) (.int .u64 0) (.int .u64 0) (.int .i64 0) (.int .u64 0) (.int .u64 0) (.slice none 0 0) (.slice none 0 0)=W4 at *
      exact dline_ret HYY.out HXX.out _ rfl rfl
    have HLO:Hid (o=(looseL K L).bind fun r=>if r.text=s then some r else none):=by unfold Hid; rw [HLD.out,if_neg (by rintro (h | h | h) <;> contradiction)]
    have hlen2:2≤L.length:=by
     have hk:K=1∨K=2∨K=3∨K=4∨K=5∨K=6∨K=7:=by omega
     rcases hk with rfl | rfl | rfl | rfl | rfl | rfl | rfl <;> simp [manyN] at hmn <;> omega
    obtain ⟨l1,HL1⟩:∃ l1,Hid (L[1]? = some l1):=⟨_,Lib_hid (List.getElem?_eq_getElem (by omega))⟩
    clear HLD
    go_cut [52] from 33 to 51 (fun v W=>v=.bool false∧W=w5)
    case first=>
     by_cases hk5:K=5
     · have q3:((K:Int) != 5)=false:=by simp [hk5]
       clear hk5
       go_wp2_with fail
       go_meet
       exact ⟨rfl,rfl⟩
     · have q3:((K:Int) != 5)=true:=by simp; omega
       have q4:¬ (mn:Int)<(L.length:Int):=by have:=not_and.1 hb2 hk5; omega
       clear hk5
       go_wp2_with fail
       go_meet
       exact ⟨rfl,rfl⟩
    case rest=>
     obtain ⟨rfl,rfl⟩:=hcut
     have hli1:(1:Int)<(L.length:Int):=by omega
     have hl1:l1.length≤900:=HLM.out l1 (List.mem_of_getElem? HL1.out)
     have d1:=HD5.out.wds 1 l1 HL1.out
     have e1:wc.cell? ⟨gr,1,none⟩=some (.int .u64 0):=HD5.out.cell 1 _ rfl
     have y1:=frozen_of_row wc gr 1 _ _ HD5.out.box
     have hv1:=valW_lt l1
     have HD6:Hid (DLn w b L gr ⟨(K:Int),valW l1,0,0,0,0,.node 0 0 0 none 0 [],none,0,[]⟩ (wc.setCell ⟨gr,1,none⟩ (.int .u64 ((valW l1:Nat):Int)))):=
      HD5.out.num 1 _ _ rfl ⟨rfl,rfl,rfl,rfl⟩ ⟨by show (_:Int)≤(K:Int); omega,by show (K:Int)≤_; omega⟩ hv1 (by show (0:Nat)<_; omega) (by show (0:Nat)<_; omega) (by show (0:Nat)<_; omega) (by show (0:Nat)<_; omega)
     have HLV:Hid (L.getD 1 []=l1):=by unfold Hid; rw [List.getD_eq_getElem?_getD,HL1.out]; rfl
     clear hv1 HL0 HD5
     go_wp2_with fail
     refine (rvalue5_any l1 _ (by omega)).mono ?_
     rintro e w6 ⟨rfl,rfl⟩
     generalize hgt:valW l1=t at *
     have HT:=Lib_hid hgt
     clear hgt
     go_upto_region 12 with (fail)
     clear c0 d1 e1 y1 hli1
     generalize w6.setCell ⟨gr,1,none⟩ (.int .u64 (t:Int))=w7 at *
     have c0:w7.cell? ⟨gr,0,none⟩=some (.int .i64 (K:Int)):=HD6.out.cell 0 _ rfl
     go_upto_block 2 with (fail)
     go_cut [8] from 9 to 138 (fun v W=>∃ r:Rv,Hid (DLn w b L gr r W)∧Hid (looseL K L=some r.abs)∧r.p.abs.count≤1000∧r.es.length≤1000)
     case first=>
      have hmn2:(K=1∨K=6∨K=7)∨(K=2∧mn=4)∨(K=3∧mn=4)∨(K=4∧mn=3)∨(K=5∧mn=3):=by
       have hk:K=1∨K=2∨K=3∨K=4∨K=5∨K=6∨K=7:=by omega
       rcases hk with rfl | rfl | rfl | rfl | rfl | rfl | rfl <;> simp [manyN] at hmn <;> omega
      clear hmn
      rcases hmn2 with hk | ⟨hk,hm⟩ | ⟨hk,hm⟩ | ⟨hk,hm⟩ | ⟨hk,hm⟩
      · have k2:((K:Int) == 2)=false:=by simp; omega
        have k3:((K:Int) == 3)=false:=by simp; omega
        have k4:((K:Int) == 4)=false:=by simp; omega
        have k5:((K:Int) == 5)=false:=by simp; omega
        have HK:=Lib_hid hk
        clear hk
        go_wp2_with fail
        go_meet
        exact ⟨_,HD6,Lib_hid (by have hk:=HK.out; unfold looseL; rw [if_neg (by omega),if_neg (by omega),if_neg (by omega),if_neg (by omega),HLV.out,HT.out]; simp [Rv.abs,V.abs,V.absL,Rc.zero]),by show (V.node 0 0 0 none 0 []).abs.count≤1000; decide,by show (0:Nat)≤_; omega⟩
      · have k2:((K:Int) == 2)=true:=by simp; omega
        have HK:=Lib_hid hk
        have hl4:4≤L.length:=by omega
        clear hk hm
        obtain ⟨l2,HL2⟩:∃ l2,Hid (L[2]? = some l2):=⟨_,Lib_hid (List.getElem?_eq_getElem (by omega))⟩
        have HLV2:Hid (L.getD 2 []=l2):=by unfold Hid; rw [List.getD_eq_getElem?_getD,HL2.out]; rfl
        obtain ⟨l3,HL3⟩:∃ l3,Hid (L[3]? = some l3):=⟨_,Lib_hid (List.getElem?_eq_getElem (by omega))⟩
        have HLV3:Hid (L.getD 3 []=l3):=by unfold Hid; rw [List.getD_eq_getElem?_getD,HL3.out]; rfl
        have hli2:(2:Int)<(L.length:Int):=by omega
        have hll:=HLM.out l2 (List.mem_of_getElem? HL2.out)
        have d1:=HD6.out.wds 2 l2 HL2.out
        have e1:w7.cell? ⟨gr,2,none⟩=some (.int .u64 0):=HD6.out.cell 2 _ rfl
        have y1:=frozen_of_row w7 gr 2 _ _ HD6.out.box
        have HD7:Hid (DLn w b L gr ⟨(K:Int),t,valW l2,0,0,0,.node 0 0 0 none 0 [],none,0,[]⟩ (w7.setCell ⟨gr,2,none⟩ (.int .u64 ((valW l2:Nat):Int)))):=HD6.out.setX (valW_lt l2)
        clear HD6
        go_wp2_with fail
        refine (rvalue5_any l2 _ (by omega)).mono ?_
        rintro e wq ⟨rfl,rfl⟩
        generalize hgv2:valW l2=v2 at *
        have HV2:=Lib_hid hgv2
        clear hgv2
        go_upto_region 15 with (fail)
        clear d1 e1 y1 hli2 hll
        generalize wq.setCell ⟨gr,2,none⟩ (.int .u64 (v2:Int))=w8 at *
        have hli3:(3:Int)<(L.length:Int):=by omega
        have hll:=HLM.out l3 (List.mem_of_getElem? HL3.out)
        have d1:=HD7.out.wds 3 l3 HL3.out
        have VC:=rver5_any l3 w8 (by omega)
        obtain ⟨hlv1,hlv2⟩:=lverL_lt l3
        generalize hgl:lverL l3=lv at *
        have HLL:=Lib_hid hgl
        obtain ⟨va,vb⟩:=lv
        simp only at VC hlv1 hlv2
        have HVL:=Lib_hid (And.intro hlv1 hlv2)
        clear hgl hlv1 hlv2
        go_wp2_with fail
        refine VC.mono ?_
        rintro e w9 ⟨rfl,hb9⟩
        have HD8:=HD7.out.under hb9
        have e3:w9.cell? ⟨gr,3,none⟩=some (.int .u64 0):=HD8.cell 3 _ rfl
        have e4:w9.cell? ⟨gr,4,none⟩=some (.int .u64 0):=HD8.cell 4 _ rfl
        have y3:=frozen_of_row w9 gr 3 _ _ HD8.box
        have y4:=frozen_of_row w9 gr 4 _ _ HD8.box
        have HD9:Hid (DLn w b L gr ⟨(K:Int),t,v2,va,vb,0,.node 0 0 0 none 0 [],none,0,[]⟩ ((w9.setCell ⟨gr,3,none⟩ (.int .u64 (va:Int))).setCell ⟨gr,4,none⟩ (.int .u64 (vb:Int)))):=(HD8.setW HVL.out.1).setN HVL.out.2
        clear VC d1 hb9 HD7 HD8 hli3 hll
        go_wp2_with fail
        go_meet
        exact ⟨_,HD9,Lib_hid (by have hk:=HK.out; unfold looseL; rw [if_pos hk,HLV.out,HT.out,HLV2.out,HV2.out,HLV3.out,HLL.out]; subst hk; simp [Rv.abs,V.abs,V.absL,Rc.zero]),by show (V.node 0 0 0 none 0 []).abs.count≤1000; decide,by show (0:Nat)≤_; omega⟩
      · have k2:((K:Int) == 2)=false:=by simp; omega
        have k3:((K:Int) == 3)=true:=by simp; omega
        have HK:=Lib_hid hk
        have hl4:4≤L.length:=by omega
        clear hk hm
        obtain ⟨l2,HL2⟩:∃ l2,Hid (L[2]? = some l2):=⟨_,Lib_hid (List.getElem?_eq_getElem (by omega))⟩
        have HLV2:Hid (L.getD 2 []=l2):=by unfold Hid; rw [List.getD_eq_getElem?_getD,HL2.out]; rfl
        obtain ⟨l3,HL3⟩:∃ l3,Hid (L[3]? = some l3):=⟨_,Lib_hid (List.getElem?_eq_getElem (by omega))⟩
        have HLV3:Hid (L.getD 3 []=l3):=by unfold Hid; rw [List.getD_eq_getElem?_getD,HL3.out]; rfl
        have hli2:(2:Int)<(L.length:Int):=by omega
        have hll:=HLM.out l2 (List.mem_of_getElem? HL2.out)
        have d1:=HD6.out.wds 2 l2 HL2.out
        have e1:w7.cell? ⟨gr,2,none⟩=some (.int .u64 0):=HD6.out.cell 2 _ rfl
        have y1:=frozen_of_row w7 gr 2 _ _ HD6.out.box
        have HD7:Hid (DLn w b L gr ⟨(K:Int),t,valW l2,0,0,0,.node 0 0 0 none 0 [],none,0,[]⟩ (w7.setCell ⟨gr,2,none⟩ (.int .u64 ((valW l2:Nat):Int)))):=HD6.out.setX (valW_lt l2)
        clear HD6
        go_wp2_with fail
        refine (rvalue5_any l2 _ (by omega)).mono ?_
        rintro e wq ⟨rfl,rfl⟩
        generalize hgv2:valW l2=v2 at *
        have HV2:=Lib_hid hgv2
        clear hgv2
        go_upto_region 18 with (fail)
        clear d1 e1 y1 hli2 hll
        generalize wq.setCell ⟨gr,2,none⟩ (.int .u64 (v2:Int))=w8 at *
        have hli3:(3:Int)<(L.length:Int):=by omega
        have hll:=HLM.out l3 (List.mem_of_getElem? HL3.out)
        have d1:=HD7.out.wds 3 l3 HL3.out
        have e1:w8.cell? ⟨gr,5,none⟩=some (.int .u64 0):=HD7.out.cell 5 _ rfl
        have y1:=frozen_of_row w8 gr 5 _ _ HD7.out.box
        have HD8:Hid (DLn w b L gr ⟨(K:Int),t,v2,0,0,valW l3,.node 0 0 0 none 0 [],none,0,[]⟩ (w8.setCell ⟨gr,5,none⟩ (.int .u64 ((valW l3:Nat):Int)))):=HD7.out.setV (valW_lt l3)
        clear HD7
        go_wp2_with fail
        refine (rvalue5_any l3 _ (by omega)).mono ?_
        rintro e wq ⟨rfl,rfl⟩
        go_wp2_with fail
        go_meet
        exact ⟨_,HD8,Lib_hid (by have hk:=HK.out; unfold looseL; rw [if_neg (by omega),if_pos hk,HLV.out,HT.out,HLV2.out,HV2.out,HLV3.out]; subst hk; simp [Rv.abs,V.abs,V.absL,Rc.zero]),by show (V.node 0 0 0 none 0 []).abs.count≤1000; decide,by show (0:Nat)≤_; omega⟩
      · have k2:((K:Int) == 2)=false:=by simp; omega
        have k3:((K:Int) == 3)=false:=by simp; omega
        have k4:((K:Int) == 4)=true:=by simp; omega
        have HK:=Lib_hid hk
        have hl4:3≤L.length:=by omega
        clear hk hm
        obtain ⟨l2,HL2⟩:∃ l2,Hid (L[2]? = some l2):=⟨_,Lib_hid (List.getElem?_eq_getElem (by omega))⟩
        have HLV2:Hid (L.getD 2 []=l2):=by unfold Hid; rw [List.getD_eq_getElem?_getD,HL2.out]; rfl
        have hli2:(2:Int)<(L.length:Int):=by omega
        have hll:=HLM.out l2 (List.mem_of_getElem? HL2.out)
        have d1:=HD6.out.wds 2 l2 HL2.out
        have e1:w7.cell? ⟨gr,2,none⟩=some (.int .u64 0):=HD6.out.cell 2 _ rfl
        have y1:=frozen_of_row w7 gr 2 _ _ HD6.out.box
        have HD7:Hid (DLn w b L gr ⟨(K:Int),t,valW l2,0,0,0,.node 0 0 0 none 0 [],none,0,[]⟩ (w7.setCell ⟨gr,2,none⟩ (.int .u64 ((valW l2:Nat):Int)))):=HD6.out.setX (valW_lt l2)
        clear HD6
        go_wp2_with fail
        refine (rvalue5_any l2 _ (by omega)).mono ?_
        rintro e wq ⟨rfl,rfl⟩
        go_wp2_with fail
        go_meet
        exact ⟨_,HD7,Lib_hid (by have hk:=HK.out; unfold looseL; rw [if_neg (by omega),if_neg (by omega),if_pos hk,HLV.out,HT.out,HLV2.out]; subst hk; simp [Rv.abs,V.abs,V.absL,Rc.zero]),by show (V.node 0 0 0 none 0 []).abs.count≤1000; decide,by show (0:Nat)≤_; omega⟩
      · have k2:((K:Int) == 2)=false:=by simp; omega
        have k3:((K:Int) == 3)=false:=by simp; omega
        have k4:((K:Int) == 4)=false:=by simp; omega
        have k5:((K:Int) == 5)=true:=by simp; omega
        have HK:=Lib_hid hk
        have hl4:3≤L.length:=by omega
        clear hk hm
        obtain ⟨l2,HL2⟩:∃ l2,Hid (L[2]? = some l2):=⟨_,Lib_hid (List.getElem?_eq_getElem (by omega))⟩
        have HLV2:Hid (L.getD 2 []=l2):=by unfold Hid; rw [List.getD_eq_getElem?_getD,HL2.out]; rfl
        have hli2:(2:Int)<(L.length:Int):=by omega
        have hll:=HLM.out l2 (List.mem_of_getElem? HL2.out)
        have d1:=HD6.out.wds 2 l2 HL2.out
        have RDC:Calls Tryz.prog 76 #[.string ⟨l2.toArray⟩] w7 fun e w'=>∃ u:V,e=.returned (.tuple #[.agg #[.int .i64 u.kind,.int .u64 (u.a:Int),.int .u64 (u.b:Int),.slice u.addr u.parts.length u.cap],.int .i64 ((ansT (readT l2)).2:Int)])∧u.abs=(ansT (readT l2)).1∧Lies w' w7.heap.size w'.heap.size u∧Shp 57 w' w7.heap.size u∧Below w7.heap.size w7 w':=rRead_any l2 w7 hll
        have hgrw:=lt_of_block HD6.out.box
        cases hrd:readT l2 with
        | none=>
         rw [hrd,show (ansT (none:Option T)).2=40 from rfl] at RDC
         have HN:Hid (o=none):=by
          have hk:=HK.out
          unfold Hid
          rw [HLO.out]
          unfold looseL
          rw [if_neg (by omega),if_neg (by omega),if_neg (by omega),if_pos hk,HLV2.out,hrd]
          rfl
         clear hrd HLO HLM HK HLV HLV2 HT HL1 HL2
         go_wp2_with fail
         refine RDC.mono ?_
         rintro e w8 ⟨u,rfl,hua,huL,huS,hb8⟩
         have hb9:=below_new w8 (.cells #[.int .i64 u.kind,.int .u64 (u.a:Int),.int .u64 (u.b:Int),.slice u.addr u.parts.length u.cap] 57)
         have HD9:=Lib_hid ((HD6.out.under hb8).under hb9)
         clear hua huL huS hb8 hb9 HD6 RDC c0 d1
         go_upto_region 23 with (fail)
         generalize w8.alloc (.cells #[.int .i64 u.kind,.int .u64 (u.a:Int),.int .u64 (u.b:Int),.slice u.addr u.parts.length u.cap] 57)=w9 at *
         generalize u.kind=uk at *
         generalize u.addr=uA at *
         generalize u.parts.length=un at *
         generalize u.cap=uc at *
         generalize (u.a:Int)=ua at *
         generalize (u.b:Int)=ub at *
         have hx0:=HD9.out.out
         obtain ⟨hx1,hx2⟩:=DLn.bad HD9.out.below hx0
         have HXX:Hid (DEnd (ansR o) w (.returned (.tuple #[.agg #[.int .i64 0,.int .u64 0,.int .u64 0,.int .u64 0,.int .u64 0,.int .u64 0,.int .i64 0,.int .u64 0,.int .u64 0,.slice none 0 0,.slice none 0 0],.int .i64 50])) (put11 w9 w.heap.size (.int .i64 0) (.int .u64 0) (.int .u64 0) (.int .u64 0) (.int .u64 0) (.int .u64 0) (.int .i64 0) (.int .u64 0) (.int .u64 0) (.slice none 0 0) (.slice none 0 0))):=by unfold Hid; rw [HN.out]; exact hx1
         have HYY:=Lib_hid hx2
         obtain ⟨e0,e1,e2,e3,e4,e5,e6,e7,e8,e9,e10⟩:=rec_cells hx0
         have y:=fun i=>frozen_of_row w9 w.heap.size i _ _ hx0
         have y0:=y 0
         have y1:=y 1
         have y2:=y 2
         have y3:=y 3
         have y4:=y 4
         have y5:=y 5
         have y6:=y 6
         have y7:=y 7
         have y8:=y 8
         have y9:=y 9
         have y10:=y 10
         clear hx0 hx1 hx2 y HD9 HN
         go_wp2
         show bodyPost _ _ _ _ _ (put11 w9 w.heap.size (.int .i64 0) (.int .u64 0) (.int .u64 0) (.int .u64 0) (.int .u64 0) (.int .u64 0) (.int .i64 0) (.int .u64 0) (.int .u64 0) (.slice none 0 0) (.slice none 0 0))
         generalize put11 w9 w.heap.size (.int .i64 0) (.int .u64 0) (.int .u64 0) (.int .u64 0) (.int .u64 0) (.int .u64 0) (.int .i64 0) (.int .u64 0) (.int .u64 0) (.slice none 0 0) (.slice none 0 0)=W4 at *
         exact dline_ret HYY.out HXX.out _ rfl rfl
        | some p=>
         rw [hrd,show (ansT (some p)).2=0 from rfl] at RDC
         have HRD:=Lib_hid hrd
         have HPC:Hid (p.count≤1000):=by have:=readT_count hrd; unfold Hid; omega
         have HLO5:Hid (o=((lentsL (L.drop 3)).map fun es=>({Rc.zero 5 with t:=t,p:=p,es:=es}:Rc)).bind fun r=>if r.text=s then some r else none):=by
          have hk:=HK.out
          unfold Hid
          rw [HLO.out]
          unfold looseL
          rw [if_neg (by omega),if_neg (by omega),if_neg (by omega),if_pos hk,HLV2.out,hrd,HLV.out,HT.out]
          rfl
         have HLL5:Hid (∀ es,lentsL (L.drop 3)=some es→looseL K L=some {Rc.zero 5 with t:=t,p:=p,es:=es}):=fun es he=>by
          have hk:=HK.out
          unfold looseL
          rw [if_neg (by omega),if_neg (by omega),if_neg (by omega),if_pos hk,HLV2.out,hrd,HLV.out,HT.out,Option.bind_some,he]
          rfl
         clear hrd HLO
         go_wp2_with fail
         refine RDC.mono ?_
         rintro e w8 ⟨u,rfl,hua,huL,huS,hb8⟩
         have hua:u.abs=p:=hua
         have hb9:=below_new w8 (.cells #[.int .i64 u.kind,.int .u64 (u.a:Int),.int .u64 (u.b:Int),.slice u.addr u.parts.length u.cap] 57)
         have hp9:=heap_alloc_new w8 (.cells #[.int .i64 u.kind,.int .u64 (u.a:Int),.int .u64 (u.b:Int),.slice u.addr u.parts.length u.cap] 57)
         have HD9:=Lib_hid ((HD6.out.under hb8).under hb9)
         have huL9:=((huL.under hb9).more (show gr+1≤w7.heap.size from hgrw) hb9.size)
         have huS9:=(huS.under hb9).more (show gr+1≤w7.heap.size from hgrw)
         have HD10:=Lib_hid (HD9.out.pred u huL9 huS9)
         simp only [V.sl] at HD10
         have HUA:=Lib_hid hua
         clear hua huL huS hb8 hb9 HD6 RDC c0 d1 huL9 huS9 hgrw
         go_upto_region 23 with (fail)
         have HUU:=Lib_hid (rfl:u=u)
         generalize w8.alloc (.cells #[.int .i64 u.kind,.int .u64 (u.a:Int),.int .u64 (u.b:Int),.slice u.addr u.parts.length u.cap] 57)=w9 at *
         have k0:w9.cell? ⟨w8.heap.size,0,none⟩=some (.int .i64 u.kind):=cell_of_row w9 _ 0 _ _ _ hp9
         have k1:w9.cell? ⟨w8.heap.size,1,none⟩=some (.int .u64 (u.a:Int)):=cell_of_row w9 _ 1 _ _ _ hp9
         have k2':w9.cell? ⟨w8.heap.size,2,none⟩=some (.int .u64 (u.b:Int)):=cell_of_row w9 _ 2 _ _ _ hp9
         have k3':w9.cell? ⟨w8.heap.size,3,none⟩=some (.slice u.addr u.parts.length u.cap):=cell_of_row w9 _ 3 _ _ _ hp9
         obtain ⟨f0,f1,f2,f3,f4,f5,f6,f7,f8,f9,f10⟩:=rec_cells HD9.out.box
         have y:=fun i=>frozen_of_row w9 gr i _ _ HD9.out.box
         have y6:=y 6
         have y7:=y 7
         have y8:=y 8
         have y9:=y 9
         clear y hp9 HD9 f0 f1 f2 f3 f4 f5 f10
         go_upto_region 26 with (fail)
         clear k0 k1 k2' k3' f6 f7 f8 f9 y6 y7 y8 y9
         generalize (((w9.setCell ⟨gr,6,none⟩ (.int .i64 u.kind)).setCell ⟨gr,7,none⟩ (.int .u64 (u.a:Int))).setCell ⟨gr,8,none⟩ (.int .u64 (u.b:Int))).setCell ⟨gr,9,none⟩ (.slice u.addr u.parts.length u.cap)=w10 at *
         generalize (.agg #[.int .i64 u.kind,.int .u64 (u.a:Int),.int .u64 (u.b:Int),.slice u.addr u.parts.length u.cap]:Value)=uval at *
         have HD10':Hid (DLn w b L gr ⟨(K:Int),t,0,0,0,0,u,none,0,[]⟩ w10):=HD10
         clear HD10
         go_wp2
         go_loopw [10] (fun z wr2=>∃ (i:Nat) (A:Option Addr) (c:Nat) (es:List En),z=.int .i64 i∧3≤i∧i≤L.length∧Hid (es.length=i - 3)∧Hid (DLn w b L gr ⟨(K:Int),t,0,0,0,0,u,A,c,es⟩ wr2)∧Hid (lentsL ((L.drop 3).take (i - 3))=some es)) (fun z _=>L.length - (intOf z).toNat)
         case atStart=>exact ⟨3,none,0,[],rfl,by omega,by omega,rfl,HD10',rfl⟩
         case round=>
          clear HD10'
          obtain ⟨i,A,c,es,rfl,hi3,hiL,HES,HD11,HEN⟩:=hrel
          by_cases hlt:i<L.length
          · obtain ⟨x,HX⟩:∃ x,Hid (L[i]? = some x):=⟨_,Lib_hid (List.getElem?_eq_getElem hlt)⟩
            have HTK:Hid ((L.drop 3).take (i+1 - 3)=(L.drop 3).take (i - 3) ++ [x]):=by
             unfold Hid
             rw [show i+1 - 3=(i - 3)+1 by omega]
             exact take_one (by rw [List.getElem?_drop,show 3+(i - 3)=i by omega]; exact HX.out)
            have hxl:=HLM.out x (List.mem_of_getElem? HX.out)
            have hil:(i:Int)<(L.length:Int):=by omega
            have di:=HD11.out.wds i x HX.out
            have CU:=rcuts_any x 58 wr (by omega)
            have HSP2:Hid (((58:UInt8).toNat:Int)=58):=rfl
            have HLE:Hid (lentL x=if (cutsL 58 x).length=3 then some ⟨valW ((cutsL 58 x).getD 0 []),(lverL ((cutsL 58 x).getD 1 [])).1,(lverL ((cutsL 58 x).getD 1 [])).2,decide ((cutsL 58 x).getD 2 []=[49])⟩ else none):=rfl
            have HMM:Hid (∀ y∈cutsL 58 x,y.length≤900):=fun y hy=>by have:=cutsL_mem 58 x y hy; omega
            generalize cutsL 58 x=M at *
            go_wp2_with fail
            refine CU.mono ?_
            rintro e w12 ⟨A2,cap2,rfl,hown2,hb12⟩
            have HD12:=Lib_hid (HD11.out.under hb12)
            clear CU di HD11
            by_cases h3:M.length=3
            · have q3:((M.length:Int) != 3)=false:=by simp; omega
              obtain ⟨g2,cap3,hv2,hgg2,hgl2⟩:=hown2.form (by omega)
              injection hv2 with hv3 hv4 hv5
              subst hv3 hv5
              obtain ⟨m0,m1,m2,rfl⟩:∃ m0 m1 m2,M=[m0,m1,m2]:=by
               match M,h3 with
               | [m0,m1,m2],_=>exact ⟨m0,m1,m2,rfl⟩
              have HM:Hid (∀ W,Below w12.heap.size w12 W→W.cell? ⟨g2,0,none⟩=some (.string ⟨m0.toArray⟩)∧W.cell? ⟨g2,1,none⟩=some (.string ⟨m1.toArray⟩)∧W.cell? ⟨g2,2,none⟩=some (.string ⟨m2.toArray⟩)):=fun W hW=>by
               have hc:=World.cell?_of_block (a:=⟨g2,0,none⟩) (h:=hW.block g2 hgl2)
               have hc1:=World.cell?_of_block (a:=⟨g2,1,none⟩) (h:=hW.block g2 hgl2)
               have hc2:=World.cell?_of_block (a:=⟨g2,2,none⟩) (h:=hW.block g2 hgl2)
               exact ⟨hc.trans (hown2.cells (g:=g2) rfl 0 _ rfl),hc1.trans (hown2.cells (g:=g2) rfl 1 _ rfl),hc2.trans (hown2.cells (g:=g2) rfl 2 _ rfl)⟩
              have hm0:=HMM.out m0 (by simp)
              have hm1':=HMM.out m1 (by simp)
              have HLE2:Hid (lentL x=some ⟨valW m0,(lverL m1).1,(lverL m1).2,decide (m2=[49])⟩):=HLE.out
              have CV:Hid (∀ W,Calls Tryz.prog 74 #[.string ⟨m0.toArray⟩] W fun e w'=>e=.returned (.int .u64 ((valW m0:Nat):Int))∧Below W.heap.size W w'):=fun W=>(rvalue5_any m0 W (by omega)).mono fun e w' h=>⟨h.1,by rw [h.2]; exact Below.refl _ _⟩
              have CW:Hid (∀ W,Calls Tryz.prog 75 #[.string ⟨m1.toArray⟩] W fun e w'=>e=.returned (.agg #[.int .u64 (((lverL m1).1:Nat):Int),.int .u64 (((lverL m1).2:Nat):Int)])∧Below W.heap.size W w'):=fun W=>rver5_any m1 W (by omega)
              obtain ⟨em,HEM⟩:∃ em,Hid (em=(m2 == [49])):=⟨_,rfl⟩
              have HE3:Hid (decide (m2=[49])=em):=by unfold Hid; rw [HEM.out,Bool.eq_iff_iff]; simp
              rw [HE3.out] at HLE2
              have HOK0:Hid ((En.mk (valW m0) (lverL m1).1 (lverL m1).2 em).ok):=by have h:=lentL_ok HLE2.out; exact h
              generalize valW m0=ex at *
              generalize (lverL m1).1=ea at *
              generalize (lverL m1).2=eb at *
              have HOK:=HOK0
              have HTK2:Hid (lentsL ((L.drop 3).take (i+1 - 3))=some (es ++ [⟨ex,ea,eb,em⟩])):=by
               unfold Hid
               rw [HTK.out,lentsL_snoc,HEN.out,HLE2.out]
               rfl
              have hm1:es.length+1≤maxLen:=by have:=HES.out; unfold maxLen; omega
              have hm2:(es.length+1) * 32≤140737488355328:=by have:=HES.out; omega
              have hn3:([m0,m1,m2]:List (List UInt8)).length=3:=rfl
              rw [hn3] at *
              clear HLE HLE2 HTK HMM HOK0 HE3 hown2 hb12 hm0 hm1' hgg2 hgl2 HEN HX h3 hv4 hxl HLL5 HLO5
              go_upto_region 32 with (fail)
              refine wp_region_midT (N:=145) 16 (fun i v ww=>([fun v ww=>v=.pointer (some ⟨gr,10,none⟩),fun v ww=>v=.slice A es.length c,fun v ww=>v=.slice (some ⟨g2,0,none⟩) 3 cap2,fun v ww=>v=.pointer (some ⟨g2,0,none⟩),fun v ww=>v=.string ⟨m0.toArray⟩,fun v ww=>v=.int .u64 (ex:Int),fun v ww=>v=.slice (some ⟨g2,0,none⟩) 3 cap2,fun v ww=>v=.pointer (some ⟨g2,1,none⟩),fun v ww=>v=.string ⟨m1.toArray⟩,fun v ww=>v=.agg #[.int .u64 (ea:Int),.int .u64 (eb:Int)],fun v ww=>v=.slice (some ⟨g2,0,none⟩) 3 cap2,fun v ww=>v=.pointer (some ⟨g2,2,none⟩),fun v ww=>v=.string ⟨m2.toArray⟩,fun v ww=>v=.bool em,fun v ww=>v=.agg #[.int .u64 (ex:Int),.int .u64 (ea:Int),.int .u64 (eb:Int),.bool em],fun v ww=>∃ h,v=.slice (some ⟨h,0,none⟩) 1 1∧ww.heap[h]? = some (.cells #[.int .u64 (ex:Int),.int .u64 (ea:Int),.int .u64 (eb:Int),.bool em] 120 (0,0))]:List (Value→World→Prop)).getD i (fun _ _=>True) v ww) (by kernel_rfl) (by kernel_rfl) (by kernel_rfl) rfl ?_ ?_ ?_
              · intro i v wa wb h0 hb hp
                by_cases hi:i<16
                · have hcase:i=0∨i=1∨i=2∨i=3∨i=4∨i=5∨i=6∨i=7∨i=8∨i=9∨i=10∨i=11∨i=12∨i=13∨i=14∨i=15:=by omega
                  rcases hcase with rfl | rfl | rfl | rfl | rfl | rfl | rfl | rfl | rfl | rfl | rfl | rfl | rfl | rfl | rfl | rfl
                  · exact hp
                  · exact hp
                  · exact hp
                  · exact hp
                  · exact hp
                  · exact hp
                  · exact hp
                  · exact hp
                  · exact hp
                  · exact hp
                  · exact hp
                  · exact hp
                  · exact hp
                  · exact hp
                  · exact hp
                  · obtain ⟨h,e,hh⟩:=hp
                    exact ⟨h,e,(hb.block h (lt_of_block hh)).trans hh⟩
                · have hnn:([fun v ww=>v=.pointer (some ⟨gr,10,none⟩),fun v ww=>v=.slice A es.length c,fun v ww=>v=.slice (some ⟨g2,0,none⟩) 3 cap2,fun v ww=>v=.pointer (some ⟨g2,0,none⟩),fun v ww=>v=.string ⟨m0.toArray⟩,fun v ww=>v=.int .u64 (ex:Int),fun v ww=>v=.slice (some ⟨g2,0,none⟩) 3 cap2,fun v ww=>v=.pointer (some ⟨g2,1,none⟩),fun v ww=>v=.string ⟨m1.toArray⟩,fun v ww=>v=.agg #[.int .u64 (ea:Int),.int .u64 (eb:Int)],fun v ww=>v=.slice (some ⟨g2,0,none⟩) 3 cap2,fun v ww=>v=.pointer (some ⟨g2,2,none⟩),fun v ww=>v=.string ⟨m2.toArray⟩,fun v ww=>v=.bool em,fun v ww=>v=.agg #[.int .u64 (ex:Int),.int .u64 (ea:Int),.int .u64 (eb:Int),.bool em],fun v ww=>∃ h,v=.slice (some ⟨h,0,none⟩) 1 1∧ww.heap[h]? = some (.cells #[.int .u64 (ex:Int),.int .u64 (ea:Int),.int .u64 (eb:Int),.bool em] 120 (0,0))]:List (Value→World→Prop))[i]? = none:=List.getElem?_eq_none (by simpa using hi)
                  rw [List.getD_eq_getElem?_getD,hnn]
                  trivial
              · intro i o a wx hi8 hi hM hD
                have hcase:i=0∨i=1∨i=2∨i=3∨i=4∨i=5∨i=6∨i=7∨i=8∨i=9∨i=10∨i=11∨i=12∨i=13∨i=14∨i=15:=by omega
                clear hi8
                rcases hcase with rfl | rfl | rfl | rfl | rfl | rfl | rfl | rfl | rfl | rfl | rfl | rfl | rfl | rfl | rfl | rfl
                · obtain rfl:=Option.some.inj hi
                  have e5:a.tmps.getD 5 undef=.pointer (some ⟨gr,0,none⟩):=(hM.other 5 (by decide +kernel)).trans rfl
                  refine ⟨rfl,mid_step (.pointer (some ⟨gr,10,none⟩)) wx (fun K hK=>?_) ⟨_,rfl,rfl,Below.refl _ _⟩⟩
                  go_simp
                  exact hK
                · obtain rfl:=Option.some.inj hi
                  have e121:a.tmps.getD 121 undef=.pointer (some ⟨gr,10,none⟩):=hD 0 (by kernel_rfl) _ 121 rfl rfl
                  have q10:wx.cell? ⟨gr,10,none⟩=some (.slice A es.length c):=(HD12.out.under hM.below).cell 10 _ rfl
                  refine ⟨rfl,mid_step (.slice A es.length c) wx (fun K hK=>?_) ⟨_,rfl,rfl,Below.refl _ _⟩⟩
                  go_simp
                  exact hK
                · obtain rfl:=Option.some.inj hi
                  have e11:a.tmps.getD 11 undef=.slice (some ⟨g2,0,none⟩) 3 cap2:=(hM.other 11 (by decide +kernel)).trans rfl
                  refine ⟨rfl,mid_step (.slice (some ⟨g2,0,none⟩) 3 cap2) wx (fun K hK=>?_) ⟨_,rfl,rfl,Below.refl _ _⟩⟩
                  go_simp
                  exact hK
                · obtain rfl:=Option.some.inj hi
                  have e123:a.tmps.getD 123 undef=.slice (some ⟨g2,0,none⟩) 3 cap2:=hD 2 (by kernel_rfl) _ 123 rfl rfl
                  refine ⟨rfl,mid_step (.pointer (some ⟨g2,0,none⟩)) wx (fun K hK=>?_) ⟨_,rfl,rfl,Below.refl _ _⟩⟩
                  go_simp
                  exact hK
                · obtain rfl:=Option.some.inj hi
                  have e124:a.tmps.getD 124 undef=.pointer (some ⟨g2,0,none⟩):=hD 3 (by kernel_rfl) _ 124 rfl rfl
                  have q0:=(HM.out wx hM.below).1
                  refine ⟨rfl,mid_step (.string ⟨m0.toArray⟩) wx (fun K hK=>?_) ⟨_,rfl,rfl,Below.refl _ _⟩⟩
                  go_simp
                  exact hK
                · obtain rfl:=Option.some.inj hi
                  have e125:a.tmps.getD 125 undef=.string ⟨m0.toArray⟩:=hD 4 (by kernel_rfl) _ 125 rfl rfl
                  refine ⟨rfl,mid_call (fun v w'=>v=(.int .u64 (ex:Int))∧Below wx.heap.size wx w') (fun K hK=>?_) (fun v w' h=>⟨v,rfl,h.1,h.2⟩)⟩
                  go_simp
                  refine (CV.out wx).mono ?_
                  rintro e w' ⟨rfl,hb'⟩
                  exact hK _ _ ⟨rfl,hb'⟩
                · obtain rfl:=Option.some.inj hi
                  have e11:a.tmps.getD 11 undef=.slice (some ⟨g2,0,none⟩) 3 cap2:=(hM.other 11 (by decide +kernel)).trans rfl
                  refine ⟨rfl,mid_step (.slice (some ⟨g2,0,none⟩) 3 cap2) wx (fun K hK=>?_) ⟨_,rfl,rfl,Below.refl _ _⟩⟩
                  go_simp
                  exact hK
                · obtain rfl:=Option.some.inj hi
                  have e127:a.tmps.getD 127 undef=.slice (some ⟨g2,0,none⟩) 3 cap2:=hD 6 (by kernel_rfl) _ 127 rfl rfl
                  refine ⟨rfl,mid_step (.pointer (some ⟨g2,1,none⟩)) wx (fun K hK=>?_) ⟨_,rfl,rfl,Below.refl _ _⟩⟩
                  go_simp
                  exact hK
                · obtain rfl:=Option.some.inj hi
                  have e128:a.tmps.getD 128 undef=.pointer (some ⟨g2,1,none⟩):=hD 7 (by kernel_rfl) _ 128 rfl rfl
                  have q0:=(HM.out wx hM.below).2.1
                  refine ⟨rfl,mid_step (.string ⟨m1.toArray⟩) wx (fun K hK=>?_) ⟨_,rfl,rfl,Below.refl _ _⟩⟩
                  go_simp
                  exact hK
                · obtain rfl:=Option.some.inj hi
                  have e129:a.tmps.getD 129 undef=.string ⟨m1.toArray⟩:=hD 8 (by kernel_rfl) _ 129 rfl rfl
                  refine ⟨rfl,mid_call (fun v w'=>v=(.agg #[.int .u64 (ea:Int),.int .u64 (eb:Int)])∧Below wx.heap.size wx w') (fun K hK=>?_) (fun v w' h=>⟨v,rfl,h.1,h.2⟩)⟩
                  go_simp
                  refine (CW.out wx).mono ?_
                  rintro e w' ⟨rfl,hb'⟩
                  exact hK _ _ ⟨rfl,hb'⟩
                · obtain rfl:=Option.some.inj hi
                  have e11:a.tmps.getD 11 undef=.slice (some ⟨g2,0,none⟩) 3 cap2:=(hM.other 11 (by decide +kernel)).trans rfl
                  refine ⟨rfl,mid_step (.slice (some ⟨g2,0,none⟩) 3 cap2) wx (fun K hK=>?_) ⟨_,rfl,rfl,Below.refl _ _⟩⟩
                  go_simp
                  exact hK
                · obtain rfl:=Option.some.inj hi
                  have e131:a.tmps.getD 131 undef=.slice (some ⟨g2,0,none⟩) 3 cap2:=hD 10 (by kernel_rfl) _ 131 rfl rfl
                  refine ⟨rfl,mid_step (.pointer (some ⟨g2,2,none⟩)) wx (fun K hK=>?_) ⟨_,rfl,rfl,Below.refl _ _⟩⟩
                  go_simp
                  exact hK
                · obtain rfl:=Option.some.inj hi
                  have e132:a.tmps.getD 132 undef=.pointer (some ⟨g2,2,none⟩):=hD 11 (by kernel_rfl) _ 132 rfl rfl
                  have q0:=(HM.out wx hM.below).2.2
                  refine ⟨rfl,mid_step (.string ⟨m2.toArray⟩) wx (fun K hK=>?_) ⟨_,rfl,rfl,Below.refl _ _⟩⟩
                  go_simp
                  exact hK
                · obtain rfl:=Option.some.inj hi
                  have e133:a.tmps.getD 133 undef=.string ⟨m2.toArray⟩:=hD 12 (by kernel_rfl) _ 133 rfl rfl
                  refine ⟨rfl,mid_step (.bool em) wx (fun K hK=>?_) ⟨_,rfl,rfl,Below.refl _ _⟩⟩
                  go_simp
                  rw [← HEM.out]; exact hK
                · obtain rfl:=Option.some.inj hi
                  have e126:a.tmps.getD 126 undef=.int .u64 (ex:Int):=hD 5 (by kernel_rfl) _ 126 rfl rfl
                  have e130:a.tmps.getD 130 undef=.agg #[.int .u64 (ea:Int),.int .u64 (eb:Int)]:=hD 9 (by kernel_rfl) _ 130 rfl rfl
                  have e134:a.tmps.getD 134 undef=.bool em:=hD 13 (by kernel_rfl) _ 134 rfl rfl
                  have f126:=e126
                  have f130:=e130
                  have f134:=e134
                  rw [Array.getD_eq_getD_getElem?] at f126 f130 f134
                  refine ⟨rfl,mid_step (.agg #[.int .u64 (ex:Int),.int .u64 (ea:Int),.int .u64 (eb:Int),.bool em]) wx (fun K hK=>?_) ⟨_,rfl,rfl,Below.refl _ _⟩⟩
                  go_simp
                  exact hK
                · obtain rfl:=Option.some.inj hi
                  have e135:a.tmps.getD 135 undef=.agg #[.int .u64 (ex:Int),.int .u64 (ea:Int),.int .u64 (eb:Int),.bool em]:=hD 14 (by kernel_rfl) _ 135 rfl rfl
                  have f135:=e135
                  rw [Array.getD_eq_getD_getElem?] at f135
                  refine ⟨rfl,mid_step (.slice (some ⟨wx.heap.size,0,none⟩) 1 1) (wx.alloc (.cells #[.int .u64 (ex:Int),.int .u64 (ea:Int),.int .u64 (eb:Int),.bool em] 120)) (fun K hK=>?_) ⟨_,rfl,⟨_,rfl,heap_alloc_new _ _⟩,below_new _ _⟩⟩
                  go_simp
                  exact hK
              · intro a wx hM hU hD
                have q0:=hD 0 (by decide) _ 121 rfl rfl
                have q1:=hD 1 (by decide) _ 122 rfl rfl
                have q2:=hD 2 (by decide) _ 123 rfl rfl
                have q3:=hD 3 (by decide) _ 124 rfl rfl
                have q4:=hD 4 (by decide) _ 125 rfl rfl
                have q5:=hD 5 (by decide) _ 126 rfl rfl
                have q6:=hD 6 (by decide) _ 127 rfl rfl
                have q7:=hD 7 (by decide) _ 128 rfl rfl
                have q8:=hD 8 (by decide) _ 129 rfl rfl
                have q9:=hD 9 (by decide) _ 130 rfl rfl
                have q10:=hD 10 (by decide) _ 131 rfl rfl
                have q11:=hD 11 (by decide) _ 132 rfl rfl
                have q12:=hD 12 (by decide) _ 133 rfl rfl
                have q13:=hD 13 (by decide) _ 134 rfl rfl
                have q14:=hD 14 (by decide) _ 135 rfl rfl
                obtain ⟨h,e136,hh⟩:=hD 15 (by decide) _ 136 rfl rfl
                have q15:a.tmps.getD 136 undef=.slice (some ⟨h,0,none⟩) 1 1:=by assumption
                have hact:=act_puts (a:=a) [(121,.pointer (some ⟨gr,10,none⟩)),(122,.slice A es.length c),(123,.slice (some ⟨g2,0,none⟩) 3 cap2),(124,.pointer (some ⟨g2,0,none⟩)),(125,.string ⟨m0.toArray⟩),(126,.int .u64 (ex:Int)),(127,.slice (some ⟨g2,0,none⟩) 3 cap2),(128,.pointer (some ⟨g2,1,none⟩)),(129,.string ⟨m1.toArray⟩),(130,.agg #[.int .u64 (ea:Int),.int .u64 (eb:Int)]),(131,.slice (some ⟨g2,0,none⟩) 3 cap2),(132,.pointer (some ⟨g2,2,none⟩)),(133,.string ⟨m2.toArray⟩),(134,.bool em),(135,.agg #[.int .u64 (ex:Int),.int .u64 (ea:Int),.int .u64 (eb:Int),.bool em]),(136,.slice (some ⟨h,0,none⟩) 1 1)] _ hM.tmps hM.defers (by
                 intro s v hm
                 simp only [List.mem_cons,Prod.mk.injEq,List.not_mem_nil,or_false] at hm
                 rcases hm with ⟨rfl,rfl⟩ | ⟨rfl,rfl⟩ | ⟨rfl,rfl⟩ | ⟨rfl,rfl⟩ | ⟨rfl,rfl⟩ | ⟨rfl,rfl⟩ | ⟨rfl,rfl⟩ | ⟨rfl,rfl⟩ | ⟨rfl,rfl⟩ | ⟨rfl,rfl⟩ | ⟨rfl,rfl⟩ | ⟨rfl,rfl⟩ | ⟨rfl,rfl⟩ | ⟨rfl,rfl⟩ | ⟨rfl,rfl⟩ | ⟨rfl,rfl⟩
                 · exact ⟨(by show 121<145; decide),q0⟩
                 · exact ⟨(by show 122<145; decide),q1⟩
                 · exact ⟨(by show 123<145; decide),q2⟩
                 · exact ⟨(by show 124<145; decide),q3⟩
                 · exact ⟨(by show 125<145; decide),q4⟩
                 · exact ⟨(by show 126<145; decide),q5⟩
                 · exact ⟨(by show 127<145; decide),q6⟩
                 · exact ⟨(by show 128<145; decide),q7⟩
                 · exact ⟨(by show 129<145; decide),q8⟩
                 · exact ⟨(by show 130<145; decide),q9⟩
                 · exact ⟨(by show 131<145; decide),q10⟩
                 · exact ⟨(by show 132<145; decide),q11⟩
                 · exact ⟨(by show 133<145; decide),q12⟩
                 · exact ⟨(by show 134<145; decide),q13⟩
                 · exact ⟨(by show 135<145; decide),q14⟩
                 · exact ⟨(by show 136<145; decide),q15⟩) (fun s hs=>by
                   by_cases ht:s∈([137,138]:List Nat)
                   · simp only [List.mem_cons,List.not_mem_nil,or_false] at ht
                     rcases ht with rfl | rfl
                     · exact hU 137 ⟨16,_,by decide,rfl,rfl⟩
                     · exact hU 138 ⟨17,_,by decide,rfl,rfl⟩
                   · exact hM.other s fun h=>(List.mem_append.1 (show s∈([121,122,123,124,125,126,127,128,129,130,131,132,133,134,135,136]:List Nat) ++ [137,138] from h)).elim (fun h=>hs h) (fun h=>ht h))
                rw [hact]
                have hBX:=hM.below
                clear hact hD hM hU q0 q1 q2 q3 q4 q5 q6 q7 q8 q9 q10 q11 q12 q13 q14 q15
                simp only [List.foldl,Act.put,List.setIfInBounds_toArray,List.set_cons_succ,List.set_cons_zero,List.drop_succ_cons,List.drop_zero]
                have HDx:=Lib_hid (HD12.out.under hBX)
                have ho6:wx.ownsRow (gr+1) 120 4 (.slice A es.length c) es.length (enCells es):=HDx.out.own
                have hg6:=HDx.out.box
                have hr6:=rd_row (size:=4) (n:=1) (l:=[.int .u64 (ex:Int),.int .u64 (ea:Int),.int .u64 (eb:Int),.bool em]) hh rfl
                have h1c:∀ u∈([.int .u64 (ex:Int),.int .u64 (ea:Int),.int .u64 (eb:Int),.bool em]:List Value),u.oneCell'=true:=by
                 intro u hu
                 simp only [List.mem_cons,List.not_mem_nil,or_false] at hu
                 rcases hu with rfl | rfl | rfl | rfl <;> rfl
                have hs6:gr+1≤wx.heap.size:=by have:=lt_of_block hg6; omega
                clear hg6 hBX e136 HD12 HM CV CW HEM
                go_wp2_with (at_builtin; (refine wpList_app rfl _ _ 58 rfl (gr+1) 120 i0 (.agg #[.int .u64 0,.int .u64 0,.int .u64 0,.bool false]) 4 32 Tryz.underlying58 hi0 hz0 hz1 hz2 rfl (by decide) (.slice A es.length c) es.length _ rfl ho6 _ _ 1 1 _ rfl hr6 h1c hm1 hm2 hs6 ?_); intro v' w13 hown' hst; obtain ⟨A',c',rfl,_⟩:=own_form hown'; obtain ⟨hg7,hD13⟩:=HDx.out.app ⟨ex,ea,eb,em⟩ HOK.out hown' hst; have HD13:=Lib_hid hD13; have z10:w13.cell? ⟨gr,10,none⟩=some (.slice A es.length c):=cell_of_row w13 _ 10 _ _ _ hg7; have y10:=frozen_of_row w13 gr 10 _ _ hg7; clear hg7 hD13 HDx ho6 hown' hst hr6 h1c hh)
                go_roundw
                case rel=>exact ⟨i+1,A',c',es ++ [⟨ex,ea,eb,em⟩],by go_num,by omega,by omega,Lib_hid (by simp; have:=HES.out; omega),HD13,HTK2⟩
                case measure=>simp [intOf]; omega
            · have q3:((M.length:Int) != 3)=true:=by simp; omega
              have HN:Hid (o=none):=by
               unfold Hid
               have h1:lentsL ((L.drop 3).take (i+1 - 3))=none:=by
                rw [HTK.out,lentsL_snoc,HEN.out,HLE.out,if_neg h3]
                rfl
               rw [HLO5.out,lentsL_take _ h1]
               rfl
              clear hown2 hb12 HLE HMM HTK HEN HES HX h3 hxl HLL5 HLO5 HLM HLV HLV2 HL1 HL2 HT
              generalize M.length=ml at *
              have hx0:=HD12.out.out
              obtain ⟨hx1,hx2⟩:=DLn.bad HD12.out.below hx0
              have HXX:Hid (DEnd (ansR o) w (.returned (.tuple #[.agg #[.int .i64 0,.int .u64 0,.int .u64 0,.int .u64 0,.int .u64 0,.int .u64 0,.int .i64 0,.int .u64 0,.int .u64 0,.slice none 0 0,.slice none 0 0],.int .i64 50])) (put11 w12 w.heap.size (.int .i64 0) (.int .u64 0) (.int .u64 0) (.int .u64 0) (.int .u64 0) (.int .u64 0) (.int .i64 0) (.int .u64 0) (.int .u64 0) (.slice none 0 0) (.slice none 0 0))):=by unfold Hid; rw [HN.out]; exact hx1
              have HYY:=Lib_hid hx2
              obtain ⟨e0,e1,e2,e3,e4,e5,e6,e7,e8,e9,e10⟩:=rec_cells hx0
              have y:=fun i=>frozen_of_row w12 w.heap.size i _ _ hx0
              have y0:=y 0
              have y1:=y 1
              have y2:=y 2
              have y3:=y 3
              have y4:=y 4
              have y5:=y 5
              have y6:=y 6
              have y7:=y 7
              have y8:=y 8
              have y9:=y 9
              have y10:=y 10
              clear hx0 hx1 hx2 y HD12 HN
              go_wp2
              show bodyPost _ _ _ _ _ (put11 w12 w.heap.size (.int .i64 0) (.int .u64 0) (.int .u64 0) (.int .u64 0) (.int .u64 0) (.int .u64 0) (.int .i64 0) (.int .u64 0) (.int .u64 0) (.slice none 0 0) (.slice none 0 0))
              generalize put11 w12 w.heap.size (.int .i64 0) (.int .u64 0) (.int .u64 0) (.int .u64 0) (.int .u64 0) (.int .u64 0) (.int .i64 0) (.int .u64 0) (.int .u64 0) (.slice none 0 0) (.slice none 0 0)=W4 at *
              exact dline_ret HYY.out HXX.out _ rfl rfl
          · obtain rfl:i=L.length:=by omega
            have hfull:(L.drop 3).take (L.length - 3)=L.drop 3:=List.take_of_length_le (by rw [List.length_drop]; omega)
            have HFL:Hid (looseL K L=some (Rv.abs ⟨(K:Int),t,0,0,0,0,u,A,c,es⟩)):=by
             unfold Hid
             rw [HLL5.out es (by rw [← hfull]; exact HEN.out)]
             have hk:=HK.out
             subst hk
             simp [Rv.abs,HUA.out,Rc.zero]
            have HEL:Hid (es.length≤1000):=by have:=HES.out; unfold Hid; omega
            have HPC2:Hid (u.abs.count≤1000):=by unfold Hid; rw [HUA.out]; exact HPC.out
            clear hfull HEN HLL5 HLO5
            go_wp2_with fail
            go_meet
            exact ⟨_,HD11,HFL,HPC2.out,HEL.out⟩
     case rest=>
      clear HD6 c0
      obtain ⟨r,HD7,HLR,hct,hes⟩:=hcut
      have HO:Hid (o=if r.abs.text=s then some r.abs else none):=by unfold Hid; rw [HLO.out,HLR.out]; rfl
      have TX:=rtext5_any r wc (gr+1) wc.heap.size HD7.out.lies (Nat.le_refl _) hct hes
      have hax:=HD7.out.box
      clear HLO HLR hct hes
      generalize htx:r.abs.text=tx at *
      obtain ⟨f0,f1,f2,f3,f4,f5,f6,f7,f8,f9,f10⟩:=rec_cells hax
      simp only [Rv.val,Rv.arr,Rv.sl,V.sl] at TX f0 f1 f2 f3 f4 f5 f6 f7 f8 f9 f10
      clear hax
      go_wp2_with fail
      refine TX.mono ?_
      rintro e w9 ⟨rfl,hb9⟩
      have HD9:=Lib_hid (HD7.out.under hb9)
      clear f0 f1 f2 f3 f4 f5 f6 f7 f8 f9 f10 HD7 hb9 TX
      by_cases hts:tx=s
      · have qts:(tx == s)=true:=by simp [hts]
        have FIN:=Lib_hid (HD9.out.good2 (o:=o) (by rw [HO.out,if_pos hts]))
        have hax:=HD9.out.box
        have hbx:=HD9.out.out
        clear hts HO HD9 htx HLM HLV HL1
        obtain ⟨k',t',x,wn,nn,v,p,A,c,es⟩:=r
        simp only [Rv.arr,Rv.val,Rv.sl,V.sl] at hax FIN
        have HB2:Hid ((put11 w9 w.heap.size (.int .i64 k') (.int .u64 (t':Int)) (.int .u64 (x:Int)) (.int .u64 (wn:Int)) (.int .u64 (nn:Int)) (.int .u64 (v:Int)) (.int .i64 p.kind) (.int .u64 (p.a:Int)) (.int .u64 (p.b:Int)) (.slice p.addr p.parts.length p.cap) (.slice A es.length c)).heap[w.heap.size]? = some (.cells #[.int .i64 k',.int .u64 (t':Int),.int .u64 (x:Int),.int .u64 (wn:Int),.int .u64 (nn:Int),.int .u64 (v:Int),.int .i64 p.kind,.int .u64 (p.a:Int),.int .u64 (p.b:Int),.slice p.addr p.parts.length p.cap,.slice A es.length c] 60 (0,0))):=put11_row _ _ _ _ _ _ _ _ _ _ _ hbx
        obtain ⟨d0,d1,d2,d3,d4,d5,d6,d7,d8,d9,d10⟩:=rec_cells hax
        obtain ⟨e0,e1,e2,e3,e4,e5,e6,e7,e8,e9,e10⟩:=rec_cells hbx
        have y:=fun i=>frozen_of_row w9 w.heap.size i _ _ hbx
        have y0:=y 0
        have y1:=y 1
        have y2:=y 2
        have y3:=y 3
        have y4:=y 4
        have y5:=y 5
        have y6:=y 6
        have y7:=y 7
        have y8:=y 8
        have y9:=y 9
        have y10:=y 10
        clear y hbx hax
        generalize p.addr=pA at *
        generalize p.parts.length=pn at *
        generalize p.cap=pc at *
        generalize p.kind=pk at *
        generalize (p.a:Int)=pa at *
        generalize (p.b:Int)=pb at *
        generalize es.length=en at *
        go_wp2
        show bodyPost _ _ _ _ _ (put11 w9 w.heap.size (.int .i64 k') (.int .u64 (t':Int)) (.int .u64 (x:Int)) (.int .u64 (wn:Int)) (.int .u64 (nn:Int)) (.int .u64 (v:Int)) (.int .i64 pk) (.int .u64 pa) (.int .u64 pb) (.slice pA pn pc) (.slice A en c))
        generalize put11 w9 w.heap.size (.int .i64 k') (.int .u64 (t':Int)) (.int .u64 (x:Int)) (.int .u64 (wn:Int)) (.int .u64 (nn:Int)) (.int .u64 (v:Int)) (.int .i64 pk) (.int .u64 pa) (.int .u64 pb) (.slice pA pn pc) (.slice A en c)=W4 at *
        exact dline_ret HB2.out FIN.out _ rfl rfl
      · have qts:(tx == s)=false:=by simp [hts]
        have HN:Hid (o=none):=by unfold Hid; rw [HO.out,if_neg hts]
        clear hts HO htx HLM HLV HL1
        have hx0:=HD9.out.out
        obtain ⟨hx1,hx2⟩:=DLn.bad HD9.out.below hx0
        have HXX:Hid (DEnd (ansR o) w (.returned (.tuple #[.agg #[.int .i64 0,.int .u64 0,.int .u64 0,.int .u64 0,.int .u64 0,.int .u64 0,.int .i64 0,.int .u64 0,.int .u64 0,.slice none 0 0,.slice none 0 0],.int .i64 50])) (put11 w9 w.heap.size (.int .i64 0) (.int .u64 0) (.int .u64 0) (.int .u64 0) (.int .u64 0) (.int .u64 0) (.int .i64 0) (.int .u64 0) (.int .u64 0) (.slice none 0 0) (.slice none 0 0))):=by unfold Hid; rw [HN.out]; exact hx1
        have HYY:=Lib_hid hx2
        obtain ⟨e0,e1,e2,e3,e4,e5,e6,e7,e8,e9,e10⟩:=rec_cells hx0
        have y:=fun i=>frozen_of_row w9 w.heap.size i _ _ hx0
        have y0:=y 0
        have y1:=y 1
        have y2:=y 2
        have y3:=y 3
        have y4:=y 4
        have y5:=y 5
        have y6:=y 6
        have y7:=y 7
        have y8:=y 8
        have y9:=y 9
        have y10:=y 10
        clear hx0 hx1 hx2 y HD9 HN
        go_wp2
        show bodyPost _ _ _ _ _ (put11 w9 w.heap.size (.int .i64 0) (.int .u64 0) (.int .u64 0) (.int .u64 0) (.int .u64 0) (.int .u64 0) (.int .i64 0) (.int .u64 0) (.int .u64 0) (.slice none 0 0) (.slice none 0 0))
        generalize put11 w9 w.heap.size (.int .i64 0) (.int .u64 0) (.int .u64 0) (.int .u64 0) (.int .u64 0) (.int .u64 0) (.int .i64 0) (.int .u64 0) (.int .u64 0) (.slice none 0 0) (.slice none 0 0)=W4 at *
        exact dline_ret HYY.out HXX.out _ rfl rfl
end Go.Proofs.YtinmoknbgnngcaaGreatDoor
