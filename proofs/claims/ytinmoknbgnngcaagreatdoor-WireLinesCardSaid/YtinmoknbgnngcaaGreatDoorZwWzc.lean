/-
  Layer 5: the six functions that take a part of a payload. (Out of gen_vyw.py.)
-/
import Derived.Test.YtinmoknbgnngcaaGreatDoorZwVyc
import Derived.Test.YtinmoknbgnngcaaGreatDoorZwInv
namespace Go.Proofs.YtinmoknbgnngcaaGreatDoor
open Go Go.RowKit
set_option linter.unusedVariables false
theorem SpR.stay {lo:Nat} {r:Rv} {w w':World} (h:SpR lo r w) (hs:w.heap.size≤w'.heap.size) (hk:∀ k,lo≤k→k<w.heap.size→w'.heap[k]? = w.heap[k]?):SpR lo r w':=by
 obtain ⟨l1,w0,h1,h2,h3,h4,h5,h6,h7⟩:=h
 exact ⟨l1,w0,h1,Nat.le_trans h2 hs,Nat.le_trans h3 hs,h4,h5.keep fun k k1 k2=>hk k (by omega) k2,own_keep h6 fun k k1=>hk k (own_ge h6 k k1) (own_lt h6 k k1),h7⟩
theorem RLies.stay {w w':World} {lo:Nat} {r:Rv} (h:RLies w lo w.heap.size r) (hs:w.heap.size≤w'.heap.size) (hk:∀ k,lo≤k→k<w.heap.size→w'.heap[k]? = w.heap[k]?):RLies w' lo w'.heap.size r:=
 (h.keep fun p h1 h2=>World.cell?_of_block (hk p.block h1 h2)).more (Nat.le_refl _) hs
structure Grow3 (w w':World) (a g h:Nat):Prop where
 os:w'.os=w.os
 tape:w'.tape=w.tape
 output:w'.output=w.output
 size:w.heap.size≤w'.heap.size
 block:∀ k,k<w.heap.size→k≠a→k≠g→k≠h→w'.heap[k]? = w.heap[k]?
theorem Grow3.refl (w:World) (a g h:Nat):Grow3 w w a g h:=⟨rfl,rfl,rfl,Nat.le_refl _,fun _ _ _ _ _=>rfl⟩
theorem Grow3.trans {u v w:World} {a g h:Nat} (x:Grow3 u v a g h) (k:Grow3 v w a g h):Grow3 u w a g h:=⟨k.os.trans x.os,k.tape.trans x.tape,k.output.trans x.output,Nat.le_trans x.size k.size,fun i hi h1 h2 h3=>(k.block i (Nat.lt_of_lt_of_le hi x.size) h1 h2 h3).trans (x.block i hi h1 h2 h3)⟩
theorem Grow3.ofB {w w':World} {a g h:Nat} (k:Below w.heap.size w w'):Grow3 w w' a g h:=⟨k.os,k.tape,k.output,k.size,fun i hi _ _ _=>k.block i hi⟩
theorem Grow3.of2 {w w':World} {a g h:Nat} (k:Grow2 w w' g h):Grow3 w w' a g h:=⟨k.os,k.tape,k.output,k.size,fun i hi _ h2 h3=>k.block i hi h2 h3⟩
theorem Grow3.ofR {w w':World} {a g h:Nat} {arr:Array Value} {E:TypeId} (k:RowSet w w' a arr E):Grow3 w w' a g h:=⟨k.os,k.tape,k.output,Nat.le_of_eq k.size.symm,fun i _ h1 _ _=>k.other i h1⟩
theorem Grow3.below {w w':World} {a g h B:Nat} (k:Grow3 w w' a g h) (hB:B≤w.heap.size) (h1:B≤a) (h2:B≤g) (h3:B≤h):Below B w w':=⟨k.os,k.tape,k.output,k.size,fun i hi=>k.block i (by omega) (by omega) (by omega) (by omega)⟩
structure TkS (lo a g h:Nat) (A:Option Addr) (n c:Nat) (l:List Nat) (r:Rv) (ac e:Nat) (bad:Bool) (w:World):Prop where
 box:w.heap[a]? = some (.cells r.arr 68 (0,0))
 pl:PlS g h A n c l ac e bad w
 lies:RLies w lo w.heap.size r
 al:a<lo
 gl:g<lo
 ne:a≠g
 ne2:a≠h
 sep:∀ ad,A=some ad→0<n→ad.block≠a
 hi:lo≤w.heap.size
 sp:SpR lo r w
 few:4 * r.es.length≤l.length+4
def TakEnd (i lo a g h:Nat) (A:Option Addr) (n c:Nat) (l:List Nat) (r:Rv) (ac e:Nat) (bad:Bool) (w:World) (en:Ending) (w':World):Prop:=
 en=.returned (.tuple #[])∧Grow3 w w' a g h∧∃ (r':Rv) (ac' e':Nat) (bad':Bool),TkS lo a g h A n c l r' ac' e' bad' w'∧r'.kind=r.kind∧Took (r.abs.takeP l ac i) e bad r'.abs ac' e' bad'
section
variable {lo a g h n c ac e ac' e':Nat} {A:Option Addr} {l:List Nat} {bad bad':Bool} {r r':Rv} {w W W':World}
theorem PlS.off {arr:Array Value} {E:TypeId} (p:PlS g h A n c l ac e bad W) (hr:RowSet W W' a arr E) (h1:a≠g) (h2:a≠h) (hs:∀ ad,A=some ad→0<n→ad.block≠a):PlS g h A n c l ac e bad W':=
 ⟨(hr.other g (fun x=>h1 x.symm)).trans p.box,⟨(hr.other h (fun x=>h2 x.symm)).trans p.rd.blk,(by
   rcases Nat.eq_zero_or_pos n with rfl | hn
   · have hl:=p.rd.rd.count
     rw [List.eq_nil_of_length_eq_zero hl]
     exact Rd.zero
   · exact p.rd.rd.off (fun ad x _=>hr.other ad.block (hs ad x hn)) (Nat.le_refl _)),p.rd.nc,p.rd.b8,p.rd.len,p.rd.place,p.rd.err⟩,p.lt⟩
theorem TkS.kept (t:TkS lo a g h A n c l r ac e bad w) (hb:Below w.heap.size w W):TkS lo a g h A n c l r ac e bad W:=
 ⟨(hb.block a (lt_of_block t.box)).trans t.box,t.pl.kept hb,t.lies.stay hb.size fun k _ k2=>hb.block k k2,t.al,t.gl,t.ne,t.ne2,t.sep,Nat.le_trans t.hi hb.size,t.sp.under hb,t.few⟩
theorem tk_fin {i:Nat} (t:TkS lo a g h A n c l r ac e bad w) (hp:PlS g h A n c l ac' e' bad' W) (hG:Grow2 w W g h) (hR:RowSet W W' a r'.arr 68) (hk:r'.kind=r.kind)
 (hl:(∀ k,lo≤k→k<w.heap.size→W'.heap[k]? = w.heap[k]?)→w.heap.size≤W'.heap.size→RLies W' lo W'.heap.size r'∧SpR lo r' W') (hf:4 * r'.es.length≤l.length+4) (ht:Took (r.abs.takeP l ac i) e bad r'.abs ac' e' bad') :
 TakEnd i lo a g h A n c l r ac e bad w (.returned (.tuple #[])) W':=by
 have h1:=t.al
 have h2:=t.gl
 have h3:=t.pl.lt
 have hs:w.heap.size≤W'.heap.size:=by rw [hR.size]; exact hG.size
 obtain ⟨k1,k2⟩:=hl (fun k k1 k2=>(hR.other k (by omega)).trans (hG.block k k2 (by omega) (by omega))) hs
 exact ⟨rfl,(Grow3.of2 hG).trans (Grow3.ofR hR),r',ac',e',bad',⟨hR.row,hp.off hR t.ne t.ne2 t.sep,k1,t.al,t.gl,t.ne,t.ne2,t.sep,Nat.le_trans t.hi hs,k2,hf⟩,hk,ht⟩
theorem TkS.bx (t:TkS lo a g h A n c l r ac e bad w) (hG:Grow2 w W g h):W.heap[a]? = some (.cells r.arr 68 (0,0)):=(hG.block a (lt_of_block t.box) t.ne t.ne2).trans t.box
theorem rowone {w:World} {g i:Nat} {arr:Array Value} {E:TypeId} (v:Value) (h:w.heap[g]? = some (.cells arr E (0,0))):RowSet w (w.setCell ⟨g,i,none⟩ v) g (arr.setIfInBounds i v) E:=
 ⟨rfl,rfl,rfl,by simp [World.setCell],heap_setCell_same w g i _ E v h,fun k hk=>Below.heap_setCell _ ⟨g,i,none⟩ _ k hk⟩
theorem RowSet.trans {w w' w2:World} {g:Nat} {arr brr:Array Value} {E F:TypeId} (h:RowSet w w' g arr E) (k:RowSet w' w2 g brr F):RowSet w w2 g brr F:=
 ⟨k.os.trans h.os,k.tape.trans h.tape,k.output.trans h.output,k.size.trans h.size,k.row,fun i hi=>(k.other i hi).trans (h.other i hi)⟩
set_option maxRecDepth 100000 in
set_option maxHeartbeats 1600000 in
theorem takeT_any (t:TkS lo a g h A n c l r ac e bad w):Calls Tryz.prog 140 #[.pointer (some ⟨a,0,none⟩),.pointer (some ⟨g,0,none⟩)] w (TakEnd 0 lo a g h A n c l r ac e bad w):=by
 have PN:=pnum_any t.pl
 have FIN:Hid (∀ (W:World) (v ac' e':Nat),v<18446744073709551616→PlS g h A n c l ac' e' bad W→RStp w W h→Took (numT l ac) e bad v ac' e' bad→TakEnd 0 lo a g h A n c l r ac e bad w (.returned (.tuple #[])) (W.setCell ⟨a,1,none⟩ (.int .u64 (v:Int)))):=fun W v ac' e' hv h1 h2 h3=>by
  have hG:=h2.grow2 g
  have hbx:=t.bx hG
  have hL:=t.lies
  have hS:=t.sp
  have hf:=t.few
  refine tk_fin (r':={r with t:=v}) t h1 hG (rowone _ hbx) rfl (fun k1 k2=>?_) hf (Took.map (fun v=>({r with t:=v}:Rv).abs) (g:=fun x:Nat×Nat=>(({r with t:=x.1}:Rv).abs,x.2)) (fun _ _=>rfl) h3)
  have hL2:=hL.stay k2 k1
  exact ⟨⟨hL2.kind,(by show (v:Int)≤_; omega),hL2.x,hL2.wn,hL2.n,hL2.v,hL2.p,hL2.es,hL2.cap,hL2.ok,hL2.lo⟩,hS.stay k2 k1⟩
 have CC:Hid (∀ W,RStp w W h→∃ u,W.cell? ⟨a,1,none⟩=some u∧W.frozen? ⟨a,1,none⟩=false):=fun W h1=>by
  have hbx:=t.bx (h1.grow2 g)
  exact ⟨_,cell_of_row W a 1 _ _ _ hbx,frozen_of_row W a 1 _ _ hbx⟩
 obtain ⟨c0,-,-,-⟩:=t.pl.cells
 clear t
 go_enter Tryz.func140,Tryz.ntmps140
 go_wp2_with fail
 refine PN.mono ?_
 rintro en w2 ⟨v,ac',e',rfl,hv,h1,h2,h3⟩
 have HF:=Lib_hid (FIN.out w2 v ac' e' hv h1 h2 h3)
 obtain ⟨u,cu,zu⟩:=CC.out w2 h2
 clear FIN CC h1 h2 h3 PN c0
 go_wp2
 go_end0
 exact HF.out
set_option maxRecDepth 100000 in
set_option maxHeartbeats 1600000 in
theorem takeX_any (t:TkS lo a g h A n c l r ac e bad w):Calls Tryz.prog 150 #[.pointer (some ⟨a,0,none⟩),.pointer (some ⟨g,0,none⟩)] w (TakEnd 1 lo a g h A n c l r ac e bad w):=by
 have PN:=pnum_any t.pl
 have FIN:Hid (∀ (W:World) (v ac' e':Nat),v<18446744073709551616→PlS g h A n c l ac' e' bad W→RStp w W h→Took (numT l ac) e bad v ac' e' bad→TakEnd 1 lo a g h A n c l r ac e bad w (.returned (.tuple #[])) (W.setCell ⟨a,2,none⟩ (.int .u64 (v:Int)))):=fun W v ac' e' hv h1 h2 h3=>by
  have hG:=h2.grow2 g
  have hbx:=t.bx hG
  have hL:=t.lies
  have hS:=t.sp
  have hf:=t.few
  refine tk_fin (r':={r with x:=v}) t h1 hG (rowone _ hbx) rfl (fun k1 k2=>?_) hf (Took.map (fun v=>({r with x:=v}:Rv).abs) (g:=fun x:Nat×Nat=>(({r with x:=x.1}:Rv).abs,x.2)) (fun _ _=>rfl) h3)
  have hL2:=hL.stay k2 k1
  exact ⟨⟨hL2.kind,hL2.t,(by show (v:Int)≤_; omega),hL2.wn,hL2.n,hL2.v,hL2.p,hL2.es,hL2.cap,hL2.ok,hL2.lo⟩,hS.stay k2 k1⟩
 have CC:Hid (∀ W,RStp w W h→∃ u,W.cell? ⟨a,2,none⟩=some u∧W.frozen? ⟨a,2,none⟩=false):=fun W h1=>by
  have hbx:=t.bx (h1.grow2 g)
  exact ⟨_,cell_of_row W a 2 _ _ _ hbx,frozen_of_row W a 2 _ _ hbx⟩
 obtain ⟨c0,-,-,-⟩:=t.pl.cells
 clear t
 go_enter Tryz.func150,Tryz.ntmps150
 go_wp2_with fail
 refine PN.mono ?_
 rintro en w2 ⟨v,ac',e',rfl,hv,h1,h2,h3⟩
 have HF:=Lib_hid (FIN.out w2 v ac' e' hv h1 h2 h3)
 obtain ⟨u,cu,zu⟩:=CC.out w2 h2
 clear FIN CC h1 h2 h3 PN c0
 go_wp2
 go_end0
 exact HF.out
set_option maxRecDepth 100000 in
set_option maxHeartbeats 1600000 in
theorem takeValue_any (t:TkS lo a g h A n c l r ac e bad w):Calls Tryz.prog 166 #[.pointer (some ⟨a,0,none⟩),.pointer (some ⟨g,0,none⟩)] w (TakEnd 3 lo a g h A n c l r ac e bad w):=by
 have PN:=pnum_any t.pl
 have FIN:Hid (∀ (W:World) (v ac' e':Nat),v<18446744073709551616→PlS g h A n c l ac' e' bad W→RStp w W h→Took (numT l ac) e bad v ac' e' bad→TakEnd 3 lo a g h A n c l r ac e bad w (.returned (.tuple #[])) (W.setCell ⟨a,5,none⟩ (.int .u64 (v:Int)))):=fun W v ac' e' hv h1 h2 h3=>by
  have hG:=h2.grow2 g
  have hbx:=t.bx hG
  have hL:=t.lies
  have hS:=t.sp
  have hf:=t.few
  refine tk_fin (r':={r with v:=v}) t h1 hG (rowone _ hbx) rfl (fun k1 k2=>?_) hf (Took.map (fun v=>({r with v:=v}:Rv).abs) (g:=fun x:Nat×Nat=>(({r with v:=x.1}:Rv).abs,x.2)) (fun _ _=>rfl) h3)
  have hL2:=hL.stay k2 k1
  exact ⟨⟨hL2.kind,hL2.t,hL2.x,hL2.wn,hL2.n,(by show (v:Int)≤_; omega),hL2.p,hL2.es,hL2.cap,hL2.ok,hL2.lo⟩,hS.stay k2 k1⟩
 have CC:Hid (∀ W,RStp w W h→∃ u,W.cell? ⟨a,5,none⟩=some u∧W.frozen? ⟨a,5,none⟩=false):=fun W h1=>by
  have hbx:=t.bx (h1.grow2 g)
  exact ⟨_,cell_of_row W a 5 _ _ _ hbx,frozen_of_row W a 5 _ _ hbx⟩
 obtain ⟨c0,-,-,-⟩:=t.pl.cells
 clear t
 go_enter Tryz.func166,Tryz.ntmps166
 go_wp2_with fail
 refine PN.mono ?_
 rintro en w2 ⟨v,ac',e',rfl,hv,h1,h2,h3⟩
 have HF:=Lib_hid (FIN.out w2 v ac' e' hv h1 h2 h3)
 obtain ⟨u,cu,zu⟩:=CC.out w2 h2
 clear FIN CC h1 h2 h3 PN c0
 go_wp2
 go_end0
 exact HF.out
set_option maxRecDepth 100000 in
set_option maxHeartbeats 1600000 in
theorem takeV_any (t:TkS lo a g h A n c l r ac e bad w):Calls Tryz.prog 157 #[.pointer (some ⟨a,0,none⟩),.pointer (some ⟨g,0,none⟩)] w (TakEnd 2 lo a g h A n c l r ac e bad w):=by
 have PN:=pver_any t.pl
 have FIN:Hid (∀ (W:World) (v1 v2 ac' e':Nat),v1<18446744073709551616∧v2<18446744073709551616→PlS g h A n c l ac' e' bad W→Grow2 w W g h→Took (verT l ac) e bad (v1,v2) ac' e' bad→TakEnd 2 lo a g h A n c l r ac e bad w (.returned (.tuple #[])) ((W.setCell ⟨a,3,none⟩ (.int .u64 (v1:Int))).setCell ⟨a,4,none⟩ (.int .u64 (v2:Int)))):=fun W v1 v2 ac' e' hv h1 hG h3=>by
  have hbx:=t.bx hG
  have hL:=t.lies
  have hS:=t.sp
  have hf:=t.few
  have hr:=rowone (i:=3) (.int .u64 (v1:Int)) hbx
  have hT:r.abs.takeP l ac 2=(verT l ac).map fun x=>(({r with w:=x.1.1,n:=x.1.2}:Rv).abs,x.2):=by
   show ((numT l ac).bind fun x=>(numT l x.2).map fun y=>({r.abs with w:=x.1,n:=y.1},y.2))=_
   unfold verT
   cases numT l ac with
   | none=>rfl
   | some x=>
    simp only [Option.bind_some]
    cases numT l x.2 with
    | none=>rfl
    | some y=>rfl
  refine tk_fin (r':={r with w:=v1,n:=v2}) t h1 hG (hr.trans (rowone (i:=4) _ hr.row)) rfl (fun k1 k2=>?_) hf ?_
  · have hL2:=hL.stay k2 k1
    exact ⟨⟨hL2.kind,hL2.t,hL2.x,(by show (v1:Int)≤_; omega),(by show (v2:Int)≤_; omega),hL2.v,hL2.p,hL2.es,hL2.cap,hL2.ok,hL2.lo⟩,hS.stay k2 k1⟩
  · rw [hT]
    exact Took.map (fun v:Nat×Nat=>({r with w:=v.1,n:=v.2}:Rv).abs) (fun _ _=>rfl) h3
 have CC:Hid (∀ W,Grow2 w W g h→∃ u u2,W.cell? ⟨a,3,none⟩=some u∧W.frozen? ⟨a,3,none⟩=false∧W.cell? ⟨a,4,none⟩=some u2∧W.frozen? ⟨a,4,none⟩=false):=fun W h1=>by
  have hbx:=t.bx h1
  exact ⟨_,_,cell_of_row W a 3 _ _ _ hbx,frozen_of_row W a 3 _ _ hbx,cell_of_row W a 4 _ _ _ hbx,frozen_of_row W a 4 _ _ hbx⟩
 clear t
 go_enter Tryz.func157,Tryz.ntmps157
 go_wp2_with fail
 refine PN.mono ?_
 rintro en w2 ⟨v1,v2,ac',e',rfl,hv,h1,h2,h3⟩
 have HF:=Lib_hid (FIN.out w2 v1 v2 ac' e' hv h1 h2 h3)
 obtain ⟨u,u2,cu,zu,cu2,zu2⟩:=CC.out w2 h2
 clear FIN CC h1 h2 h3 PN
 go_wp2
 go_end0
 exact HF.out
set_option maxRecDepth 100000 in
set_option maxHeartbeats 1600000 in
theorem takeP_any (t:TkS lo a g h A n c l r ac e bad w):Calls Tryz.prog 175 #[.pointer (some ⟨a,0,none⟩),.pointer (some ⟨g,0,none⟩)] w (TakEnd 4 lo a g h A n c l r ac e bad w):=by
 have PN:=ppred_any t.pl
 have FIN:Hid (∀ (W:World) (u:V) (ac' e':Nat) (bad':Bool),Lies W w.heap.size W.heap.size u→Shp 65 W w.heap.size u→PlS g h A n c l ac' e' bad' W→Grow2 w W g h→Took ((txtT l ac).bind fun x=>(parseT x.1).map fun t=>(t,x.2)) e bad u.abs ac' e' bad'→
  TakEnd 4 lo a g h A n c l r ac e bad w (.returned (.tuple #[])) ((((W.setCell ⟨a,6,none⟩ (.int .i64 u.kind)).setCell ⟨a,7,none⟩ (.int .u64 (u.a:Int))).setCell ⟨a,8,none⟩ (.int .u64 (u.b:Int))).setCell ⟨a,9,none⟩ u.sl)):=fun W u ac' e' bad' hu hus h1 hG h3=>by
  have hbx:=t.bx hG
  have hL:=t.lies
  have hS:=t.sp
  have hf:=t.few
  have hal:=t.al
  have hhi:=t.hi
  have hr6:=rowone (i:=6) (.int .i64 u.kind) hbx
  have hr7:=hr6.trans (rowone (i:=7) (.int .u64 (u.a:Int)) hr6.row)
  have hr8:=hr7.trans (rowone (i:=8) (.int .u64 (u.b:Int)) hr7.row)
  have hr9:=hr8.trans (rowone (i:=9) u.sl hr8.row)
  have hT:r.abs.takeP l ac 4=((txtT l ac).bind fun x=>(parseT x.1).map fun t=>(t,x.2)).map fun y=>({r.abs with p:=y.1},y.2):=by
   show ((txtT l ac).bind fun x=>(parseT x.1).map fun t=>({r.abs with p:=t},x.2))=_
   cases txtT l ac with
   | none=>rfl
   | some x=>
    simp only [Option.bind_some]
    cases parseT x.1 with
    | none=>rfl
    | some y=>rfl
  refine tk_fin (r':={r with p:=u}) t h1 hG hr9 rfl (fun k1 k2=>?_) hf ?_
  · have hL2:=hL.stay k2 k1
    have hW:W.heap.size=((((W.setCell ⟨a,6,none⟩ (.int .i64 u.kind)).setCell ⟨a,7,none⟩ (.int .u64 (u.a:Int))).setCell ⟨a,8,none⟩ (.int .u64 (u.b:Int))).setCell ⟨a,9,none⟩ u.sl).heap.size:=hr9.size.symm
    refine ⟨⟨hL2.kind,hL2.t,hL2.x,hL2.wn,hL2.n,hL2.v,((hu.keep fun p q1 q2=>World.cell?_of_block (hr9.other p.block (by omega))).more hhi (Nat.le_of_eq hW)),hL2.es,hL2.cap,hL2.ok,hL2.lo⟩,?_⟩
    obtain ⟨l1,w0,s1,s2,s3,s4,s5,s6,s7⟩:=hS.stay k2 k1
    obtain ⟨-,-,-,-,-,-,-,y6,-⟩:=hS
    have hlt:=own_lt y6
    exact ⟨w.heap.size,W,hhi,by rw [← hW]; exact hG.size,Nat.le_of_eq hW,hus,hus.keep fun k k1 k2=>hr9.other k (by omega),s6,fun k hk=>.inl (hlt k hk)⟩
  · rw [hT]
    exact Took.map (fun u=>({r.abs with p:=u}:Rc)) (fun _ _=>rfl) h3
 have CC:Hid (∀ W,Grow2 w W g h→∃ u u2 u3 u4,(W.cell? ⟨a,6,none⟩=some u∧W.frozen? ⟨a,6,none⟩=false∧W.cell? ⟨a,7,none⟩=some u2∧W.frozen? ⟨a,7,none⟩=false)∧(W.cell? ⟨a,8,none⟩=some u3∧W.frozen? ⟨a,8,none⟩=false∧W.cell? ⟨a,9,none⟩=some u4∧W.frozen? ⟨a,9,none⟩=false)):=fun W h1=>by
  have hbx:=t.bx h1
  exact ⟨_,_,_,_,⟨cell_of_row W a 6 _ _ _ hbx,frozen_of_row W a 6 _ _ hbx,cell_of_row W a 7 _ _ _ hbx,frozen_of_row W a 7 _ _ hbx⟩,⟨cell_of_row W a 8 _ _ _ hbx,frozen_of_row W a 8 _ _ hbx,cell_of_row W a 9 _ _ _ hbx,frozen_of_row W a 9 _ _ hbx⟩⟩
 clear t
 go_enter Tryz.func175,Tryz.ntmps175
 go_wp2_with fail
 refine PN.mono ?_
 rintro en w2 ⟨u,ac',e',bad',rfl,hu,hus,h1,h2,h3⟩
 have HF:=Lib_hid (FIN.out w2 u ac' e' bad' hu hus h1 h2 h3)
 obtain ⟨u1,u2,u3,u4,⟨cu,zu,cu2,zu2⟩,⟨cu3,zu3,cu4,zu4⟩⟩:=CC.out w2 h2
 clear FIN CC h1 h2 h3 PN hu hus
 simp only [V.val,V.sl] at HF ⊢
 generalize u.addr=uA at *
 generalize u.parts.length=un at *
 generalize u.cap=uc at *
 generalize u.kind=uk at *
 generalize (u.a:Int)=ua at *
 generalize (u.b:Int)=ub at *
 go_wp2
 go_end0
 exact HF.out
set_option maxRecDepth 100000 in
set_option maxHeartbeats 1600000 in
theorem takeEntries_any (t:TkS lo a g h A n c l r ac e bad w):Calls Tryz.prog 185 #[.pointer (some ⟨a,0,none⟩),.pointer (some ⟨g,0,none⟩)] w (TakEnd 5 lo a g h A n c l r ac e bad w):=by
 have PN:=pents_any t.pl
 have FIN:Hid (∀ (W:World) (A':Option Addr) (n' c':Nat) (es':List En) (ac' e':Nat) (bad':Bool),n'=es'.length→(∀ x∈es',x.ok)→4 * es'.length≤l.length+4→W.ownsRow w.heap.size 125 4 (.slice A' n' c') n' (enCells es')→PlS g h A n c l ac' e' bad' W→Grow2 w W g h→Took ((numT l ac).bind fun x=>entsT l x.1 x.2) e bad es' ac' e' bad'→
  TakEnd 5 lo a g h A n c l r ac e bad w (.returned (.tuple #[])) (W.setCell ⟨a,10,none⟩ (.slice A' n' c'))):=fun W A' n' c' es' ac' e' bad' hn hok hfew hown h1 hG h3=>by
  subst hn
  have hbx:=t.bx hG
  have hL:=t.lies
  have hS:=t.sp
  have hal:=t.al
  have hhi:=t.hi
  have hr:=rowone (i:=10) (.slice A' es'.length c') hbx
  have hoW:=own_keep hown (w':=W.setCell ⟨a,10,none⟩ (.slice A' es'.length c')) fun k hk=>hr.other k (by have:=own_ge hown k hk; omega)
  have hOn:=own_base (b':=lo) hoW (fun k hk=>by have:=own_ge hown k hk; omega)
  have hlo:∀ ad,A'=some ad→0<es'.length→lo≤ad.block:=fun ad e hn=>by
   obtain ⟨gg,cap,hv,hgg,hlt⟩:=hown.form hn
   have hA:A'=some ⟨gg,0,none⟩:=by injection hv
   rw [hA] at e
   injection e with e
   subst e
   have:=own_ge hown gg (by rw [hA]; rfl)
   show lo≤gg
   omega
  have hT:r.abs.takeP l ac 5=((numT l ac).bind fun x=>entsT l x.1 x.2).map fun y=>({r.abs with es:=y.1},y.2):=by
   show ((numT l ac).bind fun x=>(entsT l x.1 x.2).map fun y=>({r.abs with es:=y.1},y.2))=_
   cases numT l ac with
   | none=>rfl
   | some x=>rfl
  refine tk_fin (r':={r with A:=A',c:=c',es:=es'}) t h1 hG hr rfl (fun k1 k2=>?_) hfew ?_
  · have hL2:=hL.stay k2 k1
    refine ⟨⟨hL2.kind,hL2.t,hL2.x,hL2.wn,hL2.n,hL2.v,hL2.p,Rd.own hoW,own_cap hown,hok,hlo⟩,?_⟩
    have hge:=own_ge hown
    obtain ⟨l1,w0,s1,s2,s3,s4,s5,s6,s7⟩:=hS
    refine ⟨l1,w0,s1,by rw [hr.size]; have:=hG.size; omega,by rw [hr.size]; have:=hG.size; omega,s4,s5.keep fun k j1 j2=>k1 k (by omega) j2,hOn,fun k hk=>.inr (by have:=hge k hk; omega)⟩
  · rw [hT]
    exact Took.map (fun u=>({r.abs with es:=u}:Rc)) (fun _ _=>rfl) h3
 have CC:Hid (∀ W,Grow2 w W g h→∃ u,W.cell? ⟨a,10,none⟩=some u∧W.frozen? ⟨a,10,none⟩=false):=fun W h1=>by
  have hbx:=t.bx h1
  exact ⟨_,cell_of_row W a 10 _ _ _ hbx,frozen_of_row W a 10 _ _ hbx⟩
 clear t
 go_enter Tryz.func185,Tryz.ntmps185
 go_wp2_with fail
 refine PN.mono ?_
 rintro en w2 ⟨A',c',es',ac',e',bad',rfl,hok,hfew,hown,h1,h2,h3⟩
 have HF:=Lib_hid (FIN.out w2 A' _ c' es' ac' e' bad' rfl hok hfew hown h1 h2 h3)
 obtain ⟨u,cu,zu⟩:=CC.out w2 h2
 clear FIN CC h1 h2 h3 PN hok hown
 generalize es'.length=n' at *
 go_wp2
 go_end0
 exact HF.out
theorem take6_any (i:Nat) (hi6:i<6) (t:TkS lo a g h A n c l r ac e bad w):Calls Tryz.prog (mtakeF i) #[.pointer (some ⟨a,0,none⟩),.pointer (some ⟨g,0,none⟩)] w (TakEnd i lo a g h A n c l r ac e bad w):=by
 have:i=0∨i=1∨i=2∨i=3∨i=4∨i=5:=by omega
 rcases this with rfl | rfl | rfl | rfl | rfl | rfl
 · exact takeT_any t
 · exact takeX_any t
 · exact takeV_any t
 · exact takeValue_any t
 · exact takeP_any t
 · exact takeEntries_any t
set_option maxRecDepth 100000 in
theorem call_take {i:Nat} (hi6:i<6):∀ (args:Array Value) (wx:World),(callFunc (mtakeF i) args).run Tryz.prog wx=.ok (.enter (mtakeF i) args) wx:=by
 have:i=0∨i=1∨i=2∨i=3∨i=4∨i=5:=by omega
 rcases this with rfl | rfl | rfl | rfl | rfl | rfl <;> exact fun args wx=>by kernel_rfl
end
theorem Tryz.infoRR:(Tryz.prog.info? 68).map (fun i=>(i.zero,i.size,i.bytes))=some (some (.agg #[.int .i64 0,.int .u64 0,.int .u64 0,.int .u64 0,.int .u64 0,.int .u64 0,.int .i64 0,.int .u64 0,.int .u64 0,.slice none 0 0,.slice none 0 0]),11,120):=by kernel_rfl
def rvCells (rs:List Rv):List Value:=rs.flatMap fun r=>r.arr.toList
theorem rvCells_append (rs ss:List Rv):rvCells (rs ++ ss)=rvCells rs ++ rvCells ss:=by simp [rvCells]
theorem rv_one (rs:List Rv):∀ u∈rvCells rs,u.oneCell'=true:=by
 intro u hu
 obtain ⟨r,_,hu⟩:=List.mem_flatMap.1 hu
 simp only [Rv.arr,V.sl,Rv.sl,List.mem_cons,List.not_mem_nil,or_false] at hu
 rcases hu with rfl | rfl | rfl | rfl | rfl | rfl | rfl | rfl | rfl | rfl | rfl <;> rfl
structure RecIn (w:World) (m1 m2:Nat) (r:Rv):Prop where
 le:m1≤m2
 hi:m2≤w.heap.size
 made:∃ w0:World,w0.heap.size=m2∧RLies w0 m1 m2 r∧Shp 65 w0 m1 r.p∧w0.ownsRow m1 125 4 (.slice r.A r.es.length r.c) r.es.length (enCells r.es)∧∀ k,m1≤k→k<m2→w.heap[k]? = w0.heap[k]?
section
variable {w w':World} {m1 m2 lo hi hi' B:Nat} {r:Rv} {rs:List Rv} {g g':Option Nat} {v v':Value}
theorem RecIn.keep (h:RecIn w m1 m2 r) (hs:w.heap.size≤w'.heap.size) (hk:∀ k,m1≤k→k<m2→w'.heap[k]? = w.heap[k]?):RecIn w' m1 m2 r:=by
 obtain ⟨w0,h1,h2,h3,h4,h5⟩:=h.made
 exact ⟨h.le,Nat.le_trans h.hi hs,w0,h1,h2,h3,h4,fun k a b=>(hk k a b).trans (h5 k a b)⟩
theorem RecIn.lies (h:RecIn w m1 m2 r):RLies w m1 m2 r:=by
 obtain ⟨w0,h1,h2,h3,h4,h5⟩:=h.made
 exact h2.keep fun p a b=>World.cell?_of_block (h5 p.block a b)
theorem RecIn.of (hl:RLies w' m1 w'.heap.size r) (hs:Shp 65 w' m1 r.p) (ho:w'.ownsRow m1 125 4 (.slice r.A r.es.length r.c) r.es.length (enCells r.es)) (h1:m1≤w'.heap.size):RecIn w' m1 w'.heap.size r:=
 ⟨h1,Nat.le_refl _,w',rfl,hl,hs,ho,fun _ _ _=>rfl⟩
def Lain (w:World) (g:Option Nat) (hi:Nat):Nat→List Rv→Prop
 | lo,[]=>lo≤hi
 | lo,r :: rs=>∃ m1 m2,lo≤m1∧RecIn w m1 m2 r∧(∀ k,g=some k→k<m1∨m2≤k)∧Lain w g hi m2 rs
theorem Lain.le:∀ {rs:List Rv} {lo:Nat},Lain w g hi lo rs→lo≤hi
 | [],lo,h=>h
 | r :: rs,lo,⟨m1,m2,h1,h2,_,h3⟩=>by have:=Lain.le h3; have:=h2.le; omega
theorem Lain.keep (hs:w.heap.size≤w'.heap.size):∀ {rs:List Rv} {lo:Nat},Lain w g hi lo rs→(∀ k,lo≤k→k<hi→g≠some k→w'.heap[k]? = w.heap[k]?)→Lain w' g hi lo rs
 | [],lo,h,_=>h
 | r :: rs,lo,⟨m1,m2,h1,h2,h3,h4⟩,hk=>by
  have h5:=Lain.le h4
  have h6:=h2.le
  exact ⟨m1,m2,h1,h2.keep hs fun k a b=>hk k (by omega) (by omega) (fun e=>by have:=h3 k e; omega),h3,Lain.keep hs h4 fun k a b c=>hk k (by omega) b c⟩
theorem Lain.turn (hg:∀ k,g'=some k→g=some k∨hi≤k):∀ {rs:List Rv} {lo:Nat},Lain w g hi lo rs→Lain w g' hi lo rs
 | [],lo,h=>h
 | r :: rs,lo,⟨m1,m2,h1,h2,h3,h4⟩=>by
  have h5:=Lain.le h4
  refine ⟨m1,m2,h1,h2,fun k e=>?_,Lain.turn hg h4⟩
  rcases hg k e with h | h
  · exact h3 k h
  · exact .inr (by omega)
theorem Lain.push (h2:RecIn w m1 m2 r) (h1:hi≤m1) (h3:∀ k,g=some k→k<m1∨m2≤k) (h4:m2≤hi'):∀ {rs:List Rv} {lo:Nat},Lain w g hi lo rs→Lain w g hi' lo (rs ++ [r])
 | [],lo,h=>⟨m1,m2,Nat.le_trans h h1,h2,h3,h4⟩
 | s :: rs,lo,⟨n1,n2,k1,k2,k3,k4⟩=>⟨n1,n2,k1,k2,k3,Lain.push h2 h1 h3 h4 k4⟩
theorem Lain.up (h1:hi≤hi'):∀ {rs:List Rv} {lo:Nat},Lain w g hi lo rs→Lain w g hi' lo rs
 | [],lo,h=>Nat.le_trans h h1
 | s :: rs,lo,⟨n1,n2,k1,k2,k3,k4⟩=>⟨n1,n2,k1,k2,k3,Lain.up h1 k4⟩
theorem Lain.down (h1:lo≤hi'):∀ {rs:List Rv},Lain w g hi hi' rs→Lain w g hi lo rs
 | [],h=>Nat.le_trans h1 h
 | s :: rs,⟨n1,n2,k1,k2,k3,k4⟩=>⟨n1,n2,Nat.le_trans h1 k1,k2,k3,k4⟩
structure OwnRecs (B:Nat) (w:World) (v:Value) (rs:List Rv):Prop where
 row:w.ownsRow B 68 11 v rs.length (rvCells rs)
 lain:Lain w v.ownBlock w.heap.size B rs
theorem OwnRecs.nil (w:World) (B:Nat) (h:B≤w.heap.size):OwnRecs B w (.slice none 0 0) []:=⟨World.ownsRow_nil _ _ _ _,h⟩
theorem OwnRecs.kept (h:OwnRecs B w v rs) (hs:w.heap.size≤w'.heap.size) (hk:∀ k,B≤k→k<w.heap.size→w'.heap[k]? = w.heap[k]?):OwnRecs B w' v rs:=
 ⟨own_keep h.row fun k e=>hk k (own_ge h.row k e) (own_lt h.row k e),(h.lain.keep hs fun k a b _=>hk k a b).up hs⟩
theorem OwnRecs.below (h:OwnRecs B w v rs) (hb:Below w.heap.size w w'):OwnRecs B w' v rs:=h.kept hb.size fun k _ b=>hb.block k b
theorem OwnRecs.grown {b:Nat} (h:OwnRecs B w v rs) (hg:w.grownBy w' (some b)) (hb:b<B):OwnRecs B w' v rs:=h.kept hg.size fun k a c=>hg.block k c (fun e=>by injection e with e; omega)
theorem OwnRecs.push {w1:World} (h:OwnRecs B w v rs) (hb:Below w.heap.size w w1) (hr:RecIn w1 w.heap.size m2 r) (hg:w1.grownBy w' v.ownBlock)
 (row:w'.ownsRow B 68 11 v' (rs.length+1) (rvCells (rs ++ [r]))) (hor:v'.ownBlock=v.ownBlock∨v'.ownBlock=some w1.heap.size):OwnRecs B w' v' (rs ++ [r]):=by
 have hv:∀ k,v.ownBlock=some k→k<w.heap.size:=own_lt h.row
 have hlt:=hr.hi
 have hle:=hr.le
 refine ⟨by rw [List.length_append]; exact row,?_⟩
 have l0:Lain w1 v.ownBlock w.heap.size B rs:=h.lain.keep hb.size fun k a b _=>hb.block k b
 have l3:Lain w1 v.ownBlock m2 B (rs ++ [r]):=l0.push hr (Nat.le_refl _) (fun k e=>.inl (hv k e)) (Nat.le_refl _)
 have l4:Lain w' v.ownBlock m2 B (rs ++ [r]):=l3.keep hg.size fun k a b c=>hg.block k (by omega) (fun e=>c e.symm)
 refine (l4.turn fun k e=>?_).up (Nat.le_trans hlt hg.size)
 rcases hor with h1 | h1
 · exact .inl (h1.symm.trans e)
 · rw [h1] at e; injection e with e; exact .inr (by omega)
end
end Go.Proofs.YtinmoknbgnngcaaGreatDoor
