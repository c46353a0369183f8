/-
  Layer 6: what is told of a frame that was gone through. (Out of gen_wzf.py.)
-/
import Derived.Test.YtinmoknbgnngcaaGreatDoorZwWzc
import Derived.Test.YtinmoknbgnngcaaGreatDoorZwWrite
import Derived.Test.YtinmoknbgnngcaaGreatDoorZwFcl
import Derived.Test.YtinmoknbgnngcaaGreatDoorZwFra2
namespace Go.Proofs.YtinmoknbgnngcaaGreatDoor
open Go Go.RowKit
set_option linter.unusedVariables false
def put14 (w:World) (g:Nat) (v0 v1 v2 v3 v4 v5 v6 v7 v8 v9 v10 v11 v12 v13:Value):World:=
 (((((((((((((w.setCell ⟨g,0,none⟩ v0).setCell ⟨g,1,none⟩ v1).setCell ⟨g,2,none⟩ v2).setCell ⟨g,3,none⟩ v3).setCell ⟨g,4,none⟩ v4).setCell ⟨g,5,none⟩ v5).setCell ⟨g,6,none⟩ v6).setCell ⟨g,7,none⟩ v7).setCell ⟨g,8,none⟩ v8).setCell ⟨g,9,none⟩ v9).setCell ⟨g,10,none⟩ v10).setCell ⟨g,11,none⟩ v11).setCell ⟨g,12,none⟩ v12).setCell ⟨g,13,none⟩ v13
section
variable {w:World} {g:Nat} {t:TypeId} {x0 x1 x2 x3 x4 x5 x6 x7 x8 x9 x10 x11 x12 x13:Value} (v0 v1 v2 v3 v4 v5 v6 v7 v8 v9 v10 v11 v12 v13:Value)
theorem put14_row (h:w.heap[g]? = some (.cells #[x0,x1,x2,x3,x4,x5,x6,x7,x8,x9,x10,x11,x12,x13] t (0,0))):(put14 w g v0 v1 v2 v3 v4 v5 v6 v7 v8 v9 v10 v11 v12 v13).heap[g]? = some (.cells #[v0,v1,v2,v3,v4,v5,v6,v7,v8,v9,v10,v11,v12,v13] t (0,0)):=by
 obtain ⟨w0,e0⟩:∃ w0,w0=w.setCell ⟨g,0,none⟩ v0:=⟨_,rfl⟩
 have h0:w0.heap[g]? = some (.cells #[v0,x1,x2,x3,x4,x5,x6,x7,x8,x9,x10,x11,x12,x13] t (0,0)):=by rw [e0]; exact Joins.block_setCell (i:=0) h v0
 obtain ⟨w1,e1⟩:∃ w1,w1=w0.setCell ⟨g,1,none⟩ v1:=⟨_,rfl⟩
 have h1:w1.heap[g]? = some (.cells #[v0,v1,x2,x3,x4,x5,x6,x7,x8,x9,x10,x11,x12,x13] t (0,0)):=by rw [e1]; exact Joins.block_setCell (i:=1) h0 v1
 obtain ⟨w2,e2⟩:∃ w2,w2=w1.setCell ⟨g,2,none⟩ v2:=⟨_,rfl⟩
 have h2:w2.heap[g]? = some (.cells #[v0,v1,v2,x3,x4,x5,x6,x7,x8,x9,x10,x11,x12,x13] t (0,0)):=by rw [e2]; exact Joins.block_setCell (i:=2) h1 v2
 obtain ⟨w3,e3⟩:∃ w3,w3=w2.setCell ⟨g,3,none⟩ v3:=⟨_,rfl⟩
 have h3:w3.heap[g]? = some (.cells #[v0,v1,v2,v3,x4,x5,x6,x7,x8,x9,x10,x11,x12,x13] t (0,0)):=by rw [e3]; exact Joins.block_setCell (i:=3) h2 v3
 obtain ⟨w4,e4⟩:∃ w4,w4=w3.setCell ⟨g,4,none⟩ v4:=⟨_,rfl⟩
 have h4:w4.heap[g]? = some (.cells #[v0,v1,v2,v3,v4,x5,x6,x7,x8,x9,x10,x11,x12,x13] t (0,0)):=by rw [e4]; exact Joins.block_setCell (i:=4) h3 v4
 obtain ⟨w5,e5⟩:∃ w5,w5=w4.setCell ⟨g,5,none⟩ v5:=⟨_,rfl⟩
 have h5:w5.heap[g]? = some (.cells #[v0,v1,v2,v3,v4,v5,x6,x7,x8,x9,x10,x11,x12,x13] t (0,0)):=by rw [e5]; exact Joins.block_setCell (i:=5) h4 v5
 obtain ⟨w6,e6⟩:∃ w6,w6=w5.setCell ⟨g,6,none⟩ v6:=⟨_,rfl⟩
 have h6:w6.heap[g]? = some (.cells #[v0,v1,v2,v3,v4,v5,v6,x7,x8,x9,x10,x11,x12,x13] t (0,0)):=by rw [e6]; exact Joins.block_setCell (i:=6) h5 v6
 obtain ⟨w7,e7⟩:∃ w7,w7=w6.setCell ⟨g,7,none⟩ v7:=⟨_,rfl⟩
 have h7:w7.heap[g]? = some (.cells #[v0,v1,v2,v3,v4,v5,v6,v7,x8,x9,x10,x11,x12,x13] t (0,0)):=by rw [e7]; exact Joins.block_setCell (i:=7) h6 v7
 obtain ⟨w8,e8⟩:∃ w8,w8=w7.setCell ⟨g,8,none⟩ v8:=⟨_,rfl⟩
 have h8:w8.heap[g]? = some (.cells #[v0,v1,v2,v3,v4,v5,v6,v7,v8,x9,x10,x11,x12,x13] t (0,0)):=by rw [e8]; exact Joins.block_setCell (i:=8) h7 v8
 obtain ⟨w9,e9⟩:∃ w9,w9=w8.setCell ⟨g,9,none⟩ v9:=⟨_,rfl⟩
 have h9:w9.heap[g]? = some (.cells #[v0,v1,v2,v3,v4,v5,v6,v7,v8,v9,x10,x11,x12,x13] t (0,0)):=by rw [e9]; exact Joins.block_setCell (i:=9) h8 v9
 obtain ⟨w10,e10⟩:∃ w10,w10=w9.setCell ⟨g,10,none⟩ v10:=⟨_,rfl⟩
 have h10:w10.heap[g]? = some (.cells #[v0,v1,v2,v3,v4,v5,v6,v7,v8,v9,v10,x11,x12,x13] t (0,0)):=by rw [e10]; exact Joins.block_setCell (i:=10) h9 v10
 obtain ⟨w11,e11⟩:∃ w11,w11=w10.setCell ⟨g,11,none⟩ v11:=⟨_,rfl⟩
 have h11:w11.heap[g]? = some (.cells #[v0,v1,v2,v3,v4,v5,v6,v7,v8,v9,v10,v11,x12,x13] t (0,0)):=by rw [e11]; exact Joins.block_setCell (i:=11) h10 v11
 obtain ⟨w12,e12⟩:∃ w12,w12=w11.setCell ⟨g,12,none⟩ v12:=⟨_,rfl⟩
 have h12:w12.heap[g]? = some (.cells #[v0,v1,v2,v3,v4,v5,v6,v7,v8,v9,v10,v11,v12,x13] t (0,0)):=by rw [e12]; exact Joins.block_setCell (i:=12) h11 v12
 obtain ⟨w13,e13⟩:∃ w13,w13=w12.setCell ⟨g,13,none⟩ v13:=⟨_,rfl⟩
 have h13:w13.heap[g]? = some (.cells #[v0,v1,v2,v3,v4,v5,v6,v7,v8,v9,v10,v11,v12,v13] t (0,0)):=by rw [e13]; exact Joins.block_setCell (i:=13) h12 v13
 unfold put14
 rw [← e0,← e1,← e2,← e3,← e4,← e5,← e6,← e7,← e8,← e9,← e10,← e11,← e12,← e13]
 exact h13
theorem put14_grow (w:World) (b:Nat):Grow2 w (put14 w g v0 v1 v2 v3 v4 v5 v6 v7 v8 v9 v10 v11 v12 v13) g b:=by
 unfold put14
 exact (Grow2.trans (Grow2.trans (Grow2.trans (Grow2.trans (Grow2.trans (Grow2.trans (Grow2.trans (Grow2.trans (Grow2.trans (Grow2.trans (Grow2.trans (Grow2.trans (Grow2.trans (Grow2.set _ g b 0 _) (Grow2.set _ g b 1 _)) (Grow2.set _ g b 2 _)) (Grow2.set _ g b 3 _)) (Grow2.set _ g b 4 _)) (Grow2.set _ g b 5 _)) (Grow2.set _ g b 6 _)) (Grow2.set _ g b 7 _)) (Grow2.set _ g b 8 _)) (Grow2.set _ g b 9 _)) (Grow2.set _ g b 10 _)) (Grow2.set _ g b 11 _)) (Grow2.set _ g b 12 _)) (Grow2.set _ g b 13 _))
end
theorem step_cells {w:World} {b:Nat} {T:TypeId} {x0 x1 x2 x3 x4 x5 x6 x7 x8 x9 x10 x11 x12 x13:Value} (h:w.heap[b]? = some (.cells #[x0,x1,x2,x3,x4,x5,x6,x7,x8,x9,x10,x11,x12,x13] T (0,0))):w.cell? ⟨b,0,none⟩=some x0∧w.cell? ⟨b,1,none⟩=some x1∧w.cell? ⟨b,2,none⟩=some x2∧w.cell? ⟨b,3,none⟩=some x3∧w.cell? ⟨b,4,none⟩=some x4∧w.cell? ⟨b,5,none⟩=some x5∧w.cell? ⟨b,6,none⟩=some x6∧w.cell? ⟨b,7,none⟩=some x7∧w.cell? ⟨b,8,none⟩=some x8∧w.cell? ⟨b,9,none⟩=some x9∧w.cell? ⟨b,10,none⟩=some x10∧w.cell? ⟨b,11,none⟩=some x11∧w.cell? ⟨b,12,none⟩=some x12∧w.cell? ⟨b,13,none⟩=some x13:=
 ⟨cell_of_row w _ 0 _ _ _ h,cell_of_row w _ 1 _ _ _ h,cell_of_row w _ 2 _ _ _ h,cell_of_row w _ 3 _ _ _ h,cell_of_row w _ 4 _ _ _ h,cell_of_row w _ 5 _ _ _ h,cell_of_row w _ 6 _ _ _ h,cell_of_row w _ 7 _ _ _ h,cell_of_row w _ 8 _ _ _ h,cell_of_row w _ 9 _ _ _ h,cell_of_row w _ 10 _ _ _ h,cell_of_row w _ 11 _ _ _ h,cell_of_row w _ 12 _ _ _ h,cell_of_row w _ 13 _ _ _ h⟩
def put12s (w:World) (g:Nat) (v0 v1 v2 v3 v4 v5 v6 v7 v8 v9 v10 v13:Value):World:=
 (((((((((((w.setCell ⟨g,0,none⟩ v0).setCell ⟨g,1,none⟩ v1).setCell ⟨g,2,none⟩ v2).setCell ⟨g,3,none⟩ v3).setCell ⟨g,4,none⟩ v4).setCell ⟨g,5,none⟩ v5).setCell ⟨g,6,none⟩ v6).setCell ⟨g,7,none⟩ v7).setCell ⟨g,8,none⟩ v8).setCell ⟨g,9,none⟩ v9).setCell ⟨g,10,none⟩ v10).setCell ⟨g,13,none⟩ v13
section
variable {w:World} {g:Nat} {t:TypeId} {x0 x1 x2 x3 x4 x5 x6 x7 x8 x9 x10 x11 x12 x13:Value} (v0 v1 v2 v3 v4 v5 v6 v7 v8 v9 v10 v13:Value)
theorem put12s_row (h:w.heap[g]? = some (.cells #[x0,x1,x2,x3,x4,x5,x6,x7,x8,x9,x10,x11,x12,x13] t (0,0))):(put12s w g v0 v1 v2 v3 v4 v5 v6 v7 v8 v9 v10 v13).heap[g]? = some (.cells #[v0,v1,v2,v3,v4,v5,v6,v7,v8,v9,v10,x11,x12,v13] t (0,0)):=by
 obtain ⟨w0,e0⟩:∃ w0,w0=w.setCell ⟨g,0,none⟩ v0:=⟨_,rfl⟩
 have h0:w0.heap[g]? = some (.cells #[v0,x1,x2,x3,x4,x5,x6,x7,x8,x9,x10,x11,x12,x13] t (0,0)):=by rw [e0]; exact Joins.block_setCell (i:=0) h v0
 obtain ⟨w1,e1⟩:∃ w1,w1=w0.setCell ⟨g,1,none⟩ v1:=⟨_,rfl⟩
 have h1:w1.heap[g]? = some (.cells #[v0,v1,x2,x3,x4,x5,x6,x7,x8,x9,x10,x11,x12,x13] t (0,0)):=by rw [e1]; exact Joins.block_setCell (i:=1) h0 v1
 obtain ⟨w2,e2⟩:∃ w2,w2=w1.setCell ⟨g,2,none⟩ v2:=⟨_,rfl⟩
 have h2:w2.heap[g]? = some (.cells #[v0,v1,v2,x3,x4,x5,x6,x7,x8,x9,x10,x11,x12,x13] t (0,0)):=by rw [e2]; exact Joins.block_setCell (i:=2) h1 v2
 obtain ⟨w3,e3⟩:∃ w3,w3=w2.setCell ⟨g,3,none⟩ v3:=⟨_,rfl⟩
 have h3:w3.heap[g]? = some (.cells #[v0,v1,v2,v3,x4,x5,x6,x7,x8,x9,x10,x11,x12,x13] t (0,0)):=by rw [e3]; exact Joins.block_setCell (i:=3) h2 v3
 obtain ⟨w4,e4⟩:∃ w4,w4=w3.setCell ⟨g,4,none⟩ v4:=⟨_,rfl⟩
 have h4:w4.heap[g]? = some (.cells #[v0,v1,v2,v3,v4,x5,x6,x7,x8,x9,x10,x11,x12,x13] t (0,0)):=by rw [e4]; exact Joins.block_setCell (i:=4) h3 v4
 obtain ⟨w5,e5⟩:∃ w5,w5=w4.setCell ⟨g,5,none⟩ v5:=⟨_,rfl⟩
 have h5:w5.heap[g]? = some (.cells #[v0,v1,v2,v3,v4,v5,x6,x7,x8,x9,x10,x11,x12,x13] t (0,0)):=by rw [e5]; exact Joins.block_setCell (i:=5) h4 v5
 obtain ⟨w6,e6⟩:∃ w6,w6=w5.setCell ⟨g,6,none⟩ v6:=⟨_,rfl⟩
 have h6:w6.heap[g]? = some (.cells #[v0,v1,v2,v3,v4,v5,v6,x7,x8,x9,x10,x11,x12,x13] t (0,0)):=by rw [e6]; exact Joins.block_setCell (i:=6) h5 v6
 obtain ⟨w7,e7⟩:∃ w7,w7=w6.setCell ⟨g,7,none⟩ v7:=⟨_,rfl⟩
 have h7:w7.heap[g]? = some (.cells #[v0,v1,v2,v3,v4,v5,v6,v7,x8,x9,x10,x11,x12,x13] t (0,0)):=by rw [e7]; exact Joins.block_setCell (i:=7) h6 v7
 obtain ⟨w8,e8⟩:∃ w8,w8=w7.setCell ⟨g,8,none⟩ v8:=⟨_,rfl⟩
 have h8:w8.heap[g]? = some (.cells #[v0,v1,v2,v3,v4,v5,v6,v7,v8,x9,x10,x11,x12,x13] t (0,0)):=by rw [e8]; exact Joins.block_setCell (i:=8) h7 v8
 obtain ⟨w9,e9⟩:∃ w9,w9=w8.setCell ⟨g,9,none⟩ v9:=⟨_,rfl⟩
 have h9:w9.heap[g]? = some (.cells #[v0,v1,v2,v3,v4,v5,v6,v7,v8,v9,x10,x11,x12,x13] t (0,0)):=by rw [e9]; exact Joins.block_setCell (i:=9) h8 v9
 obtain ⟨w10,e10⟩:∃ w10,w10=w9.setCell ⟨g,10,none⟩ v10:=⟨_,rfl⟩
 have h10:w10.heap[g]? = some (.cells #[v0,v1,v2,v3,v4,v5,v6,v7,v8,v9,v10,x11,x12,x13] t (0,0)):=by rw [e10]; exact Joins.block_setCell (i:=10) h9 v10
 obtain ⟨w13,e13⟩:∃ w13,w13=w10.setCell ⟨g,13,none⟩ v13:=⟨_,rfl⟩
 have h13:w13.heap[g]? = some (.cells #[v0,v1,v2,v3,v4,v5,v6,v7,v8,v9,v10,x11,x12,v13] t (0,0)):=by rw [e13]; exact Joins.block_setCell (i:=13) h10 v13
 unfold put12s
 rw [← e0,← e1,← e2,← e3,← e4,← e5,← e6,← e7,← e8,← e9,← e10,← e13]
 exact h13
theorem put12s_grow (w:World) (b:Nat):Grow2 w (put12s w g v0 v1 v2 v3 v4 v5 v6 v7 v8 v9 v10 v13) g b:=by
 unfold put12s
 exact (Grow2.trans (Grow2.trans (Grow2.trans (Grow2.trans (Grow2.trans (Grow2.trans (Grow2.trans (Grow2.trans (Grow2.trans (Grow2.trans (Grow2.trans (Grow2.set _ g b 0 _) (Grow2.set _ g b 1 _)) (Grow2.set _ g b 2 _)) (Grow2.set _ g b 3 _)) (Grow2.set _ g b 4 _)) (Grow2.set _ g b 5 _)) (Grow2.set _ g b 6 _)) (Grow2.set _ g b 7 _)) (Grow2.set _ g b 8 _)) (Grow2.set _ g b 9 _)) (Grow2.set _ g b 10 _)) (Grow2.set _ g b 13 _))
end
def StepEnd (x:Ev) (w:World) (e:Ending) (w':World):Prop:=
 ∃ (k2:Int) (t2 x2 wn2 nn2 v2:Nat) (p2:V) (A2:Option Addr) (c2:Nat) (es2:List En) (z m1 m2:Nat),e=.returned (.agg #[.int .i64 k2,.int .u64 (t2:Int),.int .u64 (x2:Int),.int .u64 (wn2:Int),.int .u64 (nn2:Int),.int .u64 (v2:Int),.int .i64 p2.kind,.int .u64 (p2.a:Int),.int .u64 (p2.b:Int),.slice p2.addr p2.parts.length p2.cap,.slice A2 es2.length c2,.int .i64 (x.f:Int),.int .i64 (x.t:Int),.int .i64 (z:Int)])∧(x.r=0→ansP x.k x.p=(Rv.abs ⟨k2,t2,x2,wn2,nn2,v2,p2,A2,c2,es2⟩,z))∧(x.r≠0→z=x.r)∧w.heap.size≤m1∧RecIn w' m1 m2 ⟨k2,t2,x2,wn2,nn2,v2,p2,A2,c2,es2⟩∧Below w.heap.size w w'∧4 * es2.length≤x.p.length+4
theorem step_ret {Q:Ending→World→Prop} {W:World} {h0:Nat} {x0 x1 x2 x3 x4 x5 x6 x7 x8 x9 x10 x11 x12 x13:Value} (HR:W.heap[h0]? = some (.cells #[x0,x1,x2,x3,x4,x5,x6,x7,x8,x9,x10,x11,x12,x13] 96 (0,0)))
 (HF:Q (.returned (.agg #[x0,x1,x2,x3,x4,x5,x6,x7,x8,x9,x10,x11,x12,x13])) W) (tmps:Array Value) (h2:tmps.getD 4 undef=.pointer (some ⟨h0,0,none⟩)):bodyPost Tryz.prog Tryz.f29 Q .ret {tmps:=tmps,defers:=[]} W:=by
 rw [Array.getD_eq_getD_getElem?] at h2
 obtain ⟨d0,d1,d2,d3,d4,d5,d6,d7,d8,d9,d10,d11,d12,d13⟩:=step_cells HR
 exact bodyPost_ret (v:=.agg #[x0,x1,x2,x3,x4,x5,x6,x7,x8,x9,x10,x11,x12,x13]) (by simp [results,Tryz.results29,go_sem,h2,d0,d1,d2,d3,d4,d5,d6,d7,d8,d9,d10,d11,d12,d13]) rfl HF
set_option maxRecDepth 100000 in
set_option maxHeartbeats 6400000 in
theorem parsed6_any (B:Nat) (x:Ev) (w:World) (hx:x.r=0→x.k<256∧Rd w B 1 x.A x.p.length (bs x.p)∧∀ y∈x.p,y<256) (hl:x.p.length≤100000) (hB:B≤w.heap.size) :
 Calls Tryz.prog 29 #[.agg #[.int .u8 (x.k:Int),.slice x.A x.p.length x.c,.int .i64 (x.f:Int),.int .i64 (x.t:Int)],.int .i64 (x.r:Int)] w (StepEnd x w):=by
 have hf1:=(Below.heap_alloc (w.alloc (.cells #[.int .u8 (x.k:Int),.slice x.A x.p.length x.c,.int .i64 (x.f:Int),.int .i64 (x.t:Int)] 94)) (.cells #[.int .i64 0,.int .u64 0,.int .u64 0,.int .u64 0,.int .u64 0,.int .u64 0,.int .i64 0,.int .u64 0,.int .u64 0,.slice none 0 0,.slice none 0 0,.int .i64 0,.int .i64 0,.int .i64 0] 96) w.heap.size (by simp)).trans (heap_alloc_new w (.cells #[.int .u8 (x.k:Int),.slice x.A x.p.length x.c,.int .i64 (x.f:Int),.int .i64 (x.t:Int)] 94))
 have ho1:=heap_alloc_new (w.alloc (.cells #[.int .u8 (x.k:Int),.slice x.A x.p.length x.c,.int .i64 (x.f:Int),.int .i64 (x.t:Int)] 94)) (.cells #[.int .i64 0,.int .u64 0,.int .u64 0,.int .u64 0,.int .u64 0,.int .u64 0,.int .i64 0,.int .u64 0,.int .u64 0,.slice none 0 0,.slice none 0 0,.int .i64 0,.int .i64 0,.int .i64 0] 96)
 rw [World.size_alloc] at ho1
 have hb1:=(below_new w (.cells #[.int .u8 (x.k:Int),.slice x.A x.p.length x.c,.int .i64 (x.f:Int),.int .i64 (x.t:Int)] 94)).trans ((below_new (w.alloc (.cells #[.int .u8 (x.k:Int),.slice x.A x.p.length x.c,.int .i64 (x.f:Int),.int .i64 (x.t:Int)] 94)) (.cells #[.int .i64 0,.int .u64 0,.int .u64 0,.int .u64 0,.int .u64 0,.int .u64 0,.int .i64 0,.int .u64 0,.int .u64 0,.slice none 0 0,.slice none 0 0,.int .i64 0,.int .i64 0,.int .i64 0] 96)).mono (by simp))
 have hs1:((w.alloc (.cells #[.int .u8 (x.k:Int),.slice x.A x.p.length x.c,.int .i64 (x.f:Int),.int .i64 (x.t:Int)] 94)).alloc (.cells #[.int .i64 0,.int .u64 0,.int .u64 0,.int .u64 0,.int .u64 0,.int .u64 0,.int .i64 0,.int .u64 0,.int .u64 0,.slice none 0 0,.slice none 0 0,.int .i64 0,.int .i64 0,.int .i64 0] 96)).heap.size=w.heap.size+1+1:=by simp
 go_enter Tryz.func29,Tryz.ntmps29
 go_upto_region 1 with (fail)
 generalize (w.alloc (.cells #[.int .u8 (x.k:Int),.slice x.A x.p.length x.c,.int .i64 (x.f:Int),.int .i64 (x.t:Int)] 94)).alloc (.cells #[.int .i64 0,.int .u64 0,.int .u64 0,.int .u64 0,.int .u64 0,.int .u64 0,.int .i64 0,.int .u64 0,.int .u64 0,.slice none 0 0,.slice none 0 0,.int .i64 0,.int .i64 0,.int .i64 0] 96)=w1 at *
 have hq2:=heap_alloc_new w1 (.cells #[.int .i64 0,.int .u64 0,.int .u64 0,.int .u64 0,.int .u64 0,.int .u64 0,.int .i64 0,.int .u64 0,.int .u64 0,.slice none 0 0,.slice none 0 0,.int .i64 0,.int .i64 0,.int .i64 (x.r:Int)] 96)
 have hb2:=below_new w1 (.cells #[.int .i64 0,.int .u64 0,.int .u64 0,.int .u64 0,.int .u64 0,.int .u64 0,.int .i64 0,.int .u64 0,.int .u64 0,.slice none 0 0,.slice none 0 0,.int .i64 0,.int .i64 0,.int .i64 (x.r:Int)] 96)
 have hf2:=(hb2.block _ (lt_of_block hf1)).trans hf1
 have ho2:=(hb2.block _ (lt_of_block ho1)).trans ho1
 have hbw2:=hb1.trans (hb2.mono hb1.size)
 have hs2:(w1.alloc (.cells #[.int .i64 0,.int .u64 0,.int .u64 0,.int .u64 0,.int .u64 0,.int .u64 0,.int .i64 0,.int .u64 0,.int .u64 0,.slice none 0 0,.slice none 0 0,.int .i64 0,.int .i64 0,.int .i64 (x.r:Int)] 96)).heap.size > w1.heap.size:=by simp
 go_upto_region 2 with (fail)
 clear hf1 ho1 hb1 hb2
 rw [hs1] at hq2 hs2
 clear hs1
 generalize w1.alloc (.cells #[.int .i64 0,.int .u64 0,.int .u64 0,.int .u64 0,.int .u64 0,.int .u64 0,.int .i64 0,.int .u64 0,.int .u64 0,.slice none 0 0,.slice none 0 0,.int .i64 0,.int .i64 0,.int .i64 (x.r:Int)] 96)=w2 at *
 have c2:w2.cell? ⟨w.heap.size,2,none⟩=some (.int .i64 (x.f:Int)):=cell_of_row w2 _ 2 _ _ _ hf2
 have c3:w2.cell? ⟨w.heap.size,3,none⟩=some (.int .i64 (x.t:Int)):=cell_of_row w2 _ 3 _ _ _ hf2
 have d11:w2.cell? ⟨w.heap.size+1+1,11,none⟩=some (.int .i64 0):=cell_of_row w2 _ 11 _ _ _ hq2
 have d12:w2.cell? ⟨w.heap.size+1+1,12,none⟩=some (.int .i64 0):=cell_of_row w2 _ 12 _ _ _ hq2
 have y11:=frozen_of_row w2 (w.heap.size+1+1) 11 _ _ hq2
 have y12:=frozen_of_row w2 (w.heap.size+1+1) 12 _ _ hq2
 have W3:∃ W3,W3=((w2.setCell ⟨w.heap.size+1+1,11,none⟩ (.int .i64 (x.f:Int))).setCell ⟨w.heap.size+1+1,12,none⟩ (.int .i64 (x.t:Int))).drew:=⟨_,rfl⟩
 have q3:((w2.setCell ⟨w.heap.size+1+1,11,none⟩ (.int .i64 (x.f:Int))).setCell ⟨w.heap.size+1+1,12,none⟩ (.int .i64 (x.t:Int))).drew.heap[w.heap.size+1+1]? = some (.cells #[.int .i64 0,.int .u64 0,.int .u64 0,.int .u64 0,.int .u64 0,.int .u64 0,.int .i64 0,.int .u64 0,.int .u64 0,.slice none 0 0,.slice none 0 0,.int .i64 (x.f:Int),.int .i64 (x.t:Int),.int .i64 (x.r:Int)] 96 (0,0)):=Joins.block_setCell (i:=12) (Joins.block_setCell (i:=11) hq2 (.int .i64 (x.f:Int))) (.int .i64 (x.t:Int))
 have f3:((w2.setCell ⟨w.heap.size+1+1,11,none⟩ (.int .i64 (x.f:Int))).setCell ⟨w.heap.size+1+1,12,none⟩ (.int .i64 (x.t:Int))).drew.heap[w.heap.size]? = _:=(Below.heap_setCell _ _ _ _ (by show w.heap.size≠w.heap.size+1+1; omega)).trans ((Below.heap_setCell _ _ _ _ (by show w.heap.size≠w.heap.size+1+1; omega)).trans hf2)
 have o3:((w2.setCell ⟨w.heap.size+1+1,11,none⟩ (.int .i64 (x.f:Int))).setCell ⟨w.heap.size+1+1,12,none⟩ (.int .i64 (x.t:Int))).drew.heap[w.heap.size+1]? = _:=(Below.heap_setCell _ _ _ _ (by show w.heap.size+1≠w.heap.size+1+1; omega)).trans ((Below.heap_setCell _ _ _ _ (by show w.heap.size+1≠w.heap.size+1+1; omega)).trans ho2)
 have b3:Below w.heap.size w ((w2.setCell ⟨w.heap.size+1+1,11,none⟩ (.int .i64 (x.f:Int))).setCell ⟨w.heap.size+1+1,12,none⟩ (.int .i64 (x.t:Int))).drew:=below_drew_ ((hbw2.setCell (p:=⟨w.heap.size+1+1,11,none⟩) (by show w.heap.size≤w.heap.size+1+1; omega) _).setCell (p:=⟨w.heap.size+1+1,12,none⟩) (by show w.heap.size≤w.heap.size+1+1; omega) _) (n:=1)
 clear hf2 ho2 hq2 hbw2 W3
 go_region
 all_goals
  generalize ((w2.setCell ⟨w.heap.size+1+1,11,none⟩ (.int .i64 (x.f:Int))).setCell ⟨w.heap.size+1+1,12,none⟩ (.int .i64 (x.t:Int))).drew=w3 at *
  clear c2 c3 d11 d12 y11 y12 hs2
  have hsz3:=lt_of_block q3
  by_cases hr:x.r=0
  · have hri:((x.r:Int) == 0)=true:=by simp [hr]
    obtain ⟨hk8,hrd,hb8⟩:=hx hr
    have fc0:w3.cell? ⟨w.heap.size,0,none⟩=some (.int .u8 (x.k:Int)):=cell_of_row w3 _ 0 _ _ _ f3
    have fc1:w3.cell? ⟨w.heap.size,1,none⟩=some (.slice x.A x.p.length x.c):=cell_of_row w3 _ 1 _ _ _ f3
    obtain ⟨⟨ra,z⟩,hA⟩:∃ y,ansP x.k x.p=y:=⟨_,rfl⟩
    have CP:Calls Tryz.prog 54 #[.agg #[.int .u8 (x.k:Int),.slice x.A x.p.length x.c]] w3 fun e w'=>∃ (k2:Int) (t2 x2 wn2 nn2 v2:Nat) (p2:V) (A2:Option Addr) (c2:Nat) (es2:List En),e=.returned (.tuple #[.agg #[.int .i64 k2,.int .u64 (t2:Int),.int .u64 (x2:Int),.int .u64 (wn2:Int),.int .u64 (nn2:Int),.int .u64 (v2:Int),.int .i64 p2.kind,.int .u64 (p2.a:Int),.int .u64 (p2.b:Int),.slice p2.addr p2.parts.length p2.cap,.slice A2 es2.length c2],.int .i64 (z:Int)])∧Rv.abs ⟨k2,t2,x2,wn2,nn2,v2,p2,A2,c2,es2⟩=ra∧RLies w' w3.heap.size w'.heap.size ⟨k2,t2,x2,wn2,nn2,v2,p2,A2,c2,es2⟩∧SpR w3.heap.size ⟨k2,t2,x2,wn2,nn2,v2,p2,A2,c2,es2⟩ w'∧Below w3.heap.size w3 w'∧4 * es2.length≤x.p.length+4:=by
     have h:=parse5_any B x.k x.A x.p.length x.c x.p w3 hk8 (hrd.below (b3.mono hB)) hb8 (by omega) (by have:=b3.size; omega)
     rw [hA] at h
     exact h.mono fun e w' ⟨⟨k2,t2,x2,wn2,nn2,v2,p2,A2,c2,es2⟩,h⟩=>⟨k2,t2,x2,wn2,nn2,v2,p2,A2,c2,es2,h⟩
    have HA:=Lib_hid hA
    have HR0:=Lib_hid hr
    clear hA hx hrd hb8 hk8 hr f3
    go_wp2_with fail
    refine CP.mono ?_
    rintro e w4 ⟨k2,t2,x2,wn2,nn2,v2,p2,A2,c2,es2,rfl,hra,hL,hSp,hb4,hes⟩
    have q4:=(hb4.block _ (lt_of_block q3)).trans q3
    have o4:=(hb4.block _ (lt_of_block o3)).trans o3
    have hri4:RecIn w4 w3.heap.size w4.heap.size ⟨k2,t2,x2,wn2,nn2,v2,p2,A2,c2,es2⟩:=by
     obtain ⟨l1,w0,k1,k2',k3,k4,k5,k6,k7⟩:=hSp
     exact RecIn.of hL (k5.more k1) k6 hb4.size
    have hb4w:=b3.trans (hb4.mono b3.size)
    have hs4:=hb4.size
    have HFIN:Hid (StepEnd x w (.returned (.agg #[.int .i64 k2,.int .u64 (t2:Int),.int .u64 (x2:Int),.int .u64 (wn2:Int),.int .u64 (nn2:Int),.int .u64 (v2:Int),.int .i64 p2.kind,.int .u64 (p2.a:Int),.int .u64 (p2.b:Int),.slice p2.addr p2.parts.length p2.cap,.slice A2 es2.length c2,.int .i64 (x.f:Int),.int .i64 (x.t:Int),.int .i64 (z:Int)])) (put14 (put12s w4 (w.heap.size+1+1) (.int .i64 k2) (.int .u64 (t2:Int)) (.int .u64 (x2:Int)) (.int .u64 (wn2:Int)) (.int .u64 (nn2:Int)) (.int .u64 (v2:Int)) (.int .i64 p2.kind) (.int .u64 (p2.a:Int)) (.int .u64 (p2.b:Int)) (.slice p2.addr p2.parts.length p2.cap) (.slice A2 es2.length c2) (.int .i64 (z:Int))) (w.heap.size+1) (.int .i64 k2) (.int .u64 (t2:Int)) (.int .u64 (x2:Int)) (.int .u64 (wn2:Int)) (.int .u64 (nn2:Int)) (.int .u64 (v2:Int)) (.int .i64 p2.kind) (.int .u64 (p2.a:Int)) (.int .u64 (p2.b:Int)) (.slice p2.addr p2.parts.length p2.cap) (.slice A2 es2.length c2) (.int .i64 (x.f:Int)) (.int .i64 (x.t:Int)) (.int .i64 (z:Int)))):=by
     have g1:=put12s_grow (g:=w.heap.size+1+1) (.int .i64 k2) (.int .u64 (t2:Int)) (.int .u64 (x2:Int)) (.int .u64 (wn2:Int)) (.int .u64 (nn2:Int)) (.int .u64 (v2:Int)) (.int .i64 p2.kind) (.int .u64 (p2.a:Int)) (.int .u64 (p2.b:Int)) (.slice p2.addr p2.parts.length p2.cap) (.slice A2 es2.length c2) (.int .i64 (z:Int)) w4 (w.heap.size+1)
     have g2:=put14_grow (g:=w.heap.size+1) (.int .i64 k2) (.int .u64 (t2:Int)) (.int .u64 (x2:Int)) (.int .u64 (wn2:Int)) (.int .u64 (nn2:Int)) (.int .u64 (v2:Int)) (.int .i64 p2.kind) (.int .u64 (p2.a:Int)) (.int .u64 (p2.b:Int)) (.slice p2.addr p2.parts.length p2.cap) (.slice A2 es2.length c2) (.int .i64 (x.f:Int)) (.int .i64 (x.t:Int)) (.int .i64 (z:Int)) (put12s w4 (w.heap.size+1+1) (.int .i64 k2) (.int .u64 (t2:Int)) (.int .u64 (x2:Int)) (.int .u64 (wn2:Int)) (.int .u64 (nn2:Int)) (.int .u64 (v2:Int)) (.int .i64 p2.kind) (.int .u64 (p2.a:Int)) (.int .u64 (p2.b:Int)) (.slice p2.addr p2.parts.length p2.cap) (.slice A2 es2.length c2) (.int .i64 (z:Int))) (w.heap.size+1+1)
     have s1:=g1.size
     refine ⟨k2,t2,x2,wn2,nn2,v2,p2,A2,c2,es2,z,w3.heap.size,w4.heap.size,rfl,fun _=>by rw [HA.out,hra],fun h=>absurd HR0.out h,b3.size,hri4.keep (Nat.le_trans g1.size g2.size) fun q a b=>(g2.block q (by omega) (by omega) (by omega)).trans (g1.block q b (by omega) (by omega)),?_,hes⟩
     exact (hb4w.trans (g1.below (B:=w.heap.size) hb4w.size (by omega) (by omega))).trans (g2.below (B:=w.heap.size) (Nat.le_trans hb4w.size g1.size) (by omega) (by omega))
    have HROW:Hid ((put14 (put12s w4 (w.heap.size+1+1) (.int .i64 k2) (.int .u64 (t2:Int)) (.int .u64 (x2:Int)) (.int .u64 (wn2:Int)) (.int .u64 (nn2:Int)) (.int .u64 (v2:Int)) (.int .i64 p2.kind) (.int .u64 (p2.a:Int)) (.int .u64 (p2.b:Int)) (.slice p2.addr p2.parts.length p2.cap) (.slice A2 es2.length c2) (.int .i64 (z:Int))) (w.heap.size+1) (.int .i64 k2) (.int .u64 (t2:Int)) (.int .u64 (x2:Int)) (.int .u64 (wn2:Int)) (.int .u64 (nn2:Int)) (.int .u64 (v2:Int)) (.int .i64 p2.kind) (.int .u64 (p2.a:Int)) (.int .u64 (p2.b:Int)) (.slice p2.addr p2.parts.length p2.cap) (.slice A2 es2.length c2) (.int .i64 (x.f:Int)) (.int .i64 (x.t:Int)) (.int .i64 (z:Int))).heap[w.heap.size+1]? = some (.cells #[.int .i64 k2,.int .u64 (t2:Int),.int .u64 (x2:Int),.int .u64 (wn2:Int),.int .u64 (nn2:Int),.int .u64 (v2:Int),.int .i64 p2.kind,.int .u64 (p2.a:Int),.int .u64 (p2.b:Int),.slice p2.addr p2.parts.length p2.cap,.slice A2 es2.length c2,.int .i64 (x.f:Int),.int .i64 (x.t:Int),.int .i64 (z:Int)] 96 (0,0))):=by
     have g1:=put12s_grow (g:=w.heap.size+1+1) (.int .i64 k2) (.int .u64 (t2:Int)) (.int .u64 (x2:Int)) (.int .u64 (wn2:Int)) (.int .u64 (nn2:Int)) (.int .u64 (v2:Int)) (.int .i64 p2.kind) (.int .u64 (p2.a:Int)) (.int .u64 (p2.b:Int)) (.slice p2.addr p2.parts.length p2.cap) (.slice A2 es2.length c2) (.int .i64 (z:Int)) w4 (w.heap.size+1+1)
     exact put14_row _ _ _ _ _ _ _ _ _ _ _ _ _ _ ((g1.block _ (lt_of_block o4) (by omega) (by omega)).trans o4)
    have HQ5:=Lib_hid (put12s_row (.int .i64 k2) (.int .u64 (t2:Int)) (.int .u64 (x2:Int)) (.int .u64 (wn2:Int)) (.int .u64 (nn2:Int)) (.int .u64 (v2:Int)) (.int .i64 p2.kind) (.int .u64 (p2.a:Int)) (.int .u64 (p2.b:Int)) (.slice p2.addr p2.parts.length p2.cap) (.slice A2 es2.length c2) (.int .i64 (z:Int)) q4)
    have HO5:Hid ((put12s w4 (w.heap.size+1+1) (.int .i64 k2) (.int .u64 (t2:Int)) (.int .u64 (x2:Int)) (.int .u64 (wn2:Int)) (.int .u64 (nn2:Int)) (.int .u64 (v2:Int)) (.int .i64 p2.kind) (.int .u64 (p2.a:Int)) (.int .u64 (p2.b:Int)) (.slice p2.addr p2.parts.length p2.cap) (.slice A2 es2.length c2) (.int .i64 (z:Int))).heap[w.heap.size+1]? = _):=((put12s_grow (g:=w.heap.size+1+1) (.int .i64 k2) (.int .u64 (t2:Int)) (.int .u64 (x2:Int)) (.int .u64 (wn2:Int)) (.int .u64 (nn2:Int)) (.int .u64 (v2:Int)) (.int .i64 p2.kind) (.int .u64 (p2.a:Int)) (.int .u64 (p2.b:Int)) (.slice p2.addr p2.parts.length p2.cap) (.slice A2 es2.length c2) (.int .i64 (z:Int)) w4 (w.heap.size+1+1)).block _ (lt_of_block o4) (by omega) (by omega)).trans o4
    obtain ⟨d0,d1,d2,d3,d4,d5,d6,d7,d8,d9,d10,d11,d12,d13⟩:=step_cells q4
    have y:=fun i=>frozen_of_row w4 (w.heap.size+1+1) i _ _ q4
    have y0:=y 0
    have y1:=y 1
    have y2:=y 2
    have y3:=y 3
    have y4:=y 4
    have y5:=y 5
    have y6:=y 6
    have y7:=y 7
    have y8:=y 8
    have y9:=y 9
    have y10:=y 10
    have y13:=y 13
    clear y fc0 fc1 CP hra hL hSp hb4 hes hri4 hb4w hs4 q3 o3 b3 q4 o4 hsz3 HA HR0
    generalize p2.addr=pA at *
    generalize p2.parts.length=pn at *
    generalize p2.cap=pc at *
    generalize p2.kind=pk at *
    generalize (p2.a:Int)=pa at *
    generalize (p2.b:Int)=pb at *
    generalize es2.length=en at *
    go_upto_region 5 with (fail)
    change Code.wp _ _ _ _ (put12s w4 (w.heap.size+1+1) (.int .i64 k2) (.int .u64 (t2:Int)) (.int .u64 (x2:Int)) (.int .u64 (wn2:Int)) (.int .u64 (nn2:Int)) (.int .u64 (v2:Int)) (.int .i64 pk) (.int .u64 pa) (.int .u64 pb) (.slice pA pn pc) (.slice A2 en c2) (.int .i64 (z:Int)))
    generalize put12s w4 (w.heap.size+1+1) (.int .i64 k2) (.int .u64 (t2:Int)) (.int .u64 (x2:Int)) (.int .u64 (wn2:Int)) (.int .u64 (nn2:Int)) (.int .u64 (v2:Int)) (.int .i64 pk) (.int .u64 pa) (.int .u64 pb) (.slice pA pn pc) (.slice A2 en c2) (.int .i64 (z:Int))=w5 at *
    clear d0 d1 d2 d3 d4 d5 d6 d7 d8 d9 d10 d11 d12 d13 y0 y1 y2 y3 y4 y5 y6 y7 y8 y9 y10 y13
    obtain ⟨d0,d1,d2,d3,d4,d5,d6,d7,d8,d9,d10,d11,d12,d13⟩:=step_cells HQ5.out
    obtain ⟨e0,e1,e2,e3,e4,e5,e6,e7,e8,e9,e10,e11,e12,e13⟩:=step_cells HO5.out
    have y:=fun i=>frozen_of_row w5 (w.heap.size+1) i _ _ HO5.out
    have y0:=y 0
    have y1:=y 1
    have y2:=y 2
    have y3:=y 3
    have y4:=y 4
    have y5:=y 5
    have y6:=y 6
    have y7:=y 7
    have y8:=y 8
    have y9:=y 9
    have y10:=y 10
    have y11:=y 11
    have y12:=y 12
    have y13:=y 13
    clear y
    go_wp2
    show bodyPost _ _ _ _ _ (put14 w5 (w.heap.size+1) (.int .i64 k2) (.int .u64 (t2:Int)) (.int .u64 (x2:Int)) (.int .u64 (wn2:Int)) (.int .u64 (nn2:Int)) (.int .u64 (v2:Int)) (.int .i64 pk) (.int .u64 pa) (.int .u64 pb) (.slice pA pn pc) (.slice A2 en c2) (.int .i64 (x.f:Int)) (.int .i64 (x.t:Int)) (.int .i64 (z:Int)))
    generalize put14 w5 (w.heap.size+1) (.int .i64 k2) (.int .u64 (t2:Int)) (.int .u64 (x2:Int)) (.int .u64 (wn2:Int)) (.int .u64 (nn2:Int)) (.int .u64 (v2:Int)) (.int .i64 pk) (.int .u64 pa) (.int .u64 pb) (.slice pA pn pc) (.slice A2 en c2) (.int .i64 (x.f:Int)) (.int .i64 (x.t:Int)) (.int .i64 (z:Int))=W4 at *
    exact step_ret HROW.out HFIN.out _ rfl
  · have hri:((x.r:Int) == 0)=false:=by simp; omega
    have HFIN:Hid (StepEnd x w (.returned (.agg #[.int .i64 0,.int .u64 0,.int .u64 0,.int .u64 0,.int .u64 0,.int .u64 0,.int .i64 0,.int .u64 0,.int .u64 0,.slice none 0 0,.slice none 0 0,.int .i64 (x.f:Int),.int .i64 (x.t:Int),.int .i64 (x.r:Int)])) (put14 w3 (w.heap.size+1) (.int .i64 0) (.int .u64 0) (.int .u64 0) (.int .u64 0) (.int .u64 0) (.int .u64 0) (.int .i64 0) (.int .u64 0) (.int .u64 0) (.slice none 0 0) (.slice none 0 0) (.int .i64 (x.f:Int)) (.int .i64 (x.t:Int)) (.int .i64 (x.r:Int)))):=by
     have g2:=put14_grow (g:=w.heap.size+1) (.int .i64 0) (.int .u64 0) (.int .u64 0) (.int .u64 0) (.int .u64 0) (.int .u64 0) (.int .i64 0) (.int .u64 0) (.int .u64 0) (.slice none 0 0) (.slice none 0 0) (.int .i64 (x.f:Int)) (.int .i64 (x.t:Int)) (.int .i64 (x.r:Int)) w3 (w.heap.size+1+1)
     have hb6:=b3.trans (g2.below (B:=w.heap.size) b3.size (by omega) (by omega))
     exact ⟨0,0,0,0,0,0,.node 0 0 0 none 0 [],none,0,[],x.r,_,_,rfl,fun h=>absurd h hr,fun _=>rfl,hb6.size,RecIn.of (rlies_zero _ _ _ 0 (by omega)) (zero_shp _ _ _) (World.ownsRow_nil _ _ _ _) (Nat.le_refl _),hb6,by simp⟩
    have HROW:Hid ((put14 w3 (w.heap.size+1) (.int .i64 0) (.int .u64 0) (.int .u64 0) (.int .u64 0) (.int .u64 0) (.int .u64 0) (.int .i64 0) (.int .u64 0) (.int .u64 0) (.slice none 0 0) (.slice none 0 0) (.int .i64 (x.f:Int)) (.int .i64 (x.t:Int)) (.int .i64 (x.r:Int))).heap[w.heap.size+1]? = some (.cells #[.int .i64 0,.int .u64 0,.int .u64 0,.int .u64 0,.int .u64 0,.int .u64 0,.int .i64 0,.int .u64 0,.int .u64 0,.slice none 0 0,.slice none 0 0,.int .i64 (x.f:Int),.int .i64 (x.t:Int),.int .i64 (x.r:Int)] 96 (0,0))):=put14_row _ _ _ _ _ _ _ _ _ _ _ _ _ _ o3
    obtain ⟨d0,d1,d2,d3,d4,d5,d6,d7,d8,d9,d10,d11,d12,d13⟩:=step_cells q3
    obtain ⟨e0,e1,e2,e3,e4,e5,e6,e7,e8,e9,e10,e11,e12,e13⟩:=step_cells o3
    have y:=fun i=>frozen_of_row w3 (w.heap.size+1) i _ _ o3
    have y0:=y 0
    have y1:=y 1
    have y2:=y 2
    have y3:=y 3
    have y4:=y 4
    have y5:=y 5
    have y6:=y 6
    have y7:=y 7
    have y8:=y 8
    have y9:=y 9
    have y10:=y 10
    have y11:=y 11
    have y12:=y 12
    have y13:=y 13
    clear y
    clear q3 o3 b3 f3 hx hr hsz3
    go_wp2
    show bodyPost _ _ _ _ _ (put14 w3 (w.heap.size+1) (.int .i64 0) (.int .u64 0) (.int .u64 0) (.int .u64 0) (.int .u64 0) (.int .u64 0) (.int .i64 0) (.int .u64 0) (.int .u64 0) (.slice none 0 0) (.slice none 0 0) (.int .i64 (x.f:Int)) (.int .i64 (x.t:Int)) (.int .i64 (x.r:Int)))
    generalize put14 w3 (w.heap.size+1) (.int .i64 0) (.int .u64 0) (.int .u64 0) (.int .u64 0) (.int .u64 0) (.int .u64 0) (.int .i64 0) (.int .u64 0) (.int .u64 0) (.slice none 0 0) (.slice none 0 0) (.int .i64 (x.f:Int)) (.int .i64 (x.t:Int)) (.int .i64 (x.r:Int))=W4 at *
    exact step_ret HROW.out HFIN.out _ rfl
end Go.Proofs.YtinmoknbgnngcaaGreatDoor
