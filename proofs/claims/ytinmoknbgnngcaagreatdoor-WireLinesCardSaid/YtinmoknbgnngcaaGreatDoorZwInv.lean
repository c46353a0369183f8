/-
  Layer 5: Line, the program's.
-/
import Derived.Test.YtinmoknbgnngcaaGreatDoorZwVyr
import Derived.Test.YtinmoknbgnngcaaGreatDoorZwVpw
import Derived.Test.YtinmoknbgnngcaaGreatDoorZwBse
import Derived.Orders
namespace Go.Proofs.YtinmoknbgnngcaaGreatDoor
open Go Go.RowKit
set_option linter.unusedVariables false
def put11 (w:World) (g:Nat) (v0 v1 v2 v3 v4 v5 v6 v7 v8 v9 v10:Value):World:=
 ((((((((((w.setCell ⟨g,0,none⟩ v0).setCell ⟨g,1,none⟩ v1).setCell ⟨g,2,none⟩ v2).setCell ⟨g,3,none⟩ v3).setCell ⟨g,4,none⟩ v4).setCell ⟨g,5,none⟩ v5).setCell ⟨g,6,none⟩ v6).setCell ⟨g,7,none⟩ v7).setCell ⟨g,8,none⟩ v8).setCell ⟨g,9,none⟩ v9).setCell ⟨g,10,none⟩ v10
section
variable {w:World} {g:Nat} {t:TypeId} {x0 x1 x2 x3 x4 x5 x6 x7 x8 x9 x10:Value} (v0 v1 v2 v3 v4 v5 v6 v7 v8 v9 v10:Value)
theorem put11_row (h:w.heap[g]? = some (.cells #[x0,x1,x2,x3,x4,x5,x6,x7,x8,x9,x10] t (0,0))):(put11 w g v0 v1 v2 v3 v4 v5 v6 v7 v8 v9 v10).heap[g]? = some (.cells #[v0,v1,v2,v3,v4,v5,v6,v7,v8,v9,v10] t (0,0)):=by
 obtain ⟨w0,e0⟩:∃ w0,w0=w.setCell ⟨g,0,none⟩ v0:=⟨_,rfl⟩
 have h0:w0.heap[g]? = some (.cells #[v0,x1,x2,x3,x4,x5,x6,x7,x8,x9,x10] t (0,0)):=by rw [e0]; exact Joins.block_setCell (i:=0) h v0
 obtain ⟨w1,e1⟩:∃ w1,w1=w0.setCell ⟨g,1,none⟩ v1:=⟨_,rfl⟩
 have h1:w1.heap[g]? = some (.cells #[v0,v1,x2,x3,x4,x5,x6,x7,x8,x9,x10] t (0,0)):=by rw [e1]; exact Joins.block_setCell (i:=1) h0 v1
 obtain ⟨w2,e2⟩:∃ w2,w2=w1.setCell ⟨g,2,none⟩ v2:=⟨_,rfl⟩
 have h2:w2.heap[g]? = some (.cells #[v0,v1,v2,x3,x4,x5,x6,x7,x8,x9,x10] t (0,0)):=by rw [e2]; exact Joins.block_setCell (i:=2) h1 v2
 obtain ⟨w3,e3⟩:∃ w3,w3=w2.setCell ⟨g,3,none⟩ v3:=⟨_,rfl⟩
 have h3:w3.heap[g]? = some (.cells #[v0,v1,v2,v3,x4,x5,x6,x7,x8,x9,x10] t (0,0)):=by rw [e3]; exact Joins.block_setCell (i:=3) h2 v3
 obtain ⟨w4,e4⟩:∃ w4,w4=w3.setCell ⟨g,4,none⟩ v4:=⟨_,rfl⟩
 have h4:w4.heap[g]? = some (.cells #[v0,v1,v2,v3,v4,x5,x6,x7,x8,x9,x10] t (0,0)):=by rw [e4]; exact Joins.block_setCell (i:=4) h3 v4
 obtain ⟨w5,e5⟩:∃ w5,w5=w4.setCell ⟨g,5,none⟩ v5:=⟨_,rfl⟩
 have h5:w5.heap[g]? = some (.cells #[v0,v1,v2,v3,v4,v5,x6,x7,x8,x9,x10] t (0,0)):=by rw [e5]; exact Joins.block_setCell (i:=5) h4 v5
 obtain ⟨w6,e6⟩:∃ w6,w6=w5.setCell ⟨g,6,none⟩ v6:=⟨_,rfl⟩
 have h6:w6.heap[g]? = some (.cells #[v0,v1,v2,v3,v4,v5,v6,x7,x8,x9,x10] t (0,0)):=by rw [e6]; exact Joins.block_setCell (i:=6) h5 v6
 obtain ⟨w7,e7⟩:∃ w7,w7=w6.setCell ⟨g,7,none⟩ v7:=⟨_,rfl⟩
 have h7:w7.heap[g]? = some (.cells #[v0,v1,v2,v3,v4,v5,v6,v7,x8,x9,x10] t (0,0)):=by rw [e7]; exact Joins.block_setCell (i:=7) h6 v7
 obtain ⟨w8,e8⟩:∃ w8,w8=w7.setCell ⟨g,8,none⟩ v8:=⟨_,rfl⟩
 have h8:w8.heap[g]? = some (.cells #[v0,v1,v2,v3,v4,v5,v6,v7,v8,x9,x10] t (0,0)):=by rw [e8]; exact Joins.block_setCell (i:=8) h7 v8
 obtain ⟨w9,e9⟩:∃ w9,w9=w8.setCell ⟨g,9,none⟩ v9:=⟨_,rfl⟩
 have h9:w9.heap[g]? = some (.cells #[v0,v1,v2,v3,v4,v5,v6,v7,v8,v9,x10] t (0,0)):=by rw [e9]; exact Joins.block_setCell (i:=9) h8 v9
 obtain ⟨w10,e10⟩:∃ w10,w10=w9.setCell ⟨g,10,none⟩ v10:=⟨_,rfl⟩
 have h10:w10.heap[g]? = some (.cells #[v0,v1,v2,v3,v4,v5,v6,v7,v8,v9,v10] t (0,0)):=by rw [e10]; exact Joins.block_setCell (i:=10) h9 v10
 unfold put11
 rw [← e0,← e1,← e2,← e3,← e4,← e5,← e6,← e7,← e8,← e9,← e10]
 exact h10
theorem put11_else (w:World) {k:Nat} (h:k≠g):(put11 w g v0 v1 v2 v3 v4 v5 v6 v7 v8 v9 v10).heap[k]? = w.heap[k]?:=by
 unfold put11
 iterate 11 rw [Below.heap_setCell _ _ _ _ h]
theorem put11_size (w:World):(put11 w g v0 v1 v2 v3 v4 v5 v6 v7 v8 v9 v10).heap.size=w.heap.size:=by simp [put11,World.setCell]
theorem put11_grow (w:World) (b:Nat):Grow2 w (put11 w g v0 v1 v2 v3 v4 v5 v6 v7 v8 v9 v10) g b:=by
 unfold put11
 exact Grow2.trans (Grow2.trans (Grow2.trans (Grow2.trans (Grow2.trans (Grow2.trans (Grow2.trans (Grow2.trans (Grow2.trans (Grow2.trans (Grow2.set _ g b 0 _) (Grow2.set _ g b 1 _)) (Grow2.set _ g b 2 _)) (Grow2.set _ g b 3 _)) (Grow2.set _ g b 4 _)) (Grow2.set _ g b 5 _)) (Grow2.set _ g b 6 _)) (Grow2.set _ g b 7 _)) (Grow2.set _ g b 8 _)) (Grow2.set _ g b 9 _)) (Grow2.set _ g b 10 _)
end
def ansR:Option Rc→Rc×Nat
 | some r=>(r,0)
 | none=>(Rc.zero 0,50)
def RecEnd (o:Rc×Nat) (w:World) (e:Ending) (w':World):Prop:=
 ∃ r:Rv,e=.returned (.tuple #[r.val,.int .i64 (o.2:Int)])∧r.abs=o.1∧RLies w' w.heap.size w'.heap.size r∧Shp 65 w' w.heap.size r.p∧
  w'.ownsRow w.heap.size 125 4 (.slice r.A r.es.length r.c) r.es.length (enCells r.es)∧Below w.heap.size w w'
theorem RdS.kept {lo a g:Nat} {r:Rv} {s:List UInt8} {bad:Bool} {w W:World} (h:RdS lo a g r s bad w) (hb:Below w.heap.size w W):RdS lo a g r s bad W:=by
 have h1:=h.al
 have h2:=h.gl
 have h3:=h.hi
 obtain ⟨hSh,hOw⟩:=h.rest (Grow2.ofB hb)
 exact ⟨(hb.block a (by omega)).trans h.box,(hb.block g (by omega)).trans h.wds,h.lies.grow2 (Grow2.ofB hb (a:=a) (b:=g)) h1 h2 (Nat.le_refl _),h1,h2,h.ne,Nat.le_trans h3 hb.size,hSh,hOw⟩
theorem line_ret {Q:Ending→World→Prop} {W:World} {h0:Nat} {z:Int} {x0 x1 x2 x3 x4 x5 x6 x7 x8 x9 x10:Value} (HR:W.heap[h0]? = some (.cells #[x0,x1,x2,x3,x4,x5,x6,x7,x8,x9,x10] 68 (0,0)))
 (HF:Q (.returned (.tuple #[.agg #[x0,x1,x2,x3,x4,x5,x6,x7,x8,x9,x10],.int .i64 z])) W)
 (tmps:Array Value) (h2:tmps.getD 2 undef=.pointer (some ⟨h0,0,none⟩)) (h3:tmps.getD 3 undef=.int .i64 z):bodyPost Tryz.prog Tryz.f49 Q .ret {tmps:=tmps,defers:=[]} W:=by
 rw [Array.getD_eq_getD_getElem?] at h2 h3
 obtain ⟨d0,d1,d2,d3,d4,d5,d6,d7,d8,d9,d10⟩:=rec_cells HR
 exact bodyPost_ret (v:=.tuple #[.agg #[x0,x1,x2,x3,x4,x5,x6,x7,x8,x9,x10],.int .i64 z]) (by simp [results,Tryz.results49,go_sem,h2,h3,d0,d1,d2,d3,d4,d5,d6,d7,d8,d9,d10]) rfl HF
theorem rlies_zero (w:World) (lo hi:Nat) (k:Int) (hk : -9223372036854775808≤k∧k≤9223372036854775807):RLies w lo hi ⟨k,0,0,0,0,0,.node 0 0 0 none 0 [],none,0,[]⟩:=
 ⟨hk,by show ((0:Nat):Int)≤_; omega,by show ((0:Nat):Int)≤_; omega,by show ((0:Nat):Int)≤_; omega,by show ((0:Nat):Int)≤_; omega,by show ((0:Nat):Int)≤_; omega,lies_zero w lo hi,Rd.zero,⟨Nat.le_refl _,by show (0:Nat)≤_; omega⟩,(by intro e he; cases he),(by intro ad e; cases e)⟩
theorem abs_zero (k:Int):(Rv.mk k 0 0 0 0 0 (.node 0 0 0 none 0 []) none 0 []).abs=Rc.zero k:=by simp [Rv.abs,V.abs,V.absL,Rc.zero]
set_option maxRecDepth 100000 in
set_option maxHeartbeats 6400000 in
theorem pline_any (B:Nat) (s:List UInt8) (w:World) (hE:EnvM B w) (hB:B≤w.heap.size) (hl:s.length≤1000000) :
 Calls Tryz.prog 49 #[.string ⟨s.toArray⟩] w (RecEnd (ansR (lineB s)) w):=by
 have hw1:=heap_alloc_new w (.cells #[.int .i64 0,.int .u64 0,.int .u64 0,.int .u64 0,.int .u64 0,.int .u64 0,.int .i64 0,.int .u64 0,.int .u64 0,.slice none 0 0,.slice none 0 0] 68)
 have hb1:=below_new w (.cells #[.int .i64 0,.int .u64 0,.int .u64 0,.int .u64 0,.int .u64 0,.int .u64 0,.int .i64 0,.int .u64 0,.int .u64 0,.slice none 0 0,.slice none 0 0] 68)
 obtain ⟨w1,hw⟩:∃ w1,w1=w.alloc (.cells #[.int .i64 0,.int .u64 0,.int .u64 0,.int .u64 0,.int .u64 0,.int .u64 0,.int .i64 0,.int .u64 0,.int .u64 0,.slice none 0 0,.slice none 0 0] 68):=⟨_,rfl⟩
 rw [← hw] at hw1 hb1
 obtain ⟨m,hm⟩:=(hE.under hb1 hB).2.2
 have hwE:Hid (∀ W,Below w.heap.size w W→EnvM B W):=fun W hW=>hE.under (hW.mono (Nat.le_refl _)) hB
 have CT:Hid (∀ (y:List UInt8),y.length≤1000000→Calls Tryz.prog 80 #[.string ⟨y.toArray⟩,.string ⟨#[32]⟩] w1 fun e w'=>(∃ c1 c2,e=.returned (.tuple #[.string ⟨(ahead 32 y).toArray⟩,.string c1,.bool c2]))∧∃ n,w'=w1.drewN n):=fun y hy=>by
  refine (Tryz.strings_Cut ⟨y.toArray⟩ ⟨#[32]⟩ m w1 (by show y.toArray.size<_; simp; omega) hm).mono ?_
  rintro e w' ⟨rfl,n,rfl⟩
  obtain ⟨e1,e2⟩:=cut_one 32 y
  refine ⟨⟨⟨(Lib.cut y [32]).2.1.toArray⟩,(Lib.cut y [32]).2.2,?_⟩,n,rfl⟩
  show Ending.returned (.tuple #[.string ⟨(Lib.cut y [32]).1.toArray⟩,.string ⟨(Lib.cut y [32]).2.1.toArray⟩,.bool (Lib.cut y [32]).2.2])=_
  rw [e1]
 have C1:=CT.out s hl
 have hal:=(ahead_len 32 s).1
 have hk7:=kindL_le (ahead 32 s)
 have HLB:Hid (lineB s=if kindL (ahead 32 s)=0 then none else endP (goP (Rc.zero (kindL (ahead 32 s))) (s.drop (ahead 32 s).length) (partsN (kindL (ahead 32 s)) 6))):=rfl
 have HSL:∀ W,(Instr.slice 9 (.string ⟨s.toArray⟩) (some (.int .i64 ((ahead 32 s).length:Int))) none none).run Tryz.prog W=.ok (.string ⟨(s.drop (ahead 32 s).length).toArray⟩) W:=fun W=>sl_drop s (ahead 32 s).length hal W
 have hdl:(s.drop (ahead 32 s).length).length≤1000000:=by rw [List.length_drop]; omega
 have KO:Hid (∀ W,Calls Tryz.prog 81 #[.string ⟨(ahead 32 s).toArray⟩] W fun e w'=>e=.returned (.int .i64 (kindL (ahead 32 s):Nat))∧Below W.heap.size W w'):=fun W=>kindof5_any (ahead 32 s) W
 have hKN:Rc.knownB (kindL (ahead 32 s):Nat)=decide (kindL (ahead 32 s)≠0):=by unfold Rc.knownB; rw [Bool.eq_iff_iff]; simp; omega
 have BADE:Hid (lineB s=none→∀ W,Below w.heap.size w W→W.heap[w.heap.size]? = some (.cells #[.int .i64 0,.int .u64 0,.int .u64 0,.int .u64 0,.int .u64 0,.int .u64 0,.int .i64 0,.int .u64 0,.int .u64 0,.slice none 0 0,.slice none 0 0] 68 (0,0))→
  RecEnd (ansR (lineB s)) w (.returned (.tuple #[.agg #[.int .i64 0,.int .u64 0,.int .u64 0,.int .u64 0,.int .u64 0,.int .u64 0,.int .i64 0,.int .u64 0,.int .u64 0,.slice none 0 0,.slice none 0 0],.int .i64 50])) (put11 W w.heap.size (.int .i64 0) (.int .u64 0) (.int .u64 0) (.int .u64 0) (.int .u64 0) (.int .u64 0) (.int .i64 0) (.int .u64 0) (.int .u64 0) (.slice none 0 0) (.slice none 0 0))∧
  (put11 W w.heap.size (.int .i64 0) (.int .u64 0) (.int .u64 0) (.int .u64 0) (.int .u64 0) (.int .u64 0) (.int .i64 0) (.int .u64 0) (.int .u64 0) (.slice none 0 0) (.slice none 0 0)).heap[w.heap.size]? = some (.cells #[.int .i64 0,.int .u64 0,.int .u64 0,.int .u64 0,.int .u64 0,.int .u64 0,.int .i64 0,.int .u64 0,.int .u64 0,.slice none 0 0,.slice none 0 0] 68 (0,0))):=fun hn W h1 h2=>by
  refine ⟨?_,put11_row _ _ _ _ _ _ _ _ _ _ _ h2⟩
  rw [hn]
  exact ⟨⟨0,0,0,0,0,0,.node 0 0 0 none 0 [],none,0,[]⟩,rfl,abs_zero 0,rlies_zero _ _ _ 0 (by omega),zero_shp _ _ _,World.ownsRow_nil _ _ _ _,h1.trans ((put11_grow _ _ _ _ _ _ _ _ _ _ _ W w.heap.size).below h1.size (Nat.le_refl _) (Nat.le_refl _))⟩
 clear CT hm
 generalize ahead 32 s=nm at *
 generalize s.drop nm.length=lf at *
 generalize kindL nm=k at *
 subst hw
 go_enter Tryz.func49,Tryz.ntmps49
 go_upto_region 1 with (fail)
 generalize w.alloc (.cells #[.int .i64 0,.int .u64 0,.int .u64 0,.int .u64 0,.int .u64 0,.int .u64 0,.int .i64 0,.int .u64 0,.int .u64 0,.slice none 0 0,.slice none 0 0] 68)=w1 at *
 go_wp2_with fail
 refine C1.mono ?_
 rintro e w2 ⟨⟨c1,c2,rfl⟩,q,rfl⟩
 have hw2:(w1.drewN q).heap[w.heap.size]? = some (.cells #[.int .i64 0,.int .u64 0,.int .u64 0,.int .u64 0,.int .u64 0,.int .u64 0,.int .i64 0,.int .u64 0,.int .u64 0,.slice none 0 0,.slice none 0 0] 68 (0,0)):=hw1
 have hb2:Below w.heap.size w (w1.drewN q):=below_drew_ hb1
 clear hw1 hb1 C1
 generalize w1.drewN q=w2 at *
 go_wp2_with fail
 refine (KO.out _).mono ?_
 rintro e w3 ⟨rfl,hb3⟩
 have hw3:=(hb3.block _ (lt_of_block hw2)).trans hw2
 replace hb3:=hb2.trans (hb3.mono hb2.size)
 clear hw2 hb2 KO
 have ha4:=heap_alloc_new w3 (.cells #[.int .i64 (k:Int),.int .u64 0,.int .u64 0,.int .u64 0,.int .u64 0,.int .u64 0,.int .i64 0,.int .u64 0,.int .u64 0,.slice none 0 0,.slice none 0 0] 68)
 have hb4:=below_new w3 (.cells #[.int .i64 (k:Int),.int .u64 0,.int .u64 0,.int .u64 0,.int .u64 0,.int .u64 0,.int .i64 0,.int .u64 0,.int .u64 0,.slice none 0 0,.slice none 0 0] 68)
 have hw4:=(hb4.block _ (lt_of_block hw3)).trans hw3
 have hlw3:=lt_of_block hw3
 replace hb4:=hb3.trans (hb4.mono hb3.size)
 have hs4:(w3.alloc (.cells #[.int .i64 (k:Int),.int .u64 0,.int .u64 0,.int .u64 0,.int .u64 0,.int .u64 0,.int .i64 0,.int .u64 0,.int .u64 0,.slice none 0 0,.slice none 0 0] 68)).heap.size > w3.heap.size:=by simp
 have hbsz:=hb3.size
 clear hw3 hb3
 go_upto_region 3 with (fail)
 generalize w3.alloc (.cells #[.int .i64 (k:Int),.int .u64 0,.int .u64 0,.int .u64 0,.int .u64 0,.int .u64 0,.int .i64 0,.int .u64 0,.int .u64 0,.slice none 0 0,.slice none 0 0] 68)=w4 at *
 generalize w3.heap.size=a at *
 have c0:=cell_of_row w4 _ 0 _ _ _ ha4
 simp at c0
 go_wp2_with fail
 refine (known_any k _).mono ?_
 rintro e w5 ⟨rfl,rfl⟩
 rw [hKN]
 by_cases hk0:k=0
 · have HN:Hid (lineB s=none):=Lib_hid (by rw [HLB.out,if_pos hk0])
   obtain ⟨HX,HY⟩:=BADE.out HN.out w5 hb4 hw4
   have HXX:=Lib_hid HX
   have HYY:=Lib_hid HY
   obtain ⟨e0,e1,e2,e3,e4,e5,e6,e7,e8,e9,e10⟩:=rec_cells hw4
   have y:=fun i=>frozen_of_row w5 w.heap.size i _ _ hw4
   have y0:=y 0
   have y1:=y 1
   have y2:=y 2
   have y3:=y 3
   have y4:=y 4
   have y5:=y 5
   have y6:=y 6
   have y7:=y 7
   have y8:=y 8
   have y9:=y 9
   have y10:=y 10
   clear HX HY BADE HLB y hw4 ha4
   rw [show decide (k≠0)=false by simp [hk0]]
   go_wp2
   show bodyPost _ _ _ _ _ (put11 w5 w.heap.size (.int .i64 0) (.int .u64 0) (.int .u64 0) (.int .u64 0) (.int .u64 0) (.int .u64 0) (.int .i64 0) (.int .u64 0) (.int .u64 0) (.slice none 0 0) (.slice none 0 0))
   generalize put11 w5 w.heap.size (.int .i64 0) (.int .u64 0) (.int .u64 0) (.int .u64 0) (.int .u64 0) (.int .u64 0) (.int .i64 0) (.int .u64 0) (.int .u64 0) (.slice none 0 0) (.slice none 0 0)=W4 at *
   exact line_ret HYY.out HXX.out _ rfl rfl
 · rw [show decide (k≠0)=true by simp [hk0]]
   have hlb:lineB s=endP (goP (Rc.zero (k:Int)) lf (partsN (k:Int) 6)):=by rw [HLB.out,if_neg hk0]
   have HLB2:=Lib_hid hlb
   have hg6:=heap_alloc_new w5 (.cells #[.string ⟨lf.toArray⟩,.bool false] 188)
   have hb6:=below_new w5 (.cells #[.string ⟨lf.toArray⟩,.bool false] 188)
   have hw6:=(hb6.block _ (lt_of_block hw4)).trans hw4
   have ha6:=(hb6.block _ (lt_of_block ha4)).trans ha4
   have hlw5:=lt_of_block ha4
   have hs6:(w5.alloc (.cells #[.string ⟨lf.toArray⟩,.bool false] 188)).heap.size > w5.heap.size:=by simp
   have hbs:=hb4.size
   replace hb6:=hb4.trans (hb6.mono hb4.size)
   clear HLB hKN hw4 ha4 hb4 hlb c0
   go_upto_region 6 with (fail)
   generalize w5.alloc (.cells #[.string ⟨lf.toArray⟩,.bool false] 188)=w6 at *
   generalize w5.heap.size=g at *
   have c0:w6.cell? ⟨a,0,none⟩=some (.int .i64 (k:Int)):=cell_of_row w6 _ 0 _ _ _ ha6
   go_wp2_with fail
   refine (partsof_any (k:Int) _).mono ?_
   rintro e w7 ⟨Ap,cp,rfl,hop,hb7⟩
   have hR7:RdS w6.heap.size a g ⟨k,0,0,0,0,0,.node 0 0 0 none 0 [],none,0,[]⟩ lf false w7:=
    ⟨(hb7.block _ (lt_of_block ha6)).trans ha6,(hb7.block _ (lt_of_block hg6)).trans hg6,rlies_zero _ _ _ _ (by omega),by omega,by omega,by omega,hb7.size,zero_shp _ _ _,World.ownsRow_nil _ _ _ _⟩
   have hw7:=(hb7.block _ (lt_of_block hw6)).trans hw6
   have hb7':=hb6.trans (hb7.mono hb6.size)
   have hs7:=hb7.size
   have HPL:Hid (∀ q,q∈partsN (k:Int) 6→q<6):=fun q hq=>partsN_lt hq
   have hpl:=partsN_le (k:Int) 6
   clear hb6 hg6 ha6 hw6 hb7 c0
   have HX:Hid (∀ W,Grow2 w7 W a g→W.heap[w.heap.size]? = some (.cells #[.int .i64 0,.int .u64 0,.int .u64 0,.int .u64 0,.int .u64 0,.int .u64 0,.int .i64 0,.int .u64 0,.int .u64 0,.slice none 0 0,.slice none 0 0] 68 (0,0))∧Below w.heap.size w W∧
    W.ownsRow w6.heap.size 170 6 (.slice Ap (partsN (k:Int) 6).length cp) (partsN (k:Int) 6).length (psL (partsN (k:Int) 6))):=fun W hG=>
    ⟨(hG.block _ (by omega) (by omega) (by omega)).trans hw7,hb7'.trans (hG.below hb7'.size (by omega) (by omega)),own_keep hop fun j hj=>hG.block j (own_lt hop j hj) (by have:=own_ge hop j hj; omega) (by have:=own_ge hop j hj; omega)⟩
   have RD:Hid (∀ (q:Nat),q<6→∀ (r:Rv) (l:List UInt8) (bad:Bool) (W:World),RdS w6.heap.size a g r l bad W→Below w.heap.size w W→l.length≤1000000→Calls Tryz.prog (mreadF q) #[.pointer (some ⟨a,0,none⟩),.pointer (some ⟨g,0,none⟩)] W (RdEnd q w6.heap.size a g r l bad W)):=fun q hq r l bad W hR hW hl'=>
    read6_any q hq B w6.heap.size a g r l bad W hR (hwE.out W hW) (by omega) (by omega) hl'
   generalize hpp:partsN (k:Int) 6=pl at *
   clear hw7 hop
   go_wp2
   go_loopw [34] (fun z wr=>∃ (i:Nat) (r:Rv) (l:List UInt8) (bad:Bool),z=.int .i64 i∧i≤pl.length∧Hid (RdS w6.heap.size a g r l bad wr)∧Hid (Grow2 w7 wr a g)∧l.length≤1000000∧
    Hid ((bad=false∧goP (Rc.zero (k:Int)) lf (pl.take i)=some (r.abs,l))∨(bad=true∧goP (Rc.zero (k:Int)) lf (pl.take i)=none))) (fun z _=>pl.length - (intOf z).toNat)
   case atStart=>exact ⟨0,_,lf,false,rfl,Nat.zero_le _,hR7,Grow2.refl _ _ _,hdl,.inl ⟨rfl,by rw [abs_zero]; rfl⟩⟩
   case round=>
    clear hR7
    obtain ⟨i,r,l,bad,rfl,hi1,hR,hG,hll,hI⟩:=hrel
    obtain ⟨hbx,hbw,hown⟩:=HX.out _ hG.out
    by_cases hlt:i<pl.length
    · obtain ⟨b,off,q,rfl,hq,d0,d1,d2,d3,d4,d5⟩:=ps_nth (Rd.own hown) hlt
      have hq6:=HPL.out q (List.mem_of_getElem? hq)
      have hcp:=call_read hq6
      have HTK:Hid (pl.take (i+1)=pl.take i ++ [q]):=take_one hq
      have hb5:=below_new wr (.cells #[.func (.func (mofF q)) #[] #[],.func (.func (memptyF q)) #[] #[],.func (.func (mputF q)) #[] #[],.func (.func (mtakeF q)) #[] #[],.func (.func (mtellF q)) #[] #[],.func (.func (mreadF q)) #[] #[]] 170)
      have hp5:=heap_alloc_new wr (.cells #[.func (.func (mofF q)) #[] #[],.func (.func (memptyF q)) #[] #[],.func (.func (mputF q)) #[] #[],.func (.func (mtakeF q)) #[] #[],.func (.func (mtellF q)) #[] #[],.func (.func (mreadF q)) #[] #[]] 170)
      have hR5:=hR.out.kept hb5
      have hG5:=hG.out.trans (Grow2.ofB hb5)
      have hb5':=hbw.trans (hb5.mono hbw.size)
      have CP:=RD.out q hq6 r l bad _ hR5 hb5' hll
      clear hR hG hbx hbw hown hq6 hb5 hq
      generalize mofF q=f1 at *
      generalize memptyF q=f2 at *
      generalize mputF q=f3 at *
      generalize mtakeF q=f4 at *
      generalize mtellF q=f5 at *
      generalize mreadF q=f6 at *
      go_upto_region 9 with (fail)
      generalize wr.alloc (.cells #[.func (.func f1) #[] #[],.func (.func f2) #[] #[],.func (.func f3) #[] #[],.func (.func f4) #[] #[],.func (.func f5) #[] #[],.func (.func f6) #[] #[]] 170)=w8 at *
      clear d0 d1 d2 d3 d4 d5
      have d5:w8.cell? ⟨wr.heap.size,5,none⟩=some (.func (.func f6) #[] #[]):=cell_of_row w8 _ 5 _ _ _ hp5
      go_wp2_with fail
      refine CP.mono ?_
      rintro e w9 ⟨rfl,hG9,r',l',bad',hR',hk',hl',hb1,hb2⟩
      have HI2:Hid ((bad'=false∧goP (Rc.zero (k:Int)) lf (pl.take (i+1))=some (r'.abs,l'))∨(bad'=true∧goP (Rc.zero (k:Int)) lf (pl.take (i+1))=none)):=by
       unfold Hid
       rw [HTK.out,goP_snoc]
       rcases hI.out with ⟨e1,e2⟩ | ⟨e1,e2⟩
       · rw [e2]
         rcases hb2 e1 with ⟨e3,e4⟩ | ⟨e3,e4⟩
         · exact .inl ⟨e4,e3⟩
         · exact .inr ⟨e4,e3⟩
       · rw [e2]
         exact .inr ⟨hb1 e1,rfl⟩
      have HG2:=Lib_hid (hG5.trans hG9)
      have HR2:=Lib_hid hR'
      have hl2:l'.length≤1000000:=by omega
      clear CP d5 hG9 hR' hb1 hb2 hI hR5 hG5 hb5' hp5
      go_wp2
      go_roundw
      case rel=>exact ⟨i+1,r',l',bad',by go_num,by omega,HR2,HG2,hl2,HI2⟩
      case measure=>simp [intOf]; omega
    · obtain rfl:i=pl.length:=by omega
      rw [List.take_length] at hI
      have c1:wr.cell? ⟨g,1,none⟩=some (.bool bad):=cell_of_row wr g 1 _ _ _ hR.out.wds
      have c0:wr.cell? ⟨g,0,none⟩=some (.string ⟨l.toArray⟩):=cell_of_row wr g 0 _ _ _ hR.out.wds
      by_cases hgood:bad=false∧l=[]
      · obtain ⟨hbf,hle⟩:=hgood
        have hlo:=hR.out.al
        have hlo2:=hR.out.hi
        have hgp:goP (Rc.zero (k:Int)) lf pl=some (r.abs,l):=by
         rcases hI.out with ⟨_,e2⟩ | ⟨e1,_⟩
         · exact e2
         · rw [hbf] at e1; cases e1
        have HN:Hid (lineB s=some r.abs):=Lib_hid (by rw [HLB2.out,hgp,hle]; rfl)
        have FIN:Hid (RecEnd (ansR (lineB s)) w (.returned (.tuple #[r.val,.int .i64 0])) (put11 wr w.heap.size (.int .i64 r.kind) (.int .u64 (r.t:Int)) (.int .u64 (r.x:Int)) (.int .u64 (r.w:Int)) (.int .u64 (r.n:Int)) (.int .u64 (r.v:Int)) (.int .i64 r.p.kind) (.int .u64 (r.p.a:Int)) (.int .u64 (r.p.b:Int)) r.p.sl r.sl)):=by
         have hGG:=put11_grow (.int .i64 r.kind) (.int .u64 (r.t:Int)) (.int .u64 (r.x:Int)) (.int .u64 (r.w:Int)) (.int .u64 (r.n:Int)) (.int .u64 (r.v:Int)) (.int .i64 r.p.kind) (.int .u64 (r.p.a:Int)) (.int .u64 (r.p.b:Int)) r.p.sl r.sl wr (g:=w.heap.size) w.heap.size
         rw [HN.out]
         exact ⟨r,rfl,rfl,(hR.out.lies.grow2 hGG (by omega) (by omega) (Nat.le_refl _)).more (by omega) (Nat.le_refl _),(hR.out.shp.keep fun j h1 h2=>hGG.block j h2 (by omega) (by omega)).more (by omega),
          own_base (own_keep hR.out.own fun j hj=>hGG.block j (own_lt hR.out.own j hj) (by have:=own_ge hR.out.own j hj; omega) (by have:=own_ge hR.out.own j hj; omega)) (fun j hj=>by have:=own_ge hR.out.own j hj; omega),
          hbw.trans (hGG.below hbw.size (Nat.le_refl _) (Nat.le_refl _))⟩
        have hax:=hR.out.box
        clear HN hgp hI BADE HX hR hG hown HLB2 RD
        subst hbf hle
        obtain ⟨k',t,x,wn,nn,v,p,A,c,es⟩:=r
        simp only [Rv.arr,Rv.val,Rv.sl,V.sl] at hax FIN
        have HB2:Hid ((put11 wr w.heap.size (.int .i64 k') (.int .u64 (t:Int)) (.int .u64 (x:Int)) (.int .u64 (wn:Int)) (.int .u64 (nn:Int)) (.int .u64 (v:Int)) (.int .i64 p.kind) (.int .u64 (p.a:Int)) (.int .u64 (p.b:Int)) (.slice p.addr p.parts.length p.cap) (.slice A es.length c)).heap[w.heap.size]? = some (.cells #[.int .i64 k',.int .u64 (t:Int),.int .u64 (x:Int),.int .u64 (wn:Int),.int .u64 (nn:Int),.int .u64 (v:Int),.int .i64 p.kind,.int .u64 (p.a:Int),.int .u64 (p.b:Int),.slice p.addr p.parts.length p.cap,.slice A es.length c] 68 (0,0))):=put11_row _ _ _ _ _ _ _ _ _ _ _ hbx
        obtain ⟨d0,d1,d2,d3,d4,d5,d6,d7,d8,d9,d10⟩:=rec_cells hax
        obtain ⟨e0,e1,e2,e3,e4,e5,e6,e7,e8,e9,e10⟩:=rec_cells hbx
        have y:=fun i=>frozen_of_row wr w.heap.size i _ _ hbx
        have y0:=y 0
        have y1:=y 1
        have y2:=y 2
        have y3:=y 3
        have y4:=y 4
        have y5:=y 5
        have y6:=y 6
        have y7:=y 7
        have y8:=y 8
        have y9:=y 9
        have y10:=y 10
        clear y hbx hax hbw
        generalize p.addr=pA at *
        generalize p.parts.length=pn at *
        generalize p.cap=pc at *
        generalize p.kind=pk at *
        generalize (p.a:Int)=pa at *
        generalize (p.b:Int)=pb at *
        generalize es.length=en at *
        go_wp2
        show bodyPost _ _ _ _ _ (put11 wr w.heap.size (.int .i64 k') (.int .u64 (t:Int)) (.int .u64 (x:Int)) (.int .u64 (wn:Int)) (.int .u64 (nn:Int)) (.int .u64 (v:Int)) (.int .i64 pk) (.int .u64 pa) (.int .u64 pb) (.slice pA pn pc) (.slice A en c))
        generalize put11 wr w.heap.size (.int .i64 k') (.int .u64 (t:Int)) (.int .u64 (x:Int)) (.int .u64 (wn:Int)) (.int .u64 (nn:Int)) (.int .u64 (v:Int)) (.int .i64 pk) (.int .u64 pa) (.int .u64 pb) (.slice pA pn pc) (.slice A en c)=W4 at *
        exact line_ret HB2.out FIN.out _ rfl rfl
      · have HN:Hid (lineB s=none):=Lib_hid (by
         rw [HLB2.out]
         rcases hI.out with ⟨e1,e2⟩ | ⟨_,e2⟩
         · rw [e2]
           cases l with
           | nil=>exact absurd ⟨e1,rfl⟩ hgood
           | cons b l=>rfl
         · rw [e2]; rfl)
        obtain ⟨HX2,HY2⟩:=BADE.out HN.out wr hbw hbx
        have HXX:=Lib_hid HX2
        have HYY:=Lib_hid HY2
        obtain ⟨e0,e1,e2,e3,e4,e5,e6,e7,e8,e9,e10⟩:=rec_cells hbx
        have y:=fun i=>frozen_of_row wr w.heap.size i _ _ hbx
        have y0:=y 0
        have y1:=y 1
        have y2:=y 2
        have y3:=y 3
        have y4:=y 4
        have y5:=y 5
        have y6:=y 6
        have y7:=y 7
        have y8:=y 8
        have y9:=y 9
        have y10:=y 10
        clear HX2 HY2 BADE HX hR hG hown HLB2 RD HN hI y hbx hbw
        cases bad with
        | true=>
         clear hgood
         go_wp2
         show bodyPost _ _ _ _ _ (put11 wr w.heap.size (.int .i64 0) (.int .u64 0) (.int .u64 0) (.int .u64 0) (.int .u64 0) (.int .u64 0) (.int .i64 0) (.int .u64 0) (.int .u64 0) (.slice none 0 0) (.slice none 0 0))
         generalize put11 wr w.heap.size (.int .i64 0) (.int .u64 0) (.int .u64 0) (.int .u64 0) (.int .u64 0) (.int .u64 0) (.int .i64 0) (.int .u64 0) (.int .u64 0) (.slice none 0 0) (.slice none 0 0)=W4 at *
         exact line_ret HYY.out HXX.out _ rfl rfl
        | false=>
         have hne:(l == [])=false:=by cases l with
          | nil=>exact absurd ⟨rfl,rfl⟩ hgood
          | cons b l=>rfl
         clear hgood
         go_wp2
         show bodyPost _ _ _ _ _ (put11 wr w.heap.size (.int .i64 0) (.int .u64 0) (.int .u64 0) (.int .u64 0) (.int .u64 0) (.int .u64 0) (.int .i64 0) (.int .u64 0) (.int .u64 0) (.slice none 0 0) (.slice none 0 0))
         generalize put11 wr w.heap.size (.int .i64 0) (.int .u64 0) (.int .u64 0) (.int .u64 0) (.int .u64 0) (.int .u64 0) (.int .i64 0) (.int .u64 0) (.int .u64 0) (.slice none 0 0) (.slice none 0 0)=W4 at *
         exact line_ret HYY.out HXX.out _ rfl rfl
section
variable {P:Program} {ops:Array Oper} {Q:Exit→Act→World→Prop} {Pr:Nat→Value→World→Prop} {a0:Act} {w0:World}
def dsts (ops:Array Oper):List Tmp:=ops.toList.filterMap (·.dst)
structure Mid (ops:Array Oper) (Pr:Nat→Value→World→Prop) (a0:Act) (w0:World) (a:Act) (w:World):Prop where
 tmps:a.tmps.size=a0.tmps.size
 defers:a.defers=a0.defers
 below:Below w0.heap.size w0 w
 other:∀ s,s ∉ dsts ops→a.tmps.getD s undef=a0.tmps.getD s undef
def Done (ops:Array Oper) (Pr:Nat→Value→World→Prop) (i:Nat) (a:Act) (w:World):Prop:=∀ o d,ops[i]? = some o→o.dst=some d→Pr i (a.tmps.getD d undef) w
theorem mem_dsts {i:Nat} {o:Oper} {d:Tmp} (h:ops[i]? = some o) (hd:o.dst=some d):d∈dsts ops:=by
 unfold dsts
 rw [List.mem_filterMap]
 refine ⟨o,?_,hd⟩
 have:ops.toList[i]? = some o:=by simpa using h
 exact List.mem_of_getElem? this
theorem dst_inj (hnd:(dsts ops).Nodup) {i j:Nat} {o o':Oper} {d:Tmp} (h:ops[i]? = some o) (h':ops[j]? = some o') (hd:o.dst=some d) (hd':o'.dst=some d):i=j:=by
 obtain ⟨l⟩:=ops
 simp only [List.getElem?_toArray] at h h'
 unfold dsts at hnd
 simp only at hnd
 induction l generalizing i j with
 | nil=>simp at h
 | cons x l ih=>
  cases hx:x.dst with
  | none=>
   rw [List.filterMap_cons_none hx] at hnd
   cases i with
   | zero=>simp at h; subst h; rw [hx] at hd; cases hd
   | succ i=>
    cases j with
    | zero=>simp at h'; subst h'; rw [hx] at hd'; cases hd'
    | succ j=>rw [ih (i:=i) (j:=j) hnd (by simpa using h) (by simpa using h')]
  | some e=>
   rw [List.filterMap_cons_some hx,List.nodup_cons] at hnd
   cases i with
   | zero=>
    simp at h
    subst h
    rw [hx] at hd
    cases j with
    | zero=>rfl
    | succ j=>
     exfalso
     injection hd with hd
     subst hd
     exact hnd.1 (List.mem_filterMap.2 ⟨o',List.mem_of_getElem? (by simpa using h'),hd'⟩)
   | succ i=>
    cases j with
    | zero=>
     exfalso
     simp at h'
     subst h'
     rw [hx] at hd'
     injection hd' with hd'
     subst hd'
     exact hnd.1 (List.mem_filterMap.2 ⟨o,List.mem_of_getElem? (by simpa using h),hd⟩)
    | succ j=>rw [ih (i:=i) (j:=j) hnd.2 (by simpa using h) (by simpa using h')]
theorem put_getD_ne {a:Act} {dst:Option Tmp} {v:Value} {s:Tmp} (h:dst≠some s):(a.put dst v).tmps.getD s undef=a.tmps.getD s undef:=by
 cases dst with
 | none=>rfl
 | some d=>
  have:d≠s:=fun e=>h (by rw [e])
  simp [Act.put,Array.getD_eq_getD_getElem?,this]
theorem put_getD_eq {a:Act} {v:Value} {d:Tmp} (h:d<a.tmps.size):(a.put (some d) v).tmps.getD d undef=v:=by
 simp [Act.put,Array.getD_eq_getD_getElem?,h]
theorem put_size {a:Act} {dst:Option Tmp} {v:Value}:(a.put dst v).tmps.size=a.tmps.size:=by cases dst <;> simp [Act.put]
theorem put_defers' {a:Act} {dst:Option Tmp} {v:Value}:(a.put dst v).defers=a.defers:=by cases dst <;> simp [Act.put]
theorem all_listed (hback:∀ (i:Nat) (o:Oper),ops[i]? = some o→∀ e∈o.after,e.on<i) {listed:Array Bool} (hs:listed.size=ops.size) (hr:Region.ready .any ops listed=[]):∀ i,i<ops.size→listed.getD i false=true:=by
 intro i
 induction i using Nat.strongRecOn with
 | ind i ih=>
  intro hi
  cases h:listed.getD i false with
  | true=>rfl
  | false=>
   exfalso
   have hm:i∈Region.ready .any ops listed:=by
    rw [mem_ready]
    refine ⟨?_,ops[i],Array.getElem?_eq_getElem hi,fun e he _=>ih e.on (hback i _ (Array.getElem?_eq_getElem hi) e he) ?_⟩
    · have hi':i<listed.size:=by omega
      rw [Array.getD_eq_getD_getElem?,Array.getElem?_eq_getElem hi'] at h ⊢
      exact h
    · have:=hback i _ (Array.getElem?_eq_getElem hi) e he
      omega
   rw [hr] at hm
   cases hm
theorem wpAny_mid (hnd:(dsts ops).Nodup) (hlt:∀ d∈dsts ops,d<a0.tmps.size) (hback:∀ (i:Nat) (o:Oper),ops[i]? = some o→∀ e∈o.after,e.on<i)
 (hst:∀ i v w w',Below w0.heap.size w0 w→Below w.heap.size w w'→Pr i v w→Pr i v w')
 (hop:∀ i o a w,ops[i]? = some o→Mid ops Pr a0 w0 a w→(∀ e∈o.after,Region.binds .any e=true→Done ops Pr e.on a w)→
  Region.wanted o (yielded ops a.tmps)=true∧o.wp P a w (fun a' w'=>∃ v,a'=a.put o.dst v∧Pr i v w'∧Below w.heap.size w w') Q)
 (hend:∀ a w,Mid ops Pr a0 w0 a w→(∀ i,i<ops.size→Done ops Pr i a w)→Q .normal a w) :
 ∀ (fuel:Nat) (listed:Array Bool) (a:Act) (w:World),listed.size=ops.size→listed.toList.count false≤fuel→Mid ops Pr a0 w0 a w→(∀ i,listed.getD i false=true→Done ops Pr i a w)→wpAny P .any ops Q fuel listed a w:=by
 intro fuel
 induction fuel with
 | zero=>
  intro listed a w hs hc hM hD
  have hall:∀ i,i<ops.size→listed.getD i false=true:=by
   intro i hi
   cases h:listed.getD i false with
   | true=>rfl
   | false=>
    exfalso
    have hi':i<listed.size:=by omega
    rw [Array.getD_eq_getD_getElem?,Array.getElem?_eq_getElem hi'] at h
    have:false∈listed.toList:=by
     rw [← h]; simp
    have:=List.count_pos_iff.2 this
    omega
  refine ⟨?_,hend a w hM fun i hi=>hD i (hall i hi)⟩
  apply List.eq_nil_iff_forall_not_mem.2
  intro j hj
  rw [mem_ready] at hj
  obtain ⟨h1,o,ho,_⟩:=hj
  have hlt:=(Array.getElem?_eq_some_iff.1 ho).1
  have h2:=hall j hlt
  have hi':j<listed.size:=by omega
  rw [Array.getD_eq_getD_getElem?,Array.getElem?_eq_getElem hi'] at h1 h2
  simp at h1 h2
  rw [h1] at h2; cases h2
 | succ fuel ih=>
  intro listed a w hs hc hM hD
  refine ⟨fun hr=>hend a w hM fun i hi=>hD i (all_listed hback hs hr i hi),fun i hi=>?_⟩
  rw [mem_ready] at hi
  obtain ⟨h1,o,ho,haf⟩:=hi
  have hlt':=(Array.getElem?_eq_some_iff.1 ho).1
  have hi':i<listed.size:=by omega
  obtain ⟨hw,hwp⟩:=hop i o a w ho hM fun e he hb=>hD e.on (haf e he hb)
  unfold wpOp
  rw [ho]
  simp only [hw,if_true]
  refine .inl (Oper.wp_mono ?_ hwp)
  rintro a' w' ⟨v,rfl,hv,hbl⟩
  have hbl0:Below w0.heap.size w0 w':=hM.below.trans (hbl.mono hM.below.size)
  refine ih _ _ _ (by simpa using hs) ?_ ⟨?_,?_,hbl0,?_⟩ ?_
  · have hf:listed.toList[i]'(by simpa using hi')=false:=by
     rw [Array.getD_eq_getD_getElem?,Array.getElem?_eq_getElem hi'] at h1
     simpa using h1
    have:(listed.setIfInBounds i true).toList=listed.toList.set i true:=by simp
    rw [this,List.count_set (by simpa using hi'),hf]
    have hpos:0<listed.toList.count false:=List.count_pos_iff.2 (by rw [← hf]; exact List.getElem_mem _)
    have e1:((false == false)=true):=rfl
    have e2:¬ ((true == false)=true):=by decide
    rw [if_pos e1,if_neg e2]
    omega
  · rw [put_size]; exact hM.tmps
  · rw [put_defers']; exact hM.defers
  · intro s hsd
    rw [put_getD_ne (fun e=>hsd (mem_dsts ho e))]
    exact hM.other s hsd
  · intro j hj
    by_cases hji:j=i
    · subst hji
      intro o' d ho' hd
      obtain rfl:o'=o:=Option.some.inj (ho'.symm.trans ho)
      rw [hd,put_getD_eq (by rw [hM.tmps]; exact hlt d (mem_dsts ho hd))]
      exact hv
    · have hj2:listed.getD j false=true:=by
       rw [Array.getD_eq_getD_getElem?,Array.getElem?_setIfInBounds] at hj
       have:¬ i=j:=fun e=>hji e.symm
       simp only [this,if_false] at hj
       rw [Array.getD_eq_getD_getElem?]
       exact hj
      intro o' d ho' hd
      rw [put_getD_ne (fun e=>hji (dst_inj hnd ho' ho hd e))]
      exact hst j _ w w' hM.below hbl (hD j hj2 o' d ho' hd)
def regionOk (ops:Array Oper) (N:Nat):Bool:=
 decide (dsts ops).Nodup && (dsts ops).all (fun d=>decide (d<N)) && (List.range ops.size).all fun i=>((ops[i]?).map fun o=>o.after.all fun e=>decide (e.on<i)).getD true
theorem regionOk_back {N:Nat} (h:regionOk ops N=true) (i:Nat) (o:Oper) (ho:ops[i]? = some o):∀ e∈o.after,e.on<i:=by
 simp only [regionOk,Bool.and_eq_true] at h
 have hlt:=(Array.getElem?_eq_some_iff.1 ho).1
 have:=(List.all_eq_true.1 h.2) i (by rw [List.mem_range]; exact hlt)
 rw [ho] at this
 intro e he
 simp only [Option.map_some,Option.getD_some] at this
 have h2:=(Array.all_eq_true_iff_forall_mem.1 this) e he
 simpa using h2
theorem mid_step {o:Oper} {a:Act} {w:World} {K0:Act→World→Prop} (v:Value) (w':World) (h:∀ K:Act→World→Prop,K (a.put o.dst v) w'→o.wp P a w K Q) (hK:K0 (a.put o.dst v) w'):o.wp P a w K0 Q:=h K0 hK
theorem mid_call {o:Oper} {a:Act} {w:World} {K0:Act→World→Prop} (R:Value→World→Prop) (h:∀ K:Act→World→Prop,(∀ v w',R v w'→K (a.put o.dst v) w')→o.wp P a w K Q) (hK:∀ v w',R v w'→K0 (a.put o.dst v) w'):o.wp P a w K0 Q:=h K0 hK
theorem below_drew1 (w:World):Below w.heap.size w {w with drawn:=w.drawn+1}:=⟨rfl,rfl,rfl,Nat.le_refl _,fun _ _=>rfl⟩
theorem wp_region_mid {id N:Nat} (Pr:Nat→Value→World→Prop) (hm:P.follows .mixedOrders=true) (hok:regionOk ops N=true) (hN:a0.tmps.size=N)
 (hst:∀ i v w w',Below w0.heap.size w0 w→Below w.heap.size w w'→Pr i v w→Pr i v w')
 (hop:∀ i o a w,ops[i]? = some o→Mid ops Pr a0 w0 a w→(∀ j,(o.after.any fun e=>e.on == j && Region.binds .any e)=true→Done ops Pr j a w)→
  Region.wanted o (yielded ops a.tmps)=true∧o.wp P a w (fun a' w'=>∃ v,a'=a.put o.dst v∧Pr i v w'∧Below w.heap.size w w') Q)
 (hend:∀ a w,Mid ops Pr a0 w0 a w→(∀ i,i<ops.size→Done ops Pr i a w)→Q .normal a w) :
 (Code.region id ops true).wp P Q a0 w0:=by
 have hok':=hok
 simp only [regionOk,Bool.and_eq_true,decide_eq_true_eq] at hok'
 refine wp_region_any hm (wpAny_mid hok'.1.1 (fun d hd=>by rw [hN]; simpa using (List.all_eq_true.1 hok'.1.2) d hd) (regionOk_back hok) hst (fun i o a w ho hM hD=>hop i o a w ho hM fun j hj=>?_) hend _ _ _ _ (by simp) ?_ ⟨rfl,rfl,below_drew1 w0,fun _ _=>rfl⟩ ?_)
 · rw [← Array.any_toList,List.any_eq_true] at hj
   obtain ⟨e,he,hj⟩:=hj
   have he:=Array.mem_toList_iff.1 he
   simp only [Bool.and_eq_true,beq_iff_eq] at hj
   rw [← hj.1]
   exact hD e he hj.2
 · simp
 · intro i hi
   exfalso
   rw [Array.getD_eq_getD_getElem?,Array.getElem?_replicate] at hi
   split at hi <;> simp at hi
end
end Go.Proofs.YtinmoknbgnngcaaGreatDoor
