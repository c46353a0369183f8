/-
  Layer 13: what GraphPlays holds on its way.
-/
import Derived.Test.YtopecdkkmbpnbaaGoh
import Derived.Test.YtopecdkkmbpnbaaGof
import Derived.Test.YtopecdkkmbpnbaaGgj
import Derived.Test.YtopecdkkmbpnbaaGdz
namespace Go.Proofs.Ytopecdkkmbpnbaa
open Go Go.RowKit Go.Maps
set_option linter.unusedVariables false

/-- The program's graph, and the document's in its box, apart from it. -/
structure Pst (lo : Nat) (V : World) (p br N : Nat) (S : Nat → Prop) (A : Option Addr) (c : Nat) (L : List Ed) : Prop where
  g : GmIs V p S N L
  x : V.heap[br]? = some (.cells #[.int .i64 (N : Int), .slice A L.length c] 31 (0, 0))
  rd : Rd V V.heap.size 3 A L.length (ec L)
  ap : ∀ ad, A = some ad → ¬ S ad.block ∧ ad.block ≠ br ∧ ad.block < V.heap.size
  nb : ¬ S br
  ge : ∀ k, S k → lo ≤ k
  lb : lo ≤ br
section
variable {lo p br N c : Nat} {V V' : World} {S S' : Nat → Prop} {A A' : Option Addr} {L L' : List Ed}
theorem Pst.bl (h : Pst lo V p br N S A c L) : br < V.heap.size := (Array.getElem?_eq_some_iff.1 h.x).1
theorem Pst.later (h : Pst lo V p br N S A c L) (hb : Below V.heap.size V V') : Pst lo V' p br N S A c L :=
  ⟨h.g.later hb, (hb.block _ h.bl).trans h.x, (h.rd.below hb).more hb.size, fun ad e => ⟨(h.ap ad e).1, (h.ap ad e).2.1, Nat.lt_of_lt_of_le (h.ap ad e).2.2 hb.size⟩, h.nb, h.ge, h.lb⟩
theorem Pst.cells (h : Pst lo V p br N S A c L) : V.cell? ⟨br, 0, none⟩ = some (.int .i64 (N : Int)) ∧ V.cell? ⟨br, 1, none⟩ = some (.slice A L.length c) := ⟨cell_of_row _ _ 0 _ _ _ h.x, cell_of_row _ _ 1 _ _ _ h.x⟩
/-- The document's box is written. -/
theorem Pst.write (h : Pst lo V p br N S A c L) {c' : Nat} (hr : Rd V V.heap.size 3 A' L'.length (ec L')) (ha : ∀ ad, A' = some ad → ¬ S ad.block ∧ ad.block ≠ br ∧ ad.block < V.heap.size) :
    ∀ U : World, U = (V.setCell ⟨br, 0, none⟩ (.int .i64 (N : Int))).setCell ⟨br, 1, none⟩ (.slice A' L'.length c') → GmIs U p S N L ∧ U.heap[br]? = some (.cells #[.int .i64 (N : Int), .slice A' L'.length c'] 31 (0, 0)) ∧ Rd U U.heap.size 3 A' L'.length (ec L') ∧ (∀ ad, A' = some ad → ¬ S ad.block ∧ ad.block ≠ br ∧ ad.block < U.heap.size) ∧ U.heap.size = V.heap.size ∧ (∀ k, k ≠ br → U.heap[k]? = V.heap[k]?) ∧ ∀ (w0 : World), Below lo w0 V → Below lo w0 U := by
  rintro U rfl
  obtain ⟨z1, z2, z3, z4⟩ := box2_write (.int .i64 (N : Int)) (.slice A' L'.length c') h.x
  refine ⟨h.g.keep (Nat.le_of_eq z3.symm) fun k hk hs => z2 k (fun e => h.nb (by rw [← e]; exact hs)), z1, Rd.offD hr (fun ad e _ => z2 _ (ha ad e).2.1) (Nat.le_of_eq z3.symm), fun ad e => ⟨(ha ad e).1, (ha ad e).2.1, by rw [z3]; exact (ha ad e).2.2⟩, z3, z2, fun w0 hb => z4 _ _ hb h.lb⟩
end

/-- What stays of a round's start: the copy, what the document's graph was, and the edge that is asked. -/
structure Was (V : World) (pc bw bx N : Nat) (Sc : Nat → Prop) (A : Option Addr) (c : Nat) (L : List Ed) (x1 x2 x3 : Int) : Prop where
  g : GmIs V pc Sc N L
  w : V.heap[bw]? = some (.cells #[.int .i64 (N : Int), .slice A L.length c] 31 (0, 0))
  rd : Rd V V.heap.size 3 A L.length (ec L)
  x : V.heap[bx]? = some (.cells #[.int .i64 x1, .int .i64 x2, .int .i64 x3] 39 (0, 0))
theorem Was.keep {V V' : World} {pc bw bx N c : Nat} {Sc : Nat → Prop} {A : Option Addr} {L : List Ed} {x1 x2 x3 : Int} (h : Was V pc bw bx N Sc A c L x1 x2 x3) (hs : V.heap.size ≤ V'.heap.size) (hg : ∀ k, k < V.heap.size → Sc k → V'.heap[k]? = V.heap[k]?) (hw : V'.heap[bw]? = V.heap[bw]?) (hx : V'.heap[bx]? = V.heap[bx]?) (hr : ∀ ad, A = some ad → ad.block < V.heap.size → V'.heap[ad.block]? = V.heap[ad.block]?) : Was V' pc bw bx N Sc A c L x1 x2 x3 :=
  ⟨h.g.keep hs hg, hw.trans h.w, Rd.offD h.rd hr hs, hx.trans h.x⟩
theorem Was.later {V V' : World} {pc bw bx N c : Nat} {Sc : Nat → Prop} {A : Option Addr} {L : List Ed} {x1 x2 x3 : Int} (h : Was V pc bw bx N Sc A c L x1 x2 x3) (hb : Below V.heap.size V V') : Was V' pc bw bx N Sc A c L x1 x2 x3 :=
  h.keep hb.size (fun k hk _ => hb.block k hk) (hb.block _ (Array.getElem?_eq_some_iff.1 h.w).1) (hb.block _ (Array.getElem?_eq_some_iff.1 h.x).1) fun ad _ hlt => hb.block _ hlt
theorem Was.xc {V : World} {pc bw bx N c : Nat} {Sc : Nat → Prop} {A : Option Addr} {L : List Ed} {x1 x2 x3 : Int} (h : Was V pc bw bx N Sc A c L x1 x2 x3) : (V.cell? ⟨bx, 0, none⟩ = some (.int .i64 x1) ∧ V.cell? ⟨bx, 1, none⟩ = some (.int .i64 x2) ∧ V.cell? ⟨bx, 2, none⟩ = some (.int .i64 x3)) ∧ V.cell? ⟨bw, 0, none⟩ = some (.int .i64 (N : Int)) ∧ V.cell? ⟨bw, 1, none⟩ = some (.slice A L.length c) :=
  ⟨⟨cell_of_row _ _ 0 _ _ _ h.x, cell_of_row _ _ 1 _ _ _ h.x, cell_of_row _ _ 2 _ _ _ h.x⟩, cell_of_row _ _ 0 _ _ _ h.w, cell_of_row _ _ 1 _ _ _ h.w⟩
/-- A block of another type is none of a graph's. -/
theorem GmIs.off {w : World} {p N b : Nat} {S : Nat → Prop} {L : List Ed} {cs : Array Value} {T : TypeId} (h : GmIs w p S N L) (hb : w.heap[b]? = some (.cells cs T (0, 0))) (h1 : T ≠ 80) (h2 : T ≠ 34) (h3 : T ≠ 39) : GmIs w p (fun k => S k ∧ k ≠ b) N L := by
  obtain ⟨m, go, gi, So, Si, R, I, f, tg, hX, hS⟩ := h
  have np : p ≠ b := fun e => by
    have h4 := hX.box
    rw [e, hb] at h4
    injection h4 with h4
    injection h4 with _ h4 _
    exact h1 h4
  have nm : m ≠ b := fun e => by
    obtain ⟨es, ck, hm⟩ := hX.map.is
    rw [e, hb] at hm
    injection hm with hm
    injection hm
  have half : ∀ {g c : Nat} {S : Nat → Sl2} {R : Nat → List Ed}, Half w N g S R tg c → Half w N g S R (fun k => if k = b then 0 else tg k) c := fun {g c S R} hh => by
    refine ⟨hh.top, hh.row, ?_, fun j hj k hk => ?_⟩
    · have hg : g ≠ b := fun e => by
        rcases hh.top.2 with ⟨e1, _⟩ | ⟨g', cap, cur, e1, _, e2, _⟩
        · cases e1
        · injection e1 with e1
          injection e1 with e1
          injection e1 with e1 _ _
          rw [← e1, e, hb] at e2
          injection e2 with e2
          injection e2 with _ e2 _
          exact h2 e2
      show (if g = b then 0 else tg g) = c
      rw [if_neg hg]; exact hh.tgt
    · have hg : k ≠ b := fun e => by
        rcases (hh.row j hj).2 with ⟨e1, _⟩ | ⟨g', cap, cur, e1, _, e2, _⟩
        · injection e1 with e1 _ _
          rw [e1] at hk
          cases hk
        · injection e1 with e1 _ _
          rw [e1] at hk
          have e3 : g' = k := by injection hk
          rw [e3, e, hb] at e2
          injection e2 with e2
          injection e2 with _ e2 _
          exact h3 e2
      show (if k = b then 0 else tg k) = _
      rw [if_neg hg]; exact hh.tgr j hj k hk
  refine ⟨m, go, gi, So, Si, R, I, f, fun k => if k = b then 0 else tg k, ⟨hX.box, by show (if p = b then 0 else tg p) = 1; rw [if_neg np]; exact hX.tgp, by show (if m = b then 0 else tg m) = 2; rw [if_neg nm]; exact hX.tgm, hX.map, half hX.out, half hX.inn, hX.pl, hX.ok, fun k hk => ?_⟩, fun k => ?_⟩
  · show (if k = b then 0 else tg k) = 0
    split
    · rfl
    · exact hX.al k hk
  · show (S k ∧ k ≠ b) ↔ (if k = b then 0 else tg k) ≠ 0
    by_cases e : k = b
    · rw [if_pos e]; simp [e]
    · rw [if_neg e]; simp [e, hS]
theorem Rd.ne_box2 {w : World} {B n b : Nat} {A : Option Addr} {L : List Ed} {u v : Value} {T : TypeId} (h : Rd w B 3 A n (ec L)) (hb : w.heap[b]? = some (.cells #[u, v] T (0, 0))) (hn : 0 < n) : ∀ ad, A = some ad → ad.block ≠ b := by
  intro ad hA e
  obtain ⟨bk, off, hA2, _, c0, c1, c2⟩ := e_at h hn
  rw [hA] at hA2
  injection hA2 with hA2
  subst hA2
  have e2 : bk = b := e
  subst e2
  have h3 := cell_of_row _ bk (off + 0 * 3 + 2) _ _ _ hb
  rw [c2] at h3
  simp at h3
/-- Another box is written. -/
theorem Rd.box2 {w w' : World} {B n b : Nat} {A : Option Addr} {L : List Ed} {u v : Value} {T : TypeId} (h : Rd w B 3 A n (ec L)) (hb : w.heap[b]? = some (.cells #[u, v] T (0, 0))) (hk : ∀ k, k ≠ b → w'.heap[k]? = w.heap[k]?) : Rd w' B 3 A n (ec L) := by
  rcases Nat.eq_zero_or_pos n with h0 | h0
  · subst h0
    exact ⟨h.len, fun hn => absurd hn (by omega)⟩
  · exact Rd.offD h (fun ad hA _ => hk _ (Rd.ne_box2 h hb h0 ad hA)) (Nat.le_refl _)
theorem Rd.lt_of {w : World} {B size n : Nat} {A : Option Addr} {xs : List Value} (h : Rd w B size A n xs) (hn : 0 < n) : ∀ ad, A = some ad → ad.block < B := by
  intro ad hA
  obtain ⟨ad', e, hb, _⟩ := h.lies hn
  rw [hA] at e
  injection e with e
  rw [e]; exact hb
theorem Pst.keep {lo p br N c : Nat} {V V' : World} {S : Nat → Prop} {A : Option Addr} {L : List Ed} (h : Pst lo V p br N S A c L) (hs : V.heap.size ≤ V'.heap.size) (hg : ∀ k, k < V.heap.size → S k → V'.heap[k]? = V.heap[k]?) (hx : V'.heap[br]? = V.heap[br]?) (hr : ∀ ad, A = some ad → ad.block < V.heap.size → V'.heap[ad.block]? = V.heap[ad.block]?) : Pst lo V' p br N S A c L :=
  ⟨h.g.keep hs hg, hx.trans h.x, Rd.offD h.rd hr hs, fun ad e => ⟨(h.ap ad e).1, (h.ap ad e).2.1, Nat.lt_of_lt_of_le (h.ap ad e).2.2 hs⟩, h.nb, h.ge, h.lb⟩
/-- A round's start. -/
structure Rnd (lo ba : Nat) (w V : World) (p br N : Nat) (S : Nat → Prop) (A : Option Addr) (c : Nat) (L : List Ed) (pc bw bx : Nat) (Sc : Nat → Prop) (x1 x2 x3 d : Int) (lA : Option Addr) (ln lc : Nat) : Prop where
  P : Pst lo V p br N S A c L
  W : Was V pc bw bx N Sc A c L x1 x2 x3
  b : Below lo w V
  a : V.heap[ba]? = some (.cells #[.int .i64 d, .slice lA ln lc] 36 (0, 0))
theorem Rnd.later {lo ba : Nat} {w V V' : World} {p br N : Nat} {S : Nat → Prop} {A : Option Addr} {c : Nat} {L : List Ed} {pc bw bx : Nat} {Sc : Nat → Prop} {x1 x2 x3 d : Int} {lA : Option Addr} {ln lc : Nat} (h : Rnd lo ba w V p br N S A c L pc bw bx Sc x1 x2 x3 d lA ln lc) (hl : lo ≤ V.heap.size) (hb : Below V.heap.size V V') : Rnd lo ba w V' p br N S A c L pc bw bx Sc x1 x2 x3 d lA ln lc :=
  ⟨h.P.later hb, h.W.later hb, h.b.trans (hb.mono hl), (hb.block _ (Array.getElem?_eq_some_iff.1 h.a).1).trans h.a⟩
/-- The document's graph is put into its box, and the program's has made the step. -/
theorem Pst.done {lo p br N c c' : Nat} {V U w' : World} {S S2 : Nat → Prop} {A A' : Option Addr} {L LL : List Ed} (h : Pst lo V p br N S A c L) (hr : Rd V V.heap.size 3 A' LL.length (ec LL)) (ha : ∀ ad, A' = some ad → ¬ S ad.block ∧ ad.block ≠ br ∧ ad.block < V.heap.size)
    (hU : U = (V.setCell ⟨br, 0, none⟩ (.int .i64 (N : Int))).setCell ⟨br, 1, none⟩ (.slice A' LL.length c')) (hg : GmIs w' p S2 N LL) (t : Turns S U w') (hs : ∀ k, S2 k → S k ∨ U.heap.size ≤ k) (hlo : lo ≤ V.heap.size) : Pst lo w' p br N S2 A' c' LL := by
  obtain ⟨u1, u2, u3, u4, u5, u6, u7⟩ := h.write (L' := LL) (c' := c') hr ha U hU
  have hbl := h.bl
  refine ⟨hg, (t.block br (by omega) h.nb).trans u2, Rd.offD u3 (fun ad e hlt => t.block _ hlt (u4 ad e).1) t.size, fun ad e => ⟨fun hk => ?_, (u4 ad e).2.1, Nat.lt_of_lt_of_le (u4 ad e).2.2 t.size⟩, fun hk => ?_, fun k hk => ?_, h.lb⟩
  · rcases hs _ hk with h1 | h1
    · exact (u4 ad e).1 h1
    · have := (u4 ad e).2.2; omega
  · rcases hs _ hk with h1 | h1
    · exact h.nb h1
    · omega
  · rcases hs _ hk with h1 | h1
    · exact h.ge k h1
    · omega
/-- What the document's Add, and the program's, answer: alike. -/
theorem add_both {N ln : Nat} {L aL : List Ed} (hN : N ≤ 65536) (hL : L.length ≤ 1000) (hln : aL.length = ln) (h12 : ln ≤ 12) (hok : ∀ e ∈ aL, EdOk e) : ∃ (LL : List Ed) (cnt code : Int), LL.length ≤ L.length + 12 ∧
    (∀ (V : World) (A A1 : Option Addr) (c c1 : Nat), Rd V V.heap.size 3 A L.length (ec L) → Rd V V.heap.size 3 A1 ln (ec aL) → Calls Try.prog 14 #[.agg #[.int .i64 (N : Int), .slice A L.length c], .slice A1 ln c1] V (fun r w' => (∃ (A' : Option Addr) (c' : Nat), r = .returned (.tuple #[.agg #[.int .i64 (N : Int), .slice A' LL.length c'], .int .i64 cnt, .int .i64 code]) ∧ Rd w' w'.heap.size 3 A' LL.length (ec LL) ∧ (A' = A ∧ LL = L ∨ 0 < LL.length ∧ ∀ ad, A' = some ad → V.heap.size ≤ ad.block)) ∧ Below V.heap.size V w')) ∧
    (∀ (V : World) (p co : Nat) (S : Nat → Prop) (Ao : Option Addr), GmIs V p S N L → Rd V V.heap.size 3 Ao ln (ec aL) → (∀ ad, Ao = some ad → ¬ S ad.block) → Calls Try.prog 16 #[.pointer (some ⟨p, 0, none⟩), .slice Ao ln co] V (fun r w' => r = .returned (.tuple #[.int .i64 cnt, .int .i64 code]) ∧ GmEnd N LL S p V w')) := by
  by_cases hall : ∀ e ∈ aL, okE N e = true
  · refine ⟨addEs L aL, ((addEs L aL).length : Int) - (L.length : Int), 0, by have := (addEs_len aL L).2; omega, fun V A A1 c c1 h1 h2 => ?_, fun V p co S Ao h1 h2 h3 => ?_⟩
    · refine (radd2_any (c := c) (c' := c1) h1 h2 (Nat.le_refl _) (by omega) (by omega) hall hN).mono ?_
      rintro r w' ⟨A', c', rfl, hr, hb, ha⟩
      exact ⟨⟨A', c', rfl, hr, ha⟩, hb⟩
    · refine (gadd_any (c := co) h1 h2 (Nat.le_refl _) h3 hok hN (by omega) (by omega)).mono ?_
      rintro r w' (⟨-, rfl, hE⟩ | ⟨hno, -⟩)
      · exact ⟨rfl, hE⟩
      · exact absurd hall hno
  · refine ⟨L, 0, 130, by omega, fun V A A1 c c1 h1 h2 => ?_, fun V p co S Ao h1 h2 h3 => ?_⟩
    · refine (raddx_any (c := c) (c' := c1) (A := A) (n := L.length) h2 (Nat.le_refl _) (by omega) hall hN).mono ?_
      rintro r w' ⟨rfl, hb⟩
      exact ⟨⟨A, c, rfl, (h1.below hb).more hb.size, .inl ⟨rfl, rfl⟩⟩, hb⟩
    · refine (gadd_any (c := co) h1 h2 (Nat.le_refl _) h3 hok hN (by omega) (by omega)).mono ?_
      rintro r w' (⟨hyes, -⟩ | ⟨-, rfl, hE⟩)
      · exact absurd hyes hall
      · exact ⟨rfl, hE⟩
/-- Boxes of two are written. -/
theorem Rd.boxk {w w' : World} {B n W0 : Nat} {A : Option Addr} {L : List Ed} {T : TypeId} (h : Rd w B 3 A n (ec L)) (hB : B ≤ w.heap.size) (hk : BoxK T 2 W0 w w') : Rd w' B 3 A n (ec L) := by
  rcases Nat.eq_zero_or_pos n with h0 | h0
  · subst h0
    exact ⟨h.len, fun hn => absurd hn (by omega)⟩
  · refine Rd.offD h (fun ad hA hlt => ?_) (Nat.le_refl _)
    rcases hk.2 ad.block (by omega) with h1 | ⟨_, cs, h1, h2⟩
    · exact h1
    · exfalso
      obtain ⟨u, v, rfl⟩ : ∃ u v, cs = #[u, v] := by
        obtain ⟨c⟩ := cs
        match c, h1 with
        | [u, v], _ => exact ⟨u, v, rfl⟩
      exact Rd.ne_box2 h h2 h0 ad hA rfl
theorem OneE.boxk {w w' : World} {base g c n : Nat} {a : Ed} (h : OneE w base g c a) (hb : BoxK 31 2 n w w') : OneE w' base g c a := by
  rcases h.2 with ⟨_, h0⟩ | ⟨g', cap, cur, e, k1, k2, k3, k4, k5, k6⟩
  · cases h0
  · exact ⟨h.1, .inr ⟨g', cap, cur, e, k1, hb.keep k2 fun cs e1 _ => by injection e1 with _ e1 _; exact absurd e1 (by decide), k3, k4, k5, k6⟩⟩

end Go.Proofs.Ytopecdkkmbpnbaa
