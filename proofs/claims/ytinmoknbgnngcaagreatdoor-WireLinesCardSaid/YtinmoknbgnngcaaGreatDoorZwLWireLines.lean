/-
  For every string s, WireLines(s) returns true and its argument reads afterwards as before.
-/
import Derived.Test.YtinmoknbgnngcaaGreatDoorRows
import Derived.Test.YtinmoknbgnngcaaGreatDoorZwWhd
import Derived.Test.YtinmoknbgnngcaaGreatDoorCards
namespace Go.Proofs.YtinmoknbgnngcaaGreatDoor.wireLines
open Go.ChangeShapes Go.WideShapes Go.ChangeAt Go.RowKit
open Go.ChangeMaps (open_string shut_string)
set_option linter.unusedVariables false
set_option maxRecDepth 100000 in
theorem lf (os:Os) (t0:os.Started) (H:Type) (enc:TypeId×Value→H) :
 ReturnsInHanded {} Tryz.checked os 5 .any (fun w xs=>(Rows.wireLinesSpec.pre enc Tryz.prog Tryz.f5 [] false w xs∧laidMetH Tryz.prog laidL w)∧sizedMet enc Tryz.prog Tryz.f5 (OpenSpec.ofChange Rows.wireLinesSpec) false w xs)
  (Rows.wireLinesSpec.post enc Tryz.prog Tryz.f5 false true false false):=by
 refine handedH (C:=Tryz.checked) (X:=fun w _=>laidMetH Tryz.prog laidL w) (fun _ _ _ hh h=>h.of_heap hh) ownH t0 (by kernel_rfl) Tryz.func5
  (ChangeSpec.witness_shaped (enc:=enc) (C:=Tryz.checked) (os:=os) (X:=fun w _=>laidMetH Tryz.prog laidL w) false (World.laidAll Tryz.prog os laidL) #[.string ByteArray.empty] 8 (World.laidAll_os _ _ _) (World.shaped_of_ZipB (by kernel_rfl) (by kernel_rfl)) (by kernel_rfl) (by kernel_rfl) (by kernel_rfl)
   (by rw [MakeChecks.laidMetH_plain _ _ _ (by kernel_rfl)]; exact laidMet_laidAll _ (by kernel_rfl) (by kernel_rfl))) ?_
 intro W B xs ds g bf a0 hW hL s
 have hv:∀ (j:Nat) t v,Tryz.f5.params[j]? = some t→xs[j]? = some v→Value.okWide Tryz.prog W .any B t v:=a0
 have hW':=hW
 obtain ⟨p,q,hA0,hV,rfl,y,n⟩:=hW
 have hA:DataW.TrodAll enc Tryz.prog W 0 (fun _=>true) true Tryz.f5.params.toList xs.toList ds p:=hA0
 rw [Tryz.params5] at hA hv
 obtain ⟨v0,vs0,d0,ds0,p0,q0,ha,rfl,rfl,h0,r_0⟩:=trodAll_cons hA
 obtain ⟨rfl,rfl,rfl⟩:=trodAll_nil r_0
 obtain rfl:xs=#[v0]:=by cases xs; simp_all
 obtain ⟨rfl,rfl⟩:=trodVars_none hV
 obtain ⟨s0,rfl,rfl,rfl,w0⟩:=open_string Tryz.underlying9 (hv 0 9 v0 rfl rfl) h0
 have e0:s0=⟨s0.data.toList.toArray⟩:=rfl
 clear hA0 a0
 have e:EnvM W.heap.size W:=⟨env_of_laid hL,(let ⟨_,hm⟩:=maxlen_intH s; pos_of_cellH hm),maxlen_intH s⟩
 have k:=wirelines_any W.heap.size s0.data.toList W e (tab_of_laid hL) (Nat.le_refl _)
 rw [← e0] at k
 refine k.mono fun e W' ⟨he,z⟩=>?_
 subst he
 exact ⟨_,rfl,_,_,_,[],_,[],hW',trodAll_mk1 (shut_bool Tryz.underlying4 _),(trodAll_cons_mk (shut_string Tryz.underlying9 w0) trodAll_mk0),rfl,z.frame _,fun h=>by cases h⟩
theorem over:Rows.wireLinesRow.holds Tryz.pinned (OpenSpec.ofChange Rows.wireLinesSpec):=
 OpenClaim.holds_of_wide 5 Tryz.f5 rfl rfl rfl rfl rfl rfl rfl ⟨rfl,rfl,rfl,rfl,rfl⟩ rfl rfl rfl rfl rfl (by kernel_rfl) Tryz.func5 (by kernel_rfl)
  (of_decide_eq_true (by kernel_rfl)) (by unfold Func.isWrapper; first | (rw [if_pos (by decide +kernel)]; kernel_rfl) | (rw [if_neg (by decide +kernel)]; exact ⟨rfl,rfl⟩))
  (fun os t0 H enc _=>lf os t0 H enc)
theorem proved:Rows.WireLinesCardSaid:=
 Claim7.holds_tied_plain_at .later [] [.data,.data,.data,.data,.sentinel,.sentinel,.data,.pinned] true (true,"f70557039fda80a737b911b7acb8046f8ba456c9bf1d18becb4ae097a5d05923") true
  over (fun _ h=>by cases h) (by kernel_rfl) (fun _ h=>by cases h) wireLines_row_tie rfl ⟨rfl,rfl⟩ (by kernel_rfl) rfl
  (fun f fn hf hfn=>by
   obtain rfl:f=5:=Option.some.inj ((show Tryz.prog.funcNamed "alibi/alibilaw06.WireLines" = some 5 by kernel_rfl).symm.trans hf) |>.symm
   obtain rfl:fn=Tryz.f5:=(Option.some.inj (Tryz.func5.symm.trans hfn)).symm
   exact ⟨by kernel_rfl,fun j t ht=>by
    rw [Tryz.params5] at ht
    have hm:t∈[9]:=by simpa using Array.mem_of_getElem? ht
    have hq:([9].all fun u=>!Tryz.prog.wantsStandIn u)=true:=by kernel_rfl
    exact (show Tryz.prog.wantsStandIn t=false by simpa using List.all_eq_true.1 hq t hm)⟩)
  (by kernel_rfl)
#print axioms proved
end Go.Proofs.YtinmoknbgnngcaaGreatDoor.wireLines
