/- TopOthers: a queue that nobody calls stays empty, one that is not made is nowhere, and nothing is served for either: for every list of gears berthshifttop.TopOthers returns true, and the list reads behind the call as before it. The table lines.kinds starts as the program's own text lays it (the card ties it). -/
import Derived.SevenTiedAt
import Derived.Test.YtpgkjpomaffbmaaGreatDoorCards
import Derived.Test.YtpgkjpomaffbmaaGreatDoorTAF
import Derived.Test.YtpgkjpomaffbmaaGreatDoorTZH
import Derived.Test.YtpgkjpomaffbmaaGreatDoorTie
set_option maxRecDepth 20000
set_option maxHeartbeats 8000000
set_option linter.unusedVariables false
namespace Go.Proofs.YtpgkjpomaffbmaaGreatDoor
open Go.RowKit
section
open Go.ChangeShapes Go.WideShapes Go.ChangeAt Lq
theorem own:ownKnob Tryz.prog.godebug=none:=by kernel_rfl
theorem laidOut:laidOutB Tryz.prog=true:=by kernel_rfl
theorem abt{W:tA}(h:laidMetH Tryz.prog Rows.topOthersRow.laid W):gl W:=iY h
theorem kc(os:Os)(args:tR):laidMetH Tryz.prog Rows.topOthersRow.laid ((World.doorLaid Tryz.prog 400 os).forCall (fun _ _=>0) ⟨#[],args,[]⟩).memory:=
 laidMetH_of_parts3 (fuel:=8) (laidMet_of_run' 8 (by kernel_rfl) (by kernel_rfl)) (by kernel_rfl) (by kernel_rfl)
set_option maxRecDepth 100000 in
theorem abp(os:Os)(started:os.Started)(H:Type)(enc:TypeId×Value→H):
  ReturnsInHanded {} Tryz.checked os 8 .any (fun w args=>(Rows.topOthersSpec.pre enc Tryz.prog Tryz.f8 [] false w args∧laidMetH Tryz.prog Rows.topOthersRow.laid w)∧sizedMet enc Tryz.prog Tryz.f8 (OpenSpec.ofChange Rows.topOthersSpec) false w args) (Rows.topOthersSpec.post enc Tryz.prog Tryz.f8 false true false false):=by
 refine returnsInHanded_of_change_and (C:=Tryz.checked) (X:=fun w _=>laidMetH Tryz.prog Rows.topOthersRow.laid w) (fun _ _ _ hh h=>h.of_heap hh) own started (by kernel_rfl) Tryz.func8
  (ChangeSpec.witness_shaped (enc:=enc) (C:=Tryz.checked) (os:=os) (X:=fun w _=>laidMetH Tryz.prog Rows.topOthersRow.laid w) false (World.doorLaid Tryz.prog 400 os) #[.slice none 0 0] 8 rfl (World.shaped_of_RefB (by kernel_rfl) (by kernel_rfl)) (by kernel_rfl) (by kernel_rfl) (by kernel_rfl) (kc os _)) ?_
 intro W base args ds gs before hval0 hW hcnd hsz0 hL _;have vO:∀(j:Nat) t v,Tryz.f8.params[j]? =some t→args[j]? =some v→Value.okWide Tryz.prog W .any base t v:=hval0;have js:(DataW.weightsEach Tryz.prog (Tryz.f8.params.toList++Rows.topOthersSpec.plain.varTypes Tryz.prog) (ds++gs)).all (·≤reachBytes)=true:=hsz0;have ug:=hW;obtain⟨p,q,J9,hV,rfl,hfz,Fc⟩:=hW;have hA:DataW.TrodAll enc Tryz.prog W 0 (fun _=>true) true Tryz.f8.params.toList args.toList ds p:=J9;rw[Tryz.params8]at hA vO js;have hK:=hA;have aN:∀x∈p,x.block<W.heap.size:=fun x hx=>ug.lt x (by simp[hx]);obtain⟨v0,vs0,d0,ds0,p0,q0,hargs,rfl,rfl,h0,r0⟩:=trodAll_cons hA;obtain⟨rfl,rfl,rfl⟩:=trodAll_nil r0;obtain rfl:args= #[v0]:=by cases args;simp_all
 obtain⟨rfl,rfl⟩:=trodVars_none hV;obtain⟨a0,len0,cap0,l0,rfl,w0,lc0,cm0,na0,hd0⟩:=nc (vO 0 22 v0 rfl rfl) h0;have z0:cap0*40≤140737488351232:=mD (j:=0) (t:=22) (e:=72) js rfl rfl Tryz.underlying22 (by kernel_rfl) hd0;clear hd0;clear J9 hval0 hsz0;have Yr:=abt hL;refine(abx W Yr a0 len0 cap0 l0 w0 lc0 na0 z0).mono fun e W' ⟨he,dp⟩=> ?_;subst he;exact⟨_,rfl,_,_,_,[],_,[],ug,trodAll_mk1 (shut_bool Tryz.underlying4 _),iP laidOut (List.forall_mem_cons.2 ⟨⟨by kernel_rfl,Bi (by kernel_rfl)⟩,by intro t ht;cases ht⟩) hK dp aN,rfl,dp.frame _,fun h=>by cases h⟩
theorem vP{a b:Bool}(h1:a=true)(h2:b=true):(a&&b)=true:=by rw[h1,h2];rfl
theorem abB:joinedFacts Tryz.pinned.checked.prog 8 Tryz.f8 Rows.topOthersSpec Rows.topOthersRow=true:=by
 unfold joinedFacts
 repeat' with_reducible apply vP
 all_goals as_aux_lemma=>kernel_rfl
theorem abu:Rows.TopOthersSaid:=
 OpenClaim.holds_of_wide 8 Tryz.f8 rfl rfl rfl rfl rfl rfl rfl ⟨rfl,rfl,rfl,rfl,rfl⟩ rfl rfl rfl rfl rfl (by as_aux_lemma=>kernel_rfl) Tryz.func8 abB
  (Bi (by as_aux_lemma=>kernel_rfl)) (by unfold Func.isWrapper;first|(rw[Ae (by decide+kernel)];kernel_rfl)|(rw[Aa (by decide+kernel)];exact⟨rfl,rfl⟩))
  (fun os started H enc _=>abp os started H enc)
theorem topOthers_card:Rows.TopOthersCardSaid:=
 Claim7.holds_tied_plain_at .later [] [.data] true (true, "8c270f305aed827c07ecbd48a37c3d1175332d7604d95b60617926f28e4f3e09") true
  abu (fun _ h=>by cases h) (by as_aux_lemma=>kernel_rfl) (fun _ h=>by cases h) topOthers_row_tie rfl ⟨rfl,rfl⟩ (by as_aux_lemma=>kernel_rfl) rfl
  (fun f fn hf hfn=>by
   obtain rfl:f=8:=AY ((show Tryz.prog.funcNamed "berthshift/berthshifttop.TopOthers" =some 8 by as_aux_lemma=>kernel_rfl).symm.trans hf)|>.symm
   obtain rfl:fn=Tryz.f8:=(AY (Tryz.func8.symm.trans hfn)).symm
   exact⟨by as_aux_lemma=>kernel_rfl,fun j t ht=>by
    rw[Tryz.params8]at ht;have hm:t∈[22]:=by simpa using Array.mem_of_getElem? ht
    have kM:([22].all fun u=> !Tryz.prog.wantsStandIn u)=true:=by kernel_rfl
    exact(show Tryz.prog.wantsStandIn t=false by simpa using List.all_eq_true.1 kM t hm)⟩)
  (by as_aux_lemma=>kernel_rfl)
#print axioms topOthers_card
end
end Go.Proofs.YtpgkjpomaffbmaaGreatDoor
