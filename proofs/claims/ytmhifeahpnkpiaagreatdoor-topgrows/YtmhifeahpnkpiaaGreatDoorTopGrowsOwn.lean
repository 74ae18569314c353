/- TopGrows: what was served or told stays so, and grows just when a node steps or starts, or letters come: for every list of gears berthshifttop.TopGrows returns true, and the list reads behind the call as before it. The table lines.kinds starts as the program's own text lays it (the card ties it). -/
import Derived.SevenTiedAt
import Derived.Test.YtmhifeahpnkpiaaGreatDoorCards
import Derived.Test.YtmhifeahpnkpiaaGreatDoorTAF
import Derived.Test.YtmhifeahpnkpiaaGreatDoorTZB
import Derived.Test.YtmhifeahpnkpiaaGreatDoorTie
set_option maxRecDepth 20000
set_option maxHeartbeats 8000000
set_option linter.unusedVariables false
namespace Go.Proofs.YtmhifeahpnkpiaaGreatDoor
open Go.RowKit
section
open Go.ChangeShapes Go.WideShapes Go.ChangeAt Lq
theorem own:ownKnob Tryz.prog.godebug=none:=by kernel_rfl
theorem laidOut:laidOutB Tryz.prog=true:=by kernel_rfl
theorem zt{W:tA}(h:laidMetH Tryz.prog Rows.topGrowsRow.laid W):eO W:=fo h
theorem fR(os:Os)(args:tN):laidMetH Tryz.prog Rows.topGrowsRow.laid ((World.doorLaid Tryz.prog 400 os).forCall (fun _ _=>0) ⟨#[],args,[]⟩).memory:=
 laidMetH_of_parts3 (fuel:=8) (laidMet_of_run' 8 (by kernel_rfl) (by kernel_rfl)) (by kernel_rfl) (by kernel_rfl)
set_option maxRecDepth 100000 in
theorem wH(os:Os)(started:os.Started)(H:Type)(enc:TypeId×Value→H):
  ReturnsInHanded {} Tryz.checked os 6 .any (fun w args=>(Rows.topGrowsSpec.pre enc Tryz.prog Tryz.f6 [] false w args∧laidMetH Tryz.prog Rows.topGrowsRow.laid w)∧sizedMet enc Tryz.prog Tryz.f6 (OpenSpec.ofChange Rows.topGrowsSpec) false w args) (Rows.topGrowsSpec.post enc Tryz.prog Tryz.f6 false true false false):=by
 refine returnsInHanded_of_change_and (C:=Tryz.checked) (X:=fun w _=>laidMetH Tryz.prog Rows.topGrowsRow.laid w) (fun _ _ _ hh h=>h.of_heap hh) own started (by kernel_rfl) Tryz.func6
  (ChangeSpec.witness_shaped (enc:=enc) (C:=Tryz.checked) (os:=os) (X:=fun w _=>laidMetH Tryz.prog Rows.topGrowsRow.laid w) false (World.doorLaid Tryz.prog 400 os) #[.slice none 0 0] 8 rfl (World.shaped_of_RefB (by kernel_rfl) (by kernel_rfl)) (by kernel_rfl) (by kernel_rfl) (by kernel_rfl) (fR os _)) ?_
 intro W base args ds gs before hval0 hW hcnd hsz0 hL _;have km:∀(j:Nat) t v,Tryz.f6.params[j]? =some t→args[j]? =some v→Value.okWide Tryz.prog W .any base t v:=hval0;have ij:(DataW.weightsEach Tryz.prog (Tryz.f6.params.toList++Rows.topGrowsSpec.plain.varTypes Tryz.prog) (ds++gs)).all (·≤reachBytes)=true:=hsz0;have po:=hW;obtain⟨p,q,zy,hV,rfl,hfz,zC⟩:=hW;have hA:DataW.TrodAll enc Tryz.prog W 0 (fun _=>true) true Tryz.f6.params.toList args.toList ds p:=zy;rw[Tryz.params6]at hA km ij;have hK:=hA;have aL:∀x∈p,x.block<W.heap.size:=fun x hx=>po.lt x (by simp[hx]);obtain⟨v0,vs0,d0,ds0,p0,q0,hargs,rfl,rfl,h0,r0⟩:=trodAll_cons hA;obtain⟨rfl,rfl,rfl⟩:=trodAll_nil r0;obtain rfl:args= #[v0]:=by cases args;simp_all
 obtain⟨rfl,rfl⟩:=trodVars_none hV;obtain⟨a0,len0,cap0,l0,rfl,w0,lc0,cm0,na0,hd0⟩:=j3 (km 0 41 v0 rfl rfl) h0;have z0:cap0*40≤140737488351232:=jN (j:=0) (t:=41) (e:=98) ij rfl rfl Tryz.underlying41 (by kernel_rfl) hd0;clear hd0;clear zy hval0 hsz0;have N7:=zt hL;refine(Ao W N7 a0 len0 cap0 l0 w0 lc0 na0 z0).mono fun e W' ⟨he,cL⟩=> ?_;subst he;exact⟨_,rfl,_,_,_,[],_,[],po,trodAll_mk1 (shut_bool Tryz.underlying4 _),eY laidOut (List.forall_mem_cons.2 ⟨⟨by kernel_rfl,of_decide_eq_true (by kernel_rfl)⟩,by intro t ht;cases ht⟩) hK cL aL,rfl,cL.frame _,fun h=>by cases h⟩
theorem nO{a b:Bool}(h1:a=true)(h2:b=true):(a&&b)=true:=by rw[h1,h2];rfl
theorem GK:joinedFacts Tryz.pinned.checked.prog 6 Tryz.f6 Rows.topGrowsSpec Rows.topGrowsRow=true:=by
 unfold joinedFacts
 repeat' with_reducible apply nO
 all_goals as_aux_lemma=>kernel_rfl
theorem zu:Rows.TopGrowsSaid:=
 OpenClaim.holds_of_wide 6 Tryz.f6 rfl rfl rfl rfl rfl rfl rfl ⟨rfl,rfl,rfl,rfl,rfl⟩ rfl rfl rfl rfl rfl (by as_aux_lemma=>kernel_rfl) Tryz.func6 GK
  (of_decide_eq_true (by as_aux_lemma=>kernel_rfl)) (by unfold Func.isWrapper;first|(rw[if_pos (by decide+kernel)];kernel_rfl)|(rw[if_neg (by decide+kernel)];exact⟨rfl,rfl⟩))
  (fun os started H enc _=>wH os started H enc)
theorem topGrows_card:Rows.TopGrowsCardSaid:=
 Claim7.holds_tied_plain_at .later [] [.data] true (true, "8c1cd532d112b5f1b13463e5935b4ec2a84b8d8e499428abc1e0566194223d96") true
  zu (fun _ h=>by cases h) (by as_aux_lemma=>kernel_rfl) (fun _ h=>by cases h) topGrows_row_tie rfl ⟨rfl,rfl⟩ (by as_aux_lemma=>kernel_rfl) rfl
  (fun f fn hf hfn=>by
   obtain rfl:f=6:=Option.some.inj ((show Tryz.prog.funcNamed "berthshift/berthshifttop.TopGrows" =some 6 by as_aux_lemma=>kernel_rfl).symm.trans hf)|>.symm
   obtain rfl:fn=Tryz.f6:=(Option.some.inj (Tryz.func6.symm.trans hfn)).symm
   exact⟨by as_aux_lemma=>kernel_rfl,fun j t ht=>by
    rw[Tryz.params6]at ht;have hm:t∈[41]:=by simpa using Array.mem_of_getElem? ht
    have je:([41].all fun u=> !Tryz.prog.wantsStandIn u)=true:=by kernel_rfl
    exact(show Tryz.prog.wantsStandIn t=false by simpa using List.all_eq_true.1 je t hm)⟩)
  (by as_aux_lemma=>kernel_rfl)
#print axioms topGrows_card
end
end Go.Proofs.YtmhifeahpnkpiaaGreatDoor
