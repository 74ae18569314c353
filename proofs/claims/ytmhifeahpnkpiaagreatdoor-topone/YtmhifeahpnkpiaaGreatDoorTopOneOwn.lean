/- TopOne: in each state of a script at most one node serves a queue, those that are down counted as what their tapes make of them: for every list of gears berthshifttop.TopOne returns true, and the list reads behind the call as before it. The table lines.kinds starts as the program's own text lays it (the card ties it). -/
import Derived.SevenTiedAt
import Derived.Test.YtmhifeahpnkpiaaGreatDoorCards
import Derived.Test.YtmhifeahpnkpiaaGreatDoorTie
import Derived.Test.YtmhifeahpnkpiaaGreatDoorUAF
import Derived.Test.YtmhifeahpnkpiaaGreatDoorUZH
set_option maxRecDepth 20000
set_option maxHeartbeats 8000000
set_option linter.unusedVariables false
namespace Go.Proofs.YtmhifeahpnkpiaaGreatDoor
open Go.RowKit
section
open Go.ChangeShapes Go.WideShapes Go.ChangeAt Lq
theorem own:ownKnob Tryz.prog.godebug=none:=by kernel_rfl
theorem laidOut:laidOutB Tryz.prog=true:=by kernel_rfl
theorem abc{W:tA}(h:laidMetH Tryz.prog Rows.topOneRow.laid W):eV W:=fy h
theorem fS(os:Os)(args:tR):laidMetH Tryz.prog Rows.topOneRow.laid ((World.doorLaid Tryz.prog 400 os).forCall (fun _ _=>0) ⟨#[],args,[]⟩).memory:=
 laidMetH_of_parts3 (fuel:=8) (laidMet_of_run' 8 (by kernel_rfl) (by kernel_rfl)) (by kernel_rfl) (by kernel_rfl)
set_option maxRecDepth 100000 in
theorem aa5(os:Os)(started:os.Started)(H:Type)(enc:TypeId×Value→H):
  ReturnsInHanded {} Tryz.checked os 4 .any (fun w args=>(Rows.topOneSpec.pre enc Tryz.prog Tryz.f4 [] false w args∧laidMetH Tryz.prog Rows.topOneRow.laid w)∧sizedMet enc Tryz.prog Tryz.f4 (OpenSpec.ofChange Rows.topOneSpec) false w args) (Rows.topOneSpec.post enc Tryz.prog Tryz.f4 false true false false):=by
 refine returnsInHanded_of_change_and (C:=Tryz.checked) (X:=fun w _=>laidMetH Tryz.prog Rows.topOneRow.laid w) (fun _ _ _ hh h=>h.of_heap hh) own started (by kernel_rfl) Tryz.func4
  (ChangeSpec.witness_shaped (enc:=enc) (C:=Tryz.checked) (os:=os) (X:=fun w _=>laidMetH Tryz.prog Rows.topOneRow.laid w) false (World.doorLaid Tryz.prog 400 os) #[.slice none 0 0] 8 rfl (World.shaped_of_RefB (by kernel_rfl) (by kernel_rfl)) (by kernel_rfl) (by kernel_rfl) (by kernel_rfl) (fS os _)) ?_
 intro W base args ds gs before hval0 hW hcnd hsz0 hL _;have ku:∀(j:Nat) t v,Tryz.f4.params[j]? =some t→args[j]? =some v→Value.okWide Tryz.prog W .any base t v:=hval0;have iE:(DataW.weightsEach Tryz.prog (Tryz.f4.params.toList++Rows.topOneSpec.plain.varTypes Tryz.prog) (ds++gs)).all (·≤reachBytes)=true:=hsz0;have pB:=hW;obtain⟨p,q,zu,hV,rfl,hfz,zv⟩:=hW;have hA:DataW.TrodAll enc Tryz.prog W 0 (fun _=>true) true Tryz.f4.params.toList args.toList ds p:=zu;rw[Tryz.params4]at hA ku iE;have hK:=hA;have aM:∀x∈p,x.block<W.heap.size:=fun x hx=>pB.lt x (by simp[hx]);obtain⟨v0,vs0,d0,ds0,p0,q0,hargs,rfl,rfl,h0,r0⟩:=trodAll_cons hA;obtain⟨rfl,rfl,rfl⟩:=trodAll_nil r0;obtain rfl:args= #[v0]:=by cases args;simp_all
 obtain⟨rfl,rfl⟩:=trodVars_none hV;obtain⟨a0,len0,cap0,l0,rfl,w0,lc0,cm0,na0,hd0⟩:=jZ (ku 0 41 v0 rfl rfl) h0;have z0:cap0*40≤140737488351232:=j3 (j:=0) (t:=41) (e:=98) iE rfl rfl Tryz.underlying41 (by kernel_rfl) hd0;clear hd0;clear zu hval0 hsz0;have Nr:=abc hL;refine(abj W Nr a0 len0 cap0 l0 w0 lc0 na0 z0).mono fun e W' ⟨he,cP⟩=> ?_;subst he;exact⟨_,rfl,_,_,_,[],_,[],pB,trodAll_mk1 (shut_bool Tryz.underlying4 _),fA laidOut (List.forall_mem_cons.2 ⟨⟨by kernel_rfl,of_decide_eq_true (by kernel_rfl)⟩,by intro t ht;cases ht⟩) hK cP aM,rfl,cP.frame _,fun h=>by cases h⟩
theorem m_{a b:Bool}(h1:a=true)(h2:b=true):(a&&b)=true:=by rw[h1,h2];rfl
theorem abF:joinedFacts Tryz.pinned.checked.prog 4 Tryz.f4 Rows.topOneSpec Rows.topOneRow=true:=by
 unfold joinedFacts
 repeat' with_reducible apply m_
 all_goals as_aux_lemma=>kernel_rfl
theorem abd:Rows.TopOneSaid:=
 OpenClaim.holds_of_wide 4 Tryz.f4 rfl rfl rfl rfl rfl rfl rfl ⟨rfl,rfl,rfl,rfl,rfl⟩ rfl rfl rfl rfl rfl (by as_aux_lemma=>kernel_rfl) Tryz.func4 abF
  (of_decide_eq_true (by as_aux_lemma=>kernel_rfl)) (by unfold Func.isWrapper;first|(rw[if_pos (by decide+kernel)];kernel_rfl)|(rw[if_neg (by decide+kernel)];exact⟨rfl,rfl⟩))
  (fun os started H enc _=>aa5 os started H enc)
theorem topOne_card:Rows.TopOneCardSaid:=
 Claim7.holds_tied_plain_at .later [] [.data] true (true, "8c1cd532d112b5f1b13463e5935b4ec2a84b8d8e499428abc1e0566194223d96") true
  abd (fun _ h=>by cases h) (by as_aux_lemma=>kernel_rfl) (fun _ h=>by cases h) topOne_row_tie rfl ⟨rfl,rfl⟩ (by as_aux_lemma=>kernel_rfl) rfl
  (fun f fn hf hfn=>by
   obtain rfl:f=4:=Option.some.inj ((show Tryz.prog.funcNamed "berthshift/berthshifttop.TopOne" =some 4 by as_aux_lemma=>kernel_rfl).symm.trans hf)|>.symm
   obtain rfl:fn=Tryz.f4:=(Option.some.inj (Tryz.func4.symm.trans hfn)).symm
   exact⟨by as_aux_lemma=>kernel_rfl,fun j t ht=>by
    rw[Tryz.params4]at ht;have hm:t∈[41]:=by simpa using Array.mem_of_getElem? ht
    have ju:([41].all fun u=> !Tryz.prog.wantsStandIn u)=true:=by kernel_rfl
    exact(show Tryz.prog.wantsStandIn t=false by simpa using List.all_eq_true.1 ju t hm)⟩)
  (by as_aux_lemma=>kernel_rfl)
#print axioms topOne_card
end
end Go.Proofs.YtmhifeahpnkpiaaGreatDoor
