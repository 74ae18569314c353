/- TopNew: a queue that is made is active at its node, at the first epoch and with one break, behind a crash and a start of that node: for all numbers berthshifttop.TopNew returns true. The table lines.kinds starts as the program's own text lays it (the card ties it). -/
import Derived.SevenTiedAt
import Derived.Test.YtmhifeahpnkpiaaGreatDoorCards
import Derived.Test.YtmhifeahpnkpiaaGreatDoorTAF
import Derived.Test.YtmhifeahpnkpiaaGreatDoorTZG
import Derived.Test.YtmhifeahpnkpiaaGreatDoorTie
set_option maxRecDepth 20000
set_option maxHeartbeats 8000000
set_option linter.unusedVariables false
namespace Go.Proofs.YtmhifeahpnkpiaaGreatDoor
open Go.RowKit
section
open Go.ChangeShapes Go.WideShapes Go.ChangeAt Lq
theorem own:ownKnob Tryz.prog.godebug=none:=by kernel_rfl
theorem laidOut:laidOutB Tryz.prog=true:=by kernel_rfl
theorem DW{W:tA}(h:laidMetH Tryz.prog Rows.topNewRow.laid W):eO W:=fo h
theorem fR(os:Os)(args:tN):laidMetH Tryz.prog Rows.topNewRow.laid ((World.doorLaid Tryz.prog 400 os).forCall (fun _ _=>0) ⟨#[],args,[]⟩).memory:=
 laidMetH_of_parts3 (fuel:=8) (laidMet_of_run' 8 (by kernel_rfl) (by kernel_rfl)) (by kernel_rfl) (by kernel_rfl)
set_option maxRecDepth 100000 in
theorem AA(os:Os)(started:os.Started)(H:Type)(enc:TypeId×Value→H):
  ReturnsInHanded {} Tryz.checked os 12 .any (fun w args=>(Rows.topNewSpec.pre enc Tryz.prog Tryz.f12 [] false w args∧laidMetH Tryz.prog Rows.topNewRow.laid w)∧sizedMet enc Tryz.prog Tryz.f12 (OpenSpec.ofChange Rows.topNewSpec) false w args) (Rows.topNewSpec.post enc Tryz.prog Tryz.f12 false true false false):=by
 refine returnsInHanded_of_change_and (C:=Tryz.checked) (X:=fun w _=>laidMetH Tryz.prog Rows.topNewRow.laid w) (fun _ _ _ hh h=>h.of_heap hh) own started (by kernel_rfl) Tryz.func12
  (ChangeSpec.witness_shaped (enc:=enc) (C:=Tryz.checked) (os:=os) (X:=fun w _=>laidMetH Tryz.prog Rows.topNewRow.laid w) false (World.doorLaid Tryz.prog 400 os) #[iV 0,iV 0] 8 rfl (World.shaped_of_RefB (by kernel_rfl) (by kernel_rfl)) (by kernel_rfl) (by kernel_rfl) (by kernel_rfl) (fR os _)) ?_
 intro W base args ds gs before hval0 hW hcnd hsz0 hL _;have km:∀(j:Nat) t v,Tryz.f12.params[j]? =some t→args[j]? =some v→Value.okWide Tryz.prog W .any base t v:=hval0;have ij:(DataW.weightsEach Tryz.prog (Tryz.f12.params.toList++Rows.topNewSpec.plain.varTypes Tryz.prog) (ds++gs)).all (·≤reachBytes)=true:=hsz0;have po:=hW;obtain⟨p,q,zy,hV,rfl,hfz,zC⟩:=hW;have hA:DataW.TrodAll enc Tryz.prog W 0 (fun _=>true) true Tryz.f12.params.toList args.toList ds p:=zy;rw[Tryz.params12]at hA km ij;have hK:=hA;have aL:∀x∈p,x.block<W.heap.size:=fun x hx=>po.lt x (by simp[hx]);obtain⟨v0,vs0,d0,ds0,p0,q0,hargs,rfl,rfl,h0,r0⟩:=trodAll_cons hA;obtain⟨v1,vs1,d1,ds1,p1,q1,rfl,rfl,rfl,h1,r1⟩:=trodAll_cons r0;obtain⟨rfl,rfl,rfl⟩:=trodAll_nil r1;obtain rfl:args= #[v0,v1]:=by cases args;simp_all
 obtain⟨rfl,rfl⟩:=trodVars_none hV;obtain⟨a0,rfl,rfl,rfl,w0⟩:=open_int Tryz.underlying3 (km 0 3 v0 rfl rfl) h0;obtain⟨a1,rfl,rfl,rfl,w1⟩:=open_int Tryz.underlying3 (km 1 3 v1 rfl rfl) h1;clear zy hval0 hsz0;have N7:=DW hL;refine(GI W N7 a0 w0 a1 w1).mono fun e W' ⟨he,cL⟩=> ?_;subst he;exact⟨_,rfl,_,_,_,[],_,[],po,trodAll_mk1 (shut_bool Tryz.underlying4 _),eY laidOut (List.forall_mem_cons.2 ⟨⟨by kernel_rfl,of_decide_eq_true (by kernel_rfl)⟩,List.forall_mem_cons.2 ⟨⟨by kernel_rfl,of_decide_eq_true (by kernel_rfl)⟩,by intro t ht;cases ht⟩⟩) hK cL aL,rfl,cL.frame _,fun h=>by cases h⟩
theorem nO{a b:Bool}(h1:a=true)(h2:b=true):(a&&b)=true:=by rw[h1,h2];rfl
theorem N8:joinedFacts Tryz.pinned.checked.prog 12 Tryz.f12 Rows.topNewSpec Rows.topNewRow=true:=by
 unfold joinedFacts
 repeat' with_reducible apply nO
 all_goals as_aux_lemma=>kernel_rfl
theorem DX:Rows.TopNewSaid:=
 OpenClaim.holds_of_wide 12 Tryz.f12 rfl rfl rfl rfl rfl rfl rfl ⟨rfl,rfl,rfl,rfl,rfl⟩ rfl rfl rfl rfl rfl (by as_aux_lemma=>kernel_rfl) Tryz.func12 N8
  (of_decide_eq_true (by as_aux_lemma=>kernel_rfl)) (by unfold Func.isWrapper;first|(rw[if_pos (by decide+kernel)];kernel_rfl)|(rw[if_neg (by decide+kernel)];exact⟨rfl,rfl⟩))
  (fun os started H enc _=>AA os started H enc)
theorem topNew_card:Rows.TopNewCardSaid:=
 Claim7.holds_tied_plain_at .later [] [.data] true (true, "8c1cd532d112b5f1b13463e5935b4ec2a84b8d8e499428abc1e0566194223d96") true
  DX (fun _ h=>by cases h) (by as_aux_lemma=>kernel_rfl) (fun _ h=>by cases h) topNew_row_tie rfl ⟨rfl,rfl⟩ (by as_aux_lemma=>kernel_rfl) rfl
  (fun f fn hf hfn=>by
   obtain rfl:f=12:=Option.some.inj ((show Tryz.prog.funcNamed "berthshift/berthshifttop.TopNew" =some 12 by as_aux_lemma=>kernel_rfl).symm.trans hf)|>.symm
   obtain rfl:fn=Tryz.f12:=(Option.some.inj (Tryz.func12.symm.trans hfn)).symm
   exact⟨by as_aux_lemma=>kernel_rfl,fun j t ht=>by
    rw[Tryz.params12]at ht;have hm:t∈[3,3]:=by simpa using Array.mem_of_getElem? ht
    have je:([3,3].all fun u=> !Tryz.prog.wantsStandIn u)=true:=by kernel_rfl
    exact(show Tryz.prog.wantsStandIn t=false by simpa using List.all_eq_true.1 je t hm)⟩)
  (by as_aux_lemma=>kernel_rfl)
#print axioms topNew_card
end
end Go.Proofs.YtmhifeahpnkpiaaGreatDoor
