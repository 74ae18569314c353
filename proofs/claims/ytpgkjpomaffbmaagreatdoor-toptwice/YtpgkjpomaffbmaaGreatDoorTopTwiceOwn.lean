/- TopTwice: of each id of a producer a queue holds one message at most, also where a call is sent again to other nodes: for all lists of gears berthshifttop.TopTwice returns true, and the lists read behind the call as before it. The table lines.kinds starts as the program's own text lays it (the card ties it). -/
import Derived.SevenTiedAt
import Derived.Test.YtpgkjpomaffbmaaGreatDoorCards
import Derived.Test.YtpgkjpomaffbmaaGreatDoorTAF
import Derived.Test.YtpgkjpomaffbmaaGreatDoorTZG
import Derived.Test.YtpgkjpomaffbmaaGreatDoorTie
set_option maxRecDepth 20000
set_option maxHeartbeats 8000000
set_option linter.unusedVariables false
namespace Go.Proofs.YtpgkjpomaffbmaaGreatDoor
open Go.RowKit
section
open Go.ChangeShapes Go.WideShapes Go.ChangeAt Lq
theorem own:ownKnob Tryz.prog.godebug=none:=by kernel_rfl
theorem laidOut:laidOutB Tryz.prog=true:=by kernel_rfl
theorem aa5{W:tA}(h:laidMetH Tryz.prog Rows.topTwiceRow.laid W):gl W:=iY h
theorem kc(os:Os)(args:tR):laidMetH Tryz.prog Rows.topTwiceRow.laid ((World.doorLaid Tryz.prog 400 os).forCall (fun _ _=>0) ⟨#[],args,[]⟩).memory:=
 laidMetH_of_parts3 (fuel:=8) (laidMet_of_run' 8 (by kernel_rfl) (by kernel_rfl)) (by kernel_rfl) (by kernel_rfl)
set_option maxRecDepth 100000 in
theorem aa4(os:Os)(started:os.Started)(H:Type)(enc:TypeId×Value→H):
  ReturnsInHanded {} Tryz.checked os 10 .any (fun w args=>(Rows.topTwiceSpec.pre enc Tryz.prog Tryz.f10 [] false w args∧laidMetH Tryz.prog Rows.topTwiceRow.laid w)∧sizedMet enc Tryz.prog Tryz.f10 (OpenSpec.ofChange Rows.topTwiceSpec) false w args) (Rows.topTwiceSpec.post enc Tryz.prog Tryz.f10 false true false false):=by
 refine returnsInHanded_of_change_and (C:=Tryz.checked) (X:=fun w _=>laidMetH Tryz.prog Rows.topTwiceRow.laid w) (fun _ _ _ hh h=>h.of_heap hh) own started (by kernel_rfl) Tryz.func10
  (ChangeSpec.witness_shaped (enc:=enc) (C:=Tryz.checked) (os:=os) (X:=fun w _=>laidMetH Tryz.prog Rows.topTwiceRow.laid w) false (World.doorLaid Tryz.prog 400 os) #[.slice none 0 0,.slice none 0 0] 8 rfl (World.shaped_of_RefB (by kernel_rfl) (by kernel_rfl)) (by kernel_rfl) (by kernel_rfl) (by kernel_rfl) (kc os _)) ?_
 intro W base args ds gs before hval0 hW hcnd hsz0 hL _;have vO:∀(j:Nat) t v,Tryz.f10.params[j]? =some t→args[j]? =some v→Value.okWide Tryz.prog W .any base t v:=hval0;have js:(DataW.weightsEach Tryz.prog (Tryz.f10.params.toList++Rows.topTwiceSpec.plain.varTypes Tryz.prog) (ds++gs)).all (·≤reachBytes)=true:=hsz0;have ug:=hW;obtain⟨p,q,J9,hV,rfl,hfz,Fc⟩:=hW;have hA:DataW.TrodAll enc Tryz.prog W 0 (fun _=>true) true Tryz.f10.params.toList args.toList ds p:=J9;rw[Tryz.params10]at hA vO js;have hK:=hA;have aN:∀x∈p,x.block<W.heap.size:=fun x hx=>ug.lt x (by simp[hx]);obtain⟨v0,vs0,d0,ds0,p0,q0,hargs,rfl,rfl,h0,r0⟩:=trodAll_cons hA;obtain⟨v1,vs1,d1,ds1,p1,q1,rfl,rfl,rfl,h1,r1⟩:=trodAll_cons r0;obtain⟨rfl,rfl,rfl⟩:=trodAll_nil r1;obtain rfl:args= #[v0,v1]:=by cases args;simp_all
 obtain⟨rfl,rfl⟩:=trodVars_none hV;obtain⟨a0,len0,cap0,l0,rfl,w0,lc0,cm0,na0,hd0⟩:=nc (vO 0 22 v0 rfl rfl) h0;have z0:cap0*40≤140737488351232:=mD (j:=0) (t:=22) (e:=72) js rfl rfl Tryz.underlying22 (by kernel_rfl) hd0;clear hd0;obtain⟨a1,len1,cap1,l1,rfl,w1,lc1,cm1,na1,Ln⟩:=nc (vO 1 22 v1 rfl rfl) h1;have z1:cap1*40≤140737488351232:=mD (j:=1) (t:=22) (e:=72) js rfl rfl Tryz.underlying22 (by kernel_rfl) Ln;clear Ln;clear J9 hval0 hsz0;have Yr:=aa5 hL;refine(aa7 W Yr a0 len0 cap0 l0 w0 lc0 na0 z0 a1 len1 cap1 l1 w1 lc1 na1 z1).mono fun e W' ⟨he,dp⟩=> ?_;subst he;exact⟨_,rfl,_,_,_,[],_,[],ug,trodAll_mk1 (shut_bool Tryz.underlying4 _),iP laidOut (List.forall_mem_cons.2 ⟨⟨by kernel_rfl,Bi (by kernel_rfl)⟩,List.forall_mem_cons.2 ⟨⟨by kernel_rfl,Bi (by kernel_rfl)⟩,by intro t ht;cases ht⟩⟩) hK dp aN,rfl,dp.frame _,fun h=>by cases h⟩
theorem vP{a b:Bool}(h1:a=true)(h2:b=true):(a&&b)=true:=by rw[h1,h2];rfl
theorem aa_:joinedFacts Tryz.pinned.checked.prog 10 Tryz.f10 Rows.topTwiceSpec Rows.topTwiceRow=true:=by
 unfold joinedFacts
 repeat' with_reducible apply vP
 all_goals as_aux_lemma=>kernel_rfl
theorem aa6:Rows.TopTwiceSaid:=
 OpenClaim.holds_of_wide 10 Tryz.f10 rfl rfl rfl rfl rfl rfl rfl ⟨rfl,rfl,rfl,rfl,rfl⟩ rfl rfl rfl rfl rfl (by as_aux_lemma=>kernel_rfl) Tryz.func10 aa_
  (Bi (by as_aux_lemma=>kernel_rfl)) (by unfold Func.isWrapper;first|(rw[Ae (by decide+kernel)];kernel_rfl)|(rw[Aa (by decide+kernel)];exact⟨rfl,rfl⟩))
  (fun os started H enc _=>aa4 os started H enc)
theorem topTwice_card:Rows.TopTwiceCardSaid:=
 Claim7.holds_tied_plain_at .later [] [.data] true (true, "8c270f305aed827c07ecbd48a37c3d1175332d7604d95b60617926f28e4f3e09") true
  aa6 (fun _ h=>by cases h) (by as_aux_lemma=>kernel_rfl) (fun _ h=>by cases h) topTwice_row_tie rfl ⟨rfl,rfl⟩ (by as_aux_lemma=>kernel_rfl) rfl
  (fun f fn hf hfn=>by
   obtain rfl:f=10:=AY ((show Tryz.prog.funcNamed "berthshift/berthshifttop.TopTwice" =some 10 by as_aux_lemma=>kernel_rfl).symm.trans hf)|>.symm
   obtain rfl:fn=Tryz.f10:=(AY (Tryz.func10.symm.trans hfn)).symm
   exact⟨by as_aux_lemma=>kernel_rfl,fun j t ht=>by
    rw[Tryz.params10]at ht;have hm:t∈[22,22]:=by simpa using Array.mem_of_getElem? ht
    have kM:([22,22].all fun u=> !Tryz.prog.wantsStandIn u)=true:=by kernel_rfl
    exact(show Tryz.prog.wantsStandIn t=false by simpa using List.all_eq_true.1 kM t hm)⟩)
  (by as_aux_lemma=>kernel_rfl)
#print axioms topTwice_card
end
end Go.Proofs.YtpgkjpomaffbmaaGreatDoor
