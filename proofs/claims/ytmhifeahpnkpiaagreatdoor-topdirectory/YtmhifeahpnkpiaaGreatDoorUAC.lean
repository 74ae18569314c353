/- Out of my texts: BeG, MoH, MpC, RvM, MpD, MpE, MpG, MpH, MpI, MpJ, MpK, BeH, BeI, MpL, MpM, DrA, DrB, DrC, DrG, DrD, PkD, PkG, PkH, PkB, TpA, TpB, PkJ, TpC, TpD, TpE, PkI, TpF, PkK, KpA, PkL, PlA, PlB, TpJ, TpK, TpL, TpM, TpG, TpH, TpQ, TpR, RdA, RdB, RdC, RdD, RdE, RlA, RlB, RlC, RlI, RlD, RdF, RdG, RdH, RdI, RdJ, RlF. -/
import Derived.BigQuiet
import Derived.Deep.CutRange
import Derived.Deep.DeepCutAuto
import Derived.Deep.QuietTactic
import Derived.Deep.RegionHeld3
import Derived.Defers
import Derived.Lib.Bytes
import Derived.Maps.AppendAt
import Derived.Recover
import Derived.WideMake
import Derived.Test.YtmhifeahpnkpiaaGreatDoorProg
import Derived.Test.YtmhifeahpnkpiaaGreatDoorUAA
import Derived.Test.YtmhifeahpnkpiaaGreatDoorUAB
set_option maxRecDepth 20000
set_option maxHeartbeats 8000000
set_option linter.unusedVariables false
namespace Go.Proofs.YtmhifeahpnkpiaaGreatDoor
open Go.RowKit
abbrev Bk:= @Classical.not_not
abbrev Cc:= @List.take_add_one
abbrev Cf:= @List.take_left'
abbrev Co:= @World.block_lt_of_cell?
section
open Rv
theorem Kj{W:tA}{R:Nat}{r e f t o:Int}{a:tB}{n c:Nat}{er:Int}{tmps:tR}(d:aG W R r e f t o a n c)(t1:tmps[6]? =some (.pointer (some ⟨R,0,none⟩)))(t2:tmps[7]? =some (iV er)):
  (results Tryz.f165 tmps).run Tryz.prog W= .ok (.tuple #[bR r e f t o a n c,iV er]) W:=by
 simp[results,Tryz.results165,t1,t2,asAddr,ec d]
theorem rX(B:Bt)(a:tB)(c:Nat)(ep fr:Int)(w:tA)(hb:jb w B a c):cA 165 #[bR B.r B.e B.f B.t B.o a B.es.length c,iV ep,iV fr] w fun x w'=>∃y B' er,x= .returned (.tuple #[y,iV er])∧aU B ep fr=(B',er)∧iu w w' B' y∧bZ w w':=by
 have no:=fun er w=>l_ er w;refine en (H:=[]) _ [vg (bS B.r B.e B.f B.t B.o a B.es.length c),vi ep,vi fr] Tryz.func165 rfl rfl (Hd hb) (r [] rfl fun _=> ?_);unfold aU;by_cases ok:B.Ok
 case neg=>exact Rv.cb rfl (vi 6) (fun w hS=>j5 B a c w hS.now.1 ok) (r [1] rfl fun _=>Rv.cb rfl (vt [Fm,.o (iV 6)]) (fun w _=>no 6 w) (r [] rfl fun _=>fin fun w hS=>⟨_,_,_,rfl,if_pos ok,iu.zero _ _,hS.now.2⟩))
 rw[if_neg (AZ ok)];refine Rv.cb rfl (vi 0) (fun w hS=>gw B a c w hS.now.1 ok) (r [0] rfl fun _=> ?_);by_cases h1:1≤ep∧ep≤1048576
 case neg=>exact Rv.cb rfl (vv (.bool false)) (fun w _=>gu false (kz ep w) (Ai h1)) (r [] rfl fun _=>Rv.cb rfl (vt [Fm,.o (iV 2)]) (fun w _=>no 2 w) (r [] rfl fun _=>fin fun w hS=>⟨_,_,_,rfl,if_pos (fun h=>h1 h.1),iu.zero _ _,hS.now.2⟩))
 refine Rv.cb rfl (vv (.bool true)) (fun w _=>gu true (kz ep w) (Aq h1)) (r [] rfl fun _=> ?_);by_cases h2:0≤fr∧fr≤4
 case neg=>exact Rv.cb rfl (vv (.bool false)) (fun w _=>gu false (gE fr w) (Ai h2)) (r [] rfl fun _=>Rv.cb rfl (vt [Fm,.o (iV 2)]) (fun w _=>no 2 w) (r [] rfl fun _=>fin fun w hS=>⟨_,_,_,rfl,if_pos (fun h=>h2 h.2),iu.zero _ _,hS.now.2⟩))
 rw[if_neg (AZ ⟨h1,h2⟩)];refine Rv.cb rfl (vv (.bool true)) (fun w _=>gu true (gE fr w) (Aq h2)) (r [] rfl fun _=> ?_);by_cases h3:B.r=1∨B.r=2
 case pos=>exact Rv.cb rfl (vv (.bool true)) (fun w _=>mQ true (l9 B.r B.e B.f B.t B.o a B.es.length c w) (Aq h3)) (r [] rfl fun _=>Rv.cb rfl (vt [Fm,.o (iV 8)]) (fun w _=>no 8 w) (r [] rfl fun _=>fin fun w hS=>⟨_,_,_,rfl,if_pos (by omega),iu.zero _ _,hS.now.2⟩))
 refine Rv.cb rfl (vv (.bool false)) (fun w _=>mQ false (l9 B.r B.e B.f B.t B.o a B.es.length c w) (Ai h3)) ?_;by_cases h4:B.r=3
 case pos=>exact r [1] rfl fun _=>Rv.cb rfl (vt [Fm,.o (iV 8)]) (fun w _=>no 8 w) (r [] rfl fun _=>fin fun w hS=>⟨_,_,_,rfl,if_pos (by omega),iu.zero _ _,hS.now.2⟩)
 rw[if_neg (by omega)];by_cases h5:B.r=4∧B.e=ep∧B.f=fr
 ·rw[if_pos h5];obtain⟨k1,k2,k3⟩:=h5;refine r [0,1,1,1] rfl fun _=>Rv.cx rfl (fun y=> .s (bY B B.es.length y)) (wu w) (fun y w=>jb w B y.1 y.2) (fun w1 hS=>(rW B a c w1 hS.now.1 ok.len).mono fun _ _ h=>by obtain⟨y,h1,h2,h3,h4⟩:=Mh hS.now.2 h;exact⟨y,h1,h2,h3,h4⟩) fun y hy=> ?_;exact r [] rfl fun _=>fin fun w hS=>⟨_,_,_,rfl,rfl,⟨y.1,y.2,rfl,hS.now.1.2,hy⟩,hS.now.2⟩
 rw[if_neg h5];have fi:∀{P:Prop},(¬B.r=4→P)→(B.r=4→¬B.e=ep→P)→(B.r=4→B.e=ep→¬B.f=fr→P)→P:=fun f g h=>by
  by_cases e:B.r=4
  ·by_cases e2:B.e=ep
   ·exact h e e2 fun e3=>h5 ⟨e,e2,e3⟩
   ·exact g e e2
  ·exact f e
 refine fi (fun e=> ?_) (fun e e2=> ?_) fun e e2 e3=> ?_
 case' refine_1=>refine r [0,0] rfl fun _=> ?_
 case' refine_2=>refine r [0,1,0] rfl fun _=> ?_
 case' refine_3=>refine r [0,1,1,0] rfl fun _=> ?_
 all_goals
  by_cases h6:ep≤B.e
  ·exact r [1] rfl fun _=>Rv.cb rfl (vt [Fm,.o (iV 15)]) (fun w _=>no 15 w) (r [] rfl fun _=>fin fun w hS=>⟨_,_,_,rfl,if_pos h6,iu.zero _ _,hS.now.2⟩)
  ·rw[if_neg h6];exact r [0] rfl fun _=>fin fun w hS=>⟨_,_,_,rfl,rfl,⟨none,0,rfl,⟨RowK.nil _ _ _,Aa _,fun _=>rfl⟩,fun x hx=>by cases hx⟩,hS.now.2⟩
end
section
variable(r e f t o:Int)(a:tB)(n c:Nat)(q:tD)(r' e' f' t' o':Int)(a':tB)(n' c':Nat)(w:tA)
theorem ab1(er:Int)(h0:¬er=0):cA 143 #[jw r e f t o a n c q,bR r' e' f' t' o' a' n' c',iV er] w (rB (.tuple #[jw 0 0 0 0 0 none 0 0 zQ,iV er]) w):=by
 go_enter Tryz.func143,Tryz.ntmps143
 go_wp2_with (first
  |(refine DE _ rfl rfl rfl ?_;intro W1 m1 b1 _s1;have L1:=m1.lt;clear m1 _s1)
  |(refine Yk _ rfl rfl rfl ?_;intro W2 d2 b2 _s2;have L2:=d2.lt;have B2:=b1.trans (b2.mono (by omega));clear d2 b1 b2 _s2)
  |(refine L_ rfl rfl ?_;intro W3 z3 b3 _s3;have L3:=z3.lt;have B3:=B2.trans (b3.mono (by omega));clear B2 b3 _s3)
  |(go_at_call 169;refine(jm _ _).mono ?_;rintro x W4 ⟨rfl,b4⟩;have z4:=z3.next b4;have B4:=B3.trans (b4.mono (by omega));clear z3 B3 b4)
  |(refine L9 _ _ rfl rfl rfl rfl z4 xY ?_;intro W5 z5 t5;have B5:=t5.under B4 (by omega);clear z4 B4 t5))
 exact Al (Ma z5 _ rfl rfl rfl) rfl ⟨rfl,B5⟩
end
structure jT(w:tA)(B:Bt)(a:tB)(c:Nat)(q:tD):Prop where
 b:jb w B a c
 q:∃s bw,bk B.es s bw∧uI w s q
theorem jT.one{w:tA}{B:Bt}{a:tB}{c:Nat}{q:tD}(h:jT w B a c q):aS q 41:=by
 obtain⟨s,bw,_,hq⟩:=h.q;exact hq.one
abbrev yh(B:Bt)(a:tB)(c:Nat)(q:tD):Value:=jw B.r B.e B.f B.t B.o a B.es.length c q
def rY(U:tF)(w':tA)(B:Bt)(y:tK):Prop:=∃a c q,y=yh B a c q∧bV U w' fun w=>jT w B a c q
theorem Hg(w:tA):uI w St.zero zQ:=⟨none,0,none,0,eP,rfl,RowK.nil _ _ _,RowK.nil _ _ _,Aa _,Aa _,fun _=>rfl,fun _=>rfl,jE⟩
theorem jT.dq{w:tA}{B:Bt}(h:B.es=[]):jT w B none 0 zQ:=⟨⟨by rw[h];exact RowK.nil _ _ _,by rw[h];exact Aa _,fun _=>rfl⟩,St.zero,[],by rw[h];exact .nil,Hg w⟩
theorem jT.nil{w w':tA}{B:Bt}{a:tB}{c:Nat}(h:B.es=[])(hb:jb w B a c):jT w' B a c zQ:=⟨⟨by rw[h];exact RowK.nil _ _ _,hb.cap,hb.nil⟩,St.zero,[],by rw[h];exact .nil,Hg w'⟩
def Bt.dq(B:Bt):Bt:=⟨B.r,B.e,B.f,B.t,B.o,[]⟩
theorem vH{r e f t o:Int}{n m:Nat}(h:bB r e f t o n)(hm:m≤n):bB r e f t o m:=by
 unfold bB at h⊢;rcases h with⟨h1,h2,h3⟩|h|h|h|h
 ·exact .inl ⟨h1,by omega,h3⟩
 ·exact .inr (.inl h)
 ·exact .inr (.inr (.inl h))
 ·exact .inr (.inr (.inr (.inl h)))
 ·exact .inr (.inr (.inr (.inr h)))
theorem Bt.Ok.dq{B:Bt}(h:B.Ok):B.dq.Ok:=⟨vH h.cO (Ak _),by simp[Bt.dq],St.zero,[],.nil⟩
theorem pT(w:tA)(B:Bt):jb w B.dq none 0:=⟨RowK.nil _ _ _,Aa _,fun _=>rfl⟩
theorem Oe{B:Bt}(ok:B.Ok)(ep:Int):dS B.dq ep=dS B ep:=by
 unfold dS;rw[if_neg (nn ok),if_neg (nn ok.dq)];rfl
theorem VQ{B B':Bt}{ep er:Int}(h:dS B ep=(B',er)):B'.es=[]:=by
 unfold dS at h
 repeat' split at h
 all_goals cases h;rfl
theorem Hh{B:Bt}(ok:B.Ok)(ep:Int):bG B.dq ep=bG B ep:=by
 unfold bG;rw[if_neg (nn ok),if_neg (nn ok.dq)];rfl
theorem Of{B B':Bt}{ep er:Int}(h:bG B ep=(B',er)):B'.es=[]:=by
 unfold bG at h
 repeat' split at h
 all_goals cases h;rfl
theorem jT.role{w:tA}{B B':Bt}{a:tB}{c:Nat}{q:tD}(h:jT w B a c q)(e:B'.es=B.es):jT w B' a c q:=⟨⟨by rw[e];exact h.b.row,by rw[e];exact h.b.cap,h.b.nil⟩,by rw[e];exact h.q⟩
theorem Mi(r e f t o:Int)(a:tB)(n c:Nat)(q:tD)(r' e' f' t' o':Int)(a':tB)(n' c':Nat)(er:Int)(w:tA)(hq:aS q 41):cA 143 #[jw r e f t o a n c q,bR r' e' f' t' o' a' n' c',iV er] w fun x w'=>∃y,x= .returned (.tuple #[y,iV er])∧(er=0→y=jw r' e' f' t' o' a n c q)∧(¬er=0→y=jw 0 0 0 0 0 none 0 0 zQ)∧bZ w w':=by
 by_cases h0:er=0
 ·subst h0;refine(Zv r e f t o a n c q r' e' f' t' o' a' n' c' w hq).mono ?_;rintro _ w' ⟨rfl,b⟩;exact⟨_,rfl,fun _=>rfl,fun h=>absurd rfl h,b⟩
 ·refine(ab1 r e f t o a n c q r' e' f' t' o' a' n' c' w er h0).mono ?_;rintro _ w' ⟨rfl,b⟩;exact⟨_,rfl,fun h=>absurd h h0,fun _=>rfl,b⟩
theorem RJ{U:tF}{w:tA}{B B1:Bt}{a:tB}{c:Nat}{q:tD}{er:Int}{y:tK}(hm:bV U w fun w=>jT w B a c q)(h1:er=0→y=jw B1.r B1.e B1.f B1.t B1.o a B.es.length c q)(h2:¬er=0→y=jw 0 0 0 0 0 none 0 0 zQ):rY U w (if er=0 then⟨B1.r,B1.e,B1.f,B1.t,B1.o,B.es⟩else Bt.zero) y:=by
 by_cases h0:er=0
 ·rw[if_pos h0,h1 h0];exact⟨a,c,q,rfl,fun w' hc=>(hm w' hc).role rfl⟩
 ·rw[if_neg h0,h2 h0];exact⟨none,0,zQ,rfl,fun w' _=>jT.dq rfl⟩
theorem Og{B B1:Bt}(ok:B.Ok){nd er:Int}(h:dT B.dq nd=(B1,er)):dT B nd=((if er=0 then⟨B1.r,B1.e,B1.f,B1.t,B1.o,B.es⟩else Bt.zero),er):=by
 unfold dT at h⊢;rw[if_neg (nn ok.dq)]at h;rw[if_neg (nn ok)];by_cases g1:0≤nd∧nd≤4
 ·rw[if_neg (nn g1)]at h⊢;by_cases g2:B.r=2∨B.r=3
  ·rw[if_pos (show B.dq.r=2∨B.dq.r=3 from g2)]at h;rw[if_pos g2];cases h;rfl
  ·rw[if_neg (show ¬(B.dq.r=2∨B.dq.r=3) from g2)]at h;rw[if_neg g2];by_cases g3:B.r=1
   ·rw[if_neg (nn (show B.dq.r=1 from g3))]at h;rw[if_neg (nn g3)];by_cases g4:B.e=1048576
    ·rw[if_pos (show B.dq.e=1048576 from g4)]at h;rw[if_pos g4];cases h;rfl
    ·rw[if_neg (show ¬B.dq.e=1048576 from g4)]at h;rw[if_neg g4];cases h;rfl
   ·rw[if_pos (show ¬B.dq.r=1 from g3)]at h;rw[if_pos g3];cases h;rfl
 ·rw[if_pos g1]at h⊢;cases h;rfl
def Bt.short(B:Bt):Bt:=⟨B.r,B.e,B.f,B.t,B.o,B.es.take 1⟩
theorem Bt.Ok.short{B:Bt}(h:B.Ok):B.short.Ok:=by
 obtain⟨s,bw,ht⟩:=h.told;rcases Ch B.es.length with h0|h0
 ·have e:B.es.take 1=B.es:=AJ (by omega);exact⟨by unfold Bt.cH Bt.short;rw[e];exact h.cO,by unfold Bt.short;rw[e];exact h.len,s,bw,by unfold Bt.short;rw[e];exact ht⟩
 ·obtain⟨s0,h1⟩:=ht.take 1 h0;exact⟨vH (m:=(B.es.take 1).length) h.cO (by rw[AL];omega),by simp[Bt.short];omega,s0,_,h1⟩
def kQ(hv:Int)(n:Nat):Int:=if hv<0∨(n:Int)<hv then-1 else if hv=n then((min 1 n:Nat):Int)else 0
theorem yi{B:Bt}(ok:B.Ok)(hv:Int):dk B.short (kQ hv B.es.length)=dk B hv:=by
 unfold dk;rw[if_neg (nn ok),if_neg (nn ok.short)];by_cases g1:B.r=2∨B.r=3
 ·rw[if_neg (nn g1),if_neg (nn (show B.short.r=2∨B.short.r=3 from g1))];have hl:B.short.es.length=min 1 B.es.length:=by simp[Bt.short]
  rw[hl];unfold kQ;by_cases g2:hv<0∨(B.es.length:Int)<hv
  ·rw[if_pos g2,if_pos (by omega),if_pos (by omega)]
  ·rw[if_neg g2,if_neg (nn (show 0≤hv∧hv≤(B.es.length:Int) by omega))];split<;>rw[if_neg (nn (by omega))]
 ·rw[if_pos g1,if_pos (show ¬(B.short.r=2∨B.short.r=3) from g1)]
theorem Fo{B B1:Bt}(ok:B.Ok){hv er:Int}(h:bf B.short (kQ hv B.es.length)=(B1,er)):bf B hv=((if er=0 then⟨B1.r,B1.e,B1.f,B1.t,B1.o,B.es⟩else Bt.zero),er):=by
 unfold bf at h⊢;rw[yi ok]at h;by_cases g1:dk B hv=0
 ·rw[if_neg (nn g1)]at h⊢;have Js:0≤hv∧hv≤(B.es.length:Int):=by
   unfold dk at g1;rw[if_neg (nn ok)]at g1;split at g1
   ·omega
   ·split at g1
    ·omega
    ·rename_i g;exact Ay.1 g
  by_cases g2:B.r=3
  ·rw[if_pos (show B.short.r=3 from g2)]at h;rw[if_pos g2];cases h;rfl
  ·rw[if_neg (show ¬B.short.r=3 from g2)]at h;rw[if_neg g2];have hl:B.short.es.length=min 1 B.es.length:=by simp[Bt.short]
   have e:(kQ hv B.es.length=(B.short.es.length:Int)∨B.short.o=4)↔(hv=(B.es.length:Int)∨B.o=4):=by
    refine or_congr ?_ Iff.rfl;rw[hl];unfold kQ;rw[if_neg (by omega)];split
    ·rename_i g;simp[g]
    ·rename_i g;constructor
     ·intro hz;omega
     ·intro hz;exact absurd hz g
   by_cases g3:hv=(B.es.length:Int)∨B.o=4
   ·rw[if_pos (e.2 g3)]at h;rw[if_pos g3];cases h;rfl
   ·rw[if_neg (fun k=>g3 (e.1 k))]at h;rw[if_neg g3];cases h;rfl
 ·rw[if_pos g1]at h⊢;cases h;rw[if_neg g1]
theorem Hi{B B1:Bt}(ok:B.Ok){ep fr er:Int}(h:aU B.dq ep fr=(B1,er)):(er=0∧B1.e=B.e→aU B ep fr=(B,0))∧(¬(er=0∧B1.e=B.e)→aU B ep fr=(B1,er)∧B1.es=[]):=by
 unfold aU at h⊢;rw[if_neg (nn ok.dq)]at h;rw[if_neg (nn ok)];by_cases g1:(1≤ep∧ep≤1048576)∧(0≤fr∧fr≤4)
 ·rw[if_neg (nn g1)]at h⊢;by_cases g2:B.r=1∨B.r=2∨B.r=3
  ·rw[if_pos (show B.dq.r=1∨B.dq.r=2∨B.dq.r=3 from g2)]at h;rw[if_pos g2];cases h;exact⟨fun hh=>absurd hh.1 (by decide),fun _=>⟨rfl,rfl⟩⟩
  ·rw[if_neg (show ¬(B.dq.r=1∨B.dq.r=2∨B.dq.r=3) from g2)]at h;rw[if_neg g2];by_cases g3:B.r=4∧B.e=ep∧B.f=fr
   ·rw[if_pos (show B.dq.r=4∧B.dq.e=ep∧B.dq.f=fr from g3)]at h;rw[if_pos g3];cases h;exact⟨fun _=>rfl,fun hh=>absurd ⟨rfl,rfl⟩ hh⟩
   ·rw[if_neg (show ¬(B.dq.r=4∧B.dq.e=ep∧B.dq.f=fr) from g3)]at h;rw[if_neg g3];by_cases g4:ep≤B.e
    ·rw[if_pos (show ep≤B.dq.e from g4)]at h;rw[if_pos g4];cases h;exact⟨fun hh=>absurd hh.1 (by decide),fun _=>⟨rfl,rfl⟩⟩
    ·rw[if_neg (show ¬ep≤B.dq.e from g4)]at h;rw[if_neg g4];cases h;exact⟨fun hh=>absurd hh.2 (by show ¬ep=B.e;omega),fun _=>⟨rfl,rfl⟩⟩
 ·rw[if_pos g1]at h⊢;cases h;exact⟨fun hh=>absurd hh.1 (by decide),fun _=>⟨rfl,rfl⟩⟩
theorem RK{k:IntKind}{w:tA}{a:tB}{len:Nat}{l:tG}(h:RowK k w a len l)(n:Nat)(hn:n≤len):RowK k w a n (l.take n):=by
 have hl:=h.cy;refine⟨by simp;omega,fun u hu=>h.wf u (AK hu),fun i hi=> ?_⟩;obtain⟨b,off,ha,aM,hc⟩:=h.cell i (by omega);refine⟨b,off,ha,aM, ?_⟩;rw[hc];simp[List.getD_eq_getElem?_getD,hi]
theorem uK{w:tA}{B:Bt}{a:tB}{c:Nat}(h:jb w B a c):jb w B.short a c:=by
 have e:ai (B.es.take 1)=(ai B.es).take (6*(B.es.take 1).length):=by
  cases B.es with
  |nil=>rfl
  |cons v l=>simp[ai,aX]
 refine⟨?_,by simp[Bt.short];have:=h.cap;omega,h.nil⟩;show RowK .i64 w a (6*(B.es.take 1).length) (ai (B.es.take 1));rw[e];exact RK h.row _ (by rw[AL];omega)
section
open Rv
abbrev pD(B:Bt)(a:tB)(c:Nat)(q:tD):List Sg:=[.o (iV B.r),.o (iV B.e),.o (iV B.f),.o (iV B.t),.o (iV B.o),.o (.slice a B.es.length c),.f 41 q]
abbrev Oh:=Bt×Option Addr×Nat×(Nat→Value)
abbrev Kk(y:Oh):SV:= .g (pD y.1 y.2.1 y.2.2.1 y.2.2.2)
abbrev RL(y:Oh)(w:tA):Prop:=jT w y.1 y.2.1 y.2.2.1 y.2.2.2
theorem Oi(U:tF)(B:Bt)(a:tB)(c:Nat)(q:tD)(ep:Int)(w:tA)(ok:B.Ok):cA 77 #[yh B a c q,iV ep] w fun x w'=>∃y B' er,x= .returned (.tuple #[y,iV er])∧dS B ep=(B',er)∧rY U w' B' y∧bZ w w':=by
 refine en (H:=[]) _ [vg (pD B a c q),vi ep] Tryz.func77 rfl rfl (m0 w) (r [] rfl fun _=>Rv.cb rfl (vg (bS B.r B.e B.f B.t B.o none 0 0)) (fun w _=>kB B.r B.e B.f B.t B.o a B.es.length c q w) (r [] rfl fun _=> ?_));refine cx rfl (fun y:(Bt×Int)×Option Addr×Nat=>vt [bY y.1.1 y.1.1.es.length y.2,.o (iV y.1.2)]) (fun y=>dS B.dq ep=y.1) (fun y w=>jb w y.1.1 y.2.1 y.2.2) (fun w hS=>(Od B.dq none 0 ep w (pT _ _)).mono fun _ w4 ⟨_,B1,er,h0,h1,ho,b⟩=> ?_) ?_
 ·obtain⟨a1,c1,rfl,mC,ux⟩:=ho.ex;exact⟨((B1,er),a1,c1),h0,b,h1,fun hU w2 c2=>⟨bW mC.row ux hU w2 c2,mC.cap,mC.nil⟩⟩
 rintro⟨⟨B1,er⟩,a1,c1⟩ h1;exact r [] rfl fun _=>fin fun w hS=>⟨_,B1,er,rfl,(Oe ok _)▸h1,⟨a1,c1,zQ,rfl,fun _ _=>jT.nil (VQ h1) hS.now.1.2⟩,hS.now.2⟩
theorem Hj(U:tF)(B:Bt)(a:tB)(c:Nat)(q:tD)(ep:Int)(w:tA)(ok:B.Ok):cA 124 #[yh B a c q,iV ep] w fun x w'=>∃y B' er,x= .returned (.tuple #[y,iV er])∧bG B ep=(B',er)∧rY U w' B' y∧bZ w w':=by
 refine en (H:=[]) _ [vg (pD B a c q),vi ep] Tryz.func124 rfl rfl (m0 w) (r [] rfl fun _=>Rv.cb rfl (vg (bS B.r B.e B.f B.t B.o none 0 0)) (fun w _=>kB B.r B.e B.f B.t B.o a B.es.length c q w) (r [] rfl fun _=> ?_));refine cx rfl (fun y:(Bt×Int)×Option Addr×Nat=>vt [bY y.1.1 y.1.1.es.length y.2,.o (iV y.1.2)]) (fun y=>bG B.dq ep=y.1) (fun y w=>jb w y.1.1 y.2.1 y.2.2) (fun w hS=>(He B.dq none 0 ep w (pT _ _)).mono fun _ w4 ⟨_,B1,er,h0,h1,ho,b⟩=> ?_) ?_
 ·obtain⟨a1,c1,rfl,mC,ux⟩:=ho.ex;exact⟨((B1,er),a1,c1),h0,b,h1,fun hU w2 c2=>⟨bW mC.row ux hU w2 c2,mC.cap,mC.nil⟩⟩
 rintro⟨⟨B1,er⟩,a1,c1⟩ h1;exact r [] rfl fun _=>fin fun w hS=>⟨_,B1,er,rfl,(Hh ok _)▸h1,⟨a1,c1,zQ,rfl,fun _ _=>jT.nil (Of h1) hS.now.1.2⟩,hS.now.2⟩
theorem DH(r e f t o:Int)(a:tB)(n c:Nat)(w:tA)(hc:n≤c):cA 182 #[bR r e f t o a n c] w (rB (bR r e f t o a (min 1 n) c) w):=by
 exact en (H:=[]) _ [vg (bS r e f t o a n c)] Tryz.func182 rfl rfl (m0 w) (rz [2] [((min 1 n:Nat):Int)] rfl fun _=>fin fun w hS=>⟨rfl,hS.now.2⟩)
theorem vI(r e f t o:Int)(a:tB)(n c:Nat)(q:tD)(hv:Int)(w:tA)(hc:n≤c):cA 167 #[jw r e f t o a n c q,iV hv] w (rB (.tuple #[bR r e f t o a (min 1 n) c,iV (kQ hv n)]) w):=by
 refine en (H:=[]) _ [vg [.o (iV r),.o (iV e),.o (iV f),.o (iV t),.o (iV o),.o (.slice a n c),.f 41 q],vi hv] Tryz.func167 rfl rfl (m0 w) (Rv.r [] rfl fun _=>Rv.cb rfl (vg (bS r e f t o a (min 1 n) c)) (fun w _=>DH r e f t o a n c w hc) ?_);unfold kQ;by_cases h0:hv<0
 ·exact Rv.r [1] rfl fun _=>fin fun w hS=>⟨by rw[if_pos (.inl h0)];rfl,hS.now.2⟩
 by_cases h1:(n:Int)<hv
 ·exact Rv.r [0,1] rfl fun _=>fin fun w hS=>⟨by rw[if_pos (.inr h1)];rfl,hS.now.2⟩
 rw[if_neg (by omega)];by_cases h2:hv=n
 ·refine Rv.r [0,0,1,5,1,4] rfl fun _=> ?_
  repeat' first|refine ER ?_ ?_|refine rs [] rfl rfl fun _=> ?_
  all_goals exact fin fun w hS=>⟨by rw[if_pos h2];rfl,hS.now.2⟩
 ·exact Rv.r [0,0,0] rfl fun _=>fin fun w hS=>⟨by rw[if_neg h2];rfl,hS.now.2⟩
theorem Yl{r' e' f' t' o':Int}{a:tB}{n c:Nat}{q:tD}{er:Int}{y:tK}(hq:aS q 41)(h1:er=0→y=jw r' e' f' t' o' a n c q)(h2:¬er=0→y=jw 0 0 0 0 0 none 0 0 zQ):∃yg,aS yg 47∧y=vF yg 47:=by
 by_cases h0:er=0
 ·exact⟨_,aag hq,h1 h0⟩
 ·exact⟨_,aag xY,h2 h0⟩
theorem Hk(B:Bt)(a:tB)(c:Nat)(hv:Int)(w:tA)(hb:jb w B a c):cA 166 #[bR B.r B.e B.f B.t B.o a (min 1 B.es.length) c,iV hv] w fun x w'=>∃y B' er,x= .returned (.tuple #[y,iV er])∧bf B.short hv=(B',er)∧iu w w' B' y∧bZ w w':=by
 have e:min 1 B.es.length=B.short.es.length:=by simp[Bt.short]
 rw[e];exact Hf B.short a c hv w (uK hb)
theorem VR(U:tF)(B:Bt)(a:tB)(c:Nat)(q:tD)(nd:Int)(w:tA)(hU:∀b,U b→b<w.heap.size)(hm:bV U w fun w=>jT w B a c q)(ok:B.Ok):cA 92 #[yh B a c q,iV nd] w fun x w'=>∃y B' er,x= .returned (.tuple #[y,iV er])∧dT B nd=(B',er)∧rY U w' B' y∧bZ w w':=by
 have oq:=hm.now.one;refine en (H:=[]) _ [vg (pD B a c q),vi nd] Tryz.func92 rfl rfl (oE hU hm) (r [] rfl fun _=>Rv.cb rfl (vg (bS B.r B.e B.f B.t B.o none 0 0)) (fun w _=>kB B.r B.e B.f B.t B.o a B.es.length c q w) (r [] rfl fun _=> ?_));refine cq rfl (fun y:(Bt×Int)×Option Addr×Nat=>vt [bY y.1.1 y.1.1.es.length y.2,.o (iV y.1.2)]) (fun y=>dT B.dq nd=y.1) (fun w hS=>(VO B.dq none 0 nd w (pT _ _)).mono fun _ w4 ⟨_,B1,er,h0,h1,ho,b⟩=> ?_) ?_
 ·obtain⟨a1,c1,rfl,mC,ux⟩:=ho.ex;exact⟨((B1,er),a1,c1),h0,b,h1⟩
 rintro⟨⟨B1,er⟩,a1,c1⟩ h1;refine r [] rfl fun _=>cq rfl (fun y:Nat→Value=>vt [.g [.f 47 y],.o (iV er)]) (fun y=>aS y 47∧(er=0→vF y 47=jw B1.r B1.e B1.f B1.t B1.o a B.es.length c q)∧(¬er=0→vF y 47=jw 0 0 0 0 0 none 0 0 zQ)) (fun w hS=>(Mi B.r B.e B.f B.t B.o a B.es.length c q B1.r B1.e B1.f B1.t B1.o a1 B1.es.length c1 er w oq).mono fun _ _ ⟨y,h0,y1,y2,b⟩=> ?_) ?_
 ·obtain⟨yg,oy,rfl⟩:∃yg,aS yg 47∧y=vF yg 47:=Yl oq y1 y2;exact⟨yg,h0,b,oy,y1,y2⟩
 rintro yg ⟨oy,y1,y2⟩;exact r [] rfl fun _=>fin fun w hS=>⟨_,_,er,rfl,Og ok h1,RJ hS.ES y1 y2,hS.now.2⟩
theorem Hl(U:tF)(B:Bt)(a:tB)(c:Nat)(q:tD)(hv:Int)(w:tA)(hU:∀b,U b→b<w.heap.size)(hm:bV U w fun w=>jT w B a c q)(ok:B.Ok):cA 117 #[yh B a c q,iV hv] w fun x w'=>∃y B' er,x= .returned (.tuple #[y,iV er])∧bf B hv=(B',er)∧rY U w' B' y∧bZ w w':=by
 have oq:=hm.now.one;have hc:=hm.now.b.cap;refine en (H:=[]) _ [vg (pD B a c q),vi hv] Tryz.func117 rfl rfl (oE hU hm) (r [] rfl fun _=>Rv.cb rfl (vt [.g (bS B.r B.e B.f B.t B.o a (min 1 B.es.length) c),.o (iV (kQ hv B.es.length))]) (fun w _=>vI B.r B.e B.f B.t B.o a B.es.length c q hv w hc) (r [] rfl fun _=> ?_));refine cq rfl (fun y:(Bt×Int)×Option Addr×Nat=>vt [bY y.1.1 y.1.1.es.length y.2,.o (iV y.1.2)]) (fun y=>bf B.short (kQ hv B.es.length)=y.1) (fun w hS=>(Hk B a c (kQ hv B.es.length) w hS.now.1.b).mono fun _ w4 ⟨_,B1,er,h0,h1,ho,b⟩=> ?_) ?_
 ·obtain⟨a1,c1,rfl,mC,ux⟩:=ho.ex;exact⟨((B1,er),a1,c1),h0,b,h1⟩
 rintro⟨⟨B1,er⟩,a1,c1⟩ h1;refine r [] rfl fun _=>cq rfl (fun y:Nat→Value=>vt [.g [.f 47 y],.o (iV er)]) (fun y=>aS y 47∧(er=0→vF y 47=jw B1.r B1.e B1.f B1.t B1.o a B.es.length c q)∧(¬er=0→vF y 47=jw 0 0 0 0 0 none 0 0 zQ)) (fun w hS=>(Mi B.r B.e B.f B.t B.o a B.es.length c q B1.r B1.e B1.f B1.t B1.o a1 B1.es.length c1 er w oq).mono fun _ _ ⟨y,h0,y1,y2,b⟩=> ?_) ?_
 ·obtain⟨yg,oy,rfl⟩:∃yg,aS yg 47∧y=vF yg 47:=Yl oq y1 y2;exact⟨yg,h0,b,oy,y1,y2⟩
 rintro yg ⟨oy,y1,y2⟩;exact r [] rfl fun _=>fin fun w hS=>⟨_,_,er,rfl,Fo ok h1,RJ hS.ES y1 y2,hS.now.2⟩
theorem Kl(U:tF)(B:Bt)(a:tB)(c:Nat)(q:tD)(ep fr:Int)(w:tA)(hU:∀b,U b→b<w.heap.size)(hm:bV U w fun w=>jT w B a c q)(ok:B.Ok):cA 114 #[yh B a c q,iV ep,iV fr] w fun x w'=>∃y B' er,x= .returned (.tuple #[y,iV er])∧aU B ep fr=(B',er)∧rY U w' B' y∧bZ w w':=by
 have oq:=hm.now.one;refine en (H:=[]) _ [vg (pD B a c q),vi ep,vi fr] Tryz.func114 rfl rfl (oE hU hm) (r [] rfl fun _=>Rv.cb rfl (vg (bS B.r B.e B.f B.t B.o none 0 0)) (fun w _=>kB B.r B.e B.f B.t B.o a B.es.length c q w) (r [] rfl fun _=> ?_));refine cx rfl (fun y:(Bt×Int)×Option Addr×Nat=>vt [bY y.1.1 y.1.1.es.length y.2,.o (iV y.1.2)]) (fun y=>aU B.dq ep fr=y.1) (fun y w=>jb w y.1.1 y.2.1 y.2.2) (fun w hS=>(rX B.dq none 0 ep fr w (pT _ _)).mono fun _ w4 ⟨_,B1,er,h0,h1,ho,b⟩=> ?_) ?_
 ·obtain⟨a1,c1,rfl,mC,ux⟩:=ho.ex;exact⟨((B1,er),a1,c1),h0,b,h1,fun hU w2 c2=>⟨bW mC.row ux hU w2 c2,mC.cap,mC.nil⟩⟩
 rintro⟨⟨B1,er⟩,a1,c1⟩ h1;have h1:aU B.dq ep fr=(B1,er):=h1;obtain⟨e1,e2⟩:=Hi ok h1;by_cases h0:er=0∧B1.e=B.e
 ·exact r [1,1] rfl fun _=>fin fun w hS=>⟨_,B,0,rfl,e1 h0,⟨a,c,q,rfl,fun w2 c2=>(hS.ES w2 c2).1⟩,hS.now.2⟩
 have cs:(er=0∧¬B1.e=B.e)∨¬er=0:=by omega
 rcases cs with⟨h2,h3⟩|h2
 case' inl=>refine r [1,0] rfl fun _=> ?_
 case' inr=>refine r [0] rfl fun _=> ?_
 all_goals exact fin fun w hS=>⟨_,B1,er,rfl,(e2 h0).1,⟨a1,c1,zQ,rfl,fun _ _=>jT.nil (e2 h0).2 hS.now.1.2⟩,hS.now.2⟩
end
theorem jT.split{U:tF}{w:tA}{B:Bt}{a:tB}{c:Nat}{q:tD}(h:bV U w fun w=>jT w B a c q):∃s bw,bk B.es s bw∧bV U w fun w=>jb w B a c∧uI w s q:=by
 obtain⟨s,bw,ht,hq⟩:=h.now.q;refine⟨s,bw,ht,fun w' c'=>⟨(h w' c').b, ?_⟩⟩;obtain⟨s',ans',Ym,yj⟩:=(h w' c').q;obtain⟨rfl,_⟩:=ht.one Ym;exact yj
def ri(U:tF)(w:tA)(B:Bt)(l:List Ev)(y:tK)(k:Bool):Prop:=
 (k=true∧B.es.length+l.length≤2000∧(∃s bw,bk (B.es++l) s bw)∧rY U w (B.more l) y)∨(k=false∧¬(B.es.length+l.length≤2000∧∃s bw,bk (B.es++l) s bw)∧y=jw 0 0 0 0 0 none 0 0 zQ)
theorem Mj{es l:List Ev}{k:Nat}{v:Ev}{s s1:St}{bw:List An}{an:An}{ch:Bool}{er:Int}(ht:bk (es++l.take k) s bw)(hv:l[k]? =some v)(hd:G6 s v s1 an ch er)(h0:¬(er=0∧ch=true)):¬∃s bw,bk (es++l) s bw:=by
 rintro⟨s2,N8,h2⟩;have hk:k<l.length:=(Am.1 hv).1;have e:(es++l).take (es.length+(k+1))=(es++l.take k)++[v]:=by
  rw[List.take_length_add_append,Az,Cc,hv];rfl
 obtain⟨s3,h3⟩:=h2.take (es.length+(k+1)) (by simp;omega);rw[e]at h3;obtain⟨s4,ans4,an4,h4,eC,st,_⟩:=h3.last;obtain⟨rfl,_⟩:=ht.one h4;cases hd with
 |step _ st'=>
  cases ch with
  |true=>exact h0 ⟨rfl,rfl⟩
  |false=>
   have:=(st.Yi ht.wf st').2.2;cases this
 |form _ hf hn=>exact hn (by rw[←hf];exact eC)
theorem rZ{l:List Ev}{k:Nat}{v:Ev}(hk:l[k]? =some v):∀j,j<6→iV ((ai l).getD (6*k+j) 0)=lF [iV v.k,iV v.p,iV v.i,iV v.b,iV v.he,iV v.hn] j:=by
 induction l generalizing k with
 |nil=>simp at hk
 |cons u l ih=>
  intro j hj;cases k with
  |zero=>
   simp at hk;subst hk
   match j,hj with
   |0,_=>rfl
   |1,_=>rfl
   |2,_=>rfl
   |3,_=>rfl
   |4,_=>rfl
   |5,_=>rfl
  |succ k=>
   have e:(ai (u::l)).getD (6*(k+1)+j) 0=(ai l).getD (6*k+j) 0:=by
    show([u.k,u.p,u.i,u.b,u.he,u.hn]++ai l).getD _ 0=_;rw[Ah,Ah,AE (by simp;omega)];congr 2;simp;omega
   rw[e];exact ih (by simpa using hk) j hj
theorem oP{w:tA}{a:tB}{len:Nat}{L:tG}(h:RowK .i64 w a len L)(hl:0<len):∃b off,a=some ⟨b,off,none⟩:=by
 obtain⟨b,off,ha,_⟩:=h.cell 0 hl;exact⟨b,off,ha⟩
section
open Rv
theorem Oj{es l:List Ev}{k:Nat}{v:Ev}{s s1:St}{bw:List An}{an:An}(ht:bk (es++l.take k) s bw)(hv:l[k]? =some v)(hd:G6 s v s1 an true 0):bk (es++l.take (k+1)) s1 (bw++[an]):=by
 cases hd with
 |step eC st=>
  have e:es++l.take (k+1)=(es++l.take k)++[v]:=by
   rw[Az,Cc,hv];rfl
  rw[e];exact ht.snoc eC st
theorem RM{U:tF}{w:tA}{B:Bt}{a a2:tB}{c c2:Nat}{b:tB}{lb:Nat}{l:List Ev}{s:St}{bw:List An}{q:tD}(UR:lb=l.length)(ht:bk (B.es++l) s bw)(h:bV U w fun w=>((jb w B a c∧RowK .i64 w b (6*lb) (ai l))∧uI w s q)∧RowK .i64 w a2 (6*(B.es.length+lb)) (ai B.es++ai l))(jB:B.es.length+lb≤c2)(qV:a2=none→c2=0):bV U w fun w=>jT w (B.more l) a2 c2 q:=fun w' c'=>by
 have hh:=h w' c';have e:(B.more l).es.length=B.es.length+lb:=by simp[Bt.more,UR]
 refine⟨⟨?_,by rw[e];exact jB,qV⟩,s,bw,ht,hh.1.2⟩;rw[e];have e2:ai (B.more l).es=ai B.es++ai l:=by simp[Bt.more,ai]
 rw[e2];exact hh.2
theorem DI(U:tF)(B:Bt)(a:tB)(c:Nat)(q:tD)(l:List Ev)(b:tB)(lb cb:Nat)(w:tA)(hU:∀b,U b→b<w.heap.size)(hm:bV U w fun w=>jT w B a c q)(hr:bV U w fun w=>RowK .i64 w b (6*lb) (ai l))(UR:lb=l.length)(uw:b=none→cb=0)(hlen:B.es.length≤2000)(Rn:lb≤2000):cA 171 #[yh B a c q,.slice b lb cb] w fun x w'=>∃y k,x= .returned (.tuple #[y,.bool k])∧ri U w' B l y k∧bZ w w':=by
 obtain⟨s,bw,ht,sD⟩:=jT.split hm;have oq:=hm.now.one;have hS0:Mem w (hs []) U (fun w=>(jb w B a c∧RowK .i64 w b (6*lb) (ai l))∧uI w s q) (fun w'=>bZ w w'):=oE hU fun w2 c2=>⟨⟨(sD w2 c2).1,hr w2 c2⟩,(sD w2 c2).2⟩;have hbo:0<lb→∃bb bo,b=some ⟨bb,bo,none⟩:=fun h=>oP hr.now (by omega);refine en (H:=[]) _ [vg (pD B a c q),vv (.slice b lb cb)] Tryz.func171 rfl rfl hS0 ?_;by_cases hbig:2000<B.es.length+lb
 ·exact rz [1,1] [((B.es.length+lb:Nat):Int)] rfl fun _=>fin fun w hS=>⟨_,false,rfl,.inr ⟨rfl,fun h=>by omega,rfl⟩,hS.now.2⟩
 refine rz [1,0] [((B.es.length+lb:Nat):Int)] rfl fun α=>iC (X:=Nat×(Nat→Value)×Go.Proofs.YtmhifeahpnkpiaaGreatDoor.St×List An) ⟨fun x=>[(1,vv (.slice b lb cb)),(2,vp 0 0 (α 0)),(4,vp 1 0 (α 1)),(21,vv (.slice b lb cb)),(22,vi (lb:Int)),(23,vi (x.1:Int))],fun x=>[⟨α 0,117,pD B a c x.2.1⟩,⟨α 1,117,pD Bt.zero none 0 zQ⟩],fun _=>U,fun x w=>(jb w B a c∧RowK .i64 w b (6*lb) (ai l))∧uI w x.2.2.1 x.2.1,fun _ w'=>bZ w w',fun x=>x.1≤lb∧bk (B.es++l.take x.1) x.2.2.1 x.2.2.2∧aS x.2.1 41,fun x=>lb-x.1⟩ (0,q,s,bw) ⟨rfl,rfl,rfl,rfl,rfl,rfl,trivial⟩ (fun w hS=>hS) ⟨Nat.zero_le _,by simpa using ht,oq⟩ ?_;clear ht oq sD hS0 s bw;rintro f ⟨k,q,s,bw⟩ ⟨hk,ht,oq⟩;have hk:k≤lb:=hk;have ht:bk (B.es++l.take k) s bw:=ht;have oq:aS q 41:=oq;by_cases aM:k<lb
 case neg=>
  rw[show l.take k=l from AJ (by omega)]at ht;refine r [0] rfl fun _=>cx rfl (fun y:Option Addr×Nat=>vv (.slice y.1 (B.es.length+lb) y.2)) (fun y=>B.es.length+lb≤y.2∧(y.1=none→y.2=0)) (fun y w=>RowK .i64 w y.1 (6*(B.es.length+lb)) (ai B.es++ai l)) (fun w hS=>(vD a b B.es.length c lb cb (ai B.es) (ai l) w hS.now.1.1.1.row hS.now.1.1.2 hS.now.1.1.1.nil uw (by omega)).mono ?_) fun y hy=> ?_
  ·rintro _ w3 ⟨_,rfl,ho,b1⟩;obtain⟨a2,c2,rfl,hr2,jB,qV,hf2⟩:=ho.ex;exact⟨(a2,c2),rfl,b1,⟨jB,qV⟩,fun hl=>bW hr2 hf2 hl⟩
  ·exact r [] rfl fun _=>fin fun w hS=>⟨_,true,rfl,.inl ⟨rfl,by omega,⟨s,bw,ht⟩,⟨y.1,y.2,q,by rw[yh,show(B.more l).es.length=B.es.length+lb by simp[Bt.more,UR]];rfl,RM UR ht hS.ES hy.1 hy.2⟩⟩,hS.now.2⟩
 obtain⟨bb,bo,hbe⟩:=hbo (by omega);obtain⟨v,hv⟩:∃v,l[k]? =some v:=⟨l[k],Ag (by omega)⟩;refine sv 21 (vv (.slice (some ⟨bb,bo,none⟩) lb cb)) (Au (fun b=>Value.slice b lb cb) hbe) (r [1] rfl fun _=>lf (q:=bo+k*6) rfl 6 (lF [iV v.k,iV v.p,iV v.i,iV v.b,iV v.he,iV v.hn]) (fun w hS j hj=> ?_) (r [] rfl fun β=> ?_))
 ·have db:=hS.now.1.1.2;rw[hbe]at db;obtain⟨b0,o0,e0,_,Qj⟩:=db.cell (6*k+j) (by omega);cases e0;rw[BX,Bl k 6,Qj];exact Au some (rZ hv j hj)
 refine cx rfl (fun y:Go.Proofs.YtmhifeahpnkpiaaGreatDoor.St×An×Bool×Int×(Nat→Value)=>vt [.g [.f 41 y.2.2.2.2],.g (Qn y.2.1),.o (.bool y.2.2.1),.o (iV y.2.2.2.1)]) (fun y=>G6 s v y.1 y.2.1 y.2.2.1 y.2.2.2.1∧aS y.2.2.2.2 41) (fun y w=>uI w y.1 y.2.2.2.2) (fun w hS=>(Rs hS.now.1.2 ht.wf.ok v).mono fun _ _ ⟨s1,an,ch,er,q1,h1,hd,hq1,b⟩=>⟨(s1,an,ch,er,q1),h1,b,⟨hd,(hq1 (fun _=>False) (fun _ h=>h.elim)).now.one⟩,fun hl=>hq1 _ hl⟩) ?_;rintro⟨s1,an,ch,er,q1⟩ ⟨hd,VS⟩;have hd:G6 s v s1 an ch er:=hd;have VS:aS q1 41:=VS;rcases hd.err with rfl|⟨G_,rfl⟩
 case inr=>exact r [1] rfl fun _=>fin fun w hS=>⟨_,false,rfl,.inr ⟨rfl,fun h=>Mj ht hv hd (fun g=>G_ g.1) h.2,rfl⟩,hS.now.2⟩
 cases ch
 ·exact r [0] rfl fun _=>fin fun w hS=>⟨_,false,rfl,.inr ⟨rfl,fun h=>Mj ht hv hd (fun g=>by cases g.2) h.2,rfl⟩,hS.now.2⟩
 ·exact rz [0,1] [((k+1:Nat):Int)] rfl fun _=>b_ (k+1,q1,s1,bw++[an]) ⟨rfl,rfl,rfl,(Au (fun b=>Value.slice b lb cb) hbe).symm,rfl,rfl,trivial⟩ (fun w hS=>(hS.take 2).said fun _ h=>⟨h.1.1,h.2⟩) ⟨(show k+1≤lb by omega),Oj ht hv hd,VS⟩ (show lb-(k+1)<lb-k by omega)
theorem Ol{w:tA}{R T:Nat}(v:Ev)(hv:∀u∈aX v,(Lit.int .i64 u).wf=true)(h:aY w R T 6 (lF [iV v.k,iV v.p,iV v.i,iV v.b,iV v.he,iV v.hn])):RowK .i64 w (some ⟨R,0,none⟩) (6*1) (ai [v]):=by
 refine⟨rfl,by simpa[ai]using hv,fun i hi=>⟨R,0,rfl,h.lt, ?_⟩⟩;rw[Ae,h.at i (by omega)]
 match i,hi with
 |0,_=>rfl
 |1,_=>rfl
 |2,_=>rfl
 |3,_=>rfl
 |4,_=>rfl
 |5,_=>rfl
theorem Mk{U:tF}{w:tA}{B:Bt}{l:List Ev}{y:tK}{k:Bool}(h:ri U w B l y k):∃yg,aS yg 47∧y=vF yg 47:=by
 rcases h with⟨_,_,_,a,c,q,rfl,hm⟩|⟨_,_,rfl⟩
 ·exact⟨_,aag hm.now.one,rfl⟩
 ·exact⟨_,aag xY,rfl⟩
theorem ri.EI{U V:tF}{w w':tA}{B:Bt}{l:List Ev}{y:tK}{k:Bool}(h:ri U w B l y k)(c:dm U w w')(hV:∀b,V b→U b):ri V w' B l y k:=by
 rcases h with⟨h1,h2,h3,a,c',q,e,hm⟩|h
 ·exact .inl ⟨h1,h2,h3,a,c',q,e,hm.EI c fun b _ hb=>hV b hb⟩
 ·exact .inr h
theorem Ev.Zx:∀u∈aX Ev.brk,(Lit.int .i64 u).wf=true:=by decide
theorem vJ(U:tF)(B:Bt)(a:tB)(c:Nat)(q:tD)(w:tA)(hU:∀b,U b→b<w.heap.size)(hm:bV U w fun w=>jT w B a c q)(hlen:B.es.length≤2000):cA 172 #[yh B a c q] w fun x w'=>∃y k,x= .returned (.tuple #[y,.bool k])∧ri U w' ⟨1,B.e,0,0,0,B.es⟩ [Ev.brk] y k∧bZ w w':=by
 have oq:=hm.now.one;refine en (H:=[]) _ [vg (pD B a c q)] Tryz.func172 rfl rfl (oE hU hm) (r [] rfl fun _=> ?_);refine kp 2 rfl (cx rfl (fun y:(Nat→Value)×Bool=>vt [.g [.f 47 y.1],.o (.bool y.2)]) (fun y=>aS y.1 47) (fun y w=>ri U w ⟨1,B.e,0,0,0,B.es⟩ [Ev.brk] (vF y.1 47) y.2) (fun w hS=>(DI _ ⟨1,B.e,0,0,0,B.es⟩ a c q [Ev.brk] _ 1 1 w hS.ult (fun w2 c2=>(hS.g w2 c2).1.role rfl) (fun w2 c2=>L0 Ev.brk Ev.Zx (hS.g w2 c2).2 (fun i hi=>by match i,hi with|0,_=>rfl|1,_=>rfl|2,_=>rfl|3,_=>rfl|4,_=>rfl|5,_=>rfl)) rfl (fun h=>by cases h) hlen (by decide)).mono fun _ _ ⟨y,k,h0,iX,b⟩=> ?_) fun y oy=> ?_)
 ·obtain⟨yg,oy,rfl⟩:=Mk iX;exact⟨(yg,k),h0,b,oy,fun _ w2 c2=>iX.EI c2 fun _ h=> .inr h⟩
 have oy:aS y.1 47:=oy;exact r [] rfl fun _=>fin fun w hS=>⟨_,y.2,rfl,hS.now.1.2,hS.now.2⟩
theorem yk{B:Bt}(ok:B.Ok)(hr:B.r=1∨B.r=2){U:tF}{w:tA}{y:tK}{k:Bool}(h:ri U w ⟨1,B.e,0,0,0,B.es⟩ [Ev.brk] y k):(k=true→bm B=(B.broken,0)∧rY U w B.broken y)∧(k=false→bm B=(Bt.zero,14)):=by
 have st:1≤B.e∧B.e≤1048576:=by
  have:=ok.cO;unfold Bt.cH bB at this;omega
 unfold bm;rw[if_neg (nn ok),if_neg (nn hr)];rcases h with⟨rfl,h2,⟨s,bw,h3⟩,h4⟩|⟨rfl,h2,_⟩
 ·have ob:B.broken.Ok:=⟨.inr (.inl ⟨rfl,st.1,st.2,rfl,rfl,rfl⟩),by simpa[Bt.broken]using h2,s,bw,h3⟩;exact⟨fun _=>⟨by rw[if_neg (nn ob)],h4⟩,fun h=>by cases h⟩
 ·refine⟨fun h=>(by cases h),fun _=> ?_⟩;rw[if_pos];intro ob;obtain⟨s,bw,ht⟩:=ob.told;exact h2 ⟨by simpa[Bt.broken]using ob.len,s,bw,ht⟩
theorem Om(U:tF)(B:Bt)(a:tB)(c:Nat)(q:tD)(w:tA)(hU:∀b,U b→b<w.heap.size)(hm:bV U w fun w=>jT w B a c q)(ok:B.Ok)(hr:¬(B.r=1∨B.r=2)):cA 140 #[yh B a c q] w fun x w'=>∃y B' er,x= .returned (.tuple #[y,iV er])∧bm B=(B',er)∧rY U w' B' y∧bZ w w':=by
 have oq:=hm.now.one;exact en (H:=[]) _ [vg (pD B a c q)] Tryz.func140 rfl rfl (oE hU hm) (r [] rfl fun _=>Rv.cb rfl (vv (.bool false)) (fun w _=>mQ false (kA B.r B.e B.f B.t B.o a B.es.length c q w) (Ai hr)) (r [] rfl fun _=>fin fun w hS=>⟨_,B,0,rfl,by unfold bm;rw[if_neg (nn ok),if_pos hr],⟨a,c,q,rfl,hS.ES⟩,hS.now.2⟩))
theorem On(U:tF)(B:Bt)(a:tB)(c:Nat)(q:tD)(w:tA)(hU:∀b,U b→b<w.heap.size)(hm:bV U w fun w=>jT w B a c q)(ok:B.Ok)(hr:B.r=1∨B.r=2):cA 140 #[yh B a c q] w fun x w'=>∃y B' er,x= .returned (.tuple #[y,iV er])∧bm B=(B',er)∧rY U w' B' y∧bZ w w':=by
 have oq:=hm.now.one;refine en (H:=[]) _ [vg (pD B a c q)] Tryz.func140 rfl rfl (oE hU hm) (r [] rfl fun _=>Rv.cb rfl (vv (.bool true)) (fun w _=>mQ true (kA B.r B.e B.f B.t B.o a B.es.length c q w) (Aq hr)) (r [] rfl fun _=> ?_));refine cx rfl (fun y:(Nat→Value)×Bool=>vt [.g [.f 47 y.1],.o (.bool y.2)]) (fun y=>aS y.1 47) (fun y w=>ri U w ⟨1,B.e,0,0,0,B.es⟩ [Ev.brk] (vF y.1 47) y.2) (fun w hS=>(vJ _ B a c q w hS.ult (fun w2 c2=>hS.g w2 c2) ok.len).mono fun _ _ ⟨y,k,h0,iX,b⟩=> ?_) ?_
 ·obtain⟨yg,oy,rfl⟩:=Mk iX;exact⟨(yg,k),h0,b,oy,fun _ w2 c2=>iX.EI c2 fun _ h=> .inr h⟩
 rintro⟨yg,k⟩ oy;have oy:aS yg 47:=oy;cases k
 ·exact r [] rfl fun _=>Rv.cb rfl (vt [.g (pD Bt.zero none 0 zQ),.o (iV 14)]) (fun w _=>jm 14 w) (r [] rfl fun _=>fin fun w hS=>⟨_,Bt.zero,14,rfl,(yk ok hr hS.now.1.2).2 rfl,⟨none,0,zQ,rfl,fun _ _=>jT.dq rfl⟩,hS.now.2⟩)
 ·exact r [] rfl fun _=>fin fun w hS=>⟨_,B.broken,0,rfl,((yk ok hr hS.now.1.2).1 rfl).1,((yk ok hr hS.now.1.2).1 rfl).2,hS.now.2⟩
theorem Oo(U:tF)(B:Bt)(a:tB)(c:Nat)(q:tD)(w:tA)(hU:∀b,U b→b<w.heap.size)(hm:bV U w fun w=>jT w B a c q)(ok:B.Ok):cA 140 #[yh B a c q] w fun x w'=>∃y B' er,x= .returned (.tuple #[y,iV er])∧bm B=(B',er)∧rY U w' B' y∧bZ w w':=by
 by_cases hr:B.r=1∨B.r=2
 ·exact On U B a c q w hU hm ok hr
 ·exact Om U B a c q w hU hm ok hr
def s6(v:Ev):Int:=if ¬aP v.k v.p v.i v.b v.he v.hn=0 then aP v.k v.p v.i v.b v.he v.hn else if v.k=4 then 3 else 0
theorem Km(v:Ev)(w:tA):cA 202 #[oK v] w (rB (iV (s6 v)) w):=by
 refine en (H:=[]) _ [vg (Zq v)] Tryz.func202 rfl rfl (m0 w) (r [] rfl fun _=>Rv.cb rfl (vi (aP v.k v.p v.i v.b v.he v.hn)) (fun w _=>nm v.k v.p v.i v.b v.he v.hn w) ?_);unfold s6;by_cases h0:aP v.k v.p v.i v.b v.he v.hn=0
 case neg=>exact r [1] rfl fun _=>fin fun w hS=>⟨by rw[if_pos h0];rfl,hS.now.2⟩
 rw[if_neg (AZ h0)];by_cases h4:v.k=4
 ·exact r [0,1] rfl fun _=>fin fun w hS=>⟨by rw[if_pos h4];rfl,hS.now.2⟩
 ·exact r [0,0] rfl fun _=>fin fun w hS=>⟨by rw[if_neg h4];rfl,hS.now.2⟩
inductive US(B:Bt)(s:St)(v:Ev):An→List Ev→Prop
 |shut (hr:B.r=3):US B s v ⟨12,0,0,0⟩ []
 |none (hr:¬B.r=3) (hs:¬(B.r=1∨B.r=2)):US B s v ⟨7,0,0,0⟩ []
 |same (hr:B.r=1∨B.r=2) (s':St) (an:An) (st:Step s v s' an false):US B s v an []
 |full (hr:B.r=1∨B.r=2) (s':St) (an:An) (st:Step s v s' an true) (hl:1999≤B.es.length):US B s v ⟨14,0,0,0⟩ []
 |done (hr:B.r=1∨B.r=2) (s':St) (an:An) (st:Step s v s' an true) (hl:B.es.length<1999):US B s v an [v]
theorem Hm(B:Bt)(a:tB)(c:Nat)(s:St)(q:tD)(v:Ev)(w:tA)(hq:uI w s q)(h:s.Ok)(hv:v.Ok)(hvw:∀u∈aX v,(Lit.int .i64 u).wf=true):
  cA 203 #[bR B.r B.e B.f B.t B.o a B.es.length c,vF q 41,oK v] w fun x w'=>∃an l a' c',x= .returned (.tuple #[GY an,.slice a' l.length c'])∧US B s v an l∧RowK .i64 w' a' (6*l.length) (ai l)∧(a'=none→c'=0)∧(∀x,a'=some x→w.heap.size≤x.block)∧bZ w w':=by
 refine en (H:=[]) _ [vg (bS B.r B.e B.f B.t B.o a B.es.length c),vf 41 q,vg (Zq v)] Tryz.func203 rfl rfl (Mem.start (M:=fun _=>False) (G:=fun w=>uI w s q) (R:=fun w'=>bZ w w') (fun _ h=>h.elim) (fun w' c=>hq.next (c.below (Aa _) fun _ _ h=>h)) fun _ h=>h) ?_;have nil:∀{w'},RowK .i64 w' none (6*([]:List Ev).length) (ai []):=RowK.nil _ _ _;by_cases h3:B.r=3
 ·exact r [1] rfl fun _=>fin fun w hS=>⟨⟨12,0,0,0⟩,[],none,0,rfl,.shut h3,nil,fun _=>rfl,fun _ h=>(by cases h),hS.now.2⟩
 refine r [0] rfl fun _=> ?_;by_cases hr:B.r=1∨B.r=2
 case neg=>exact Rv.cb rfl (vv (.bool false)) (fun w _=>mQ false (l9 B.r B.e B.f B.t B.o a B.es.length c w) (Ai hr)) (r [] rfl fun _=>fin fun w hS=>⟨⟨7,0,0,0⟩,[],none,0,rfl,.none h3 hr,nil,fun _=>rfl,fun _ h=>(by cases h),hS.now.2⟩)
 refine Rv.cb rfl (vv (.bool true)) (fun w _=>mQ true (l9 B.r B.e B.f B.t B.o a B.es.length c w) (Aq hr)) (r [] rfl fun _=> ?_);refine cq rfl (fun y:Go.Proofs.YtmhifeahpnkpiaaGreatDoor.St×An×Bool×(Nat→Value)=>vt [.g [.f 41 y.2.2.2],.g (Qn y.2.1),.o (.bool y.2.2.1),.o (iV 0)]) (fun y=>Step s v y.1 y.2.1 y.2.2.1∧aS y.2.2.2 41) (fun w hS=>(Rs hS.now.1 h v).mono ?_) ?_
 ·rintro _ w2 ⟨s1,an2,ch2,er2,q1,rfl,hd,hq1,b⟩;obtain⟨rfl,st⟩:=Yh hv hd;exact⟨(s1,an2,ch2,q1),rfl,b,st,(hq1 (fun _=>False) (fun _ h=>h.elim)).now.one⟩
 rintro⟨s1,an2,ch2,q1⟩ ⟨st,VS⟩;have st:Step s v s1 an2 ch2:=st;have VS:aS q1 41:=VS;cases ch2
 ·exact r [] rfl fun _=>fin fun w hS=>⟨an2,[],none,0,rfl,.same hr s1 an2 st,nil,fun _=>rfl,fun _ h=>(by cases h),hS.now.2⟩
 by_cases h9:1999≤B.es.length
 ·exact r [1] rfl fun _=>fin fun w hS=>⟨⟨14,0,0,0⟩,[],none,0,rfl,.full hr s1 an2 st h9,nil,fun _=>rfl,fun _ h=>(by cases h),hS.now.2⟩
 refine r [0,5,3,3] rfl fun _=> ?_
 repeat' first|refine ER ?_ ?_|refine rs [] rfl rfl fun _=> ?_
 all_goals exact fin fun w hS=>⟨an2,[v],_,_,rfl,.done hr s1 an2 st (by omega),L0 v hvw (hS.at 6 rfl) (fun i hi=>by match i,hi with|0,_=>rfl|1,_=>rfl|2,_=>rfl|3,_=>rfl|4,_=>rfl|5,_=>rfl),fun h=>(by cases h),fun x hx=>(by cases hx;exact hS.jC 6 rfl),hS.now.2⟩
theorem VT{v:Ev}(h:s6 v=0):v.Ok∧¬v.k=4:=by
 unfold s6 at h;by_cases h0:aP v.k v.p v.i v.b v.he v.hn=0
 ·rw[if_neg (fun g=>g h0)]at h;by_cases h1:v.k=4
  ·rw[if_pos h1]at h;omega
  ·exact⟨h0,h1⟩
 ·rw[if_pos h0]at h;exact absurd h h0
theorem Zy{B:Bt}{v:Ev}(ok:B.Ok)(h:¬s6 v=0):cR B v Bt.zero An.zero false (s6 v):=by
 unfold s6 at h⊢;by_cases h0:aP v.k v.p v.i v.b v.he v.hn=0
 ·rw[if_neg (fun g=>g h0)]at h⊢;by_cases h1:v.k=4
  ·rw[if_pos h1];exact .brk ok h0 h1
  ·rw[if_neg h1]at h;exact absurd rfl h
 ·rw[if_pos h0];exact .fault ok _ rfl h0
theorem US.serve{B:Bt}{v:Ev}{s:St}{bw:List An}{an:An}{l:List Ev}(h:US B s v an l)(ok:B.Ok)(hv:v.Ok)(hk:¬v.k=4)(ht:bk B.es s bw):cR B v (B.more l) an (decide (0<l.length)) 0:=by
 cases h with
 |shut hr=>rw[Bt.pS];exact .shut ok hv hk hr
 |none h3 hr=>
  rw[Bt.pS];refine .none ok hv hk ?_;have:=ok.cO;unfold Bt.cH bB at this;omega
 |same hr s' an st=>rw[Bt.pS];exact .same ok hv hk hr s bw ht s' an st
 |full hr s' an st hl=>rw[Bt.pS];exact .full ok hv hk hr s bw ht s' an st hl
 |done hr s' an st hl=>exact .done ok hv hk hr s bw ht s' an st hl
theorem Oq(B:Bt)(a:tB)(c:Nat)(v:Ev)(w:tA)(hb:jb w B a c)(hvw:∀u∈aX v,(Lit.int .i64 u).wf=true):
  cA 163 #[bR B.r B.e B.f B.t B.o a B.es.length c,oK v] w fun x w'=>∃y an ch er B',x= .returned (.tuple #[y,GY an,.bool ch,iV er])∧cR B v B' an ch er∧iu w w' B' y∧bZ w w':=by
 refine en (H:=[]) _ [vg (bS B.r B.e B.f B.t B.o a B.es.length c),vg (Zq v)] Tryz.func163 rfl rfl (Hd hb) (r [] rfl fun _=> ?_);refine cx rfl (fun y:Go.Proofs.YtmhifeahpnkpiaaGreatDoor.St×Int×(Nat→Value)=>vt [.g [.f 41 y.2.2],.o (iV y.2.1)]) (fun y=>Rb B y.1 y.2.1∧aS y.2.2 41) (fun y w=>uI w y.1 y.2.2) (fun w hS=>(s5 B a c w hS.now.1).mono ?_) ?_
 ·rintro _ w2 ⟨_,er,s,rfl,hr,ho,b⟩;obtain⟨a1,c1,a2,c2,ws,rfl,g1,g2,g3,g4,g5,g6,g7,g8,g9⟩:=ho.ex;exact⟨(s,er,qF s.ep s.nx s.gv (.slice a1 s.rn c1) (.slice a2 s.ln c2) ws),by rw[qy];rfl,b,⟨hr,(uI.mk (w:=w2) ⟨a1,c1,a2,c2,ws,rfl,g1,g2,g3,g4,g5,g6,g7⟩).one⟩,fun hU w3 c3=>⟨a1,c1,a2,c2,ws,rfl,bW g1 g8 hU w3 c3,bW g2 g9 hU w3 c3,g3,g4,g5,g6,g7⟩⟩
 rintro⟨s,er,q⟩ ⟨hr,oq⟩;have oq:aS q 41:=oq;cases hr with
 |no hn=>exact r [0,1] rfl fun _=>fin fun w hS=>⟨_,An.zero,false,6,_,rfl,.state hn,iu.zero _ _,hS.now.2⟩
 |yes ok bw ht=>
  refine r [1] rfl fun _=>Rv.cb rfl (vi (s6 v)) (fun w _=>Km v w) ?_;by_cases h0:s6 v=0
  case neg=>exact r [1] rfl fun _=>fin fun w hS=>⟨_,An.zero,false,_,_,rfl,Zy ok h0,iu.zero _ _,hS.now.2⟩
  obtain⟨hv,hk⟩:=VT h0;refine r [0] rfl fun _=>cx rfl (fun y:An×List Ev×Option Addr×Nat=>vt [.g (Qn y.1),.o (.slice y.2.2.1 y.2.1.length y.2.2.2)]) (fun y=>US B s v y.1 y.2.1∧(y.2.2.1=none→y.2.2.2=0)) (fun y w=>RowK .i64 w y.2.2.1 (6*y.2.1.length) (ai y.2.1)) (fun w hS=>(Hm B a c s q v w hS.now.1.2 ht.wf.ok hv hvw).mono fun _ w2 ⟨an,l,a2,c2,h1,h2,h3,h4,h5,b⟩=>⟨(an,l,a2,c2),h1,b,⟨h2,h4⟩,fun hU=>bW h3 h5 hU⟩) ?_;rintro⟨an,l,a2,c2⟩ ⟨hs,n2⟩;have hsr:US B s v an l:=hs;clear hs;have n2:a2=none→c2=0:=n2;have Jt:=hsr.serve ok hv hk ht;have hlen:=ok.len;have hl:l=[]∨l=[v]:=by cases hsr<;>first|exact .inl rfl|exact .inr rfl
  have end_:∀{w':tA} {M:tF} {Φ:tJ} {H:List En} (y:Option Addr×Nat),wu w y→Mem w' (hs H) M (fun w=>Φ w∧jb w (B.more l) y.1 y.2) (fun w'=>bZ w w')→iu w w' (B.more l) (bY (B.more l) (B.more l).es.length y).val:=fun y hy hS=>⟨y.1,y.2,rfl,hS.now.1.2,hy⟩;have wi:∀w1,bZ w w1→jb w1 B a c→RowK .i64 w1 a2 (6*l.length) (ai l)→cA 186 #[bR B.r B.e B.f B.t B.o a B.es.length c,.slice a2 l.length c2] w1 fun x w'=>∃y:Option Addr×Nat,x= .returned (bY (B.more l) (B.more l).es.length y).val∧bZ w1 w'∧wu w y∧∀{U:tF},(∀b,U b→b<w1.heap.size)→bV U w' fun w=>jb w (B.more l) y.1 y.2:=fun w1 h0 hb hr=>(DF B a c l a2 l.length c2 w1 hb rfl hr n2 (by rcases hl with rfl|rfl<;>simp<;>omega)).mono fun _ _ h=>Mh h0 h
  by_cases hp:0<l.length
  case' pos=>rw[Aq hp]at Jt;refine r [6,2,7,1] rfl fun _=> ?_
  case' neg=>rw[Ai hp]at Jt;refine r [6,2,7,0] rfl fun _=> ?_
  all_goals
   refine cx rfl (fun y=> .s (bY (B.more l) (B.more l).es.length y)) (wu w) (fun y w=>jb w (B.more l) y.1 y.2) (fun w1 hS=>(wi w1 hS.now.2 hS.now.1.1.1 hS.now.1.2).mono fun _ _ ⟨y,k1,k2,k3,k4⟩=>⟨y,k1,k2,k3,k4⟩) fun y hy=>r [] rfl fun _=> ?_;exact fin fun w hS=>⟨_,an,_,0,_,rfl,Jt,end_ y hy hS,hS.now.2⟩
theorem Ot{B B1:Bt}(ok:B.Ok){v:Ev}{an:An}{ch:Bool}{er:Int}(h:cR B.dq v B1 an ch er)(h0:¬er=0):cR B v Bt.zero An.zero false er:=by
 cases h with
 |state h=>exact absurd ok.dq h
 |fault _ f hf h0=>exact .fault ok _ hf h0
 |brk _ hv hk=>exact .brk ok hv hk
 |_=>exact absurd rfl h0
theorem Ou{B B1:Bt}(ok:B.Ok)(hr:¬(B.r=1∨B.r=2)){v:Ev}{an:An}{ch:Bool}(h:cR B.dq v B1 an ch 0):cR B v B an false 0:=by
 generalize he:(0:Int)=er at h;cases h with
 |state h=>cases he
 |fault _ f hf h0=>exact absurd he.symm h0
 |brk _ hv hk=>cases he
 |shut _ hv hk h3=>exact .shut ok hv hk h3
 |none _ hv hk h3=>exact .none ok hv hk h3
 |same _ _ _ h3=>exact absurd h3 hr
 |full _ _ _ h3=>exact absurd h3 hr
 |done _ _ _ h3=>exact absurd h3 hr
theorem RN{B B1:Bt}{v:Ev}{an:An}{ch:Bool}(h:cR B v B1 an ch 0):v.Ok∧¬v.k=4:=by
 generalize he:(0:Int)=er at h;cases h with
 |state h=>cases he
 |fault _ f hf h0=>exact absurd he.symm h0
 |brk _ hv hk=>cases he
 |shut _ hv hk=>exact⟨hv,hk⟩
 |none _ hv hk=>exact⟨hv,hk⟩
 |same _ hv hk=>exact⟨hv,hk⟩
 |full _ hv hk=>exact⟨hv,hk⟩
 |done _ hv hk=>exact⟨hv,hk⟩
theorem Ov{U:tF}{w:tA}{B:Bt}{a2:tB}{c2:Nat}{v:Ev}{s s1:St}{bw:List An}{an:An}{q1:tD}(ht:bk B.es s bw)(hv:v.Ok)(st:Step s v s1 an true)(h1:bV U w fun w=>uI w s1 q1)(h2:bV U w fun w=>RowK .i64 w a2 (6*(B.es.length+1)) (ai B.es++ai [v]))(jB:B.es.length+1≤c2)(qV:a2=none→c2=0):bV U w fun w=>jT w (B.more [v]) a2 c2 q1:=fun w' c'=>by
 have e:(B.more [v]).es.length=B.es.length+1:=by simp[Bt.more]
 refine⟨⟨?_,by rw[e];exact jB,qV⟩,s1,bw++[an],ht.snoc hv st,h1 w' c'⟩;rw[e];have e2:ai (B.more [v]).es=ai B.es++ai [v]:=by simp[Bt.more,ai]
 rw[e2];exact h2 w' c'
theorem yl(U:tF)(B:Bt)(a:tB)(c:Nat)(q:tD)(v:Ev)(w:tA)(hU:∀b,U b→b<w.heap.size)(hm:bV U w fun w=>jT w B a c q)(ok:B.Ok)(hvw:∀u∈aX v,(Lit.int .i64 u).wf=true):cA 109 #[yh B a c q,oK v] w fun x w'=>∃y an k er B',x= .returned (.tuple #[y,GY an,.bool k,iV er])∧cR B v B' an k er∧rY U w' B' y∧bZ w w':=by
 have hq:aS q 41:=(hm.now).one;obtain⟨s,bw,ht,hm⟩:=jT.split hm;have mi:∀{w},jb w B a c∧uI w s q→jT w B a c q:=fun h=>⟨h.1,s,bw,ht,h.2⟩;refine en (H:=[]) 70 [vg (pD B a c q),vg (Zq v)] Tryz.func109 rfl rfl (oE hU hm) (r [] rfl fun α=> ?_);refine cut (X:=Nat×An×Int) (fun x=>[(2,vp 0 0 (α 0)),(3,vp 1 0 (α 1)),(4,vp 2 0 (α 2)),(5,vp 3 0 (α 3)),(9,vp 4 0 x.1),(11,vi x.2.2)]) (fun x=>[⟨α 0,117,pD B a c q⟩,⟨α 1,55,Zq v⟩,⟨α 2,117,pD Bt.zero none 0 zQ⟩,⟨α 3,59,Qn An.zero⟩,⟨x.1,59,Qn x.2.1⟩]) (fun _=>U) (fun _ w=>jb w B a c∧uI w s q) (fun _ w'=>bZ w w') (fun x=>∃B1 ch,cR B.dq v B1 x.2.1 ch x.2.2) ?_ (r [4] rfl fun _=> ?_)
 case refine_2=>
  repeat' first|refine ER ?_ ?_|refine fk3 ?_ ?_ ?_|(refine cb rfl (vg (bS B.r B.e B.f B.t B.o none 0 0)) ?_ ?_;exact fun w _=>kB _ _ _ _ _ _ _ _ _ w)|(refine cq rfl (fun y:Bt×An×Bool×Int×Option Addr×Nat=>vt [.g (bS y.1.r y.1.e y.1.f y.1.t y.1.o y.2.2.2.2.1 y.1.es.length y.2.2.2.2.2),.g (Qn y.2.1),.o (.bool y.2.2.1),.o (iV y.2.2.2.1)]) (fun y=>cR B.dq v y.1 y.2.1 y.2.2.1 y.2.2.2.1) ?_ fun y hy=> ?_;exact fun w _=>(Oq B.dq none 0 v _ (pT _ _) hvw).mono fun _ _ ⟨_,an,ch,er,B1,h0,h1,ho,b⟩=>by obtain⟨a1,c1,rfl,_,_⟩:=ho.ex;exact⟨(B1,an,ch,er,a1,c1),h0,b,h1⟩)|refine rs [] rfl rfl fun _=> ?_
  all_goals first|exact b_ (_,y.2.1,y.2.2.2.1) ⟨rfl,rfl,rfl,rfl,rfl,rfl,trivial⟩ (fun w hS=>hS.JG [0,1,2,3,4] (by decide)) ⟨_,_,hy⟩ Bi|exact b_ (_,y.2.1,y.2.2.2.1) ⟨rfl,rfl,rfl,rfl,rfl,rfl,trivial⟩ (fun w hS=>hS.JG [0,1,2,3,5] (by decide)) ⟨_,_,hy⟩ Bi
 rintro f1 ⟨x,an,er⟩ ⟨B1,ch,h1⟩;have h1:cR B.dq v B1 an ch er:=h1;by_cases h0:er=0
 ·subst h0;have hv:=RN h1;have hs:=kA B.r B.e B.f B.t B.o a B.es.length c q;refine r [0] rfl fun _=> ?_;by_cases hr:B.r=1∨B.r=2
  ·rw[Aq hr]at hs;refine cb rfl (vv (.bool true)) (fun w _=>hs w) (r [] rfl fun _=> ?_);refine cx rfl (fun y:St×An×Bool×(Nat→Value)=>vt [.g [.f 41 y.2.2.2],.g (Qn y.2.1),.o (.bool y.2.2.1),.o (iV 0)]) (fun y=>Step s v y.1 y.2.1 y.2.2.1∧aS y.2.2.2 41) (fun y w=>uI w y.1 y.2.2.2) (fun w hS=>(Rs hS.now.1.2 ht.wf.ok v).mono ?_) ?_
   ·rintro _ w2 ⟨s1,an2,ch2,er2,q1,rfl,hd,hq1,b⟩;obtain⟨rfl,st⟩:=Yh hv.1 hd;exact⟨(s1,an2,ch2,q1),rfl,b,⟨st,(hq1 (fun _=>False) (fun _ h=>h.elim)).now.one⟩,fun hl=>hq1 _ hl⟩
   rintro⟨s1,an2,ch2,q1⟩ ⟨st,VS⟩;have st:Step s v s1 an2 ch2:=st;have VS:aS q1 41:=VS;cases ch2
   ·exact r [5,2,2] rfl fun _=>fin fun w hS=>⟨_,an2,false,0,B,rfl,.same ok hv.1 hv.2 hr s bw ht s1 an2 st,⟨a,c,q,rfl,fun w2 c2=>mi (hS.ES w2 c2).1⟩,hS.now.2⟩
   ·by_cases h9:1999≤B.es.length
    ·exact r [1] rfl fun _=>fin fun w hS=>⟨_,⟨14,0,0,0⟩,false,0,B,rfl,.full ok hv.1 hv.2 hr s bw ht s1 an2 st h9,⟨a,c,q,rfl,fun w2 c2=>mi (hS.ES w2 c2).1⟩,hS.now.2⟩
    ·refine r [0,8,6] rfl fun _=> ?_
     repeat' first|refine ER ?_ ?_|(refine cx rfl (fun y:Option Addr×Nat=>vv (.slice y.1 (B.es.length+1) y.2)) (fun y=>B.es.length+1≤y.2∧(y.1=none→y.2=0)) (fun y w=>RowK .i64 w y.1 (6*(B.es.length+1)) (ai B.es++ai [v])) ?_ fun y hy=> ?_;refine fun w hS=>(vD a _ B.es.length c 1 1 (ai B.es) (ai [v]) w hS.now.1.1.1.row (Ol v hvw (hS.at 6 rfl)) hS.now.1.1.1.nil (fun h=>by cases h) (by omega)).mono ?_;rintro _ w2 ⟨_,rfl,ho,b1⟩;obtain⟨a2,c2,rfl,hr2,jB,qV,hf2⟩:=ho.ex;exact⟨(a2,c2),rfl,b1,⟨jB,qV⟩,fun hl=>bW hr2 hf2 hl⟩)|refine rs [] rfl rfl fun _=> ?_
     all_goals exact r [5,2,2] rfl fun _=>fin fun w hS=>⟨_,an2,true,0,B.more [v],rfl,.done ok hv.1 hv.2 hr s bw ht s1 an2 st (by omega),⟨y.1,y.2,q1,by rw[yh,show(B.more [v]).es.length=B.es.length+1 by simp[Bt.more]];rfl,Ov ht hv.1 st (fun w2 c2=>(hS.ES w2 c2).1.2) (fun w2 c2=>(hS.ES w2 c2).2) hy.1 hy.2⟩,hS.now.2⟩
  ·rw[Ai hr]at hs;exact cb rfl (vv (.bool false)) (fun w _=>hs w) (r [5,2,2] rfl fun _=>fin fun w hS=>⟨_,an,false,0,B,rfl,Ou ok hr h1,⟨a,c,q,rfl,fun w2 c2=>mi (hS.ES w2 c2)⟩,hS.now.2⟩)
 ·exact r [1] rfl fun _=>fin fun w hS=>⟨_,An.zero,false,er,Bt.zero,rfl,Ot ok h1 h0,⟨none,0,zQ,rfl,fun _ _=>jT.dq rfl⟩,hS.now.2⟩
theorem Hn(B:Bt)(a:tB)(c:Nat)(w:tA)(hb:jb w B a c)(ok:B.Ok):cA 176 #[bR B.r B.e B.f B.t B.o a (min 1 B.es.length) c] w (rB (iV 0) w):=by
 have e:min 1 B.es.length=B.short.es.length:=by simp[Bt.short]
 rw[e];exact gw B.short a c w (uK hb) ok.short
theorem VU{es:List Ev}{s:St}(h:Rv es s 0):∃bw,bk es s bw:=by
 generalize he:(0:Int)=er at h;cases h with
 |size=>cases he
 |form=>cases he
 |told bw _ ht=>exact⟨bw,ht⟩
theorem RO{w w':tA}{s:St}{x:tK}(h:uH w w' s x):∃q,x=vF q 41∧∀U:Nat→Prop,(∀b,U b→b<w.heap.size)→bV U w' fun w=>uI w s q:=by
 obtain⟨a1,c1,a2,c2,ws',rfl,g1,g2,g3,g4,g5,g6,g7,g8,g9⟩:=h.ex;refine⟨_,qy _ _ _ _ _ _,fun U hU w2 CA=> ?_⟩;exact⟨a1,c1,a2,c2,ws',rfl,bW g1 g8 hU w2 CA,bW g2 g9 hU w2 CA,g3,g4,g5,g6,g7⟩
theorem VV(U:tF)(B:Bt)(a:tB)(c:Nat)(w:tA)(hU:∀b,U b→b<w.heap.size)(hm:bV U w fun w=>jb w B a c)(ok:B.Ok):cA 139 #[bR B.r B.e B.f B.t B.o a B.es.length c] w fun x w'=>∃y,x= .returned (.tuple #[y,iV 0])∧rY U w' B y∧bZ w w':=by
 refine en (H:=[]) _ [vg (bS B.r B.e B.f B.t B.o a B.es.length c)] Tryz.func139 rfl rfl (oE hU hm) (r [] rfl fun _=>Rv.cb rfl (vg (bS B.r B.e B.f B.t B.o a (min 1 B.es.length) c)) (fun w hS=>DH B.r B.e B.f B.t B.o a B.es.length c w hS.now.1.cap) (r [] rfl fun _=>Rv.cb rfl (vi 0) (fun w hS=>Hn B a c w hS.now.1 ok) (r [0] rfl fun _=> ?_)));refine cx rfl (fun y:Go.Proofs.YtmhifeahpnkpiaaGreatDoor.St×(Nat→Value)=>vt [.g [.f 41 y.2],.o (iV 0)]) (fun y=>(∃bw,bk B.es y.1 bw)∧aS y.2 41) (fun y w=>uI w y.1 y.2) (fun w hS=>(rV B.es a c w hS.now.1.row).mono fun _ w2 ⟨x,er,s,h0,hv,hq,b⟩=> ?_) ?_
 ·obtain rfl:er=0:=(Rv.ok (B:=B) hv ok.cO).2 ok;obtain⟨q,rfl,hq1⟩:=RO hq;exact⟨(s,q),h0,b,⟨VU hv,(hq1 (fun _=>False) (fun _ h=>h.elim)).now.one⟩,fun hU=>hq1 _ hU⟩
 rintro⟨s,q⟩ ⟨⟨bw,ht⟩,oq⟩;have oq:aS q 41:=oq;refine r [0,6,1,4] rfl fun _=> ?_
 repeat' first|refine ER ?_ ?_|(refine cx rfl (fun y:Option Addr×Nat=> .s (bY B B.es.length y)) (fun y=>B.es.length≤y.2∧(y.1=none→y.2=0)) (fun y w=>RowK .i64 w y.1 (6*B.es.length) (ai B.es)) ?_ fun y hy=> ?_;refine fun w hS=>(Me B.r B.e B.f B.t B.o a B.es.length c (ai B.es) w hS.now.1.1.row hS.now.1.1.nil (by have:=ok.len;omega)).mono ?_;rintro _ w9 ⟨x,rfl,ho,b⟩;obtain⟨a1,c1,rfl,s7,pr,sR,ux⟩:=ho.ex;exact⟨(a1,c1),rfl,b,⟨pr,sR⟩,fun hl=>bW s7 ux hl⟩)|refine rs [] rfl rfl fun _=> ?_
 all_goals exact fin fun w hS=>⟨_,rfl,⟨y.1,y.2,q,rfl,fun w2 c2=>⟨⟨(hS.ES w2 c2).2,hy.1,hy.2⟩,s,bw,ht,(hS.ES w2 c2).1.2⟩⟩,hS.now.2⟩
abbrev pU(n e:Int):Value:= .agg #[iV n,iV e]
abbrev RP(n e:tH):Array Value:= #[iV (n 0),iV (e 0),iV (n 1),iV (e 1),iV (n 2),iV (e 2),iV (n 3),iV (e 3)]
abbrev gP(n e:tH):Value:= .agg (RP n e)
def Ho(n e:Int):Prop:=(n= -1∧e=0)∨(0≤n∧n≤4∧1≤e∧e≤1048576)
def de(n e:tH):Prop:=∀p,p<4→Ho (n p) (e p)
theorem wT{p:tF}(h0:p 0)(h1:p 1)(h2:p 2)(h3:p 3):∀i,i<4→p i
 |0,_=>h0
 |1,_=>h1
 |2,_=>h2
 |3,_=>h3
 |n+4,h=>absurd h (by omega)
theorem uL(n e:tH):∀p:Nat,p<4→∀w:World,(Instr.index 27 (gP n e) (iV p)).run Tryz.prog w= .ok (pU (n p) (e p)) w:=by
 refine wT ?_ ?_ ?_ ?_<;>(intro w;simp[Instr.index,run_underlying Tryz.underlying27,asIntOf,go_sem])
theorem jn(w:tA):cA 66 #[] w (rB (pU (-1) 0) w):=by
 go_enter Tryz.func66,Tryz.ntmps66;go_wp2;exact Al (v:=pU (-1) 0) (by simp[results,Tryz.results66,go_sem]) rfl ⟨rfl,aA _ _⟩
theorem Kn(x:Int)(w:tA):cA 129 #[iV x] w fun e w'=>e= .returned (.bool (decide (0≤x∧x≤4)))∧w'=w:=by
 by_cases h1:0≤x
 ·by_cases h2:x≤4
  ·rw[Aq (show 0≤x∧x≤4 from⟨h1,h2⟩)];have h3:x<5:=by omega
   go_enter Tryz.func129,Tryz.ntmps129;go_wp2;go_ret;exact⟨rfl,rfl⟩
  ·rw[Ai (show ¬(0≤x∧x≤4) from fun h=>h2 h.2)];have h3:¬x<5:=by omega
   go_enter Tryz.func129,Tryz.ntmps129;go_wp2;go_ret;exact⟨rfl,rfl⟩
 ·rw[Ai (show ¬(0≤x∧x≤4) from fun h=>h1 h.1)];go_enter Tryz.func129,Tryz.ntmps129;go_wp2;go_ret;exact⟨rfl,rfl⟩
theorem Hp(x:Int)(w:tA):cA 128 #[iV x] w fun e w'=>e= .returned (.bool (decide (0≤x∧x≤3)))∧w'=w:=by
 by_cases h1:0≤x
 ·by_cases h2:x≤3
  ·rw[Aq (show 0≤x∧x≤3 from⟨h1,h2⟩)];have h3:x<4:=by omega
   go_enter Tryz.func128,Tryz.ntmps128;go_wp2;go_ret;exact⟨rfl,rfl⟩
  ·rw[Ai (show ¬(0≤x∧x≤3) from fun h=>h2 h.2)];have h3:¬x<4:=by omega
   go_enter Tryz.func128,Tryz.ntmps128;go_wp2;go_ret;exact⟨rfl,rfl⟩
 ·rw[Ai (show ¬(0≤x∧x≤3) from fun h=>h1 h.1)];go_enter Tryz.func128,Tryz.ntmps128;go_wp2;go_ret;exact⟨rfl,rfl⟩
def r_(n e:Int):Bool:=decide (0≤n∧n≤4∧1≤e∧e≤1048576)
abbrev z_(a b:Int):List Sg:=[.o (iV a),.o (iV b)]
abbrev wU(a b:tH):List Sg:=[.o (iV (a 0)),.o (iV (b 0)),.o (iV (a 1)),.o (iV (b 1)),.o (iV (a 2)),.o (iV (b 2)),.o (iV (a 3)),.o (iV (b 3))]
theorem oQ(a b c d:Int)(w:tA):(Op.equalIn 10000 26 (pU a b) (pU c d)).run Tryz.prog w= .ok (decide (a=c∧b=d)) w:=by
 rw[run_equalIn_agg (P:=Tryz.prog) w 9999 26 _ _ Tryz.underlying26 (by kernel_rfl)];by_cases h0:a=c
 case neg=>simp[go_sem,h0]
 by_cases h1:b=d
 case neg=>simp[go_sem,h0,h1]
 simp[go_sem,h0,h1]
theorem DJ{P:tJ}{x:Int}{b:Bool}(h:decide (0≤x∧x≤4)=b)(w:tA)(_:P w):cA 129 #[iV x] w (rB (.bool b) w):=(Kn x w).mono fun _ _ ⟨h1,e⟩=>⟨by rw[h1,h],by rw[e];exact Be _ _⟩
theorem Ml{P:tJ}{x:Int}{b:Bool}(h:decide (0≤x∧x≤3)=b)(w:tA)(_:P w):cA 128 #[iV x] w (rB (.bool b) w):=(Hp x w).mono fun _ _ ⟨h1,e⟩=>⟨by rw[h1,h],by rw[e];exact Be _ _⟩
theorem rj(n e:Int)(w:tA):cA 175 #[pU n e] w (rB (.bool (r_ n e)) w):=by
 refine en (H:=[]) _ [vg (z_ n e)] Tryz.func175 rfl rfl (m0 w) (r [] rfl fun _=> ?_);by_cases h1:0≤n∧n≤4
 case neg=>exact Rv.cb rfl (vv (.bool false)) (DJ (Ai h1)) (r [] rfl fun _=>fin fun w hS=>⟨by rw[show r_ n e=false from Ai fun h=>h1 ⟨h.1,h.2.1⟩];rfl,hS.now.2⟩)
 refine Rv.cb rfl (vv (.bool true)) (DJ (Aq h1)) ?_;by_cases h2:1≤e
 case neg=>exact r [0] rfl fun _=>fin fun w hS=>⟨by rw[show r_ n e=false from Ai fun h=>h2 h.2.2.1];rfl,hS.now.2⟩
 by_cases h3:e≤1048576
 case neg=>exact r [1,0] rfl fun _=>fin fun w hS=>⟨by rw[show r_ n e=false from Ai fun h=>h3 h.2.2.2];rfl,hS.now.2⟩
 exact r [1,1] rfl fun _=>fin fun w hS=>⟨by rw[show r_ n e=true from Aq ⟨h1.1,h1.2,h2,h3⟩];rfl,hS.now.2⟩
theorem ym(n e:tH)(w:tA):cA 127 #[gP n e] w fun r w'=>((de n e∧r= .returned (iV 0))∨(¬de n e∧r= .returned (iV 6)))∧bZ w w':=by
 refine en (H:=[]) _ [vg (wU n e)] Tryz.func127 rfl rfl (m0 w) (r [] rfl fun α=> ?_);refine iC (X:=Nat) ⟨fun k=>[(6,vg (wU n e)),(7,vi (k:Int))],fun _=>[],fun _ _=>False,fun _ _=>True,fun _ w'=>bZ w w',fun k=>k≤4∧∀p,p<k→Ho (n p) (e p),fun k=>4-k⟩ 0 ⟨rfl,rfl,trivial⟩ (fun w hS=>hS.take 0) ⟨Ak _,fun p hp=>absurd hp (AH p)⟩ ?_;rintro f k ⟨hk,hp⟩;have hk:k≤4:=hk;by_cases aM:k<4
 case neg=>
  obtain rfl:k=4:=by omega
  exact r [0] rfl fun _=>fin fun w hS=>⟨.inl ⟨hp,rfl⟩,hS.now.2⟩
 refine r [1] rfl fun _=>ix (vg (z_ (n k) (e k))) rfl rfl (uL n e k aM) (r [2] rfl fun γ=>Rv.cb rfl (vg (z_ (-1) 0)) (fun w _=>jn w) ?_);have eq:=oQ (n k) (e k) (-1) 0;have next:Ho (n k) (e k)→∀p,p<k+1→Ho (n p) (e p):=fun h p hp'=>by
  rcases AA p k with h1|h1
  ·exact hp p h1
  ·obtain rfl:p=k:=by omega
   exact h
 by_cases h1:n k= -1∧e k=0
 ·rw[Aq h1]at eq;refine r [] rfl fun _=>eqs rfl eq rfl (rz [1] [((k+1:Nat):Int)] rfl fun _=> ?_);exact b_ (k+1) ⟨rfl,rfl,trivial⟩ (fun w hS=>hS.take 0) ⟨aM,next (.inl h1)⟩ (show 4-(k+1)<4-k by omega)
 rw[Ai h1]at eq;refine r [] rfl fun _=>eqs rfl eq rfl (r [] rfl fun _=> ?_);cases h2:r_ (n k) (e k)
 ·refine Rv.cb rfl (vv (.bool false)) (fun w _=>h2▸rj (n k) (e k) w) (r [] rfl fun _=>fin fun w hS=>⟨.inr ⟨fun h=> ?_,rfl⟩,hS.now.2⟩);rcases h k aM with h3|h3
  ·exact h1 h3
  ·exact absurd (Aq h3) (by rw[show decide _=r_ _ _ from rfl,h2];simp)
 ·refine Rv.cb rfl (vv (.bool true)) (fun w _=>h2▸rj (n k) (e k) w) (rz [1] [((k+1:Nat):Int)] rfl fun _=> ?_);exact b_ (k+1) ⟨rfl,rfl,trivial⟩ (fun w hS=>hS.take 0) ⟨aM,next (.inr (of_decide_eq_true h2))⟩ (show 4-(k+1)<4-k by omega)
theorem yn(n e:tH)(w:tA)(h:de n e):cA 127 #[gP n e] w (rB (iV 0) w):=by
 refine(ym n e w).mono ?_;rintro r w' ⟨⟨_,hr⟩|⟨h',_⟩,b⟩
 ·exact⟨hr,b⟩
 ·exact absurd h h'
theorem DK(n e:tH)(w:tA)(h:¬de n e):cA 127 #[gP n e] w (rB (iV 6) w):=by
 refine(ym n e w).mono ?_;rintro r w' ⟨⟨h',_⟩|⟨_,hr⟩,b⟩
 ·exact absurd h' h
 ·exact⟨hr,b⟩
section
variable{w w':tA}{R:Nat}{n e:tH}
def cB(f:tH)(k:Nat)(x:Int):Nat→Int:=fun q=>if q=k then x else f q
end
theorem Hq{n e:tH}:∀k,k<4→∀i,i<2→Rv.cD (wU n e) (0+k*2+i)=Rv.cD (z_ (n k) (e k)) i:=by
 refine wT ?_ ?_ ?_ ?_<;>(intro i hi;obtain rfl|rfl:i=0∨i=1:=by omega)<;>rfl
theorem Zz{n e:tH}{a b:Int}:∀k,k<4→∀i,i<8→gf (Rv.cD (wU n e)) (0+k*2) 2 (Rv.cD (z_ a b)) i=Rv.cD (wU (cB n k a) (cB e k b)) i:=by
 refine wT ?_ ?_ ?_ ?_<;>(intro i hi;obtain rfl|rfl|rfl|rfl|rfl|rfl|rfl|rfl:i=0∨i=1∨i=2∨i=3∨i=4∨i=5∨i=6∨i=7:=by omega)<;>rfl
inductive jH(n e:tH)(q:Int):Int→Int→Int→Prop
 |state (h:¬de n e):jH n e q 0 0 6
 |range (h:de n e) (hq:¬(0≤q∧q≤3)):jH n e q 0 0 2
 |none (h:de n e) (k:Nat) (hk:k<4) (hq:q=k) (hn:n k= -1):jH n e q 0 0 7
 |here (h:de n e) (k:Nat) (hk:k<4) (hq:q=k) (hn:¬n k= -1):jH n e q (n k) (e k) 0
theorem DL(n e:tH)(q:Int)(w:tA):cA 91 #[gP n e,iV q] w fun r w'=>∃a b c,r= .returned (.tuple #[pU a b,iV c])∧jH n e q a b c∧bZ w w':=by
 refine en (H:=[]) _ [vg (wU n e),vi q] Tryz.func91 rfl rfl (m0 w) (r [] rfl fun _=> ?_);by_cases ok:de n e
 case neg=>exact Rv.cb rfl (vi 6) (fun w _=>DK n e w ok) (r [1] rfl fun _=>fin fun w hS=>⟨0,0,6,rfl,.state ok,hS.now.2⟩)
 refine Rv.cb rfl (vi 0) (fun w _=>yn n e w ok) (r [0] rfl fun _=> ?_);by_cases hq:0≤q∧q≤3
 case neg=>exact Rv.cb rfl (vv (.bool false)) (Ml (Ai hq)) (r [] rfl fun _=>fin fun w hS=>⟨0,0,2,rfl,.range ok hq,hS.now.2⟩)
 refine Rv.cb rfl (vv (.bool true)) (Ml (Aq hq)) ?_;obtain⟨k,hk,rfl⟩:∃k:Nat,k<4∧q=k:=⟨q.toNat,by omega,by omega⟩;have eq:=oQ (n k) (e k) (-1) 0;by_cases hn:n k= -1
 ·rw[Aq ⟨hn,by rcases ok k hk with h|h<;>omega⟩]at eq
  exact r [2,1] rfl fun _=>lo rfl rfl 0 rfl 2 (Rv.cD (z_ (n k) (e k))) (Hq k hk) (r [] rfl fun _=>Rv.cb rfl (vg (z_ (-1) 0)) (fun w _=>jn w) (r [] rfl fun _=>eqs rfl eq rfl (r [] rfl fun _=>fin fun w hS=>⟨0,0,7,rfl,.none ok _ hk rfl hn,hS.now.2⟩)))
 ·rw[Ai fun h=>hn h.1]at eq;exact r [2,1] rfl fun _=>lo rfl rfl 0 rfl 2 (Rv.cD (z_ (n k) (e k))) (Hq k hk) (r [] rfl fun _=>Rv.cb rfl (vg (z_ (-1) 0)) (fun w _=>jn w) (r [] rfl fun _=>eqs rfl eq rfl (r [1] rfl fun _=>lo rfl rfl 0 rfl 2 (Rv.cD (z_ (n k) (e k))) (Hq k hk) (r [] rfl fun _=>fin fun w hS=>⟨_,_,0,rfl,.here ok _ hk rfl hn,hS.now.2⟩))))
def bp:Nat→Int:=fun _=>0
theorem Hr(n e:tH)(k:Nat)(a b:Int)(w:tA)(hk:k<4):cA 130 #[gP n e,iV k,pU a b] w (rB (gP (cB n k a) (cB e k b)) w):=by
 exact en (H:=[]) _ [vg (wU n e),vi (k:Int),vg (z_ a b)] Tryz.func130 rfl rfl (m0 w) (r [1] rfl fun _=>so (m:=2) (g:=Rv.cD (z_ a b)) rfl rfl rfl 0 rfl (cD (wU (cB n k a) (cB e k b))) (Zz k hk) (r [] rfl fun _=>fin fun w hS=>⟨rfl,hS.now.2⟩) (fun i hi=>by obtain rfl|rfl:i=0∨i=1:=(by omega)<;>rfl))
def yo(x y ep node:Int):Int:=if ¬(0≤node∧node≤4)then 2 else if ¬y=ep then 15 else if x=node then 8 else if y=1048576 then 14 else 0
theorem Ox(x y ep node:Int)(w:tA):cA 174 #[pU x y,iV ep,iV node] w (rB (iV (yo x y ep node)) w):=by
 unfold yo;refine en (H:=[]) _ [vg (z_ x y),vi ep,vi node] Tryz.func174 rfl rfl (m0 w) (r [] rfl fun _=> ?_);by_cases h1:0≤node∧node≤4
 case neg=>exact Rv.cb rfl (vv (.bool false)) (DJ (Ai h1)) (r [] rfl fun _=>fin fun w hS=>⟨by rw[if_pos h1];rfl,hS.now.2⟩)
 rw[if_neg fun h=>h h1];refine Rv.cb rfl (vv (.bool true)) (DJ (Aq h1)) ?_;by_cases h2:y=ep
 case neg=>exact r [1] rfl fun _=>fin fun w hS=>⟨by rw[if_pos h2];rfl,hS.now.2⟩
 by_cases h3:x=node
 ·exact r [0,1] rfl fun _=>fin fun w hS=>⟨by rw[if_neg fun h=>h h2,if_pos h3];rfl,hS.now.2⟩
 by_cases h4:y=1048576
 ·exact r [0,0,1] rfl fun _=>fin fun w hS=>⟨by rw[if_neg fun h=>h h2,if_neg h3,if_pos h4];rfl,hS.now.2⟩
 ·exact r [0,0,0] rfl fun _=>fin fun w hS=>⟨by rw[if_neg fun h=>h h2,if_neg h3,if_neg h4];rfl,hS.now.2⟩
inductive ny(n e:tH)(q node:Int):(Nat→Int)→(Nat→Int)→Int→Prop
 |state (h:¬de n e):ny n e q node bp bp 6
 |range (h:de n e) (hq:¬((0≤q∧q≤3)∧(0≤node∧node≤4))):ny n e q node bp bp 2
 |yp (h:de n e) (k:Nat) (hk:k<4) (hq:q=k) (hd:0≤node∧node≤4) (hn:¬n k= -1):ny n e q node bp bp 8
 |made (h:de n e) (k:Nat) (hk:k<4) (hq:q=k) (hd:0≤node∧node≤4) (hn:n k= -1):ny n e q node (cB n k node) (cB e k 1) 0
theorem ny.one{n e:tH}{q node:Int}{a b:tH}{c:Int}{a' b':tH}{c':Int}(h:ny n e q node a b c)(h':ny n e q node a' b' c'):a=a'∧b=b'∧c=c':=by
 cases h with
 |state h1=>cases h' with
  |state=>exact⟨rfl,rfl,rfl⟩
  |range h2=>exact absurd h2 h1
  |yp h2=>exact absurd h2 h1
  |made h2=>exact absurd h2 h1
 |range h1 hq=>cases h' with
  |state h2=>exact absurd h1 h2
  |range h2=>exact⟨rfl,rfl,rfl⟩
  |yp h2 k hk yj=>omega
  |made h2 k hk yj=>omega
 |yp h1 k hk hq hd hn=>cases h' with
  |state h2=>exact absurd h1 h2
  |range h2=>omega
  |yp h2 k hk yj=>exact⟨rfl,rfl,rfl⟩
  |made h2 k' kW yj hd' sC=>
   obtain rfl:k=k':=by omega
   exact absurd sC hn
 |made h1 k hk hq hd hn=>cases h' with
  |state h2=>exact absurd h1 h2
  |range h2=>omega
  |yp h2 k' kW yj hd' sC=>
   obtain rfl:k=k':=by omega
   exact absurd hn sC
  |made h2 k' kW yj hd' sC=>
   obtain rfl:k=k':=by omega
   exact⟨rfl,rfl,rfl⟩
theorem RQ(n e:tH)(q node:Int)(w:tA):cA 76 #[gP n e,iV q,iV node] w fun r w'=>∃a b c,r= .returned (.tuple #[gP a b,iV c])∧ny n e q node a b c∧bZ w w':=by
 refine en (H:=[]) _ [vg (wU n e),vi q,vi node] Tryz.func76 rfl rfl (m0 w) (r [] rfl fun _=> ?_);by_cases ok:de n e
 case neg=>exact Rv.cb rfl (vi 6) (fun w _=>DK n e w ok) (r [1] rfl fun _=>fin fun w hS=>⟨bp,bp,6,rfl,.state ok,hS.now.2⟩)
 refine Rv.cb rfl (vi 0) (fun w _=>yn n e w ok) (r [0] rfl fun _=> ?_);by_cases hq:0≤q∧q≤3
 case neg=>exact Rv.cb rfl (vv (.bool false)) (Ml (Ai hq)) (r [] rfl fun _=>fin fun w hS=>⟨bp,bp,2,rfl,.range ok (fun h=>hq h.1),hS.now.2⟩)
 refine Rv.cb rfl (vv (.bool true)) (Ml (Aq hq)) (r [] rfl fun _=> ?_);by_cases hd:0≤node∧node≤4
 case neg=>exact Rv.cb rfl (vv (.bool false)) (DJ (Ai hd)) (r [] rfl fun _=>fin fun w hS=>⟨bp,bp,2,rfl,.range ok (fun h=>hd h.2),hS.now.2⟩)
 refine Rv.cb rfl (vv (.bool true)) (DJ (Aq hd)) ?_;obtain⟨k,hk,rfl⟩:∃k:Nat,k<4∧q=k:=⟨q.toNat,by omega,by omega⟩;have eq:=oQ (n k) (e k) (-1) 0;by_cases hn:n k= -1
 ·rw[Aq ⟨hn,by rcases ok k hk with h|h<;>omega⟩]at eq
  exact r [2,1] rfl fun _=>lo rfl rfl 0 rfl 2 (Rv.cD (z_ (n k) (e k))) (Hq k hk) (r [] rfl fun _=>Rv.cb rfl (vg (z_ (-1) 0)) (fun w _=>jn w) (r [] rfl fun _=>eqs rfl eq rfl (r [] rfl fun _=>Rv.cb rfl (vg (wU (cB n _ node) (cB e _ 1))) (fun w _=>Hr n e _ node 1 w hk) (r [] rfl fun _=>fin fun w hS=>⟨_,_,0,rfl,.made ok _ hk rfl hd hn,hS.now.2⟩))))
 ·rw[Ai fun h=>hn h.1]at eq;exact r [2,1] rfl fun _=>lo rfl rfl 0 rfl 2 (Rv.cD (z_ (n k) (e k))) (Hq k hk) (r [] rfl fun _=>Rv.cb rfl (vg (z_ (-1) 0)) (fun w _=>jn w) (r [] rfl fun _=>eqs rfl eq rfl (r [] rfl fun _=>fin fun w hS=>⟨bp,bp,8,rfl,.yp ok _ hk rfl hd hn,hS.now.2⟩)))
def eD(k:Nat):Nat→Int:=fun p=>if p<k then-1 else 0
def nwF(k:Nat):Nat→Value:=fun i=>iV (if i % 2=0 then eD k (i/2)else 0)
theorem ZA:∀k,k<4→∀i,i<8→gf (Rv.cD [.f 8 (nwF k)]) (0+k*2) 2 (Rv.cD (z_ (-1) 0)) i=nwF (k+1) i:=by
 refine wT ?_ ?_ ?_ ?_<;>(intro i hi;obtain rfl|rfl|rfl|rfl|rfl|rfl|rfl|rfl:i=0∨i=1∨i=2∨i=3∨i=4∨i=5∨i=6∨i=7:=by omega)<;>rfl
theorem Mm(w:tA):cA 40 #[] w (rB (gP (eD 4) bp) w):=by
 refine en (H:=[]) _ [] Tryz.func40 rfl rfl (m0 w) (r [] rfl fun α=>gn 1 (nwF 0) ?_);refine iC (X:=Nat) ⟨fun k=>[(0,vp 0 0 (α 0)),(1,vp 1 0 (α 1)),(3,vi (k:Int))],fun k=>[⟨α 0,29,wU bp bp⟩,⟨α 1,27,[.f 8 (nwF k)]⟩],fun _ _=>False,fun _ _=>True,fun _ w'=>bZ w w',fun k=>k≤4,fun k=>4-k⟩ 0 ⟨rfl,rfl,rfl,trivial⟩ (fun w hS=>hS) (Ak _) ?_;rintro f k hk;have hk:k≤4:=hk;by_cases aM:k<4
 case neg=>
  obtain rfl:k=4:=by omega
  exact r [0] rfl fun _=>fin fun w hS=>⟨rfl,hS.now.2⟩
 refine r [1] rfl fun _=>Rv.cb rfl (vg (z_ (-1) 0)) (fun w _=>jn w) (r [1] rfl fun _=>so (m:=2) (g:=cD (z_ (-1) 0)) rfl rfl rfl 1 rfl (nwF (k+1)) (ZA k aM) (rz [1] [((k+1:Nat):Int)] rfl fun _=> ?_) (fun i hi=>by obtain rfl|rfl:i=0∨i=1:=(by omega)<;>rfl))
 exact b_ (k+1) ⟨rfl,rfl,rfl,trivial⟩ (fun w hS=>hS) aM (show 4-(k+1)<4-k by omega)
inductive s_(n e:tH)(q ep node:Int):(Nat→Int)→(Nat→Int)→Int→Prop
 |off (a b c:Int) (h:jH n e q a b c) (hc:¬c=0):s_ n e q ep node bp bp c
 |no (a b:Int) (h:jH n e q a b 0) (hc:¬yo a b ep node=0):s_ n e q ep node bp bp (yo a b ep node)
 |flip (h:de n e) (k:Nat) (hk:k<4) (hq:q=k) (hn:¬n k= -1) (hc:yo (n k) (e k) ep node=0):s_ n e q ep node (cB n k node) (cB e k (e k+1)) 0
theorem jH.at{n e:tH}{q a b:Int}(h:jH n e q a b 0):de n e∧∃k:Nat,k<4∧q=k∧¬n k= -1∧a=n k∧b=e k:=by
 obtain⟨c,hc⟩:∃c:Int,c=0:=⟨0,rfl⟩;rw[←hc]at h;cases h with
 |state h=>omega
 |range h=>omega
 |none h=>omega
 |here h k hk hq hn=>exact⟨h,k,hk,hq,hn,rfl,rfl⟩
theorem RS(n e:tH)(q ep node:Int)(w:tA):cA 126 #[gP n e,iV q,iV ep,iV node] w fun r w'=>∃a b c,r= .returned (.tuple #[gP a b,iV c])∧s_ n e q ep node a b c∧bZ w w':=by
 refine en (H:=[]) _ [vg (wU n e),vi q,vi ep,vi node] Tryz.func126 rfl rfl (m0 w) (r [] rfl fun _=> ?_);refine cq rfl (fun y:Int×Int×Int=>vt [.g (z_ y.1 y.2.1),.o (iV y.2.2)]) (fun y=>jH n e q y.1 y.2.1 y.2.2) (fun w _=>(DL n e q w).mono fun _ _ ⟨a,b,c,h1,h2,h3⟩=>⟨(a,b,c),h1,h3,h2⟩) ?_;rintro⟨a,b,c⟩ hw;have hw:jH n e q a b c:=hw;by_cases hc:c=0
 case neg=>exact r [1] rfl fun _=>fin fun w hS=>⟨bp,bp,c,rfl,.off a b c hw hc,hS.now.2⟩
 subst hc;refine r [0] rfl fun _=>Rv.cb rfl (vi (yo a b ep node)) (fun w _=>Ox a b ep node w) ?_;by_cases hg:yo a b ep node=0
 case neg=>exact r [1] rfl fun _=>fin fun w hS=>⟨bp,bp,_,rfl,.no a b hw hg,hS.now.2⟩
 obtain⟨ok,k,hk,rfl,hn,rfl,rfl⟩:=hw.at;have hb:0≤e k∧e k≤1048576:=by rcases ok k hk with h|h<;>omega
 exact rz [0,1] [e k+1] rfl fun _=>Rv.cb rfl (vg (wU (cB n k node) (cB e k (e k+1)))) (fun w _=>Hr n e k node (e k+1) w hk) (r [] rfl fun _=>fin fun w hS=>⟨_,_,0,rfl,.flip ok k hk rfl hn hg,hS.now.2⟩)
end
theorem UP(x m:Int):x<0∨(¬x≤m∧0≤x)∨(0≤x∧x≤m):=by omega
def aE(k q ep pe ek p i b he hn:Int):Int:=
 if ¬(1≤k∧k≤7)then 3
 else if ¬(0≤q∧q≤3∧0≤ep∧ep≤1048576∧0≤pe∧pe≤4)then 2
 else if k=2∨k=5 then aP ek p i b he hn else gJ ek p i b he hn
theorem Hs(k q ep pe:Int):(k<1∧¬1≤k)∨(¬k≤7∧1≤k)∨((1≤k∧k≤7)∧(q<0∨(¬q≤3∧0≤q)∨(0≤q∧q≤3)∧(ep<0∨(¬ep≤1048576∧0≤ep)∨(0≤ep∧ep≤1048576)∧
  (pe<0∨(¬pe≤4∧0≤pe)∨(0≤pe∧pe≤4)∧(k=2∨k=5∨(k==2)=false∧(k==5)=false))))):=by
 by_cases h:k<1
 ·exact .inl ⟨h,by omega⟩
 by_cases h':¬k≤7
 ·exact .inr (.inl ⟨h',by omega⟩)
 refine .inr (.inr ⟨by omega, ?_⟩);rcases UP q 3 with h|h|h
 ·exact .inl h
 ·exact .inr (.inl h)
 refine .inr (.inr ⟨h, ?_⟩);rcases UP ep 1048576 with h|h|h
 ·exact .inl h
 ·exact .inr (.inl h)
 refine .inr (.inr ⟨h, ?_⟩);rcases UP pe 4 with h|h|h
 ·exact .inl h
 ·exact .inr (.inl h)
 refine .inr (.inr ⟨h, ?_⟩);by_cases h2:k=2
 ·exact .inl h2
 by_cases h5:k=5
 ·exact .inr (.inl h5)
 exact .inr (.inr ⟨by simpa using h2,by simpa using h5⟩)
theorem j6(k q ep pe ek p i b he hn:Int)(w:tA):
  cA 191 #[.agg #[iV k,iV q,iV ep,iV pe,iV ek,iV p,iV i,iV b,iV he,iV hn]] w fun e w'=>
   e= .returned (iV (aE k q ep pe ek p i b he hn))∧bZ w w':=by
 obtain⟨v,hv⟩:∃v,aE k q ep pe ek p i b he hn=v:=⟨_,rfl⟩;rw[hv];have HV:Hid (aE k q ep pe ek p i b he hn=v):=hv;clear hv;rcases Hs k q ep pe with⟨h1,h2⟩|⟨h1,h2⟩|⟨⟨h1,h2⟩,h3|⟨h3,h4⟩|⟨⟨h3,h4⟩,h5|⟨h5,h6⟩|⟨⟨h5,h6⟩,h7|⟨h7,h8⟩|⟨⟨h7,h8⟩,rfl|rfl|⟨h9,v_⟩⟩⟩⟩⟩
 all_goals
  go_enter Tryz.func191,Tryz.ntmps191
  go_wp2_with (first|(go_at_call 102;refine(vz _ _ _ _ _ _ _).mono ?_;rintro e w1 ⟨rfl,hb⟩)|(go_at_call 59;refine(nm _ _ _ _ _ _ _).mono ?_;rintro e w1 ⟨rfl,hb⟩)|(go_at_call 101;go_in)|(go_at_call 209;go_in))
  go_ret;refine⟨Fe ?_, ?_⟩
  ·have h:=HV.out;subst h;clear HV;unfold aE
   repeat' split
   all_goals first|rfl|omega|(simp at h9 v_;omega)
  ·first|exact aA _ _|exact oo hb
theorem bC{p:Prop}(h:p):Hid p:=h
theorem ae{p:Prop}(h:Hid p):p:=h
theorem Tryz.Yn:(Tryz.prog.info? 3).map (fun i=>(i.zero,i.size,i.bytes))=some (some (iV 0),1,8):=by kernel_rfl
abbrev dU(b:Nat):Array Value:= #[.pointer (some ⟨b,0,none⟩),.pointer (some ⟨b,1,none⟩),.pointer (some ⟨b,2,none⟩),.pointer (some ⟨b,3,none⟩),.pointer (some ⟨b,4,none⟩),.pointer (some ⟨b,5,none⟩),.pointer (some ⟨b,6,none⟩),.pointer (some ⟨b,7,none⟩),.pointer (some ⟨b,8,none⟩),.pointer (some ⟨b,9,none⟩)]
theorem jo(b:Nat)(w:tA):
  cA 208 #[.pointer (some ⟨b,0,none⟩)] w (rB (.agg (dU b)) w):=by
 go_enter Tryz.func208,Tryz.ntmps208;go_wp2
 go_region
 all_goals
  go_wp2;exact Al (v:= .agg (dU b)) (by simp[results,Tryz.results208,go_sem]) rfl ⟨rfl,(aA _ _).drew⟩
theorem j7{k q ep pe ek p i b he hn:Int}(h:aE k q ep pe ek p i b he hn=0):∀n∈[k,q,ep,pe,ek,p,i,b,he,hn],0≤n∧n≤2147483647:=by
 unfold aE at h;split at h
 ·omega
 split at h
 ·omega
 have hE:(0≤ek∧ek≤4)∧(0≤p∧p≤3)∧(0≤i∧i≤1073741824)∧(0≤b∧b≤1000000)∧(0≤he∧he≤1048576)∧(0≤hn∧hn≤1073741824):=by
  split at h
  ·unfold aP at h
   repeat' split at h
   all_goals omega
  ·unfold gJ at h;split at h<;>omega
 intro n sC;simp only[List.mem_cons,List.not_mem_nil,or_false]at sC;rcases sC with rfl|rfl|rfl|rfl|rfl|rfl|rfl|rfl|rfl|rfl<;>omega
theorem aaR(k q ep pe ek p i b he hn:Int)(w:tA)(h:¬aE k q ep pe ek p i b he hn=0):
  cA 179 #[.agg #[iV k,iV q,iV ep,iV pe,iV ek,iV p,iV i,iV b,iV he,iV hn]] w fun e w'=>
   e= .returned (.tuple #[.slice none 0 0,iV (aE k q ep pe ek p i b he hn)])∧bZ w w':=by
 go_enter Tryz.func179,Tryz.ntmps179
 go_wp2_with fail
 refine(j6 _ _ _ _ _ _ _ _ _ _ _).mono ?_;rintro e w1 ⟨rfl,b1⟩;have fM:(aE k q ep pe ek p i b he hn !=0)=true:=by simpa using h
 clear h;go_wp2;go_ret2;exact⟨rfl,oo b1⟩
theorem aaM(k:Int)(w:tA)(h:k=2∨k=5):cA 209 #[iV k] w fun e w'=>e= .returned (.bool true)∧w=w':=by
 rcases h with rfl|rfl
 all_goals
  go_enter Tryz.func209,Tryz.ntmps209;go_wp2;go_ret;exact⟨rfl,rfl⟩
theorem vK(k:Int)(w:tA)(h:¬(k=2∨k=5)):cA 209 #[iV k] w fun e w'=>e= .returned (.bool false)∧w=w':=by
 have h2:(k==2)=false:=by simp;omega
 have h5:(k==5)=false:=by simp;omega
 clear h;go_enter Tryz.func209,Tryz.ntmps209;go_wp2;go_ret;exact⟨rfl,rfl⟩
theorem DM(l:tG)(j:Nat)(h:j<l.length):l.take (j+1)=l.take j++[l.getD j 0]:=by
 rw[Bf h];simp[h]
theorem uM(w:tA)(b o:Nat)(ho:o<10):(w.alloc (.cells (dU b) 294)).cell? ⟨w.heap.size,o,none⟩=some (.pointer (some ⟨b,o,none⟩)):=by
 match o,ho with
 |0,_|1,_|2,_|3,_|4,_|5,_|6,_|7,_|8,_|9,_=>simp[dU]
theorem DN(w:tA)(l:tG)(t o:Nat)(ho:o<l.length):(w.alloc (.cells (l.map (Value.int .i64)).toArray t)).cell? ⟨w.heap.size,o,none⟩=some (iV (l.getD o 0)):=by
 simp[ho]
theorem Mo{w:tA}{base e n:Nat}{v:tK}{l:tG}(h:w.ownsRow base e 1 v n (l.map (Value.int .i64)))(h0:0<n):
  ∃g cap,v= .slice (some ⟨g,0,none⟩) n cap∧base≤g∧g<w.heap.size∧∀k,k<n→w.cell? ⟨g,0+k,none⟩=some (iV (l.getD k 0)):=by
 have hl:l.length=n:=by have:=h.1;simpa using this
 rcases h.2 with⟨_,rfl⟩|⟨g,cap,cur,rfl,hb,hg,hc,hm,_⟩
 ·omega
 ·refine⟨g,cap,rfl,hb,(h.lt g rfl).2,fun k hk=> ?_⟩;rw[Ae,h.cellAt k (by omega),Ar,Ag (by omega)];simp[List.getElem?_eq_getElem (show k<l.length by omega)]
theorem Ko(k q ep pe ek p i b he hn:Int)(w:tA)(h:aE k q ep pe ek p i b he hn=0)(hk:k=2∨k=5):
  cA 179 #[.agg #[iV k,iV q,iV ep,iV pe,iV ek,iV p,iV i,iV b,iV he,iV hn]] w fun e w'=>
   ∃g,e= .returned (.tuple #[.slice (some ⟨g,0,none⟩) 40 40,iV 0])∧w.heap.size≤g∧RowK .u8 w' (some ⟨g,0,none⟩) 40 (et [k,q,ep,pe,ek,p,i,b,he,hn])∧bZ w w':=by
 have HR:Hid (∀n∈[k,q,ep,pe,ek,p,i,b,he,hn],0≤n∧n≤2147483647):=j7 h;have HF:Hid (aE k q ep pe ek p i b he hn=0):=h;have HK:Hid (k=2∨k=5):=hk;clear h hk;obtain⟨i0,hi,Du,wh,uC⟩:=info_parts Tryz.Yn;go_enter Tryz.func179,Tryz.ntmps179
 go_wp2_with fail
 refine(j6 _ _ _ _ _ _ _ _ _ _ _).mono ?_;rintro e w1 ⟨rfl,b1⟩;rw[HF.out];have pr:∀o,w1.cell? ⟨w.heap.size,o,none⟩=_:=fun o=>b1.cell (p:=⟨w.heap.size,o,none⟩) (by simp);have hz:w.heap.size<w1.heap.size:=by have:=b1.size;simp at this;omega
 go_wp2_with fail
 refine(jo _ _).mono ?_;rintro e w2 ⟨rfl,b2⟩;have jB:∀o,w2.cell? ⟨w.heap.size,o,none⟩=_:=fun o=>(b2.cell (p:=⟨w.heap.size,o,none⟩) (by simpa using hz)).trans (pr o);have hz3:w.heap.size<w2.heap.size:=by have:=b2.size;omega
 go_wp2_with (go_at_call 209;refine(aaM _ _ HK.out).mono ?_;rintro e w3 ⟨rfl,rfl⟩)
 have hP:∀o,o<10→(w2.alloc (.cells (dU w.heap.size) 294)).cell? ⟨w2.heap.size,o,none⟩=some (.pointer (some ⟨w.heap.size,o,none⟩)):=fun o ho=>uM w2 _ o ho;have hQ:∀o,o<10→(w2.alloc (.cells (dU w.heap.size) 294)).cell? ⟨w.heap.size,o,none⟩=some (iV ([k,q,ep,pe,ek,p,i,b,he,hn].getD o 0)):=fun o ho=>by
  rw[(aA w2 _).cell (p:=⟨w.heap.size,o,none⟩) hz3,jB o];exact DN w [k,q,ep,pe,ek,p,i,b,he,hn] _ o ho
 have BB:Below w.heap.size w (w2.alloc (.cells (dU w.heap.size) 294)):=Below.next (Below.next (oo b1) b2) (aA w2 _);clear pr jB b1 b2;have HP:=bC hP;have HQ:=bC hQ;have HB:=bC BB;clear hP hQ BB
 go_loopw [7,22] (fun v t wr=>∃j:Nat,j≤10∧t=iV j∧wr.ownsRow (w2.heap.size+1) 3 1 v j (([k,q,ep,pe,ek,p,i,b,he,hn].take j).map (Value.int .i64))∧Below (w2.heap.size+1) (w2.alloc (.cells (dU w.heap.size) 294)) wr)
  (fun _ t _=>10-(intOf t).toNat)
 case atStart=>exact⟨0,Ak _,rfl,Bn _ _ _ _,Be _ _⟩
 case round=>
  obtain⟨j,hj,rfl,bM,gO⟩:=hrel;by_cases aM:j<10
  ·have kp:wr.cell? ⟨w2.heap.size,j,none⟩=some (.pointer (some ⟨w.heap.size,j,none⟩)):=(gO.cell (by simp)).trans (ae HP j (by omega));have kq:wr.cell? ⟨w.heap.size,j,none⟩=some (iV ([k,q,ep,pe,ek,p,i,b,he,hn].getD j 0)):=(gO.cell (by simp;omega)).trans (ae HQ j (by omega));obtain⟨x,hx⟩:∃x,[k,q,ep,pe,ek,p,i,b,he,hn].getD j 0=x:=⟨_,rfl⟩;rw[hx]at kq;have HX:=bC hx;clear hx;have iE:w2.heap.size+1≤wr.heap.size:=by have:=gO.size;simpa using this
   go_wp2_with (at_builtin;refine Cl _ rfl _ _ 71 rfl (w2.heap.size+1) 3 i0 (iV 0) 1 8 Tryz.underlying71 hi Du wh uC rfl (by decide) _ _ _ rfl (bM.alloc _) ⟨wr.heap.size,0,none⟩ 1 1 [iV x] rfl rfl (cell_one_new _ _ _) (Cp .i64 [x]) (by unfold maxLen;omega) (by omega) (by simp;omega) ?_;intro v' w4 hown4 hgrow4 _)
   have R1:Hid (w4.ownsRow (w2.heap.size+1) 3 1 v' (j+1) (([k,q,ep,pe,ek,p,i,b,he,hn].take (j+1)).map (Value.int .i64))):=by
    have ht:[k,q,ep,pe,ek,p,i,b,he,hn].take (j+1)=[k,q,ep,pe,ek,p,i,b,he,hn].take j++[x]:=by
     rw[←ae HX];exact DM [k,q,ep,pe,ek,p,i,b,he,hn] j (by simp;omega)
    rw[ht,AB];exact hown4
   have R2:Below (w2.heap.size+1) (w2.alloc (.cells (dU w.heap.size) 294)) w4:=(gO.alloc iE _).grown hgrow4 (by simp;omega) (by intro t ht;exact(bM.lt t ht).1);clear hown4 hgrow4 bM kp kq;go_wp2
   go_roundw
   case rel=>exact⟨j+1,by omega,by go_num,R1.out,R2⟩
   case measure=>simp[intOf];omega
  ·have Rw:j=10:=by omega
   subst Rw;obtain⟨g,cap,hv,Jo,EP,hg3⟩:=Mo bM (by omega);subst hv;clear bM
   go_wp2_with fail
   refine(LP g 0 cap [k,q,ep,pe,ek,p,i,b,he,hn] _ EP (by simp) ?_ hg3).mono ?_
   ·intro n sC;exact HR.out n (by simp at sC⊢;exact sC)
   rintro e w5 ⟨rfl,hr5,Ql⟩;go_wp2;go_ret2;refine⟨_,rfl, ?_,hr5, ?_⟩
   ·have:=gO.size;simp at this;omega
   ·exact Below.next (Below.next (ae HB) (gO.mono (by simp))) Ql
theorem Ht(k q ep pe ek p i b he hn:Int)(w:tA)(h:aE k q ep pe ek p i b he hn=0)(hk:¬(k=2∨k=5)):
  cA 179 #[.agg #[iV k,iV q,iV ep,iV pe,iV ek,iV p,iV i,iV b,iV he,iV hn]] w fun e w'=>
   ∃g,e= .returned (.tuple #[.slice (some ⟨g,0,none⟩) 16 16,iV 0])∧w.heap.size≤g∧RowK .u8 w' (some ⟨g,0,none⟩) 16 (et [k,q,ep,pe])∧bZ w w':=by
 have HR:Hid (∀n∈[k,q,ep,pe,ek,p,i,b,he,hn],0≤n∧n≤2147483647):=j7 h;have HF:Hid (aE k q ep pe ek p i b he hn=0):=h;have HK:Hid (¬(k=2∨k=5)):=hk;clear h hk;obtain⟨i0,hi,Du,wh,uC⟩:=info_parts Tryz.Yn;go_enter Tryz.func179,Tryz.ntmps179
 go_wp2_with fail
 refine(j6 _ _ _ _ _ _ _ _ _ _ _).mono ?_;rintro e w1 ⟨rfl,b1⟩;rw[HF.out];have pr:∀o,w1.cell? ⟨w.heap.size,o,none⟩=_:=fun o=>b1.cell (p:=⟨w.heap.size,o,none⟩) (by simp);have hz:w.heap.size<w1.heap.size:=by have:=b1.size;simp at this;omega
 go_wp2_with fail
 refine(jo _ _).mono ?_;rintro e w2 ⟨rfl,b2⟩;have jB:∀o,w2.cell? ⟨w.heap.size,o,none⟩=_:=fun o=>(b2.cell (p:=⟨w.heap.size,o,none⟩) (by simpa using hz)).trans (pr o);have hz3:w.heap.size<w2.heap.size:=by have:=b2.size;omega
 go_wp2_with (go_at_call 209;refine(vK _ _ HK.out).mono ?_;rintro e w3 ⟨rfl,rfl⟩)
 have hP:∀o,o<10→(w2.alloc (.cells (dU w.heap.size) 294)).cell? ⟨w2.heap.size,o,none⟩=some (.pointer (some ⟨w.heap.size,o,none⟩)):=fun o ho=>uM w2 _ o ho;have hQ:∀o,o<10→(w2.alloc (.cells (dU w.heap.size) 294)).cell? ⟨w.heap.size,o,none⟩=some (iV ([k,q,ep,pe,ek,p,i,b,he,hn].getD o 0)):=fun o ho=>by
  rw[(aA w2 _).cell (p:=⟨w.heap.size,o,none⟩) hz3,jB o];exact DN w [k,q,ep,pe,ek,p,i,b,he,hn] _ o ho
 have BB:Below w.heap.size w (w2.alloc (.cells (dU w.heap.size) 294)):=Below.next (Below.next (oo b1) b2) (aA w2 _);clear pr jB b1 b2;have HP:=bC hP;have HQ:=bC hQ;have HB:=bC BB;clear hP hQ BB
 go_loopw [7,22] (fun v t wr=>∃j:Nat,j≤4∧t=iV j∧wr.ownsRow (w2.heap.size+1) 3 1 v j (([k,q,ep,pe,ek,p,i,b,he,hn].take j).map (Value.int .i64))∧Below (w2.heap.size+1) (w2.alloc (.cells (dU w.heap.size) 294)) wr)
  (fun _ t _=>4-(intOf t).toNat)
 case atStart=>exact⟨0,Ak _,rfl,Bn _ _ _ _,Be _ _⟩
 case round=>
  obtain⟨j,hj,rfl,bM,gO⟩:=hrel;by_cases aM:j<4
  ·have kp:wr.cell? ⟨w2.heap.size,j,none⟩=some (.pointer (some ⟨w.heap.size,j,none⟩)):=(gO.cell (by simp)).trans (ae HP j (by omega));have kq:wr.cell? ⟨w.heap.size,j,none⟩=some (iV ([k,q,ep,pe,ek,p,i,b,he,hn].getD j 0)):=(gO.cell (by simp;omega)).trans (ae HQ j (by omega));obtain⟨x,hx⟩:∃x,[k,q,ep,pe,ek,p,i,b,he,hn].getD j 0=x:=⟨_,rfl⟩;rw[hx]at kq;have HX:=bC hx;clear hx;have iE:w2.heap.size+1≤wr.heap.size:=by have:=gO.size;simpa using this
   go_wp2_with (at_builtin;refine Cl _ rfl _ _ 71 rfl (w2.heap.size+1) 3 i0 (iV 0) 1 8 Tryz.underlying71 hi Du wh uC rfl (by decide) _ _ _ rfl (bM.alloc _) ⟨wr.heap.size,0,none⟩ 1 1 [iV x] rfl rfl (cell_one_new _ _ _) (Cp .i64 [x]) (by unfold maxLen;omega) (by omega) (by simp;omega) ?_;intro v' w4 hown4 hgrow4 _)
   have R1:Hid (w4.ownsRow (w2.heap.size+1) 3 1 v' (j+1) (([k,q,ep,pe,ek,p,i,b,he,hn].take (j+1)).map (Value.int .i64))):=by
    have ht:[k,q,ep,pe,ek,p,i,b,he,hn].take (j+1)=[k,q,ep,pe,ek,p,i,b,he,hn].take j++[x]:=by
     rw[←ae HX];exact DM [k,q,ep,pe,ek,p,i,b,he,hn] j (by simp;omega)
    rw[ht,AB];exact hown4
   have R2:Below (w2.heap.size+1) (w2.alloc (.cells (dU w.heap.size) 294)) w4:=(gO.alloc iE _).grown hgrow4 (by simp;omega) (by intro t ht;exact(bM.lt t ht).1);clear hown4 hgrow4 bM kp kq;go_wp2
   go_roundw
   case rel=>exact⟨j+1,by omega,by go_num,R1.out,R2⟩
   case measure=>simp[intOf];omega
  ·have Rw:j=4:=by omega
   subst Rw;obtain⟨g,cap,hv,Jo,EP,hg3⟩:=Mo bM (by omega);subst hv;clear bM
   go_wp2_with fail
   refine(LP g 0 cap [k,q,ep,pe] _ EP (by simp) ?_ hg3).mono ?_
   ·intro n sC;exact HR.out n (by simp at sC⊢;rcases sC with h|h|h|h<;>simp[h])
   rintro e w5 ⟨rfl,hr5,Ql⟩;go_wp2;go_ret2;refine⟨_,rfl, ?_,hr5, ?_⟩
   ·have:=gO.size;simp at this;omega
   ·exact Below.next (Below.next (ae HB) (gO.mono (by simp))) Ql
theorem lO(n:Int)(ah9:0≤n)(ah_:n<2^62):IntKind.i64.wrap n=n:=by rw[Ct];omega
theorem ae_(c0 c1:Int)(r0:0≤c0)(s0:c0≤255)(r1:0≤c1)(s1:c1≤255):bits .or .i64 (c0*16777216) (c1*65536)=c0*16777216+c1*65536:=
 bits_join .i64 62 (by decide) lO 24 _ _ (by omega) (by omega) (by omega) (by omega) (by omega) (by omega)
theorem afa(c0 c1 c2:Int)(r0:0≤c0)(s0:c0≤255)(r1:0≤c1)(s1:c1≤255)(r2:0≤c2)(s2:c2≤255):bits .or .i64 (c0*16777216+c1*65536) (c2*256)=c0*16777216+c1*65536+c2*256:=
 bits_join .i64 62 (by decide) lO 16 _ _ (by omega) (by omega) (by omega) (by omega) (by omega) (by omega)
theorem or8(c0 c1 c2 c3:Int)(r0:0≤c0)(s0:c0≤255)(r1:0≤c1)(s1:c1≤255)(r2:0≤c2)(s2:c2≤255)(r3:0≤c3)(s3:c3≤255):bits .or .i64 (c0*16777216+c1*65536+c2*256) c3=c0*16777216+c1*65536+c2*256+c3:=
 bits_join .i64 62 (by decide) lO 8 _ _ (by omega) (by omega) (by omega) (by omega) (by omega) (by omega)
def gT(l:tG):Int×Int:=
 if l.length<4 then(0,4)
 else if 127<l.getD 0 0 then(0,2)
 else(16777216*l.getD 0 0+65536*l.getD 1 0+256*l.getD 2 0+l.getD 3 0,0)
theorem Kp(b off len cap:Nat)(c0 c1 c2 c3:Int)(w:tA)(hl:4≤len)
  (k0:w.cell? ⟨b,off,none⟩=some (.int .u8 c0)) (k1:w.cell? ⟨b,off+1,none⟩=some (.int .u8 c1)) (k2:w.cell? ⟨b,off+2,none⟩=some (.int .u8 c2)) (k3:w.cell? ⟨b,off+3,none⟩=some (.int .u8 c3))
  (r0:0≤c0) (s0:c0≤255) (r1:0≤c1) (s1:c1≤255) (r2:0≤c2) (s2:c2≤255) (r3:0≤c3) (s3:c3≤255):
  cA 237 #[.slice (some ⟨b,off,none⟩) len cap] w fun e w'=>
   e= .returned (if 127<c0 then .tuple #[iV 0,iV 2]else .tuple #[iV (16777216*c0+65536*c1+256*c2+c3),iV 0])∧∃n,w'=w.drewN n:=by
 have J1:=ae_ c0 c1 r0 s0 r1 s1;have J2:=afa c0 c1 c2 r0 s0 r1 s1 r2 s2;have J3:=or8 c0 c1 c2 c3 r0 s0 r1 s1 r2 s2 r3 s3;by_cases hc:127<c0
 ·rw[if_pos hc];go_enter Tryz.func237,Tryz.ntmps237;go_wp2
  go_quiet (fail)
  go_wp2;go_ret2;exact⟨rfl,_,rfl⟩
 ·rw[if_neg hc];go_enter Tryz.func237,Tryz.ntmps237;go_wp2
  go_quiet (fail)
  go_wp2;go_ret2;refine⟨?_,_,rfl⟩;rw[show 16777216*c0+65536*c1+256*c2+c3=c0*16777216+c1*65536+c2*256+c3 by omega];rfl
theorem Kq(a:tB)(len cap:Nat)(w:tA)(hl:len<4):cA 237 #[.slice a len cap] w fun e w'=>e= .returned (.tuple #[iV 0,iV 4])∧w=w':=by
 go_enter Tryz.func237,Tryz.ntmps237;go_wp2;go_ret2;exact⟨rfl,rfl⟩
theorem fq{l:tG}(hw:∀u∈l,(Lit.int .u8 u).wf=true)(k:Nat):0≤l.getD k 0∧l.getD k 0≤255:=by
 by_cases h:k<l.length
 ·have:=bounds_u8 (hw _ (GI l k h));omega
 ·rw[Ah,Bd (by omega)];simp
theorem mR{l:tG}(h:l.length<4):gT l=(0,4):=by simp[gT,h]
theorem Fp{l:tG}(h:¬l.length<4):Value.tuple #[iV (gT l).1,iV (gT l).2]=if 127<l.getD 0 0 then .tuple #[iV 0,iV 2]else .tuple #[iV (16777216*l.getD 0 0+65536*l.getD 1 0+256*l.getD 2 0+l.getD 3 0),iV 0]:=by
 unfold gT;rw[if_neg h];split<;>rfl
theorem RU(a:tB)(len cap:Nat)(l:tG)(w:tA)(h:RowK .u8 w a len l):
  cA 237 #[.slice a len cap] w fun e w'=>e= .returned (.tuple #[iV (gT l).1,iV (gT l).2])∧∃n,w'=w.drewN n:=by
 by_cases h4:l.length<4
 ·rw[mR h4];refine(Kq a len cap w (by rw[←h.cy];exact h4)).mono ?_;rintro e w' ⟨rfl,rfl⟩;exact⟨rfl,0,rfl⟩
 ·rw[Fp h4];have hl:=h.cy;obtain⟨b,off,rfl⟩:=h.form (by omega);have b0:=fq h.wf 0;have b1:=fq h.wf 1;have b2:=fq h.wf 2;have b3:=fq h.wf 3;exact Kp b off len cap _ _ _ _ w (by omega) (h.at 0 (by omega)) (h.at 1 (by omega)) (h.at 2 (by omega)) (h.at 3 (by omega)) b0.1 b0.2 b1.1 b1.2 b2.1 b2.2 b3.1 b3.2
def iY(p:Int×Int)(b:Int):Int×Int:=((p.1+b) % 65521,(p.2+(p.1+b) % 65521) % 65521)
def eF(l:tG):Int×Int:=l.foldl iY (1,0)
def sumOf(l:tG):Int:=(eF l).2*65536+(eF l).1
theorem Fq(l:tG)(k:Nat)(h:k<l.length):eF (l.take (k+1))=iY (eF (l.take k)) (l.getD k 0):=by
 rw[Bf h];simp only[eF,List.foldl_append,List.foldl_cons,List.foldl_nil];simp[h]
theorem Fs(l:tG)(p:Int×Int)(h0:0≤p.1)(h1:p.1<65521)(h2:0≤p.2)(h3:p.2<65521):
  0≤(l.foldl iY p).1∧(l.foldl iY p).1<65521∧0≤(l.foldl iY p).2∧(l.foldl iY p).2<65521:=by
 induction l generalizing p with
 |nil=>exact⟨h0,h1,h2,h3⟩
 |cons b l ih=>exact ih (iY p b) (by simp only[iY];omega) (by simp only[iY];omega) (by simp only[iY];omega) (by simp only[iY];omega)
theorem pV(l:tG):0≤(eF l).1∧(eF l).1<65521∧0≤(eF l).2∧(eF l).2<65521:=
 Fs l (1,0) (by decide) (by decide) (by decide) (by decide)
theorem oR(l:tG):0≤sumOf l∧sumOf l<4293984256:=by
 have:=pV l;unfold sumOf;omega
theorem ZB(s f:Int)(h0:0≤f)(h1:f<65521)(h2:0≤s)(h3:s<65521):bits .or .i64 (s*65536) f=s*65536+f:=
 bits_join .i64 62 (by decide) lO 16 _ _ (by omega) (by omega) (by omega) (by omega) (by omega) (by omega)
theorem VW(a:tB)(len cap:Nat)(l:tG)(w:tA)(h:RowK .u8 w a len l)(hm:len≤140737488351232):
  cA 213 #[.slice a len cap] w fun e w'=>e= .returned (iV (sumOf l))∧w=w':=by
 have hl:=h.cy;go_enter Tryz.func213,Tryz.ntmps213;go_wp2
 go_loopw [3,4,9] (fun x y i wr=>∃k:Nat,k≤len∧i=iV k∧x=iV (eF (l.take k)).1∧y=iV (eF (l.take k)).2∧wr=w)
  (fun _ _ i _=>len-(intOf i).toNat)
 case atStart=>exact⟨0,Ak _,rfl,rfl,rfl,rfl⟩
 case round=>
  obtain⟨k,hk,rfl,rfl,rfl,rfl⟩:=hrel;have hb:=pV (l.take k);by_cases aM:k<len
  ·have HX:Hid (eF (l.take (k+1))=iY (eF (l.take k)) (l.getD k 0)):=Fq l k (by omega);obtain⟨b,off,rfl⟩:=h.form (by omega);have hcx:=h.at k aM;have hx:=fq h.wf k;generalize eF (l.take k)=p at hb HX;generalize l.getD k 0=x at hcx hx HX;obtain⟨p,q⟩:=p;obtain⟨uw,mC,Ge,NU⟩:=hb;obtain⟨hx0,hx1⟩:=hx;simp only at uw mC Ge NU;clear h;go_wp2
   go_roundw
   case rel=>exact⟨k+1,by omega,by go_num,by rw[HX.out];first|done|rfl,by rw[HX.out];first|done|rfl,by first|rfl|trivial⟩
   case measure=>simp[intOf];omega
  ·have kW:k=len:=by omega
   subst kW;rw[AJ (by omega)]at*;have J:=ZB (eF l).2 (eF l).1 hb.1 hb.2.1 hb.2.2.1 hb.2.2.2;have HX:Hid (sumOf l=(eF l).2*65536+(eF l).1):=rfl;generalize eF l=p at hb HX J;obtain⟨p,q⟩:=p;obtain⟨uw,mC,Ge,NU⟩:=hb;simp only at uw mC Ge NU J;go_wp2;go_ret;exact⟨by rw[HX.out];rfl,rfl⟩
theorem lR(a:tB)(len cap:Nat)(s:Int)(w:tA)(h1:len≤100000)(h2:0≤s)(h3:s≤len):
  cA 136 #[.agg #[.slice a len cap,iV s]] w (rB (.bool true) w):=by
 have d1:(len:Int)≤100000:=by omega
 go_enter Tryz.func136,Tryz.ntmps136;go_wp2;go_ret;exact⟨rfl,aA _ _⟩
theorem Hu(a:tB)(len cap:Nat)(s:Int)(w:tA)(hm:len≤140737488351232)(h:¬(len≤100000∧0≤s∧s≤len)):
  cA 136 #[.agg #[.slice a len cap,iV s]] w (rB (.bool false) w):=by
 by_cases h1:len≤100000
 ·have d1:(len:Int)≤100000:=by omega
  by_cases h2:0≤s
  ·have d2:¬s≤(len:Int):=by omega
   clear h;go_enter Tryz.func136,Tryz.ntmps136;go_wp2;go_ret;exact⟨rfl,aA _ _⟩
  ·clear h;go_enter Tryz.func136,Tryz.ntmps136;go_wp2;go_ret;exact⟨rfl,aA _ _⟩
 ·have d1:¬(len:Int)≤100000:=by omega
  clear h;go_enter Tryz.func136,Tryz.ntmps136;go_wp2;go_ret;exact⟨rfl,aA _ _⟩
structure Part where
 a:Option Addr
 len:Nat
 cap:Nat
 l:List Int
def cY:Part:=⟨none,0,0,[]⟩
def dr(ps:List Part):Nat:=(ps.map (·.len)).sum
def dV(ps:List Part):List Int:=ps.flatMap (·.l)
theorem Hv(ps:List Part)(k:Nat)(h:k<ps.length):ps.take (k+1)=ps.take k++[ps.getD k cY]:=by
 rw[Bf h];simp[h]
theorem yq(ps:List Part)(k:Nat)(h:k<ps.length):dr (ps.take (k+1))=dr (ps.take k)+(ps.getD k cY).len:=by
 rw[Hv ps k h];simp[dr]
theorem Ft(ps:List Part)(k:Nat)(h:k<ps.length):dV (ps.take (k+1))=dV (ps.take k)++(ps.getD k cY).l:=by
 rw[Hv ps k h];simp[dV]
theorem oS(ps:List Part)(k:Nat):dr (ps.take k)≤dr ps:=by
 have h:dr (ps.take k++ps.drop k)=dr (ps.take k)+dr (ps.drop k):=by simp only[dr,List.map_append,List.sum_append]
 rw[BN]at h;omega
theorem yr(b off cap:Nat)(ps:List Part)(w:tA)(hlen:ps.length≤1000)(hb:b<w.heap.size)(hs:dr ps≤1000000)
  (hc:∀k,k<ps.length→w.cell? ⟨b,off+k,none⟩=some (.slice (ps.getD k cY).a (ps.getD k cY).len (ps.getD k cY).cap))
  (hr:∀k,k<ps.length→RowK .u8 w (ps.getD k cY).a (ps.getD k cY).len (ps.getD k cY).l∧((ps.getD k cY).a=none→(ps.getD k cY).cap=0)):
  cA 138 #[.slice (some ⟨b,off,none⟩) ps.length cap] w fun e w'=>
   ∃a' bh,e= .returned (.slice a' (dr ps) bh)∧RowK .u8 w' a' (dr ps) (dV ps)∧dr ps≤bh∧(a'=none→bh=0)∧bh≤9223372036854775807∧(∀x,a'=some x→w.heap.size≤x.block)∧bZ w w'∧w'.ownsRow w.heap.size 5 1 (.slice a' (dr ps) bh) (dr ps) ((dV ps).map (Value.int .u8)):=by
 obtain⟨i0,hi,Du,wh,uC⟩:=info_parts Tryz.QZ;have HC:=bC hc;have HR:=bC hr;clear hc hr;go_enter Tryz.func138,Tryz.ntmps138;go_wp2
 go_loopw [3,11] (fun v t wr=>∃j:Nat,j≤ps.length∧t=iV j∧v=iV (dr (ps.take j))∧w=wr) (fun _ t _=>ps.length-(intOf t).toNat)
 case atStart=>exact⟨0,Ak _,rfl,rfl,rfl⟩
 case round=>
  obtain⟨j,hj,rfl,rfl,rfl⟩:=hrel;have ht:=oS ps j;by_cases aM:j<ps.length
  ·have kq:=ae HC j aM;have HX:Hid (dr (ps.take (j+1))=dr (ps.take j)+(ps.getD j cY).len):=yq ps j aM;have zw:=oS ps (j+1);rw[ae HX]at zw;generalize ps.getD j cY=p at kq HX zw;obtain⟨pa,pl,pc,pb⟩:=p;generalize dr (ps.take j)=z at HX ht zw;simp only at kq zw;go_wp2
   go_roundw
   case rel=>exact⟨j+1,by omega,by go_num,by rw[ae HX];go_num,by first|rfl|trivial⟩
   case measure=>simp[intOf];omega
  ·have Rw:j=ps.length:=by omega
   subst Rw;rw[Bh]at*
   go_wp2_with (at_make;refine wpList_make_own _ rfl _ _ 122 rfl w.heap.size 5 i0 (.int .u8 0) 1 Tryz.underlying122 hi Du wh _ _ _ (dr ps) rfl rfl (by omega) (by rw[uC];omega) (by unfold maxLen;omega) (Aa _) ?_;intro w1 hown1 hgrow1)
   have mC:bZ w w1:=(Be _ _).grown hgrow1 (Aa _) (by simp)
   go_loopw [6,24] (fun v t wr=>∃j:Nat,j≤ps.length∧t=iV j∧wr.ownsRow w.heap.size 5 1 v (dr (ps.take j)) ((dV (ps.take j)).map (Value.int .u8))∧bZ w wr) (fun _ t _=>ps.length-(intOf t).toNat)
   case atStart=>exact⟨0,Nat.zero_le _,rfl,by simpa[dr,dV]using hown1,mC⟩
   case round=>
    obtain⟨j,hj,rfl,bM,gO⟩:=hrel;have ht:=oS ps j;by_cases aM:j<ps.length
    ·have kq:=(gO.cell hb).trans (ae HC j aM);have db:=(ae HR j aM).1.below gO;have pz:=(ae HR j aM).2;have HX:Hid (dr (ps.take (j+1))=dr (ps.take j)+(ps.getD j cY).len):=yq ps j aM;have HY:Hid (dV (ps.take (j+1))=dV (ps.take j)++(ps.getD j cY).l):=Ft ps j aM;have zw:=oS ps (j+1);rw[ae HX]at zw;generalize ps.getD j cY=p at kq HX zw db pz HY;obtain⟨pa,pl,pc,pb⟩:=p;simp only at kq zw db pz;have iE:=gO.size
     go_wp2_with (at_builtin;refine mE rfl _ _ 122 rfl w.heap.size 5 i0 (.int .u8 0) 1 Tryz.underlying122 hi Du wh uC rfl .u8 _ _ _ rfl bM pa pl pc pb rfl db pz (by unfold maxLen;omega) (by omega) (by omega) ?_;intro v' w4 hown4 hgrow4)
     have R1:Hid (w4.ownsRow w.heap.size 5 1 v' (dr (ps.take (j+1))) ((dV (ps.take (j+1))).map (Value.int .u8))):=by
      rw[ae HX,ae HY];exact hown4
     have R2:bZ w w4:=gO.grown hgrow4 (by omega) (by intro t ht;exact(bM.lt t ht).1);clear hown4 hgrow4 bM kq db;go_wp2
     go_roundw
     case rel=>exact⟨j+1,by omega,by go_num,R1.out,R2⟩
     case measure=>simp[intOf];omega
    ·have Rw:j=ps.length:=by omega
     subst Rw;rw[Bh]at*
     obtain⟨a',bh,rfl,hr,hc',hm',sC,hx'⟩:=RowK.xm bM (by
      intro u hu;simp only[dV,List.mem_flatMap]at hu;obtain⟨p,hp,hu⟩:=hu;obtain⟨k,hk,hpk⟩:=List.getElem_of_mem hp;have:=(ae HR k hk).1.wf u;rw[Ah,Ag hk]at this
      exact this (by simpa[hpk]using hu))
     have HO:=bC bM;clear bM;go_wp2;go_ret;exact⟨a',bh,rfl,hr,hc',sC,by unfold maxLen at hm';exact hm',hx',gO,ae HO⟩
theorem sb(b off cap:Nat)(ps:List Part)(w:tA)(hlen:ps.length≤1000)(hb:b<w.heap.size)(hs:dr ps≤1000000)
  (hc:∀k,k<ps.length→w.cell? ⟨b,off+k,none⟩=some (.slice (ps.getD k cY).a (ps.getD k cY).len (ps.getD k cY).cap))
  (hr:∀k,k<ps.length→RowK .u8 w (ps.getD k cY).a (ps.getD k cY).len (ps.getD k cY).l∧((ps.getD k cY).a=none→(ps.getD k cY).cap=0)):
  cA 138 #[.slice (some ⟨b,off,none⟩) ps.length cap] w fun e w'=>
   ∃a' bh,e= .returned (.slice a' (dr ps) bh)∧RowK .u8 w' a' (dr ps) (dV ps)∧dr ps≤bh∧(a'=none→bh=0)∧bh≤9223372036854775807∧(∀x,a'=some x→w.heap.size≤x.block)∧bZ w w':=by
 refine(yr b off cap ps w hlen hb hs hc hr).mono ?_;rintro e w' ⟨a',bh,h1,h2,h3,h4,h5,h6,h7,_⟩;exact⟨a',bh,h1,h2,h3,h4,h5,h6,h7⟩
def ak(l:tG)(j:Nat):Int:=(gT (l.drop (4*j))).1
def dG(l:tG)(j:Nat):Int:=(gT (l.drop (4*j))).2
def aK(w:tA)(R:Nat)(zs:tG):Prop:=zs.length=10∧w.heap[R]? =some (.cells (zs.map (Value.int .i64)).toArray 167 (0,0))
def Fu(l zs:tG)(s:Nat):Nat→List Int
 |0=>zs
 |j+1=>(Fu l zs s j).set (s+j) (ak l j)
structure aO(R:Nat)(w w':tA):Prop where
 os:w'.os=w.os
 tape:w'.tape=w.tape
 output:w'.output=w.output
 size:w'.heap.size=w.heap.size
 block:∀k,k≠R→w'.heap[k]? =w.heap[k]?
theorem aO.refl(R:Nat)(w:tA):aO R w w:=⟨rfl,rfl,rfl,rfl,fun _ _=>rfl⟩
theorem aO.trans{R:Nat}{a b c:tA}(h:aO R a b)(k:aO R b c):aO R a c:=
 ⟨k.os.trans h.os,k.tape.trans h.tape,k.output.trans h.output,k.size.trans h.size,fun x hx=>(k.block x hx).trans (h.block x hx)⟩
theorem aO.drewN(R:Nat)(w:tA)(n:Nat):aO R w (w.drewN n):=⟨rfl,rfl,rfl,rfl,fun _ _=>rfl⟩
theorem aO.cell{R:Nat}{w w':tA}(h:aO R w w'){b o:Nat}(hb:b≠R):w'.cell? ⟨b,o,none⟩=w.cell? ⟨b,o,none⟩:=Ck (w:=w) (h.block b hb)
theorem aO.row{R:Nat}{k:IntKind}{w w':tA}(h:aO R w w'){a:tB}{len:Nat}{l:tG}(hr:RowK k w a len l)(fM:∀x,a=some x→0<len→x.block≠R):RowK k w' a len l:=
 ⟨hr.cy,hr.wf,fun i hi=>by
  obtain⟨b,off,ha,aM,hc⟩:=hr.cell i hi
  exact⟨b,off,ha,by rw[h.size];exact aM,(h.cell (fM _ ha (by omega))).trans hc⟩⟩
theorem aK.cell{w:tA}{R:Nat}{zs:tG}(h:aK w R zs)(o:Nat)(ho:o<10):w.cell? ⟨R,o,none⟩=some (iV (zs.getD o 0)):=by
 have:=h.1;simp[World.cell?,h.2,show o<zs.length by omega]
theorem aK.free{w:tA}{R:Nat}{zs:tG}(h:aK w R zs)(o:Nat):w.frozen? ⟨R,o,none⟩=false:=by
 simp[World.frozen?,h.2]
theorem aK.lt{w:tA}{R:Nat}{zs:tG}(h:aK w R zs):R<w.heap.size:=by
 rcases AA R w.heap.size with h'|h'
 ·exact h'
 ·have:=h.2;rw[Bc h']at this;cases this
theorem aK.set{w:tA}{R:Nat}{zs:tG}(h:aK w R zs)(o:Nat)(x:Int):aK (w.setCell ⟨R,o,none⟩ (iV x)) R (zs.set o x):=by
 refine⟨by simpa using h.1, ?_⟩;rw[Cn w R o _ _ (0,0) _ h.2];rw[setRow_heap w R _ _ _ _ h.2];simp[List.map_set]
theorem aK.drewN{w:tA}{R:Nat}{zs:tG}(h:aK w R zs)(n:Nat):aK (w.drewN n) R zs:=h
theorem aO.set(R o:Nat)(w:tA)(v:tK):aO R w (w.setCell ⟨R,o,none⟩ v):=by
 refine⟨?_, ?_, ?_, ?_,fun k hk=>Below.heap_setCell w _ v k hk⟩<;>(unfold World.setCell;split<;>simp)
theorem RowK.ab5{k:IntKind}{w:tA}{b off len:Nat}{l:tG}(h:RowK k w (some ⟨b,off,none⟩) len l)(a:tB)(h4:4≤len)(ha:4<len→a=some ⟨b,off+4,none⟩):RowK k w a (len-4) (l.drop 4):=by
 refine⟨by simp[h.cy],fun u hu=>h.wf u (Bj hu),fun i hi=> ?_⟩;refine⟨b,off+4,ha (by omega),h.lt (by omega), ?_⟩;have:=h.at (4+i) (by omega);rw[BX,this];simp[List.getD_eq_getElem?_getD]
theorem Hw(N R s n ab6:Nat)(a:tB)(len cap:Nat)(l zs:tG)(w:tA)(hs:s+n≤10)(hN:N≠R)
    (hp:∀o,o<10→w.cell? ⟨N,o,none⟩=some (.pointer (some ⟨R,o,none⟩))) (hR:aK w R zs) (hb:RowK .u8 w a len l) (fM:∀x,a=some x→0<len→x.block≠R) (qv:len≤cap) (hc:cap≤9223372036854775807):
    cA 215 #[.slice (some ⟨N,s,none⟩) n ab6,.slice a len cap] w fun e w'=>
      ((∃a' bh fD,e= .returned (.slice a' fD bh)∧(∀t,t<n→dG l t=0)∧RowK .u8 w' a' fD (l.drop (4*n))∧(∀x,a'=some x→0<fD→x.block≠R)∧fD≤bh∧bh≤9223372036854775807∧aK w' R (Fu l zs s n))∨
       (∃t zs',t<n∧(∀u,u<t→dG l u=0)∧dG l t≠0∧e= .panicked [{v:= .iface 35 (iV (dG l t)),recovered:=false}]∧aK w' R zs'))∧aO R w w':=by
  go_enter Tryz.func215,Tryz.ntmps215;go_wp2
  go_loopw [1,11] (fun v i wr=>∃(j fD bh:Nat) (a':tB),j≤n∧i=iV j∧v= .slice a' fD bh∧(∀t,t<j→dG l t=0)∧RowK .u8 wr a' fD (l.drop (4*j))∧(∀x,a'=some x→0<fD→x.block≠R)∧fD≤bh∧bh≤9223372036854775807∧aK wr R (Fu l zs s j)∧aO R w wr)
    (fun _ i _=>n-(intOf i).toNat)
  case atStart=>exact⟨0,len,cap,a,Nat.zero_le _,rfl,rfl,fun t ht=>by omega,by simpa using hb,fM,qv,hc,hR,aO.refl _ _⟩
  case round=>
    obtain⟨j,fD,bh,a',hj,rfl,rfl,uN,db,hne',hlc',hc',hrec,hsame⟩:=hrel;by_cases aM:j<n
    ·have kp:wr.cell? ⟨N,s+j,none⟩=some (.pointer (some ⟨R,s+j,none⟩)):=(hsame.cell hN).trans (hp (s+j) (by omega));have HE:=bC uN;have HR:=bC db;have HC:=bC hrec;have HS:=bC hsame;clear uN db hrec hsame hR hb hp
     go_wp2_with fail
     refine(RU _ _ _ _ _ (ae HR)).mono ?_;rintro e w1 ⟨rfl,q,rfl⟩;by_cases hz:dG l j=0
     ·have h4:4≤fD:=by
         have h1:=(ae HR).cy;rcases AA (l.drop (4*j)).length 4 with h|h
         ·exfalso;have:=hz;unfold dG at this;rw[mR h]at this;simp at this
         ·omega
      obtain⟨b0,qR,rfl⟩:=(ae HR).form (by omega);have hz':((gT (l.drop (4*j))).2 !=0)=false:=by simpa[dG]using hz
      have kr:=(ae HC).cell (s+j) (by omega);have kf:=(ae HC).free (s+j);go_wp2
      go_region
      all_goals
        generalize hA:(if bh=4 then some (⟨b0,qR,none⟩:Addr)else some ⟨b0,qR+4,none⟩)=A';have HA:=bC hA;clear hA kr kf kp hz';go_wp2
        go_roundw
        case rel=>
          have hS:aO R wr ((wr.drewN (q+1)).setCell ⟨R,s+j,none⟩ (iV (gT (l.drop (4*j))).1)):=(aO.drewN R wr (q+1)).trans (aO.set R (s+j) _ _);have hdr:(l.drop (4*j)).drop 4=l.drop (4*(j+1)):=by rw[List.drop_drop];congr 1
          have hA4:4<fD→A'=some ⟨b0,qR+4,none⟩:=fun h=>by rw[←ae HA,if_neg (by omega)]
          have hAb:∀x,A'=some x→0<fD-4→x.block≠R:=fun x hx hp=>by
            have h1:=hne' _ rfl (by omega);rw[←ae HA]at hx;split at hx<;>(simp at hx;subst hx;exact h1)
          refine⟨j+1,fD-4,bh-4,A',by omega,by go_num,rfl, ?_, ?_,hAb,by omega,by omega, ?_,(ae HS).trans hS⟩
          ·intro t ht;by_cases h:t=j
           ·rw[h];exact hz
           ·exact ae HE t (by omega)
          ·rw[←hdr];exact hS.row ((ae HR).ab5 A' h4 hA4) hAb
          ·exact((ae HC).drewN (q+1)).set (s+j) _
        case measure=>simp[intOf];omega
     ·have hz':((gT (l.drop (4*j))).2 !=0)=true:=by simpa[dG]using hz
      go_wp2;exact⟨rfl,.inr ⟨j,_,aM,ae HE,hz,rfl,(ae HC).drewN q⟩,(ae HS).trans (aO.drewN R wr q)⟩
    ·have hjn:j=n:=by omega
     subst hjn;have HE:=bC uN;have HR:=bC db;have HC:=bC hrec;have HS:=bC hsame;clear uN db hrec hsame hR hb hp;go_wp2;go_ret;exact⟨.inl ⟨a',bh,fD,rfl,ae HE,ae HR,hne',hlc',hc',ae HC⟩,ae HS⟩
def aL(w:tA)(R:Nat)(a:tB)(len cap:Nat)(s:Int):Prop:=w.heap[R]? =some (.cells #[.slice a len cap,iV s] 124 (0,0))
theorem aL.cell0{w:tA}{R:Nat}{a:tB}{len cap:Nat}{s:Int}(h:aL w R a len cap s):w.cell? ⟨R,0,none⟩=some (.slice a len cap):=by
 unfold aL at h;simp[World.cell?,h]
theorem aL.kX{w:tA}{R:Nat}{a:tB}{len cap:Nat}{s:Int}(h:aL w R a len cap s):w.cell? ⟨R,1,none⟩=some (iV s):=by
 unfold aL at h;simp[World.cell?,h]
theorem aL.free{w:tA}{R:Nat}{a:tB}{len cap:Nat}{s:Int}(h:aL w R a len cap s)(o:Nat):w.frozen? ⟨R,o,none⟩=false:=by
 unfold aL at h;simp[World.frozen?,h]
theorem aL.lt{w:tA}{R:Nat}{a:tB}{len cap:Nat}{s:Int}(h:aL w R a len cap s):R<w.heap.size:=by
 unfold aL at h;rcases AA R w.heap.size with h'|h'
 ·exact h'
 ·simp[Array.getElem?_eq_none h']at h
theorem aL.below{w w':tA}{R B:Nat}{a:tB}{len cap:Nat}{s:Int}(h:aL w R a len cap s)(hb:Below B w w')(hR:R<B):aL w' R a len cap s:=by
 unfold aL at h⊢;rw[←h];exact hb.block R hR
theorem aL.new(w:tA)(a:tB)(len cap:Nat)(s:Int):aL (w.alloc (.cells #[.slice a len cap,iV s] 124)) w.heap.size a len cap s:=AQ w _
theorem aL.store{w:tA}{R:Nat}{a:tB}{len cap:Nat}{s:Int}(h:aL w R a len cap s)(a':tB)(fD bh:Nat)(s':Int):
  aL ((w.setCell ⟨R,0,none⟩ (.slice a' fD bh)).setCell ⟨R,1,none⟩ (iV s')) R a' fD bh s':=by
 unfold aL at h⊢;have h1:(w.setCell ⟨R,0,none⟩ (.slice a' fD bh)).heap[R]? =some (.cells #[.slice a' fD bh,iV s] 124 (0,0)):=by
  rw[Cn w R 0 _ _ (0,0) _ h,setRow_heap w R _ _ _ _ h];simp
 rw[Cn _ R 1 _ _ (0,0) _ h1,setRow_heap _ R _ _ _ _ h1];simp
theorem cF(w:tA)(R:Nat)(v v':tK):aO R w ((w.setCell ⟨R,0,none⟩ v).setCell ⟨R,1,none⟩ v'):=(aO.set R 0 w v).trans (aO.set R 1 _ v')
theorem aO.under{R B:Nat}{w w1 w2:tA}(hb:Below B w w1)(h:aO R w1 w2)(hR:B≤R):Below B w w2:=
 ⟨h.os.trans hb.os,h.tape.trans hb.tape,h.output.trans hb.output,by rw[h.size];exact hb.size,fun k hk=>(h.block k (by omega)).trans (hb.block k hk)⟩
theorem RV{W:tA}{R:Nat}{a:tB}{len cap:Nat}{s:Int}{tmps:tR}(h:aL W R a len cap s)(t:tmps[2]? =some (.pointer (some ⟨R,0,none⟩))):
  (results Tryz.f137 tmps).run Tryz.prog W= .ok (.agg #[.slice a len cap,iV s]) W:=by
 have k0:=h.cell0;have k1:=h.kX;simp[results,Tryz.results137,go_sem,k0,k1,t]
theorem RX{W:tA}{R:Nat}{a:tB}{len cap:Nat}{s e:Int}{tmps:tR}(h:aL W R a len cap s)(t:tmps[2]? =some (.pointer (some ⟨R,0,none⟩)))(te:tmps[3]? =some (iV e)):
  (results Tryz.f134 tmps).run Tryz.prog W= .ok (.tuple #[.agg #[.slice a len cap,iV s],iV e]) W:=by
 have k0:=h.cell0;have k1:=h.kX;simp[results,Tryz.results134,go_sem,k0,k1,t,te]
theorem DO{W:tA}{R:Nat}{a:tB}{len cap:Nat}{s e:Int}{tmps:tR}(h:aL W R a len cap s)(t:tmps[4]? =some (.pointer (some ⟨R,0,none⟩)))(te:tmps[5]? =some (iV e)):
  (results Tryz.f84 tmps).run Tryz.prog W= .ok (.tuple #[.agg #[.slice a len cap,iV s],iV e]) W:=by
 have k0:=h.cell0;have k1:=h.kX;simp[results,Tryz.results84,go_sem,k0,k1,t,te]
theorem Hx(a:tB)(len cap:Nat)(l:tG)(w:tA)(h:RowK .u8 w a len l)(hn:a=none→cap=0)(hm:len≤1000000):
  cA 137 #[.slice a len cap] w fun e w'=>
   ∃a' bh,e= .returned (.agg #[.slice a' len bh,iV len])∧RowK .u8 w' a' len l∧len≤bh∧(a'=none→bh=0)∧bh≤9223372036854775807∧(∀x,a'=some x→w.heap.size≤x.block)∧bZ w w':=by
 go_enter Tryz.func137,Tryz.ntmps137
 go_wp2_with fail
 refine(sb (w.heap.size+1) 0 1 [⟨a,len,cap,l⟩] _ (by simp) (by simp) (by simp[dr];omega) ?_ ?_).mono ?_
 ·intro k hk
  match k,hk with
  |0,_=>simp
 ·intro k hk
  match k,hk with
  |0,_=>exact⟨h.below (gj _ _ _),hn⟩
 rintro e w1 ⟨a',bh,rfl,r1,c1,n1,m1,x1,b1⟩;have e1:dr [⟨a,len,cap,l⟩]=len:=by simp[dr]
 have e2:dV [⟨a,len,cap,l⟩]=l:=by simp[dV]
 rw[e1,e2]at r1;rw[e1]at c1⊢;clear e1 e2;have tb:aL w1 w.heap.size none 0 0 0:=(((aL.new w none 0 0 0).below (aA _ _) (by simp)).below b1 (by simp;omega));have k0:=tb.cell0;have k1:=tb.kX;have kf:=tb.free;have B1:=bC (sG b1);have X1:Hid (∀x,a'=some x→w.heap.size+1≤x.block):=bC (fun x hx=>by have:=x1 x hx;simp at this;omega);clear b1 x1;go_wp2;refine Al (RV (tb.store a' len bh len) rfl) rfl ⟨a',bh,rfl,(cF w1 w.heap.size _ _).row r1 (fun x hx _=>by have:=ae X1 x hx;omega),c1,n1,m1,fun x hx=>by have:=ae X1 x hx;omega,(cF w1 w.heap.size _ _).under (ae B1) (Aa _)⟩
theorem nz(w:tA)(a:tB)(len cap:Nat)(s:Int):∃W,W=(w.alloc (.cells #[.slice a len cap,iV s] 124)).alloc (.cells #[.slice none 0 0,iV 0] 124)∧
  aL W w.heap.size a len cap s∧aL W (w.heap.size+1) none 0 0 0∧bZ w W∧W.heap.size=w.heap.size+2:=
 ⟨_,rfl,(aL.new w a len cap s).below (aA _ _) (by simp),by have:=aL.new (w.alloc (.cells #[.slice a len cap,iV s] 124)) none 0 0 0;simpa using this,gj _ _ _,by simp⟩
theorem RY(a:tB)(len cap:Nat)(l:tG)(s:Int)(w:tA)(h:RowK .u8 w a len l)(hn:a=none→cap=0)(h1:len≤100000)(h2:0≤s)(h3:s≤len):
  cA 134 #[.agg #[.slice a len cap,iV s]] w fun e w'=>
   ∃a' bh,e= .returned (.tuple #[.agg #[.slice a' len bh,iV len],iV 0])∧RowK .u8 w' a' len l∧len≤bh∧(a'=none→bh=0)∧bh≤9223372036854775807∧(∀x,a'=some x→w.heap.size≤x.block)∧bZ w w':=by
 go_enter Tryz.func134,Tryz.ntmps134
 go_wp2_with fail
 obtain⟨W,hW,tb0,sF,B0,S0⟩:=nz w a len cap s;rw[←hW];have r0:=h.below B0;clear hW;refine(lR a len cap s _ h1 h2 h3).mono ?_;rintro e w1 ⟨rfl,b1⟩;have r1:=r0.below b1;have z1:=b1.size;have ta:=tb0.below b1 tb0.lt;have wA:=sF.below b1 sF.lt;have B1:=Below.next B0 b1;have i0:=ta.cell0;clear tb0 sF r0 b1 B0
 go_wp2_with fail
 refine(Hx a len cap l _ r1 hn (by omega)).mono ?_;rintro e w2 ⟨a',bh,rfl,r2,c2,n2,m2,x2,b2⟩;have Oy:=wA.below b2 wA.lt;have B2:=Below.next B1 b2;have j0:=Oy.cell0;have j1:=Oy.kX;have jf:=Oy.free;clear wA b2 i0 ta;go_wp2;exact Al (RX (Oy.store a' len bh len) rfl rfl) rfl ⟨a',bh,rfl,(cF w2 _ _ _).row r2 (fun x hx _=>by have:=x2 x hx;omega),c2,n2,m2,fun x hx=>by have:=x2 x hx;omega,(cF w2 _ _ _).under B2 (by omega)⟩
theorem RowK.take{k:IntKind}{w:tA}{a:tB}{len:Nat}{l:tG}(h:RowK k w a len l)(n:Nat)(hn:n≤len):RowK k w a n (l.take n):=by
 have hl:=h.cy;refine⟨by simp;omega,fun u hu=>h.wf u (AK hu),fun i hi=> ?_⟩;obtain⟨b,off,ha,aM,hc⟩:=h.cell i (by omega);refine⟨b,off,ha,aM, ?_⟩;rw[hc];simp[List.getD_eq_getElem?_getD,hi]
def leftOf(len:Nat)(s keep:Int):Nat:=(if keep<len-s then s+keep else len).toNat
theorem ab7(a:tB)(len cap:Nat)(s keep:Int)(w:tA)(hm:len≤140737488351232)(h:¬(len≤100000∧0≤s∧s≤len)):
  cA 84 #[.agg #[.slice a len cap,iV s],iV keep] w (rB (.tuple #[.agg #[.slice none 0 0,iV 0],iV 6]) w):=by
 go_enter Tryz.func84,Tryz.ntmps84
 go_wp2_with fail
 obtain⟨W,hW,tb0,sF,B0,S0⟩:=nz w a len cap s;rw[←hW];clear hW;refine(Hu a len cap s _ hm h).mono ?_;rintro e w1 ⟨rfl,b1⟩;have wA:=sF.below b1 sF.lt;have j0:=wA.cell0;have j1:=wA.kX;have jf:=wA.free;go_wp2;exact Al (DO (wA.store none 0 0 0) rfl rfl) rfl ⟨rfl,(cF w1 _ _ _).under (Below.next B0 b1) (by omega)⟩
theorem Oz(a:tB)(len cap:Nat)(l:tG)(s keep:Int)(w:tA)(h:RowK .u8 w a len l)(hn:a=none→cap=0)(hc:len≤cap)(h1:len≤100000)(h2:0≤s)(h3:s≤len)(hk:0≤keep)(Zk:keep≤9223372036854775807):
  cA 84 #[.agg #[.slice a len cap,iV s],iV keep] w fun e w'=>
   ∃a' bh,e= .returned (.tuple #[.agg #[.slice a' (leftOf len s keep) bh,iV (leftOf len s keep)],iV 0])∧RowK .u8 w' a' (leftOf len s keep) (l.take (leftOf len s keep))∧leftOf len s keep≤bh∧(a'=none→bh=0)∧bh≤9223372036854775807∧(∀x,a'=some x→w.heap.size≤x.block)∧bZ w w':=by
 have d0:¬keep<0:=by omega
 go_enter Tryz.func84,Tryz.ntmps84
 go_wp2_with fail
 obtain⟨W,hW,tb0,sF,B0,S0⟩:=nz w a len cap s;rw[←hW];have r0:=h.below B0;clear hW;refine(lR a len cap s _ h1 h2 h3).mono ?_;rintro e w1 ⟨rfl,b1⟩;have r1:=r0.below b1;have z1:=b1.size;have ta:=tb0.below b1 tb0.lt;have wA:=sF.below b1 sF.lt;have B1:=Below.next B0 b1;have i0:=ta.cell0;have i1:=ta.kX;clear tb0 sF r0 b1 B0;have hle:leftOf len s keep≤len:=by unfold leftOf;split<;>omega
 go_wp2_with fail
 all_goals
  first
   |rw[show(s+keep).toNat=leftOf len s keep by unfold leftOf;split<;>omega]
   |rw[show(s+(↑len-s)).toNat=leftOf len s keep by unfold leftOf;split<;>omega]
   |rw[show(s+min keep (↑len-s)).toNat=leftOf len s keep by unfold leftOf;split<;>omega]
  refine(Hx a (leftOf len s keep) cap (l.take (leftOf len s keep)) _ (r1.take (leftOf len s keep) hle) hn (by omega)).mono ?_;rintro e w2 ⟨a',bh,rfl,r2,c2,n2,m2,x2,b2⟩;have Oy:=wA.below b2 wA.lt;have B2:=Below.next B1 b2;have j0:=Oy.cell0;have j1:=Oy.kX;have jf:=Oy.free;clear wA b2 i0 ta;go_wp2;exact Al (DO (Oy.store a' (leftOf len s keep) bh (leftOf len s keep)) rfl rfl) rfl ⟨a',bh,rfl,(cF w2 _ _ _).row r2 (fun x hx _=>by have:=x2 x hx;omega),c2,n2,m2,fun x hx=>by have:=x2 x hx;omega,(cF w2 _ _ _).under B2 (by omega)⟩
theorem uO{w w':tA}{base e size n:Nat}{v:tK}{xs:tM}(h:w.ownsRow base e size v n xs)(hb:bZ w w'):w'.ownsRow base e size v n xs:=by
 obtain⟨h1,h2⟩:=h;refine⟨h1, ?_⟩;rcases h2 with h|⟨g,cap,cur,hv,hg,hh,r⟩
 ·exact .inl h
 ·refine .inr ⟨g,cap,cur,hv,hg, ?_,r⟩;have aM:g<w.heap.size:=by
   rcases AA g w.heap.size with h'|h'
   ·exact h'
   ·rw[Bc h']at hh;cases hh
  rw[hb.block g aM];exact hh
def kR(l:tG):List Int:=[(l.length:Int)/256,(l.length:Int) % 256]++l
def dL(l:tG):List Int:=kR l++four (sumOf (kR l))
theorem yt(l:tG):(kR l).length=l.length+2:=by simp[kR]
theorem mJ(l:tG):(dL l).length=l.length+6:=by simp[dL,kR,four]
theorem OA(n:Int)(h0:0≤n)(h1:n<4294967296):∀u∈four n,(Lit.int .u8 u).wf=true:=by
 intro u hu;simp only[four,List.mem_cons,List.not_mem_nil,or_false]at hu;rcases hu with rfl|rfl|rfl|rfl<;>exact WalkArith.wf_u8 (by omega)
theorem RZ(l:tG):∀u∈four (sumOf l),(Lit.int .u8 u).wf=true:=OA _ (oR l).1 (by have:=(oR l).2;omega)
theorem R9(n:Nat)(h:n≤65535):∀u∈[(n:Int)/256,(n:Int) % 256],(Lit.int .u8 u).wf=true:=by
 intro u hu;simp only[List.mem_cons,List.not_mem_nil,or_false]at hu;rcases hu with rfl|rfl<;>exact WalkArith.wf_u8 (by omega)
theorem bJ(w:tA)(o:Obj):(w.alloc o).heap.size=w.heap.size+1:=by simp
theorem yu(a:tB)(len cap:Nat)(l:tG)(w:tA)(h:RowK .u8 w a len l)(hm:len≤1000000):
  cA 188 #[.slice a len cap] w fun e w'=>
   e= .returned (.slice (some ⟨w.heap.size,0,none⟩) 4 4)∧RowK .u8 w' (some ⟨w.heap.size,0,none⟩) 4 (four (sumOf l))∧bZ w w':=by
 go_enter Tryz.func188,Tryz.ntmps188
 go_wp2_with fail
 refine(VW a len cap l _ h (by omega)).mono ?_;rintro e w1 ⟨rfl,rfl⟩;have hw:=RZ l;obtain⟨s0,s1⟩:=oR l;obtain⟨s,hs⟩:∃s,sumOf l=s:=⟨_,rfl⟩;rw[hs]at hw s0 s1;rw[hs];have HS:=bC hs;have hw:=bC hw;clear hs;go_wp2;go_ret;rw[ae HS];exact⟨rfl,RowK.Lz (World.ownsRow_lit (base:=w.heap.size) (e:=5) (size:=1) w ((four s).map (Value.int .u8)).toArray 4 (Aa _) (by decide) rfl) rfl (ae hw),aA _ _⟩
theorem OB(a:tB)(len cap:Nat)(l:tG)(w:tA)(h:RowK .u8 w a len l)(hn:a=none→cap=0)(hm:len≤65535):
  cA 180 #[.slice a len cap] w fun e w'=>
   ∃a' bh,e= .returned (.slice a' (len+6) bh)∧RowK .u8 w' a' (len+6) (dL l)∧len+6≤bh∧(a'=none→bh=0)∧bh≤9223372036854775807∧(∀x,a'=some x→w.heap.size≤x.block)∧bZ w w':=by
 obtain⟨i0,hi,Du,wh,uC⟩:=info_parts Tryz.QZ;have hl:=h.cy;go_enter Tryz.func180,Tryz.ntmps180
 go_wp2_with fail
 refine(yr (w.heap.size+1) 0 2 [⟨some ⟨w.heap.size,0,none⟩,2,2,[(len:Int)/256,(len:Int) % 256]⟩,⟨a,len,cap,l⟩] _ (by simp) (by simp) (by simp[dr];omega) ?_ ?_).mono ?_
 ·intro k hk
  match k,hk with
  |0,_=>simp
  |1,_=>simp
 ·intro k hk
  match k,hk with
  |0,_=>exact⟨(RowK.Lz (World.ownsRow_lit (base:=w.heap.size) (e:=5) (size:=1) w ([(len:Int)/256,(len:Int) % 256].map (Value.int .u8)).toArray 2 (Aa _) (by decide) rfl) rfl (R9 len hm)).below (aA _ _),by simp⟩
  |1,_=>exact⟨h.below (gj _ _ _),hn⟩
 rintro e w1 ⟨a1,cap1,rfl,r1,c1,n1,m1,x1,b1,o1⟩;have e1:dr [⟨some ⟨w.heap.size,0,none⟩,2,2,[(len:Int)/256,(len:Int) % 256]⟩,⟨a,len,cap,l⟩]=len+2:=by simp[dr];omega
 have e2:dV [⟨some ⟨w.heap.size,0,none⟩,2,2,[(len:Int)/256,(len:Int) % 256]⟩,⟨a,len,cap,l⟩]=kR l:=by simp[dV,kR,hl]
 rw[e1,e2]at r1 o1;rw[e1]at c1⊢;clear e1 e2;have B1:=bC (sG b1);have z1:w.heap.size+2≤w1.heap.size:=by have:=b1.size;rw[bJ,bJ]at this;omega
 rw[bJ,bJ]at o1;clear b1 x1
 go_wp2_with fail
 refine(yu a1 (len+2) cap1 (kR l) _ r1 (by omega)).mono ?_;rintro e w2 ⟨rfl,r2,b2⟩;have o2:=uO o1 b2;have z2:=b2.size
 go_wp2_with (at_builtin;refine mE rfl _ _ 122 rfl _ 5 i0 (.int .u8 0) 1 Tryz.underlying122 hi Du wh uC rfl .u8 _ _ _ rfl o2 _ 4 4 _ rfl r2 (by simp) (by unfold maxLen;omega) (by omega) (by omega) ?_;intro v' w3 hown3 hgrow3)
 have aM:=o2.lt
 obtain⟨a',bh,rfl,hr,hc',hm',sC,hx'⟩:=RowK.xm hown3 (fun u hu=>by
  rcases Ao.1 hu with hu|hu
  ·exact r1.wf u hu
  ·exact r2.wf u hu)
 have B3:Hid (bZ w w3):=(Below.next (ae B1) b2).grown hgrow3 (by omega) (by intro t ht;have:=(aM t ht).1;omega);have HR:Hid (RowK .u8 w3 a' (len+6) (dL l)):=hr;clear hown3 hgrow3 o1 o2 r2 hr aM;go_wp2;go_ret;exact⟨a',bh,rfl,ae HR,hc',sC,by unfold maxLen at hm';exact hm',fun x hx=>by have:=hx' x hx;omega,ae B3⟩
theorem aK.zero{w:tA}{R:Nat}{zs:tG}(h:aK w R zs):
  aK ((((((((((w.setCell ⟨R,0,none⟩ (iV 0)).setCell ⟨R,1,none⟩ (iV 0)).setCell ⟨R,2,none⟩ (iV 0)).setCell ⟨R,3,none⟩ (iV 0)).setCell ⟨R,4,none⟩ (iV 0)).setCell ⟨R,5,none⟩ (iV 0)).setCell ⟨R,6,none⟩ (iV 0)).setCell ⟨R,7,none⟩ (iV 0)).setCell ⟨R,8,none⟩ (iV 0)).setCell ⟨R,9,none⟩ (iV 0)) R [0,0,0,0,0,0,0,0,0,0]:=by
 have hl:=h.1
 match zs,hl,h with
 |[_,_,_,_,_,_,_,_,_,_],_,h=>exact(((((((((h.set 0 0).set 1 0).set 2 0).set 3 0).set 4 0).set 5 0).set 6 0).set 7 0).set 8 0).set 9 0
theorem aO.zero(w:tA)(R:Nat):
  aO R w ((((((((((w.setCell ⟨R,0,none⟩ (iV 0)).setCell ⟨R,1,none⟩ (iV 0)).setCell ⟨R,2,none⟩ (iV 0)).setCell ⟨R,3,none⟩ (iV 0)).setCell ⟨R,4,none⟩ (iV 0)).setCell ⟨R,5,none⟩ (iV 0)).setCell ⟨R,6,none⟩ (iV 0)).setCell ⟨R,7,none⟩ (iV 0)).setCell ⟨R,8,none⟩ (iV 0)).setCell ⟨R,9,none⟩ (iV 0)):=
 (((((((((aO.set R 0 w _).trans (aO.set R 1 _ _)).trans (aO.set R 2 _ _)).trans (aO.set R 3 _ _)).trans (aO.set R 4 _ _)).trans (aO.set R 5 _ _)).trans (aO.set R 6 _ _)).trans (aO.set R 7 _ _)).trans (aO.set R 8 _ _)).trans (aO.set R 9 _ _)
theorem aO.below{R B:Nat}{w w':tA}(h:aO R w w')(hB:B≤R):Below B w w':=
 ⟨h.os,h.tape,h.output,by rw[h.size];exact Aa _,fun k hk=>h.block k (by omega)⟩
theorem aK.other{w:tA}{R E:Nat}{zs:tG}(h:aK w R zs)(fM:R≠E)(o:Nat)(v:tK):aK (w.setCell ⟨E,o,none⟩ v) R zs:=
 ⟨h.1,(Below.heap_setCell w _ v R fM).trans h.2⟩
theorem ZC(R E:Nat)(zs:tG)(x y:Int)(t:tZ)(w:tA)(hR:aK w R zs)(hE:w.heap[E]? =some (.cells #[iV y] t (0,0)))(fM:R≠E):
  aK (((((((((((w.setCell ⟨R,0,none⟩ (iV 0)).setCell ⟨R,1,none⟩ (iV 0)).setCell ⟨R,2,none⟩ (iV 0)).setCell ⟨R,3,none⟩ (iV 0)).setCell ⟨R,4,none⟩ (iV 0)).setCell ⟨R,5,none⟩ (iV 0)).setCell ⟨R,6,none⟩ (iV 0)).setCell ⟨R,7,none⟩ (iV 0)).setCell ⟨R,8,none⟩ (iV 0)).setCell ⟨R,9,none⟩ (iV 0)).setCell ⟨E,0,none⟩ (iV x)).drew R [0,0,0,0,0,0,0,0,0,0]∧
  (((((((((((w.setCell ⟨R,0,none⟩ (iV 0)).setCell ⟨R,1,none⟩ (iV 0)).setCell ⟨R,2,none⟩ (iV 0)).setCell ⟨R,3,none⟩ (iV 0)).setCell ⟨R,4,none⟩ (iV 0)).setCell ⟨R,5,none⟩ (iV 0)).setCell ⟨R,6,none⟩ (iV 0)).setCell ⟨R,7,none⟩ (iV 0)).setCell ⟨R,8,none⟩ (iV 0)).setCell ⟨R,9,none⟩ (iV 0)).setCell ⟨E,0,none⟩ (iV x)).drew.cell? ⟨E,0,none⟩=some (iV x)∧
  Below (min R E) w (((((((((((w.setCell ⟨R,0,none⟩ (iV 0)).setCell ⟨R,1,none⟩ (iV 0)).setCell ⟨R,2,none⟩ (iV 0)).setCell ⟨R,3,none⟩ (iV 0)).setCell ⟨R,4,none⟩ (iV 0)).setCell ⟨R,5,none⟩ (iV 0)).setCell ⟨R,6,none⟩ (iV 0)).setCell ⟨R,7,none⟩ (iV 0)).setCell ⟨R,8,none⟩ (iV 0)).setCell ⟨R,9,none⟩ (iV 0)).setCell ⟨E,0,none⟩ (iV x)).drew:=by
 have h1:=hR.zero;have h2:=aO.zero w R;generalize((((((((((w.setCell ⟨R,0,none⟩ (iV 0)).setCell ⟨R,1,none⟩ (iV 0)).setCell ⟨R,2,none⟩ (iV 0)).setCell ⟨R,3,none⟩ (iV 0)).setCell ⟨R,4,none⟩ (iV 0)).setCell ⟨R,5,none⟩ (iV 0)).setCell ⟨R,6,none⟩ (iV 0)).setCell ⟨R,7,none⟩ (iV 0)).setCell ⟨R,8,none⟩ (iV 0)).setCell ⟨R,9,none⟩ (iV 0))=W at h1 h2;have hE':W.heap[E]? =some (.cells #[iV y] t (0,0)):=(h2.block E (Ne.symm fM)).trans hE;refine⟨h1.other fM 0 _, ?_,((h2.below (Nat.min_le_left _ _)).setCell (p:=⟨E,0,none⟩) (Nat.min_le_right _ _) _).drew⟩;show(W.setCell ⟨E,0,none⟩ (iV x)).cell? ⟨E,0,none⟩=_;rw[Ck (w:=W.setCell ⟨E,0,none⟩ (iV x)) rfl];have:=Cn W E 0 _ _ (0,0) (iV x) hE';rw[this];simp[World.cell?,setRow_heap W E _ _ _ _ hE']
theorem pt(R E:Nat)(zs:tG)(x y:Int)(t:tZ)(w:tA)(hR:aK w R zs)(hE:w.heap[E]? =some (.cells #[iV y] t (0,0)))(fM:R≠E):
  CallsD Tryz.prog 214 #[.pointer (some ⟨R,0,none⟩),.pointer (some ⟨E,0,none⟩)] (.panicking [{v:= .iface 35 (iV x),recovered:=false}]) w fun e u' w'=>
   e= .returned (.tuple #[])∧u'= .panicking [{v:= .iface 35 (iV x),recovered:=true}]∧aK w' R [0,0,0,0,0,0,0,0,0,0]∧w'.cell? ⟨E,0,none⟩=some (iV x)∧Below (min R E) w w':=by
 refine callsD_of_wpS Tryz.func214 rfl fun c₀ cs hu=> ?_;apply wpS_seq;apply wpS_region;simp[wpOpsS,go_sem,recoverD,hu,Tryz.ntmps214,Exit.thenS];have ht: #[Value.pointer (some ⟨R,0,none⟩),Value.pointer (some ⟨E,0,none⟩)]++(((Array.replicate 7 undef).setIfInBounds 1 (Value.iface 35 (iV x))).setIfInBounds 0 (Value.iface 35 (iV x)))=
   #[.pointer (some ⟨R,0,none⟩),.pointer (some ⟨E,0,none⟩),.iface 35 (iV x),.iface 35 (iV x),undef,undef,undef,undef,undef]:=rfl
 rw[ht];refine wpS_of_wp ?_;have k0:=hR.cell 0 (by omega);have k1:=hR.cell 1 (by omega);have k2:=hR.cell 2 (by omega);have k3:=hR.cell 3 (by omega);have k4:=hR.cell 4 (by omega);have k5:=hR.cell 5 (by omega);have k6:=hR.cell 6 (by omega);have k7:=hR.cell 7 (by omega);have k8:=hR.cell 8 (by omega);have k9:=hR.cell 9 (by omega);have kf:=hR.free;have ke:w.cell? ⟨E,0,none⟩=some (iV y):=by simp[World.cell?,hE]
 have OC:w.frozen? ⟨E,0,none⟩=false:=by simp[World.frozen?,hE]
 have ta:∀W:World,(Instr.typeAssert (.iface 35 (iV x)) 20 35 false).run Tryz.prog W= .ok (iV x) W:=fun _=>by kernel_rfl
 go_wp2
 go_region
 show bodyPostS _ _ _ _ _ _ _ _ _;have Z:=ZC R E zs x y t w hR hE fM;generalize(((((((((((w.setCell ⟨R,0,none⟩ (iV 0)).setCell ⟨R,1,none⟩ (iV 0)).setCell ⟨R,2,none⟩ (iV 0)).setCell ⟨R,3,none⟩ (iV 0)).setCell ⟨R,4,none⟩ (iV 0)).setCell ⟨R,5,none⟩ (iV 0)).setCell ⟨R,6,none⟩ (iV 0)).setCell ⟨R,7,none⟩ (iV 0)).setCell ⟨R,8,none⟩ (iV 0)).setCell ⟨R,9,none⟩ (iV 0)).setCell ⟨E,0,none⟩ (iV x)).drew=W at Z;clear k0 k1 k2 k3 k4 k5 k6 k7 k8 k9 kf ke OC ta hR hE;simp[bodyPostS,results,Tryz.results214];exact Z
theorem j8(p q:Addr)(w:tA):
  CallsD Tryz.prog 214 #[.pointer (some p),.pointer (some q)] .returning w fun e u' w'=>e= .returned (.tuple #[])∧u'= .returning∧w=w':=by
 refine callsD_of_wpS Tryz.func214 rfl fun c₀ cs hu=> ?_;apply wpS_seq;apply wpS_region;simp[wpOpsS,go_sem,recoverD,hu,Tryz.ntmps214,Exit.thenS];have ht: #[Value.pointer (some p),Value.pointer (some q)]++(((Array.replicate 7 undef).setIfInBounds 1 Value.nilIface).setIfInBounds 0 Value.nilIface)=
   #[.pointer (some p),.pointer (some q),.nilIface,.nilIface,undef,undef,undef,undef,undef]:=rfl
 rw[ht];refine wpS_of_wp ?_;go_wp2;show bodyPostS _ _ _ _ _ _ _ _ _;cases c₀
 simp_all [bodyPostS,results,Tryz.results214]
theorem aK.below{w w':tA}{R B:Nat}{zs:tG}(h:aK w R zs)(hb:Below B w w')(hR:R<B):aK w' R zs:=⟨h.1,(hb.block R hR).trans h.2⟩
def iP(l:tG):Nat→Nat→Int
 |_,0=>0
 |s,n+1=>if dG l s=0 then iP l (s+1) n else dG l s
def jq(k:Int):Bool:=decide (k=2∨k=5)
def fE(l:tG):List Int:=
 [ak l 0,ak l 1,ak l 2,ak l 3]++(if jq (ak l 0)then[ak l 4,ak l 5,ak l 6,ak l 7,ak l 8,ak l 9]else[0,0,0,0,0,0])
def jI(l:tG):Int:=aE (ak l 0) (ak l 1) (ak l 2) (ak l 3) ((fE l).getD 4 0) ((fE l).getD 5 0) ((fE l).getD 6 0) ((fE l).getD 7 0) ((fE l).getD 8 0) ((fE l).getD 9 0)
def eR:List Int:=[0,0,0,0,0,0,0,0,0,0]
def bT(l:tG):List Int×Int:=
 if ¬iP l 0 4=0 then(eR,iP l 0 4)
 else if jq (ak l 0)=true∧¬iP l 4 6=0 then(eR,iP l 4 6)
 else if ¬l.length=4*(if jq (ak l 0)then 10 else 4)∨¬jI l=0 then(eR,3)
 else(fE l,0)
def jJ(zs:tG):Value:= .agg (zs.map (Value.int .i64)).toArray
theorem mT(l:tG):∀(n s t:Nat),t<n→(∀u,u<t→dG l (s+u)=0)→dG l (s+t)≠0→iP l s n=dG l (s+t)
 |0,_,_,h,_,_=>by omega
 |n+1,s,0,_,_,h=>by simp only[iP];rw[if_neg (by simpa using h)];rfl
 |n+1,s,t+1,ht,hu,h=>by
  simp only[iP];rw[if_pos (by simpa using hu 0 (by omega)),mT l n (s+1) t (by omega) (fun u aM=>by have:=hu (u+1) (by omega);rw[show s+1+u=s+(u+1) by omega];exact this) (by rw[show s+1+t=s+(t+1) by omega];exact h)];rw[show s+1+t=s+(t+1) by omega]
theorem iQ(l:tG):∀(n s:Nat),(∀u,u<n→dG l (s+u)=0)→iP l s n=0
 |0,_,_=>rfl
 |n+1,s,h=>by
  simp only[iP];rw[if_pos (by simpa using h 0 (by omega))];exact iQ l n (s+1) (fun u hu=>by rw[show s+1+u=s+(u+1) by omega];exact h (u+1) (by omega))
theorem oT(l:tG)(t:Nat):dG (l.drop (4*4)) t=dG l (4+t):=by
 unfold dG;rw[List.drop_drop,show 4*4+4*t=4*(4+t) by omega]
theorem j9(l:tG)(t:Nat):ak (l.drop (4*4)) t=ak l (4+t):=by
 unfold ak;rw[List.drop_drop,show 4*4+4*t=4*(4+t) by omega]
theorem Fv{l:tG}{t:Nat}(ht:t<4)(hu:∀u,u<t→dG l u=0)(h:dG l t≠0):bT l=(eR,dG l t):=by
 have h1:=mT l 4 0 t ht (fun u aM=>by rw[Ae];exact hu u aM) (by rw[Ae];exact h);rw[Ae]at h1;unfold bT;rw[h1,if_pos h]
theorem A0{l:tG}{t:Nat}(h0:∀u,u<4→dG l u=0)(hk:ak l 0=2∨ak l 0=5)(ht:t<6)(hu:∀u,u<t→dG l (4+u)=0)(h:dG l (4+t)≠0):bT l=(eR,dG l (4+t)):=by
 have h1:=iQ l 4 0 (fun u aM=>by rw[Ae];exact h0 u aM);have h2:=mT l 6 4 t ht hu h;unfold bT;rw[h1,if_neg (by simp),h2,if_pos ⟨by simp[jq,hk],h⟩]
theorem qA{l:tG}(h0:∀u,u<4→dG l u=0)(hk:ak l 0=2∨ak l 0=5)(h4:∀u,u<6→dG l (4+u)=0):bT l=if ¬l.length=40∨¬jI l=0 then(eR,3)else(fE l,0):=by
 have h1:=iQ l 4 0 (fun u aM=>by rw[Ae];exact h0 u aM);have h2:=iQ l 6 4 h4;have h3:jq (ak l 0)=true:=by simp[jq,hk]
 unfold bT;rw[h1,if_neg (by simp),h2,if_neg (by simp),h3];rfl
theorem mK{l:tG}(h0:∀u,u<4→dG l u=0)(hk:¬(ak l 0=2∨ak l 0=5)):bT l=if ¬l.length=16∨¬jI l=0 then(eR,3)else(fE l,0):=by
 have h1:=iQ l 4 0 (fun u aM=>by rw[Ae];exact h0 u aM);have h3:jq (ak l 0)=false:=by simp only[jq,decide_eq_false_iff_not];exact hk
 unfold bT;rw[h1,if_neg (by simp),h3,if_neg (by simp)];rfl
theorem yv{l:tG}{n:Nat}(h:∀u,u<n+1→dG l u=0):4*(n+1)≤l.length:=by
 have h1:=h n (by omega);rcases AA (l.drop (4*n)).length 4 with h'|h'
 ·unfold dG at h1;rw[mR h']at h1;simp at h1
 ·simp at h';omega
theorem uP(W:tA)(E:Nat)(y x:Int)(t:tZ)(hE:W.heap[E]? =some (.cells #[iV y] t (0,0))):(W.setCell ⟨E,0,none⟩ (iV x)).cell? ⟨E,0,none⟩=some (iV x):=by
 have:=Cn W E 0 _ _ (0,0) (iV x) hE;rw[this];simp[World.cell?,setRow_heap W E _ _ _ _ hE]
theorem aK.Mp{W:tA}{R:Nat}{zs:tG}(v0 v1 v2 v3 v4 v5 v6 v7 v8 v9:Int)(h:aK W R zs):aK ((((((((((W.setCell ⟨R,0,none⟩ (iV v0)).setCell ⟨R,1,none⟩ (iV v1)).setCell ⟨R,2,none⟩ (iV v2)).setCell ⟨R,3,none⟩ (iV v3)).setCell ⟨R,4,none⟩ (iV v4)).setCell ⟨R,5,none⟩ (iV v5)).setCell ⟨R,6,none⟩ (iV v6)).setCell ⟨R,7,none⟩ (iV v7)).setCell ⟨R,8,none⟩ (iV v8)).setCell ⟨R,9,none⟩ (iV v9)) R [v0,v1,v2,v3,v4,v5,v6,v7,v8,v9]:=by
 have hl:=h.1
 match zs,hl,h with
 |[_,_,_,_,_,_,_,_,_,_],_,h=>exact(((((((((h.set 0 v0).set 1 v1).set 2 v2).set 3 v3).set 4 v4).set 5 v5).set 6 v6).set 7 v7).set 8 v8).set 9 v9
theorem aO.Mp(W:tA)(R:Nat)(v0 v1 v2 v3 v4 v5 v6 v7 v8 v9:Int):aO R W ((((((((((W.setCell ⟨R,0,none⟩ (iV v0)).setCell ⟨R,1,none⟩ (iV v1)).setCell ⟨R,2,none⟩ (iV v2)).setCell ⟨R,3,none⟩ (iV v3)).setCell ⟨R,4,none⟩ (iV v4)).setCell ⟨R,5,none⟩ (iV v5)).setCell ⟨R,6,none⟩ (iV v6)).setCell ⟨R,7,none⟩ (iV v7)).setCell ⟨R,8,none⟩ (iV v8)).setCell ⟨R,9,none⟩ (iV v9)):=
 (((((((((aO.set R 0 W _).trans (aO.set R 1 _ _)).trans (aO.set R 2 _ _)).trans (aO.set R 3 _ _)).trans (aO.set R 4 _ _)).trans (aO.set R 5 _ _)).trans (aO.set R 6 _ _)).trans (aO.set R 7 _ _)).trans (aO.set R 8 _ _)).trans (aO.set R 9 _ _)
theorem j_{w W:tA}{zs:tG}{y:Int}{t:tZ}(v0 v1 v2 v3 v4 v5 v6 v7 v8 v9 x:Int)(hR:aK W w.heap.size zs)(hE:W.heap[w.heap.size+1]? =some (.cells #[iV y] t (0,0)))(hB:bZ w W):
  aK (((((((((((W.setCell ⟨w.heap.size,0,none⟩ (iV v0)).setCell ⟨w.heap.size,1,none⟩ (iV v1)).setCell ⟨w.heap.size,2,none⟩ (iV v2)).setCell ⟨w.heap.size,3,none⟩ (iV v3)).setCell ⟨w.heap.size,4,none⟩ (iV v4)).setCell ⟨w.heap.size,5,none⟩ (iV v5)).setCell ⟨w.heap.size,6,none⟩ (iV v6)).setCell ⟨w.heap.size,7,none⟩ (iV v7)).setCell ⟨w.heap.size,8,none⟩ (iV v8)).setCell ⟨w.heap.size,9,none⟩ (iV v9)).setCell ⟨w.heap.size+1,0,none⟩ (iV x)) w.heap.size [v0,v1,v2,v3,v4,v5,v6,v7,v8,v9]∧
  (((((((((((W.setCell ⟨w.heap.size,0,none⟩ (iV v0)).setCell ⟨w.heap.size,1,none⟩ (iV v1)).setCell ⟨w.heap.size,2,none⟩ (iV v2)).setCell ⟨w.heap.size,3,none⟩ (iV v3)).setCell ⟨w.heap.size,4,none⟩ (iV v4)).setCell ⟨w.heap.size,5,none⟩ (iV v5)).setCell ⟨w.heap.size,6,none⟩ (iV v6)).setCell ⟨w.heap.size,7,none⟩ (iV v7)).setCell ⟨w.heap.size,8,none⟩ (iV v8)).setCell ⟨w.heap.size,9,none⟩ (iV v9)).setCell ⟨w.heap.size+1,0,none⟩ (iV x)).cell? ⟨w.heap.size+1,0,none⟩=some (iV x)∧
  Below w.heap.size w (((((((((((W.setCell ⟨w.heap.size,0,none⟩ (iV v0)).setCell ⟨w.heap.size,1,none⟩ (iV v1)).setCell ⟨w.heap.size,2,none⟩ (iV v2)).setCell ⟨w.heap.size,3,none⟩ (iV v3)).setCell ⟨w.heap.size,4,none⟩ (iV v4)).setCell ⟨w.heap.size,5,none⟩ (iV v5)).setCell ⟨w.heap.size,6,none⟩ (iV v6)).setCell ⟨w.heap.size,7,none⟩ (iV v7)).setCell ⟨w.heap.size,8,none⟩ (iV v8)).setCell ⟨w.heap.size,9,none⟩ (iV v9)).setCell ⟨w.heap.size+1,0,none⟩ (iV x)):=by
 have h1:=hR.Mp v0 v1 v2 v3 v4 v5 v6 v7 v8 v9;have h2:=aO.Mp W w.heap.size v0 v1 v2 v3 v4 v5 v6 v7 v8 v9;generalize((((((((((W.setCell ⟨w.heap.size,0,none⟩ (iV v0)).setCell ⟨w.heap.size,1,none⟩ (iV v1)).setCell ⟨w.heap.size,2,none⟩ (iV v2)).setCell ⟨w.heap.size,3,none⟩ (iV v3)).setCell ⟨w.heap.size,4,none⟩ (iV v4)).setCell ⟨w.heap.size,5,none⟩ (iV v5)).setCell ⟨w.heap.size,6,none⟩ (iV v6)).setCell ⟨w.heap.size,7,none⟩ (iV v7)).setCell ⟨w.heap.size,8,none⟩ (iV v8)).setCell ⟨w.heap.size,9,none⟩ (iV v9))=V at h1 h2;have hE':V.heap[w.heap.size+1]? =some (.cells #[iV y] t (0,0)):=(h2.block _ (by omega)).trans hE;exact⟨h1.other (by omega) 0 _,uP V _ y x t hE',((hB.trans (h2.below (Aa _))).setCell (p:=⟨w.heap.size+1,0,none⟩) (by simp) _)⟩
theorem gZ{w W:World}{zs:List Int}{x:Int}{tmps:Array Value}(h1:aK W w.heap.size zs)(h2:W.cell? ⟨w.heap.size+1,0,none⟩=some (.int .i64 x))(h3:Below w.heap.size w W)
  (t2:tmps[2]? =some (.pointer (some ⟨w.heap.size,0,none⟩))) (t3:tmps[3]? =some (.pointer (some ⟨w.heap.size+1,0,none⟩))):
  Leaves Tryz.prog Tryz.f189 tmps (fun e w'=>e= .returned (.tuple #[jJ zs,.int .i64 x])∧Below w.heap.size w w') [] .returning W:=by
 have hl:=h1.1;have k0:=h1.cell 0 (by omega);have k1:=h1.cell 1 (by omega);have k2:=h1.cell 2 (by omega);have k3:=h1.cell 3 (by omega);have k4:=h1.cell 4 (by omega);have k5:=h1.cell 5 (by omega);have k6:=h1.cell 6 (by omega);have k7:=h1.cell 7 (by omega);have k8:=h1.cell 8 (by omega);have k9:=h1.cell 9 (by omega);clear h1
 match zs,hl with
 |[y0,y1,y2,y3,y4,y5,y6,y7,y8,y9],_=>
  simp at k0 k1 k2 k3 k4 k5 k6 k7 k8 k9;simp[Leaves,results,Tryz.results189,go_sem,k0,k1,k2,k3,k4,k5,k6,k7,k8,k9,h2,jJ,t2,t3,h3]
theorem Fw(k:Int)(t:tG)(h0:0≤k)(h1:k≤2147483647):gT (four k++t)=(k,0):=by
 unfold gT four;have hl:¬([k/16777216,k/65536 % 256,k/256 % 256,k % 256]++t).length<4:=by simp
 rw[if_neg hl];simp only[List.cons_append,List.getD_cons_zero,List.getD_cons_succ];rw[if_neg (by omega)];congr 1;omega
theorem lt8(a b:Int)(ha0:0≤a)(ha1:a≤255)(uw:0≤b)(mC:b≤255):decide (UInt8.ofNat a.toNat<UInt8.ofNat b.toNat)=decide (a<b):=by
 rw[decide_eq_decide,UInt8.lt_iff_toNat_lt];simp only[UInt8.toNat_ofNat'];omega
theorem Kr(a:tB)(len cap:Nat)(l:tG)(w:tA)(hb:RowK .u8 w a len l)(qv:len≤cap)(hc:cap≤9223372036854775807):
  cA 189 #[.slice a len cap] w (rB (.tuple #[jJ (bT l).1,iV (bT l).2]) w):=by
 have hmf:∀(fn:Fn) (first cap:tR) (w:tA),(Instr.makeFunc fn first cap).run Tryz.prog w= .ok (.func fn first cap) w:=fun _ _ _ _=>rfl;have hR0:aK ((w.alloc (.cells #[iV 0,iV 0,iV 0,iV 0,iV 0,iV 0,iV 0,iV 0,iV 0,iV 0] 167)).alloc (.cells #[iV 0] 35)) w.heap.size eR:=by
  refine⟨rfl, ?_⟩;rw[Below.heap_alloc _ _ _ (by simp)];exact AQ w _
 have ED:((w.alloc (.cells #[iV 0,iV 0,iV 0,iV 0,iV 0,iV 0,iV 0,iV 0,iV 0,iV 0] 167)).alloc (.cells #[iV 0] 35)).heap[w.heap.size+1]? =some (.cells #[iV 0] 35 (0,0)):=by
  have:=AQ (w.alloc (.cells #[iV 0,iV 0,iV 0,iV 0,iV 0,iV 0,iV 0,iV 0,iV 0,iV 0] 167)) (.cells #[iV 0] 35);simpa using this
 have HR0:=bC hR0;have HE0:=bC ED;have HB:=bC hb;clear hR0 ED hb
 go_enter_defers Tryz.func189,Tryz.ntmps189
 go_wp2_with fail
 refine(jo _ _).mono ?_;rintro e w1 ⟨rfl,b1⟩;have Jq:w.heap.size+2≤w1.heap.size:=by have:=b1.size;simp at this;omega
 have HR1:=bC ((ae HR0).below b1 (by simp;omega));have HE1:Hid (w1.heap[w.heap.size+1]? =some (.cells #[iV 0] 35 (0,0))):=bC ((b1.block (w.heap.size+1) (by simp)).trans (ae HE0));have HB1:=bC (sG b1);have HW1:=bC ((ae HB).below (ae HB1));have hblk:∀x,a=some x→0<len→x.block≠w.heap.size:=fun x hx h0=>by
  obtain⟨b0,o0,uw,Jr,_⟩:=(ae HB).cell 0 h0;rw[hx]at uw;simp at uw;subst uw;exact Nat.ne_of_lt Jr
 have HK:=bC hblk;clear HR0 HE0 b1 HB hblk
 go_wp2_with fail
 have Zw:=bC ((ae HR1).below (aA w1 (.cells (dU w.heap.size) 294)) (by omega));have xQ:Hid ((w1.alloc (.cells (dU w.heap.size) 294)).heap[w.heap.size+1]? =some (.cells #[iV 0] 35 (0,0))):=bC (((aA w1 (.cells (dU w.heap.size) 294)).block (w.heap.size+1) (by omega)).trans (ae HE1));have HW2:=bC ((ae HW1).below (aA w1 (.cells (dU w.heap.size) 294)));have sE:=bC (Below.next (ae HB1) (aA w1 (.cells (dU w.heap.size) 294)));have HP2:Hid (∀o,o<10→(w1.alloc (.cells (dU w.heap.size) 294)).cell? ⟨w1.heap.size,o,none⟩=some (.pointer (some ⟨w.heap.size,o,none⟩))):=bC (fun o ho=>uM w1 _ o ho);clear HR1 HE1 HW1 HB1;refine(Hw w1.heap.size w.heap.size 0 4 10 a len cap l eR _ (by omega) (by omega) (ae HP2) (ae Zw) (ae HW2) (ae HK) qv hc).mono ?_;rintro e w2 ⟨(⟨a',bh,fD,rfl,uN,db,hne',hlc',hc',hrec⟩|⟨t,zs',ht,aM,hez,rfl,hrec⟩),hsame⟩
 rotate_left
 ·have hE3:w2.heap[w.heap.size+1]? =some (.cells #[iV 0] 35 (0,0)):=(hsame.block _ (by omega)).trans (ae xQ);have zX:=bC ((ae sE).trans (hsame.below (Aa _)));have HD:=bC (Fv ht aM hez);have pC:=bC hrec;have Mq:=bC hE3;clear Zw xQ HW2 sE HP2 hsame hrec hE3 ht aM hez;go_wp2;refine leaves_cons (f:=214) (args:= #[.pointer (some ⟨w.heap.size,0,none⟩),.pointer (some ⟨w.heap.size+1,0,none⟩)]) (by simp) (by simp[go_sem]) ?_;refine(pt w.heap.size (w.heap.size+1) _ (dG l t) 0 35 _ (ae pC) (ae Mq) (by omega)).mono ?_;rintro e u' w9 ⟨rfl,rfl,z1,z2,z3⟩;have BB:=(ae zX).trans (z3.mono (by omega));rw[ae HD];exact gZ z1 z2 BB rfl rfl
 ·have hE3:w2.heap[w.heap.size+1]? =some (.cells #[iV 0] 35 (0,0)):=(hsame.block _ (by omega)).trans (ae xQ);have zX:=bC ((ae sE).trans (hsame.below (Aa _)));have HP3:Hid (∀o,o<10→w2.cell? ⟨w1.heap.size,o,none⟩=some (.pointer (some ⟨w.heap.size,o,none⟩))):=bC (fun o ho=>(hsame.cell (by omega)).trans (ae HP2 o ho));have pC:Hid (aK w2 w.heap.size [ak l 0,ak l 1,ak l 2,ak l 3,0,0,0,0,0,0]):=bC hrec;have Mq:=bC hE3;have R_:=bC db;have HX:=bC uN;have VX:=bC hne';clear Zw xQ HW2 sE HP2 hsame hrec hE3 db uN HK hne';have kk:w2.cell? ⟨w.heap.size,0,none⟩=some (iV (ak l 0)):=(ae pC).cell 0 (by omega)
  go_wp2_with fail
  by_cases hk:ak l 0=2∨ak l 0=5
  ·refine(aaM _ _ hk).mono ?_;rintro e w3 ⟨rfl,rfl⟩;have Gh:=bC hk;clear hk kk
   go_wp2_with fail
   refine(Hw w1.heap.size w.heap.size 4 6 6 a' fD bh (l.drop (4*4)) [ak l 0,ak l 1,ak l 2,ak l 3,0,0,0,0,0,0] _ (by omega) (by omega) (ae HP3) (ae pC) (ae R_) (ae VX) hlc' hc').mono ?_;rintro e w4 ⟨(⟨a4,cap4,VY,rfl,uN,db,hne',_,_,hrec⟩|⟨t,zs',ht,aM,hez,rfl,hrec⟩),hsame⟩
   rotate_left
   ·have hE4:w4.heap[w.heap.size+1]? =some (.cells #[iV 0] 35 (0,0)):=(hsame.block _ (by omega)).trans (ae Mq);have LW:=bC ((ae zX).trans (hsame.below (Aa _)));have HD:=bC (A0 (ae HX) (ae Gh) ht (fun u hu=>by rw[←oT];exact aM u hu) (by rw[←oT];exact hez));have ru:=bC hrec;have ZD:=bC hE4;clear pC Mq R_ zX HP3 hsame hrec hE4 ht aM hez;rw[oT];go_wp2;refine leaves_cons (f:=214) (args:= #[.pointer (some ⟨w.heap.size,0,none⟩),.pointer (some ⟨w.heap.size+1,0,none⟩)]) (by simp) (by simp[go_sem]) ?_;refine(pt w.heap.size (w.heap.size+1) _ (dG l (4+t)) 0 35 _ (ae ru) (ae ZD) (by omega)).mono ?_;rintro e u' w9 ⟨rfl,rfl,z1,z2,z3⟩;have BB:=(ae LW).trans (z3.mono (by omega));rw[ae HD];exact gZ z1 z2 BB rfl rfl
   ·have hE4:w4.heap[w.heap.size+1]? =some (.cells #[iV 0] 35 (0,0)):=(hsame.block _ (by omega)).trans (ae Mq);have LW:=bC ((ae zX).trans (hsame.below (Aa _)));have Yo:aK w4 w.heap.size [ak l 0,ak l 1,ak l 2,ak l 3,ak l 4,ak l 5,ak l 6,ak l 7,ak l 8,ak l 9]:=by
     have h:aK w4 w.heap.size [ak l 0,ak l 1,ak l 2,ak l 3,ak (l.drop (4*4)) 0,ak (l.drop (4*4)) 1,ak (l.drop (4*4)) 2,ak (l.drop (4*4)) 3,ak (l.drop (4*4)) 4,ak (l.drop (4*4)) 5]:=hrec;rw[j9,j9,j9,j9,j9,j9]at h;exact h
    have ru:=bC Yo;have ZD:=bC hE4;have ZE:=bC db;have HX4:Hid (∀u,u<6→dG l (4+u)=0):=bC (fun u hu=>by rw[←oT];exact uN u hu)
    have HX6:Hid (∀u,u<10→dG l u=0):=bC (fun u hu=>by
     by_cases h:u<4
     ·exact ae HX u h
     ·have:=ae HX4 (u-4) (by omega);rwa [show 4+(u-4)=u by omega]at this)
    clear pC Mq R_ zX HP3 hsame hrec Yo hE4 db uN hne' VX hlc' hc';have HF:Hid (jI l=aE (ak l 0) (ak l 1) (ak l 2) (ak l 3) (ak l 4) (ak l 5) (ak l 6) (ak l 7) (ak l 8) (ak l 9)):=bC (by unfold jI fE;rw[show jq (ak l 0)=true from by simp only[jq,decide_eq_true_iff];exact ae Gh];rfl);have HN:Hid (fE l=[ak l 0,ak l 1,ak l 2,ak l 3,ak l 4,ak l 5,ak l 6,ak l 7,ak l 8,ak l 9]):=bC (by unfold fE;rw[show jq (ak l 0)=true from by simp only[jq,decide_eq_true_iff];exact ae Gh];rfl);have HL:Hid (l.length-40=VY):=bC (by have:=(ae ZE).cy;simp at this;omega);have HL2:Hid (40≤l.length):=bC (yv (ae HX6));by_cases Jr:0<VY
    ·have HD:Hid (bT l=(eR,3)):=bC (by rw[qA (ae HX) (ae Gh) (ae HX4),if_pos (.inl (by have:=ae HL;omega))]);have Ny:(0:Int)<(VY:Int):=by omega
     have k0:=(ae ru).cell 0 (by omega);have k1:=(ae ru).cell 1 (by omega);have k2:=(ae ru).cell 2 (by omega);have k3:=(ae ru).cell 3 (by omega);have k4:=(ae ru).cell 4 (by omega);have k5:=(ae ru).cell 5 (by omega);have k6:=(ae ru).cell 6 (by omega);have k7:=(ae ru).cell 7 (by omega);have k8:=(ae ru).cell 8 (by omega);have k9:=(ae ru).cell 9 (by omega);simp only[List.getD_cons_zero,List.getD_cons_succ]at k0 k1 k2 k3 k4 k5 k6 k7 k8 k9;have kf:=(ae ru).free;have ke:w4.cell? ⟨w.heap.size+1,0,none⟩=some (iV 0):=by simp[World.cell?,ae ZD]
     have OC:w4.frozen? ⟨w.heap.size+1,0,none⟩=false:=by simp[World.frozen?,ae ZD]
     go_wp2;refine leaves_cons (f:=214) (args:= #[.pointer (some ⟨w.heap.size,0,none⟩),.pointer (some ⟨w.heap.size+1,0,none⟩)]) (by simp) (by simp[go_sem]) ?_;refine(j8 ⟨w.heap.size,0,none⟩ ⟨w.heap.size+1,0,none⟩ _).mono ?_;rintro e u' w9 ⟨rfl,rfl,rfl⟩;have Z:=j_ 0 0 0 0 0 0 0 0 0 0 3 (ae ru) (ae ZD) (ae LW);clear k0 k1 k2 k3 k4 k5 k6 k7 k8 k9 kf ke OC;rw[ae HD];exact gZ Z.1 Z.2.1 Z.2.2 rfl rfl
    ·have Du:VY=0:=by omega
     have Sa:l.length=40:=by have:=ae HL;have:=ae HL2;omega
     have VZ:=bC Sa;clear Sa Jr;subst Du;have k0:=(ae ru).cell 0 (by omega);have k1:=(ae ru).cell 1 (by omega);have k2:=(ae ru).cell 2 (by omega);have k3:=(ae ru).cell 3 (by omega);have k4:=(ae ru).cell 4 (by omega);have k5:=(ae ru).cell 5 (by omega);have k6:=(ae ru).cell 6 (by omega);have k7:=(ae ru).cell 7 (by omega);have k8:=(ae ru).cell 8 (by omega);have k9:=(ae ru).cell 9 (by omega);simp only[List.getD_cons_zero,List.getD_cons_succ]at k0 k1 k2 k3 k4 k5 k6 k7 k8 k9
     go_wp2_with fail
     refine(j6 _ _ _ _ _ _ _ _ _ _ _).mono ?_;rintro e w7 ⟨rfl,b7⟩;clear k0 k1 k2 k3 k4 k5 k6 k7 k8 k9;have lq:=bC ((ae ru).below b7 (ae ru).lt);have OD:Hid (w7.heap[w.heap.size+1]? =some (.cells #[iV 0] 35 (0,0))):=bC ((b7.block _ (lt_of_block (ae ZD))).trans (ae ZD));have Q3:=bC (Below.next (ae LW) b7);by_cases hf:aE (ak l 0) (ak l 1) (ak l 2) (ak l 3) (ak l 4) (ak l 5) (ak l 6) (ak l 7) (ak l 8) (ak l 9)=0
     ·have HD:Hid (bT l=([ak l 0,ak l 1,ak l 2,ak l 3,ak l 4,ak l 5,ak l 6,ak l 7,ak l 8,ak l 9],0)):=bC (by rw[qA (ae HX) (ae Gh) (ae HX4),if_neg (by rw[ae HF,ae VZ,hf];simp),ae HN]);have Yp:(aE (ak l 0) (ak l 1) (ak l 2) (ak l 3) (ak l 4) (ak l 5) (ak l 6) (ak l 7) (ak l 8) (ak l 9) !=0)=false:=by simpa using hf
      have k0:=(ae lq).cell 0 (by omega);have k1:=(ae lq).cell 1 (by omega);have k2:=(ae lq).cell 2 (by omega);have k3:=(ae lq).cell 3 (by omega);have k4:=(ae lq).cell 4 (by omega);have k5:=(ae lq).cell 5 (by omega);have k6:=(ae lq).cell 6 (by omega);have k7:=(ae lq).cell 7 (by omega);have k8:=(ae lq).cell 8 (by omega);have k9:=(ae lq).cell 9 (by omega);simp only[List.getD_cons_zero,List.getD_cons_succ]at k0 k1 k2 k3 k4 k5 k6 k7 k8 k9;have kf:=(ae lq).free;have ke:w7.cell? ⟨w.heap.size+1,0,none⟩=some (iV 0):=by simp[World.cell?,ae OD]
      have OC:w7.frozen? ⟨w.heap.size+1,0,none⟩=false:=by simp[World.frozen?,ae OD]
      go_wp2;refine leaves_cons (f:=214) (args:= #[.pointer (some ⟨w.heap.size,0,none⟩),.pointer (some ⟨w.heap.size+1,0,none⟩)]) (by simp) (by simp[go_sem]) ?_;refine(j8 ⟨w.heap.size,0,none⟩ ⟨w.heap.size+1,0,none⟩ _).mono ?_;rintro e u' w9 ⟨rfl,rfl,rfl⟩;have Z:=j_ (ak l 0) (ak l 1) (ak l 2) (ak l 3) (ak l 4) (ak l 5) (ak l 6) (ak l 7) (ak l 8) (ak l 9) 0 (ae lq) (ae OD) (ae Q3);clear k0 k1 k2 k3 k4 k5 k6 k7 k8 k9 kf ke OC;rw[ae HD];exact gZ Z.1 Z.2.1 Z.2.2 rfl rfl
     ·have HD:Hid (bT l=(eR,3)):=bC (by rw[qA (ae HX) (ae Gh) (ae HX4),if_pos (.inr (by rw[ae HF];exact hf))]);have Yp:(aE (ak l 0) (ak l 1) (ak l 2) (ak l 3) (ak l 4) (ak l 5) (ak l 6) (ak l 7) (ak l 8) (ak l 9) !=0)=true:=by simpa using hf
      have k0:=(ae lq).cell 0 (by omega);have k1:=(ae lq).cell 1 (by omega);have k2:=(ae lq).cell 2 (by omega);have k3:=(ae lq).cell 3 (by omega);have k4:=(ae lq).cell 4 (by omega);have k5:=(ae lq).cell 5 (by omega);have k6:=(ae lq).cell 6 (by omega);have k7:=(ae lq).cell 7 (by omega);have k8:=(ae lq).cell 8 (by omega);have k9:=(ae lq).cell 9 (by omega);simp only[List.getD_cons_zero,List.getD_cons_succ]at k0 k1 k2 k3 k4 k5 k6 k7 k8 k9;have kf:=(ae lq).free;have ke:w7.cell? ⟨w.heap.size+1,0,none⟩=some (iV 0):=by simp[World.cell?,ae OD]
      have OC:w7.frozen? ⟨w.heap.size+1,0,none⟩=false:=by simp[World.frozen?,ae OD]
      go_wp2;refine leaves_cons (f:=214) (args:= #[.pointer (some ⟨w.heap.size,0,none⟩),.pointer (some ⟨w.heap.size+1,0,none⟩)]) (by simp) (by simp[go_sem]) ?_;refine(j8 ⟨w.heap.size,0,none⟩ ⟨w.heap.size+1,0,none⟩ _).mono ?_;rintro e u' w9 ⟨rfl,rfl,rfl⟩;have Z:=j_ 0 0 0 0 0 0 0 0 0 0 3 (ae lq) (ae OD) (ae Q3);clear k0 k1 k2 k3 k4 k5 k6 k7 k8 k9 kf ke OC;rw[ae HD];exact gZ Z.1 Z.2.1 Z.2.2 rfl rfl
  ·refine(vK _ _ hk).mono ?_;rintro e w3 ⟨rfl,rfl⟩;have Gh:=bC hk;clear hk kk HP3 VX hlc' hc';have HF:Hid (jI l=aE (ak l 0) (ak l 1) (ak l 2) (ak l 3) 0 0 0 0 0 0):=bC (by unfold jI fE;rw[show jq (ak l 0)=false from by simp only[jq,decide_eq_false_iff_not];exact ae Gh];rfl);have HN:Hid (fE l=[ak l 0,ak l 1,ak l 2,ak l 3,0,0,0,0,0,0]):=bC (by unfold fE;rw[show jq (ak l 0)=false from by simp only[jq,decide_eq_false_iff_not];exact ae Gh];rfl);have HL:Hid (l.length-16=fD):=bC (by have:=(ae R_).cy;simp at this;omega);have HL2:Hid (16≤l.length):=bC (yv (ae HX));by_cases Jr:0<fD
   ·have HD:Hid (bT l=(eR,3)):=bC (by rw[mK (ae HX) (ae Gh),if_pos (.inl (by have:=ae HL;omega))]);have Ny:(0:Int)<(fD:Int):=by omega
    have k0:=(ae pC).cell 0 (by omega);have k1:=(ae pC).cell 1 (by omega);have k2:=(ae pC).cell 2 (by omega);have k3:=(ae pC).cell 3 (by omega);have k4:=(ae pC).cell 4 (by omega);have k5:=(ae pC).cell 5 (by omega);have k6:=(ae pC).cell 6 (by omega);have k7:=(ae pC).cell 7 (by omega);have k8:=(ae pC).cell 8 (by omega);have k9:=(ae pC).cell 9 (by omega);simp only[List.getD_cons_zero,List.getD_cons_succ]at k0 k1 k2 k3 k4 k5 k6 k7 k8 k9;have kf:=(ae pC).free;have ke:w2.cell? ⟨w.heap.size+1,0,none⟩=some (iV 0):=by simp[World.cell?,ae Mq]
    have OC:w2.frozen? ⟨w.heap.size+1,0,none⟩=false:=by simp[World.frozen?,ae Mq]
    go_wp2;refine leaves_cons (f:=214) (args:= #[.pointer (some ⟨w.heap.size,0,none⟩),.pointer (some ⟨w.heap.size+1,0,none⟩)]) (by simp) (by simp[go_sem]) ?_;refine(j8 ⟨w.heap.size,0,none⟩ ⟨w.heap.size+1,0,none⟩ _).mono ?_;rintro e u' w9 ⟨rfl,rfl,rfl⟩;have Z:=j_ 0 0 0 0 0 0 0 0 0 0 3 (ae pC) (ae Mq) (ae zX);clear k0 k1 k2 k3 k4 k5 k6 k7 k8 k9 kf ke OC;rw[ae HD];exact gZ Z.1 Z.2.1 Z.2.2 rfl rfl
   ·have Du:fD=0:=by omega
    have Sa:l.length=16:=by have:=ae HL;have:=ae HL2;omega
    have VZ:=bC Sa;clear Sa Jr;subst Du;have k0:=(ae pC).cell 0 (by omega);have k1:=(ae pC).cell 1 (by omega);have k2:=(ae pC).cell 2 (by omega);have k3:=(ae pC).cell 3 (by omega);have k4:=(ae pC).cell 4 (by omega);have k5:=(ae pC).cell 5 (by omega);have k6:=(ae pC).cell 6 (by omega);have k7:=(ae pC).cell 7 (by omega);have k8:=(ae pC).cell 8 (by omega);have k9:=(ae pC).cell 9 (by omega);simp only[List.getD_cons_zero,List.getD_cons_succ]at k0 k1 k2 k3 k4 k5 k6 k7 k8 k9
    go_wp2_with fail
    refine(j6 _ _ _ _ _ _ _ _ _ _ _).mono ?_;rintro e w7 ⟨rfl,b7⟩;clear k0 k1 k2 k3 k4 k5 k6 k7 k8 k9;have lq:=bC ((ae pC).below b7 (ae pC).lt);have OD:Hid (w7.heap[w.heap.size+1]? =some (.cells #[iV 0] 35 (0,0))):=bC ((b7.block _ (lt_of_block (ae Mq))).trans (ae Mq));have Q3:=bC (Below.next (ae zX) b7);by_cases hf:aE (ak l 0) (ak l 1) (ak l 2) (ak l 3) 0 0 0 0 0 0=0
    ·have HD:Hid (bT l=([ak l 0,ak l 1,ak l 2,ak l 3,0,0,0,0,0,0],0)):=bC (by rw[mK (ae HX) (ae Gh),if_neg (by rw[ae HF,ae VZ,hf];simp),ae HN]);have Yp:(aE (ak l 0) (ak l 1) (ak l 2) (ak l 3) 0 0 0 0 0 0 !=0)=false:=by simpa using hf
     have k0:=(ae lq).cell 0 (by omega);have k1:=(ae lq).cell 1 (by omega);have k2:=(ae lq).cell 2 (by omega);have k3:=(ae lq).cell 3 (by omega);have k4:=(ae lq).cell 4 (by omega);have k5:=(ae lq).cell 5 (by omega);have k6:=(ae lq).cell 6 (by omega);have k7:=(ae lq).cell 7 (by omega);have k8:=(ae lq).cell 8 (by omega);have k9:=(ae lq).cell 9 (by omega);simp only[List.getD_cons_zero,List.getD_cons_succ]at k0 k1 k2 k3 k4 k5 k6 k7 k8 k9;have kf:=(ae lq).free;have ke:w7.cell? ⟨w.heap.size+1,0,none⟩=some (iV 0):=by simp[World.cell?,ae OD]
     have OC:w7.frozen? ⟨w.heap.size+1,0,none⟩=false:=by simp[World.frozen?,ae OD]
     go_wp2;refine leaves_cons (f:=214) (args:= #[.pointer (some ⟨w.heap.size,0,none⟩),.pointer (some ⟨w.heap.size+1,0,none⟩)]) (by simp) (by simp[go_sem]) ?_;refine(j8 ⟨w.heap.size,0,none⟩ ⟨w.heap.size+1,0,none⟩ _).mono ?_;rintro e u' w9 ⟨rfl,rfl,rfl⟩;have Z:=j_ (ak l 0) (ak l 1) (ak l 2) (ak l 3) 0 0 0 0 0 0 0 (ae lq) (ae OD) (ae Q3);clear k0 k1 k2 k3 k4 k5 k6 k7 k8 k9 kf ke OC;rw[ae HD];exact gZ Z.1 Z.2.1 Z.2.2 rfl rfl
    ·have HD:Hid (bT l=(eR,3)):=bC (by rw[mK (ae HX) (ae Gh),if_pos (.inr (by rw[ae HF];exact hf))]);have Yp:(aE (ak l 0) (ak l 1) (ak l 2) (ak l 3) 0 0 0 0 0 0 !=0)=true:=by simpa using hf
     have k0:=(ae lq).cell 0 (by omega);have k1:=(ae lq).cell 1 (by omega);have k2:=(ae lq).cell 2 (by omega);have k3:=(ae lq).cell 3 (by omega);have k4:=(ae lq).cell 4 (by omega);have k5:=(ae lq).cell 5 (by omega);have k6:=(ae lq).cell 6 (by omega);have k7:=(ae lq).cell 7 (by omega);have k8:=(ae lq).cell 8 (by omega);have k9:=(ae lq).cell 9 (by omega);simp only[List.getD_cons_zero,List.getD_cons_succ]at k0 k1 k2 k3 k4 k5 k6 k7 k8 k9;have kf:=(ae lq).free;have ke:w7.cell? ⟨w.heap.size+1,0,none⟩=some (iV 0):=by simp[World.cell?,ae OD]
     have OC:w7.frozen? ⟨w.heap.size+1,0,none⟩=false:=by simp[World.frozen?,ae OD]
     go_wp2;refine leaves_cons (f:=214) (args:= #[.pointer (some ⟨w.heap.size,0,none⟩),.pointer (some ⟨w.heap.size+1,0,none⟩)]) (by simp) (by simp[go_sem]) ?_;refine(j8 ⟨w.heap.size,0,none⟩ ⟨w.heap.size+1,0,none⟩ _).mono ?_;rintro e u' w9 ⟨rfl,rfl,rfl⟩;have Z:=j_ 0 0 0 0 0 0 0 0 0 0 3 (ae lq) (ae OD) (ae Q3);clear k0 k1 k2 k3 k4 k5 k6 k7 k8 k9 kf ke OC;rw[ae HD];exact gZ Z.1 Z.2.1 Z.2.2 rfl rfl
def bytesOf(x0 x1 x2 x3 x4 x5 x6 x7 x8 x9:Int):List Int:=if x0=2∨x0=5 then et [x0,x1,x2,x3,x4,x5,x6,x7,x8,x9]else et [x0,x1,x2,x3]
theorem OE(x0 x1 x2 x3 x4 x5 x6 x7 x8 x9:Int)(w:tA)(h:aE x0 x1 x2 x3 x4 x5 x6 x7 x8 x9=0):
  cA 179 #[.agg #[iV x0,iV x1,iV x2,iV x3,iV x4,iV x5,iV x6,iV x7,iV x8,iV x9]] w fun e w'=>
   ∃g n,e= .returned (.tuple #[.slice (some ⟨g,0,none⟩) n n,iV 0])∧n=(if x0=2∨x0=5 then 40 else 16)∧RowK .u8 w' (some ⟨g,0,none⟩) n (bytesOf x0 x1 x2 x3 x4 x5 x6 x7 x8 x9)∧bZ w w':=by
 by_cases hk:x0=2∨x0=5
 ·refine(Ko _ _ _ _ _ _ _ _ _ _ w h hk).mono ?_;rintro e w' ⟨g,rfl,_,hr,hb⟩;exact⟨g,40,rfl,by rw[if_pos hk],by unfold bytesOf;rw[if_pos hk];exact hr,hb⟩
 ·refine(Ht _ _ _ _ _ _ _ _ _ _ w h hk).mono ?_;rintro e w' ⟨g,rfl,_,hr,hb⟩;exact⟨g,16,rfl,by rw[if_neg hk],by unfold bytesOf;rw[if_neg hk];exact hr,hb⟩
theorem yw:∀(t:Nat) (zs:tG),t≤zs.length→(et zs).drop (4*t)=et (zs.drop t)
 |0,zs,_=>by simp
 |t+1,[],h=>by simp at h
 |t+1,z::zs,h=>by
  have ih:=yw t zs (by simpa using h);have:et (z::zs)=four z++et zs:=rfl;rw[this,show 4*(t+1)=4+4*t by omega,←List.drop_drop];have h4:(four z++et zs).drop 4=et zs:=rfl;rw[h4,ih];rfl
theorem Hy(zs tail:tG)(hr:∀n∈zs,0≤n∧n≤2147483647)(t:Nat)(ht:t<zs.length):ak (et zs++tail) t=zs.getD t 0∧dG (et zs++tail) t=0:=by
 have hd:(et zs++tail).drop (4*t)=et (zs.drop t)++tail:=by
  rw[List.drop_append_of_le_length (by rw[nh];omega),yw t zs (by omega)]
 unfold ak dG;rw[hd,List.drop_eq_getElem_cons ht];have hm:=hr zs[t] (Bu ht);have:et (zs[t]::zs.drop (t+1))++tail=four zs[t]++(et (zs.drop (t+1))++tail):=by
  rw[show et (zs[t]::zs.drop (t+1))=four zs[t]++et (zs.drop (t+1)) from rfl,Az]
 rw[this,Fw _ _ hm.1 hm.2];simp[ht]
theorem Hz(x0 x1 x2 x3 x4 x5 x6 x7 x8 x9:Int)(tail:tG)(hf:aE x0 x1 x2 x3 x4 x5 x6 x7 x8 x9=0)(hz:¬(x0=2∨x0=5)→x4=0∧x5=0∧x6=0∧x7=0∧x8=0∧x9=0):
  bT (bytesOf x0 x1 x2 x3 x4 x5 x6 x7 x8 x9++tail)=if tail=[]then([x0,x1,x2,x3,x4,x5,x6,x7,x8,x9],0)else(eR,3):=by
 have hr:=j7 hf;unfold bytesOf;by_cases hk:x0=2∨x0=5
 ·rw[if_pos hk];have A:=fun t ht=>Hy [x0,x1,x2,x3,x4,x5,x6,x7,x8,x9] tail hr t ht;have hlen:(et [x0,x1,x2,x3,x4,x5,x6,x7,x8,x9]++tail).length=40+tail.length:=by simp[nh]
  generalize et [x0,x1,x2,x3,x4,x5,x6,x7,x8,x9]++tail=L at A hlen;have n0:ak L 0=x0:=(A 0 (by simp)).1;have n1:ak L 1=x1:=(A 1 (by simp)).1;have n2:ak L 2=x2:=(A 2 (by simp)).1;have n3:ak L 3=x3:=(A 3 (by simp)).1;have n4:ak L 4=x4:=(A 4 (by simp)).1;have n5:ak L 5=x5:=(A 5 (by simp)).1;have n6:ak L 6=x6:=(A 6 (by simp)).1;have n7:ak L 7=x7:=(A 7 (by simp)).1;have n8:ak L 8=x8:=(A 8 (by simp)).1;have n9:ak L 9=x9:=(A 9 (by simp)).1;have Kb:jq x0=true:=by simp[jq,hk]
  have hn:fE L=[x0,x1,x2,x3,x4,x5,x6,x7,x8,x9]:=by unfold fE;rw[n0,Kb,n1,n2,n3,n4,n5,n6,n7,n8,n9];rfl
  have hF:jI L=0:=by unfold jI;rw[hn,n0,n1,n2,n3];exact hf
  rw[qA (fun u hu=>(A u (by simp;omega)).2) (by rw[n0];exact hk) (fun u hu=>(A (4+u) (by simp;omega)).2),hF,hn,hlen];cases tail with
  |nil=>simp
  |cons y ys=>simp
 ·rw[if_neg hk];obtain⟨rfl,rfl,rfl,rfl,rfl,rfl⟩:=hz hk;have hr4:∀n∈[x0,x1,x2,x3],0≤n∧n≤2147483647:=fun n hn=>hr n (by simp at hn⊢;rcases hn with h|h|h|h<;>simp[h])
  have A:=fun t ht=>Hy [x0,x1,x2,x3] tail hr4 t ht;have hlen:(et [x0,x1,x2,x3]++tail).length=16+tail.length:=by simp[nh]
  generalize et [x0,x1,x2,x3]++tail=L at A hlen;have n0:ak L 0=x0:=(A 0 (by simp)).1;have n1:ak L 1=x1:=(A 1 (by simp)).1;have n2:ak L 2=x2:=(A 2 (by simp)).1;have n3:ak L 3=x3:=(A 3 (by simp)).1;have Kb:jq x0=false:=by simp only[jq,decide_eq_false_iff_not];exact hk
  have hn:fE L=[x0,x1,x2,x3,0,0,0,0,0,0]:=by unfold fE;rw[n0,Kb,n1,n2,n3];rfl
  have hF:jI L=0:=by unfold jI;rw[hn,n0,n1,n2,n3];exact hf
  rw[mK (fun u hu=>(A u (by simp;omega)).2) (by rw[n0];exact hk),hF,hn,hlen];cases tail with
  |nil=>simp
  |cons y ys=>simp
def toldOf(b:tG):Nat:=(256*b.getD 0 0+b.getD 1 0).toNat
def a7(b:tG):Option (List Int×Nat):=
 if b.length<2 then none
 else if b.length<toldOf b+6 then none
 else if ¬four (sumOf (b.take (toldOf b+2)))=(b.drop (toldOf b+2)).take 4 then none
 else if ¬(bT ((b.drop 2).take (toldOf b))).2=0 then none
 else some ((bT ((b.drop 2).take (toldOf b))).1,toldOf b+6)
def jW:Nat→List Int→Nat→List (List Int)→List (List Int)×Nat
 |0,_,k,rs=>(rs,k)
 |f+1,b,k,rs=>match a7 (b.drop k)with
  |none=>(rs,k)
  |some (zs,m)=>jW f b (k+m) (rs++[zs])
def bu(b:tG):List (List Int)×Nat:=jW (b.length+1) b 0 []
theorem qB{f:Nat}{b:tG}{k:Nat}{rs:List (List Int)}(h:a7 (b.drop k)=none):jW f b k rs=(rs,k):=by
 cases f with
 |zero=>rfl
 |succ f=>simp only[jW,h]
theorem oU{f:Nat}{b:tG}{k m:Nat}{rs:List (List Int)}{zs:tG}(h:a7 (b.drop k)=some (zs,m)):jW (f+1) b k rs=jW f b (k+m) (rs++[zs]):=by
 simp only[jW,h]
theorem gx{b zs:tG}{m:Nat}(h:a7 b=some (zs,m)):
  2≤b.length∧m=toldOf b+6∧m≤b.length∧four (sumOf (b.take (toldOf b+2)))=(b.drop (toldOf b+2)).take 4∧bT ((b.drop 2).take (toldOf b))=(zs,0):=by
 unfold a7 at h;split at h
 ·cases h
 split at h
 ·cases h
 split at h
 ·cases h
 split at h
 ·cases h
 rename_i h1 h2 h3 h4;simp only[Option.some.injEq,Prod.mk.injEq]at h;refine⟨by omega,h.2.symm,by omega,Bk.1 h3, ?_⟩;exact Prod.ext h.1 (Bk.1 h4)
def DP(b:tG)(k:Nat)(rs:List (List Int)):Prop:=k≤b.length∧∃f,b.length+1≤f+k∧jW f b k rs=bu b
theorem vL(b:tG):DP b 0 []:=⟨Ak _,b.length+1,by omega,rfl⟩
theorem uQ{b:tG}{k:Nat}{rs:List (List Int)}(h:DP b k rs)(hn:a7 (b.drop k)=none):bu b=(rs,k):=by
 obtain⟨_,f,_,hf⟩:=h;rw[←hf,qB hn]
theorem yx{b:tG}{k m:Nat}{rs:List (List Int)}{zs:tG}(h:DP b k rs)(hn:a7 (b.drop k)=some (zs,m)):DP b (k+m) (rs++[zs]):=by
 obtain⟨hk,f,hf,he⟩:=h;obtain⟨_,hm,hl,_⟩:=gx hn;rw[AM]at hl;cases f with
 |zero=>omega
 |succ f=>exact⟨by omega,f,by omega,by rw[←he,oU hn]⟩
theorem HJ{b zs:tG}{m:Nat}(h:a7 b=some (zs,m)):zs.length=10:=by
 obtain⟨_,_,_,_,hd⟩:=gx h;have:(bT ((b.drop 2).take (toldOf b))).1.length=10:=by
  unfold bT
  repeat' split
  all_goals first|rfl|(unfold fE;split<;>rfl)
 rw[hd]at this;exact this
theorem H4{b:tG}(hw:∀u∈b,(Lit.int .u8 u).wf=true):(toldOf b:Int)=256*b.getD 0 0+b.getD 1 0:=by
 have h0:=fq hw 0;have h1:=fq hw 1;unfold toldOf;omega
theorem RowK.part{k:IntKind}{w:tA}{b off len:Nat}{l:tG}(h:RowK k w (some ⟨b,off,none⟩) len l)(a:tB)(lo n:Nat)(hle:lo+n≤len)(ha:0<n→a=some ⟨b,off+lo,none⟩):RowK k w a n ((l.drop lo).take n):=by
 have hl:=h.cy;refine⟨by simp;omega,fun u hu=>h.wf u (Bj (AK hu)),fun i hi=> ?_⟩;refine⟨b,off+lo,ha (by omega),h.lt (by omega), ?_⟩;have:=h.at (lo+i) (by omega);rw[BX,this];simp[List.getD_eq_getElem?_getD,hi]
theorem DQ(a a':tB)(len fD cap bh:Nat)(l l':tG)(w:tA)(h:RowK .u8 w a len l)(h':RowK .u8 w a' fD l'):
  cA 187 #[.slice a len cap,.slice a' fD bh] w fun e w'=>
   e= .returned (.bool ((strOfNums l).toList==(strOfNums l').toList))∧w=w':=by
 have c1:=pF (P:=Tryz.prog) 122 5 Tryz.underlying122 Tryz.underlying5 (cap:=cap) h 9 Tryz.underlying9;have c2:=pF (P:=Tryz.prog) 122 5 Tryz.underlying122 Tryz.underlying5 (cap:=bh) h' 9 Tryz.underlying9;clear h h';go_enter Tryz.func187,Tryz.ntmps187;go_wp2;go_ret;exact⟨rfl,rfl⟩
theorem OG{l l':tG}(hw:∀u∈l,(Lit.int .u8 u).wf=true)(CK:∀u∈l',(Lit.int .u8 u).wf=true)(h:(strOfNums l).toList=(strOfNums l').toList):l=l':=by
 rw[Go.Lib.strOfNums_toList,Go.Lib.strOfNums_toList]at h;unfold Go.Lib.bytesOf at h;refine List.ext_getElem (by have:=congrArg List.length h;simpa using this) fun i h1 h2=> ?_;have e:(l.map fun n=>UInt8.ofNat n.toNat)[i]? =(l'.map fun n=>UInt8.ofNat n.toNat)[i]? :=by rw[h]
 simp only[List.getElem?_map,List.getElem?_eq_getElem h1,List.getElem?_eq_getElem h2,Option.map_some,Option.some.injEq]at e;have b1:=bounds_u8 (hw _ (Bu h1));have b2:=bounds_u8 (CK _ (Bu h2));have e2:=Au UInt8.toNat e;simp only[UInt8.toNat_ofNat']at e2;omega
theorem kC{W:tA}{R:Nat}{zs:tG}{m:Int}{tmps:tR}(h1:aK W R zs)(t2:tmps[2]? =some (.pointer (some ⟨R,0,none⟩)))(t3:tmps[3]? =some (iV m)):
  (results Tryz.f144 tmps).run Tryz.prog W= .ok (.tuple #[jJ zs,iV m]) W:=by
 have hl:=h1.1;have k0:=h1.cell 0 (by omega);have k1:=h1.cell 1 (by omega);have k2:=h1.cell 2 (by omega);have k3:=h1.cell 3 (by omega);have k4:=h1.cell 4 (by omega);have k5:=h1.cell 5 (by omega);have k6:=h1.cell 6 (by omega);have k7:=h1.cell 7 (by omega);have k8:=h1.cell 8 (by omega);have k9:=h1.cell 9 (by omega);clear h1
 match zs,hl with
 |[y0,y1,y2,y3,y4,y5,y6,y7,y8,y9],_=>
  simp at k0 k1 k2 k3 k4 k5 k6 k7 k8 k9;simp[results,Tryz.results144,go_sem,k0,k1,k2,k3,k4,k5,k6,k7,k8,k9,jJ,t2,t3]
theorem Sb(w:tA):∃W,W=w.alloc (.cells #[iV 0,iV 0,iV 0,iV 0,iV 0,iV 0,iV 0,iV 0,iV 0,iV 0] 167)∧
  aK W w.heap.size eR∧bZ w W∧W.heap.size=w.heap.size+1:=
 ⟨_,rfl,⟨rfl,AQ w _⟩,aA _ _,bJ _ _⟩
theorem V0(c0 c1:Int)(r0:0≤c0)(s0:c0≤255)(r1:0≤c1)(s1:c1≤255):bits .or .i64 (c0*256) c1=c0*256+c1:=
 bits_join .i64 62 (by decide) lO 8 _ _ (by omega) (by omega) (by omega) (by omega) (by omega) (by omega)
theorem aK.ZF{w:tA}{R:Nat}{x0 x1 x2 x3 x4 x5 x6 x7 x8 x9:Int}(h:aK w R [x0,x1,x2,x3,x4,x5,x6,x7,x8,x9]):
  w.cell? ⟨R,0,none⟩=some (iV x0)∧w.cell? ⟨R,1,none⟩=some (iV x1)∧w.cell? ⟨R,2,none⟩=some (iV x2)∧w.cell? ⟨R,3,none⟩=some (iV x3)∧w.cell? ⟨R,4,none⟩=some (iV x4)∧
  w.cell? ⟨R,5,none⟩=some (iV x5)∧w.cell? ⟨R,6,none⟩=some (iV x6)∧w.cell? ⟨R,7,none⟩=some (iV x7)∧w.cell? ⟨R,8,none⟩=some (iV x8)∧w.cell? ⟨R,9,none⟩=some (iV x9):=by
 have m0:=h.cell 0 (by omega);have m1:=h.cell 1 (by omega);have m2:=h.cell 2 (by omega);have m3:=h.cell 3 (by omega);have m4:=h.cell 4 (by omega);have m5:=h.cell 5 (by omega);have m6:=h.cell 6 (by omega);have m7:=h.cell 7 (by omega);have m8:=h.cell 8 (by omega);have m9:=h.cell 9 (by omega);simp only[List.getD_cons_zero,List.getD_cons_succ]at m0 m1 m2 m3 m4 m5 m6 m7 m8 m9;exact⟨m0,m1,m2,m3,m4,m5,m6,m7,m8,m9⟩
def cj(b:tG):List Int×Nat:=match a7 b with
 |none=>(eR,0)
 |some p=>p
theorem kl(a:tB)(len cap:Nat)(w:tA)(h:len<2):
  cA 144 #[.slice a len cap] w (rB (.tuple #[jJ eR,iV 0]) w):=by
 go_enter Tryz.func144,Tryz.ntmps144;go_wp2;obtain⟨W,hW,rb,B,_⟩:=Sb w;rw[←hW];exact Al (kC rb rfl rfl) rfl ⟨rfl,B⟩
theorem OH(w:tA)(n:Nat):∃W,W=(w.alloc (.cells #[iV 0,iV 0,iV 0,iV 0,iV 0,iV 0,iV 0,iV 0,iV 0,iV 0] 167)).drewN n∧
  aK W w.heap.size eR∧bZ w W∧W.heap.size=w.heap.size+1:=
 ⟨_,rfl,⟨rfl,AQ w _⟩,Below.next (aA _ _) (pG _ _),bJ w _⟩
theorem Fx(b off len cap:Nat)(l:tG)(w:tA)(h:RowK .u8 w (some ⟨b,off,none⟩) len l)(h2:2≤len)(qv:len≤cap)(hc:cap≤9223372036854775807)(hm:len≤1000000):
  cA 144 #[.slice (some ⟨b,off,none⟩) len cap] w (rB (.tuple #[jJ (cj l).1,iV (cj l).2]) w):=by
 have hl:=h.cy;have uw:=fq h.wf 0;have mC:=fq h.wf 1;have htc:=H4 h.wf;have k0:=h.at 0 (by omega);have k1:=h.at 1 (by omega);have JK:=h.lt (by omega);rw[Nat.add_zero]at k0;generalize l.getD 0 0=c0 at uw htc k0;generalize l.getD 1 0=c1 at mC htc k1;obtain⟨p0,q0⟩:=uw;obtain⟨p1,q1⟩:=mC;have J:=V0 c0 c1 p0 q0 p1 q1;obtain⟨n,hn⟩:∃n,toldOf l=n:=⟨_,rfl⟩;rw[hn]at htc;have HN:=bC hn;clear hn;have e1:2+(c0*256+c1)=((n+2:Nat):Int):=by omega
 have sR:n≤65535:=by omega
 have HT:=bC htc;have HE:=bC e1;clear htc e1;go_enter Tryz.func144,Tryz.ntmps144
 go_wp2_with fail
 go_quiet (fail)
 rw[ae HE];obtain⟨W,hW,rb,B0,S0⟩:=OH w nq;rw[←hW];have r0:=h.below B0;clear hW k0 k1 h;obtain⟨E,hE⟩:∃E:Int,((n+2:Nat):Int)=E:=⟨_,rfl⟩;rw[hE];have ED:(0:Int)≤E:=by omega
 have hE1:E≤70000:=by omega
 have Gi:IntKind.i64.wrap (E+4)=E+4:=lO _ (by omega) (by omega);have Yq:Hid (((n+2:Nat):Int)=E):=hE;clear hE;by_cases ht:len<n+6
 ·have hd:(len:Int)<E+4:=by have:=ae Yq;omega
  have HP:Hid (cj l=(eR,0)):=by
   show cj l=(eR,0);unfold cj a7;rw[ae HN,if_neg (by omega),if_pos (by omega)]
  have hT:=bC ht;clear ht
  go_wp2_with fail
  go_quiet (fail)
  obtain⟨W1,hW1,yy,B1⟩:∃W1,W1=W.drewN nq∧aK W1 w.heap.size eR∧bZ w W1:=⟨_,rfl,rb,Below.next B0 (pG _ _)⟩;rw[←hW1];clear hW1;have kf:=yy.free;obtain⟨m0,m1,m2,m3,m4,m5,m6,m7,m8,m9⟩:=aK.ZF yy;go_wp2;exact Al (kC (yy.Mp 0 0 0 0 0 0 0 0 0 0) rfl rfl) rfl ⟨by rw[ae HP];rfl,(aO.Mp W1 w.heap.size 0 0 0 0 0 0 0 0 0 0).under B1 (Aa _)⟩
 ·have hd:decide ((len:Int)<E+4)=false:=by have:=ae Yq;simp;omega
  have LB:E≤(cap:Int):=by have:=ae Yq;omega
  have hE3:E+4≤(cap:Int):=by have:=ae Yq;omega
  have hE4:E≤E+4:=by omega
  have hT:=bC ht;clear ht
  go_wp2_with fail
  have hEt:E.toNat=n+2:=by have:=ae Yq;omega
  have hE5:(E+4).toNat-E.toNat=4:=by omega
  have hTT:=ae hT;have rs:RowK .u8 W.drew (some ⟨b,off,none⟩) E.toNat (l.take (n+2)):=by rw[hEt];exact(r0.below (pG _ 1)).take (n+2) (by omega)
  have rp:RowK .u8 W (some ⟨b,off+E.toNat,none⟩) ((E+4).toNat-E.toNat) ((l.drop (n+2)).take 4):=by
   rw[hE5,hEt];exact r0.part _ (n+2) 4 (by omega) (fun _=>rfl)
  have ab9:=RZ (l.take (n+2));clear hTT hEt hE5;by_cases hq:four (sumOf (l.take (n+2)))=(l.drop (n+2)).take 4
  ·have hb:((strOfNums (four (sumOf (l.take (n+2))))).toList==(strOfNums ((l.drop (n+2)).take 4)).toList)=true:=by rw[hq];simp
   have HQ:=bC hq;clear hq
   go_region_held3 (fun _=>True) (trivial) ((first|(go_at_call 188;refine(yu _ E.toNat _ (l.take (n+2)) _ rs (by omega)).mono ?_;rintro e w1 ⟨rfl,r1,bb⟩;have b2:bZ W w1:=Below.next (pG _ 1) bb;have r2:RowK .u8 w1 (some ⟨w.heap.size+1,0,none⟩) 4 (four (sumOf (l.take (n+2)))):=(by rw[←S0];exact r1);have rp1:=rp.below b2)|(go_at_call 187;refine(DQ _ _ _ _ _ _ (four (sumOf (l.take (n+2)))) ((l.drop (n+2)).take 4) _ r2 rp1).mono ?_;rintro e w2 ⟨rfl,rfl⟩)))
   have yy:=rb.below b2 rb.lt;have B1:=Below.next B0 b2;have z2:=b2.size;have hTT:=ae hT;have hEt:E.toNat-2=n:=by have:=ae Yq;omega
   have rd:RowK .u8 w1 (some ⟨b,off+2,none⟩) (E.toNat-2) ((l.drop 2).take n):=by rw[hEt];exact(r0.below b2).part _ 2 n (by omega) (fun _=>rfl)
   have hE6:(2:Int)≤E:=by have:=ae Yq;omega
   have CI:E.toNat-2≤cap-2:=by omega
   have hcd:cap-2≤9223372036854775807:=by omega
   have ab_:(bT ((l.drop 2).take n)).1.length=10:=by
    unfold bT
    repeat' split
    all_goals first|rfl|(unfold fE;split<;>rfl)
   have HU:Hid (cj l=if ¬(bT ((l.drop 2).take n)).2=0 then(eR,0)else((bT ((l.drop 2).take n)).1,n+6)):=by
    show cj l=_;unfold cj a7;rw[ae HN,if_neg (by omega),if_neg (by omega),if_neg (AZ (ae HQ))];by_cases hz:(bT ((l.drop 2).take n)).2=0
    ·rw[if_neg (AZ hz),if_neg (AZ hz)]
    ·rw[if_pos hz,if_pos hz]
   have HDL:=bC ab_;clear rs rp rp1 r1 r2 bb b2 rb B0 r0 ab9 hb hEt hTT hd ab_
   go_wp2_with fail
   refine(Kr _ _ _ ((l.drop 2).take n) _ rd CI hcd).mono ?_;rintro e w3 ⟨rfl,b3⟩;have UT:=yy.below b3 yy.lt;have B3:=Below.next B1 b3;obtain⟨zs,er,hde⟩:∃zs er,bT ((l.drop 2).take n)=(zs,er):=⟨_,_,rfl⟩;rw[hde]at HDL HU⊢;simp only at HU;have hlz:zs.length=10:=ae HDL;clear HDL hde rd yy B1 b3;have kf:=UT.free;have L3:=UT.lt;obtain⟨m0,m1,m2,m3,m4,m5,m6,m7,m8,m9⟩:=aK.ZF UT
   match zs,hlz with
   |[x0,x1,x2,x3,x4,x5,x6,x7,x8,x9],_=>
    simp only[jJ,List.map_cons,List.map_nil];have HUU:=bC (ae HU);clear HU;by_cases G_:er=0
    ·subst G_;have HP:Hid (cj l=([x0,x1,x2,x3,x4,x5,x6,x7,x8,x9],n+6)):=by show cj l=_;rw[ae HUU,if_neg (AZ rfl)]
     have aca:E+4=((n+6:Nat):Int):=by have:=ae Yq;omega
     have afi:=bC aca;clear aca;go_wp2;have SB:=aO.Mp w3 w.heap.size x0 x1 x2 x3 x4 x5 x6 x7 x8 x9;have RT:=UT.Mp x0 x1 x2 x3 x4 x5 x6 x7 x8 x9;have BT:=SB.under B3 (Aa _);exact Al (kC (RT.below (aA _ _) RT.lt) rfl rfl) rfl ⟨by rw[ae HP,ae afi],BT.alloc BT.size _⟩
    ·have fM:(er==0)=false:=by simpa using G_
     have HP:Hid (cj l=(eR,0)):=by show cj l=_;rw[ae HUU,if_pos G_]
     clear G_;go_wp2;have SB:=aO.Mp w3 w.heap.size 0 0 0 0 0 0 0 0 0 0;have RT:=UT.Mp 0 0 0 0 0 0 0 0 0 0;have BT:=SB.under B3 (Aa _);exact Al (kC (RT.below (aA _ _) RT.lt) rfl rfl) rfl ⟨by rw[ae HP];rfl,BT.alloc BT.size _⟩
  ·have hb:((strOfNums (four (sumOf (l.take (n+2))))).toList==(strOfNums ((l.drop (n+2)).take 4)).toList)=false:=by
    simp only[beq_eq_false_iff_ne,ne_eq];exact fun hh=>hq (OG ab9 rp.wf hh)
   have HP:Hid (cj l=(eR,0)):=by
    show cj l=(eR,0);have:=ae hT;unfold cj a7;rw[ae HN,if_neg (by omega),if_neg (by omega),if_pos hq]
   clear hq
   go_region_held3 (fun _=>True) (trivial) ((first|(go_at_call 188;refine(yu _ E.toNat _ (l.take (n+2)) _ rs (by omega)).mono ?_;rintro e w1 ⟨rfl,r1,bb⟩;have b2:bZ W w1:=Below.next (pG _ 1) bb;have r2:RowK .u8 w1 (some ⟨w.heap.size+1,0,none⟩) 4 (four (sumOf (l.take (n+2)))):=(by rw[←S0];exact r1);have rp1:=rp.below b2)|(go_at_call 187;refine(DQ _ _ _ _ _ _ (four (sumOf (l.take (n+2)))) ((l.drop (n+2)).take 4) _ r2 rp1).mono ?_;rintro e w2 ⟨rfl,rfl⟩)))
   have yy:=rb.below b2 rb.lt;have B1:=Below.next B0 b2;have kf:=yy.free;obtain⟨m0,m1,m2,m3,m4,m5,m6,m7,m8,m9⟩:=aK.ZF yy;go_wp2;exact Al (kC (yy.Mp 0 0 0 0 0 0 0 0 0 0) rfl rfl) rfl ⟨by rw[ae HP];rfl,(aO.Mp _ w.heap.size 0 0 0 0 0 0 0 0 0 0).under B1 (Aa _)⟩
theorem H6(a:tB)(len cap:Nat)(l:tG)(w:tA)(h:RowK .u8 w a len l)(qv:len≤cap)(hc:cap≤9223372036854775807)(hm:len≤1000000):
  cA 144 #[.slice a len cap] w (rB (.tuple #[jJ (cj l).1,iV (cj l).2]) w):=by
 by_cases h2:len<2
 ·have hp:cj l=(eR,0):=by
   have:=h.cy;unfold cj a7;rw[if_pos (by omega)]
  rw[hp];exact kl a len cap w h2
 ·obtain⟨b,off,rfl⟩:=h.form (by omega);exact Fx b off len cap l w h (by omega) qv hc hm
theorem Tryz.V1:(Tryz.prog.info? 167).map (fun i=>(i.zero,i.size,i.bytes))=some (some (.agg #[iV 0,iV 0,iV 0,iV 0,iV 0,iV 0,iV 0,iV 0,iV 0,iV 0]),10,80):=by kernel_rfl
def ma(rs:List (List Int)):List Value:=rs.flatten.map (Value.int .i64)
theorem A1(rs:List (List Int))(zs:tG):ma (rs++[zs])=ma rs++zs.map (Value.int .i64):=by simp[ma]
structure jc(w:tA)(a:tB)(rs:List (List Int)):Prop where
 Mp:∀z∈rs,z.length=10
 cell:∀i,i<rs.length*10→∃b off,a=some ⟨b,off,none⟩∧b<w.heap.size∧w.cell? ⟨b,off+i,none⟩=some (iV (rs.flatten.getD i 0))
theorem H8(rs:List (List Int))(h:∀z∈rs,z.length=10):rs.flatten.length=rs.length*10:=by
 induction rs with
 |nil=>rfl
 |cons z rs ih=>
  have:=h z (by simp);have:=ih (fun y hy=>h y (by simp[hy]));simp only[List.flatten_cons,List.length_append,List.length_cons];omega
theorem jc.below{w w':tA}{a:tB}{rs:List (List Int)}(h:jc w a rs)(hb:bZ w w'):jc w' a rs:=
 ⟨h.Mp,fun i hi=>by
  obtain⟨b,off,ha,aM,hc⟩:=h.cell i hi
  exact⟨b,off,ha,Aj aM hb.size,(hb.cell aM).trans hc⟩⟩
theorem jc.nil(w:tA)(a:tB):jc w a []:=⟨by simp,fun i hi=>by simp at hi⟩
theorem jc.xm{w:tA}{base n:Nat}{v:tK}{rs:List (List Int)}(h:w.ownsRow base 167 10 v n (ma rs))(hn:rs.length=n)(ht:∀z∈rs,z.length=10):
  ∃a cap,v= .slice a n cap∧jc w a rs∧n≤cap∧cap≤maxLen∧(a=none→cap=0)∧(∀x,a=some x→base≤x.block):=by
 have hf:=H8 rs ht;rcases h.2 with⟨rfl,rfl⟩|⟨g,cap,cur,rfl,hb,hg,hc,hm,_⟩
 ·have:rs=[]:=AU.1 hn;subst this;exact⟨none,0,rfl,jc.nil _ _,Aa _,by unfold maxLen;omega,fun _=>rfl,fun x hx=>by cases hx⟩
 ·refine⟨some ⟨g,0,none⟩,cap,rfl,⟨ht,fun i hi=> ?_⟩,hc,hm,by simp,fun x hx=>by simp at hx;subst hx;exact hb⟩;have hci:=h.cellAt i (by omega);have JK:=(h.lt g rfl).2;refine⟨g,0,rfl,JK, ?_⟩;rw[Ae,hci,ma,Ar,Ag (by omega)];simp[List.getElem?_eq_getElem (show i<rs.flatten.length by omega)]
theorem Sc{w:tA}{R:Nat}{zs:tG}(h:aK w R zs):∀j u,(zs.map (Value.int .i64))[j]? =some u→w.cell? ((⟨R,0,none⟩:Addr).add j)=some u:=by
 intro j u hj;have hl:=h.1;have hjl:j<zs.length:=by
  rcases AA j zs.length with h'|h'
  ·exact h'
  ·simp[List.getElem?_eq_none h']at hj
 have Qw:(⟨R,0,none⟩:Addr).add j=⟨R,j,none⟩:=by unfold Addr.add;split<;>simp_all
 rw[Qw,h.cell j (by omega)];simp[List.getElem?_eq_getElem hjl]at hj;simp[List.getElem?_eq_getElem hjl,hj]
theorem RowK.from{k:IntKind}{w:tA}{b off len:Nat}{l:tG}(h:RowK k w (some ⟨b,off,none⟩) len l)(a:tB)(lo:Nat)(ha:lo<len→a=some ⟨b,off+lo,none⟩):RowK k w a (len-lo) (l.drop lo):=by
 have hl:=h.cy;refine⟨by simp;omega,fun u hu=>h.wf u (Bj hu),fun i hi=> ?_⟩;refine⟨b,off+lo,ha (by omega),h.lt (by omega), ?_⟩;have:=h.at (lo+i) (by omega);rw[BX,this];simp[List.getD_eq_getElem?_getD]
theorem pW{W:tA}{v:tK}{n e:Int}{tmps:tR}(t2:tmps[2]? =some v)(t3:tmps[3]? =some (iV n))(t4:tmps[4]? =some (iV e)):
  (results Tryz.f93 tmps).run Tryz.prog W= .ok (.tuple #[v,iV n,iV e]) W:=by
 simp[results,Tryz.results93,go_sem,t2,t3,t4]
theorem V2(a:tB)(len cap:Nat)(s:Int)(w:tA)(hm:len≤140737488351232)(h:¬(len≤100000∧0≤s∧s≤len)):
  cA 93 #[.agg #[.slice a len cap,iV s]] w (rB (.tuple #[.slice none 0 0,iV 0,iV 6]) w):=by
 go_enter Tryz.func93,Tryz.ntmps93
 go_wp2_with fail
 refine(Hu a len cap s _ hm h).mono ?_;rintro e w1 ⟨rfl,b1⟩;go_wp2;exact Al (pW rfl rfl rfl) rfl ⟨rfl,oo b1⟩
theorem yz{b zs:tG}{m:Nat}(h:a7 b=some (zs,m)):cj b=(zs,m):=by unfold cj;rw[h]
theorem yA{b:tG}(h:a7 b=none):cj b=(eR,0):=by unfold cj;rw[h]
theorem OI(b off len cap:Nat)(l:tG)(s:Int)(w:tA)(h:RowK .u8 w (some ⟨b,off,none⟩) len l)(qv:len≤cap)(hc:cap≤9223372036854775807)(h1:len≤100000)(h2:0≤s)(h3:s≤len):
  cA 93 #[.agg #[.slice (some ⟨b,off,none⟩) len cap,iV s]] w fun e w'=>
   ∃a' bh,e= .returned (.tuple #[.slice a' (bu l).1.length bh,iV (bu l).2,iV 0])∧jc w' a' (bu l).1∧(bu l).1.length≤bh∧bh≤9223372036854775807∧(a'=none→bh=0)∧(∀x,a'=some x→w.heap.size≤x.block)∧bZ w w':=by
 obtain⟨i0,hi,Du,wh,uC⟩:=info_parts Tryz.V1;have hl:=h.cy;go_enter Tryz.func93,Tryz.ntmps93
 go_wp2_with fail
 obtain⟨W,hW,tb0,B0,S0⟩:∃W,W=w.alloc (.cells #[.slice (some ⟨b,off,none⟩) len cap,iV s] 124)∧aL W w.heap.size (some ⟨b,off,none⟩) len cap s∧bZ w W∧W.heap.size=w.heap.size+1:=⟨_,rfl,aL.new w _ len cap s,aA _ _,bJ _ _⟩;rw[←hW];have r0:=h.below B0;clear hW h;refine(lR (some ⟨b,off,none⟩) len cap s _ h1 h2 h3).mono ?_;rintro e w1 ⟨rfl,b1⟩;have sF:=tb0.below b1 tb0.lt;have r1:=r0.below b1;have B1:=Below.next B0 b1;have z1:=b1.size;clear tb0 r0 B0 b1;go_wp2
 go_loopw [5,6] (fun v t wr=>∃(k:Nat) (rs:List (List Int)),t=iV k∧DP l k rs∧6*rs.length≤k∧(∀z∈rs,z.length=10)∧wr.ownsRow w1.heap.size 167 10 v rs.length (ma rs)∧bZ w1 wr)
  (fun _ t _=>len-(intOf t).toNat)
 case atStart=>exact⟨0,[],rfl,vL l,Aa _,by simp,Bn _ _ _ _,Be _ _⟩
 case round=>
  obtain⟨k,rs,rfl,hgo,h6,hten,bM,gO⟩:=hrel;have hk:k≤len:=by have:=hgo.1;omega
  have Jm:(k:Int)≤(len:Int):=by omega
  have aii:(len:Int)≤(cap:Int):=by omega
  have wA:=sF.below gO sF.lt;have r2:=r1.below gO;have z2:=gO.size;have c0:=wA.cell0;have vC:=r2.wf;by_cases hck:cap=k
  ·have hu:a7 (l.drop k)=none:=by unfold a7;rw[if_pos (by simp;omega)]
   have afj:=hck.symm;clear hck;subst afj
   go_wp2_with fail
   refine(kl _ _ _ _ (by omega)).mono ?_;rintro e w3 ⟨rfl,b3⟩;have B3:bZ w1 w3:=gO.trans (b3.mono z2);have o3:=uO bM b3;clear gO b3 bM wA r2 c0;have he:=uQ hgo hu;simp only[jJ,eR,List.map_cons,List.map_nil];obtain⟨a',bh,hv,hr,hc',hm',sC,hx'⟩:=jc.xm o3 rfl hten;subst hv;clear o3;go_wp2;refine Al (pW rfl rfl rfl) rfl ?_;rw[he];exact⟨a',bh,rfl,hr.below (aA _ _),hc',by unfold maxLen at hm';exact hm',sC,fun x hx=>by have:=hx' x hx;omega,Below.next (Below.next B1 B3) (aA _ _)⟩
  ·go_wp2_with fail
   refine(H6 _ _ _ (l.drop k) _ (r2.from _ k (fun Jp=>by first|rfl|omega)) (by omega) (by omega) (by omega)).mono ?_;rintro e w3 ⟨rfl,b3⟩;have B3:bZ w1 w3:=gO.trans (b3.mono z2);have o3:=uO bM b3;clear gO b3 bM wA r2 c0;cases hu:a7 (l.drop k)with
   |none=>
    rw[yA hu];have he:=uQ hgo hu;simp only[jJ,eR,List.map_cons,List.map_nil];obtain⟨a',bh,hv,hr,hc',hm',sC,hx'⟩:=jc.xm o3 rfl hten;subst hv;clear o3;go_wp2;refine Al (pW rfl rfl rfl) rfl ?_;rw[he];exact⟨a',bh,rfl,hr.below (aA _ _),hc',by unfold maxLen at hm';exact hm',sC,fun x hx=>by have:=hx' x hx;omega,Below.next (Below.next B1 B3) (aA _ _)⟩
   |some p=>
    obtain⟨zs,m⟩:=p;have Q5:=HJ hu;obtain⟨_,hm6,hml,_,_⟩:=gx hu;have afk:=bC (yx hgo hu);rw[yz hu];rw[AM]at hml;have hms:k+m≤len:=by omega
    have hm7:6≤m:=by omega
    have aij:((m:Int)==0)=false:=by simp;omega
    have z3:=B3.size;clear hu hm6 hml
    match zs,Q5 with
    |[x0,x1,x2,x3,x4,x5,x6,x7,x8,x9],_=>
     simp only[jJ,List.map_cons,List.map_nil]
     have rn:Hid (aK ((w3.alloc (.cells #[iV x0,iV x1,iV x2,iV x3,iV x4,iV x5,iV x6,iV x7,iV x8,iV x9] 167)).alloc (.cells #[iV x0,iV x1,iV x2,iV x3,iV x4,iV x5,iV x6,iV x7,iV x8,iV x9] 167)) (w3.heap.size+1) [x0,x1,x2,x3,x4,x5,x6,x7,x8,x9]):=⟨rfl,by
      have:=AQ (w3.alloc (.cells #[iV x0,iV x1,iV x2,iV x3,iV x4,iV x5,iV x6,iV x7,iV x8,iV x9] 167)) (.cells #[iV x0,iV x1,iV x2,iV x3,iV x4,iV x5,iV x6,iV x7,iV x8,iV x9] 167);rw[bJ]at this
      exact this⟩
     go_wp2_with (at_builtin;refine Cl _ rfl _ _ 176 rfl w1.heap.size 167 i0 _ 10 80 Tryz.underlying176 hi Du wh uC rfl (by decide) _ _ _ rfl ((o3.alloc _).alloc _) ⟨w3.heap.size+1,0,none⟩ 1 1 ([x0,x1,x2,x3,x4,x5,x6,x7,x8,x9].map (Value.int .i64)) rfl rfl (Sc (ae rn)) (Cp .i64 _) (by unfold maxLen;omega) (by omega) (by simp;omega) ?_;intro v' w5 hown5 hgrow5 _)
     have acb:=o3.lt;have R1:Hid (w5.ownsRow w1.heap.size 167 10 v' (rs++[[x0,x1,x2,x3,x4,x5,x6,x7,x8,x9]]).length (ma (rs++[[x0,x1,x2,x3,x4,x5,x6,x7,x8,x9]]))):=by
      rw[A1,Ac];exact hown5
     have R2:bZ w1 w5:=((B3.alloc z3 _).alloc (by simp;omega) _).grown hgrow5 (by simp;omega) (by intro t ht;exact(acb t ht).1)
     have R3:Hid (∀z∈rs++[[x0,x1,x2,x3,x4,x5,x6,x7,x8,x9]],z.length=10):=bC (fun z hz=>by
      rcases Ao.1 hz with hz|hz
      ·exact hten z hz
      ·simp at hz;subst hz;rfl)
     clear hown5 hgrow5 o3 rn acb;go_wp2
     go_roundw
     case rel=>exact⟨k+m,_,by go_num,ae afk,by simp;omega,ae R3,ae R1,R2⟩
     case measure=>simp[intOf];omega
theorem yB:bu []=([],0):=rfl
theorem Sd(s:Int)(w:tA)(h2:0≤s)(h3:s≤((0:Nat):Int)):
  cA 93 #[.agg #[.slice none 0 0,iV s]] w (rB (.tuple #[.slice none 0 0,iV 0,iV 0]) w):=by
 go_enter Tryz.func93,Tryz.ntmps93
 go_wp2_with fail
 obtain⟨W,hW,tb0,B0,S0⟩:∃W,W=w.alloc (.cells #[.slice none 0 0,iV s] 124)∧aL W w.heap.size none 0 0 s∧bZ w W∧W.heap.size=w.heap.size+1:=⟨_,rfl,aL.new w _ 0 0 s,aA _ _,bJ _ _⟩;rw[←hW];clear hW;refine(lR none 0 0 s _ (by omega) h2 h3).mono ?_;rintro e w1 ⟨rfl,b1⟩;have sF:=tb0.below b1 tb0.lt;have B1:=Below.next B0 b1;clear tb0 B0 b1;go_wp2
 go_loopw [5,6] (fun v t wr=>t=iV 0∧v= .slice none 0 0∧w1=wr) (fun _ _ _=>0)
 case atStart=>exact⟨rfl,rfl,rfl⟩
 case round=>
  obtain⟨rfl,rfl,rfl⟩:=hrel;have c0:=sF.cell0
  go_wp2_with fail
  refine(kl _ _ _ _ (by omega)).mono ?_;rintro e w3 ⟨rfl,b3⟩;have B3:=Below.next B1 b3;clear b3 B1 c0 sF;simp only[jJ,eR,List.map_cons,List.map_nil];go_wp2;exact Al (pW rfl rfl rfl) rfl ⟨rfl,Below.next B3 (aA _ _)⟩
theorem OJ(x:Addr)(cap:Nat)(s:Int)(w:tA)(h2:0≤s)(h3:s≤((0:Nat):Int)):
  cA 93 #[.agg #[.slice (some x) 0 cap,iV s]] w (rB (.tuple #[.slice none 0 0,iV 0,iV 0]) w):=by
 go_enter Tryz.func93,Tryz.ntmps93
 go_wp2_with fail
 obtain⟨W,hW,tb0,B0,S0⟩:∃W,W=w.alloc (.cells #[.slice (some x) 0 cap,iV s] 124)∧aL W w.heap.size (some x) 0 cap s∧bZ w W∧W.heap.size=w.heap.size+1:=⟨_,rfl,aL.new w _ 0 cap s,aA _ _,bJ _ _⟩;rw[←hW];clear hW;refine(lR (some x) 0 cap s _ (by omega) h2 h3).mono ?_;rintro e w1 ⟨rfl,b1⟩;have sF:=tb0.below b1 tb0.lt;have B1:=Below.next B0 b1;clear tb0 B0 b1;go_wp2
 go_loopw [5,6] (fun v t wr=>t=iV 0∧v= .slice none 0 0∧w1=wr) (fun _ _ _=>0)
 case atStart=>exact⟨rfl,rfl,rfl⟩
 case round=>
  obtain⟨rfl,rfl,rfl⟩:=hrel;have c0:=sF.cell0
  go_wp2_with fail
  all_goals
   refine(kl _ _ _ _ (by omega)).mono ?_;rintro e w3 ⟨rfl,b3⟩;have B3:=Below.next B1 b3;clear b3 B1 c0 sF;simp only[jJ,eR,List.map_cons,List.map_nil];go_wp2;exact Al (pW rfl rfl rfl) rfl ⟨rfl,Below.next B3 (aA _ _)⟩
theorem H9(a:tB)(len cap:Nat)(l:tG)(s:Int)(w:tA)(h:RowK .u8 w a len l)(hn:a=none→cap=0)(qv:len≤cap)(hc:cap≤9223372036854775807)(h1:len≤100000)(h2:0≤s)(h3:s≤len):
  cA 93 #[.agg #[.slice a len cap,iV s]] w fun e w'=>
   ∃a' bh,e= .returned (.tuple #[.slice a' (bu l).1.length bh,iV (bu l).2,iV 0])∧jc w' a' (bu l).1∧(bu l).1.length≤bh∧bh≤9223372036854775807∧(a'=none→bh=0)∧(∀x,a'=some x→w.heap.size≤x.block)∧bZ w w':=by
 cases a with
 |none=>
  have Qj:=hn rfl;subst Qj;have Jr:len=0:=by omega
  subst Jr;have hl:l=[]:=AU.1 h.cy;subst hl;rw[yB];refine(Sd s w h2 h3).mono ?_;rintro e w' ⟨rfl,hb⟩;exact⟨none,0,rfl,jc.nil _ _,Aa _,by omega,fun _=>rfl,(fun x hx=>by cases hx),hb⟩
 |some x=>
  obtain⟨b,off,sp⟩:=x;by_cases h0:0<len
  ·obtain⟨b',off',he⟩:=h.form h0;rw[he]at h⊢;exact OI b' off' len cap l s w h qv hc h1 h2 h3
  ·have Jr:len=0:=by omega
   subst Jr;have hl:l=[]:=AU.1 h.cy;subst hl;rw[yB];refine(OJ ⟨b,off,sp⟩ cap s w h2 h3).mono ?_;rintro e w' ⟨rfl,hb⟩;exact⟨none,0,rfl,jc.nil _ _,Aa _,by omega,fun _=>rfl,(fun x hx=>by cases hx),hb⟩
theorem H_(w:tA)(a:tB)(len cap:Nat)(s:Int)(x0 x1 x2 x3 x4 x5 x6 x7 x8 x9:Int):
  ∃W,W=((w.alloc (.cells #[.slice a len cap,iV s] 124)).alloc (.cells #[iV x0,iV x1,iV x2,iV x3,iV x4,iV x5,iV x6,iV x7,iV x8,iV x9] 167)).alloc (.cells #[.slice none 0 0,iV 0] 124)∧
  aL W w.heap.size a len cap s∧aK W (w.heap.size+1) [x0,x1,x2,x3,x4,x5,x6,x7,x8,x9]∧aL W (w.heap.size+1+1) none 0 0 0∧bZ w W∧W.heap.size=w.heap.size+1+1+1:=by
 refine⟨_,rfl, ?_, ?_, ?_, ?_, ?_⟩
 ·exact(((aL.new w a len cap s).below (aA _ _) (by simp)).below (aA _ _) (by simp;omega))
 ·have h0:((w.alloc (.cells #[.slice a len cap,iV s] 124)).alloc (.cells #[iV x0,iV x1,iV x2,iV x3,iV x4,iV x5,iV x6,iV x7,iV x8,iV x9] 167)).heap[w.heap.size+1]? =some (.cells #[iV x0,iV x1,iV x2,iV x3,iV x4,iV x5,iV x6,iV x7,iV x8,iV x9] 167):=by
   have:=AQ (w.alloc (.cells #[.slice a len cap,iV s] 124)) (.cells #[iV x0,iV x1,iV x2,iV x3,iV x4,iV x5,iV x6,iV x7,iV x8,iV x9] 167);rw[bJ]at this;exact this
  exact⟨rfl,by rw[Below.heap_alloc _ _ _ (by rw[bJ,bJ];omega)];exact h0⟩
 ·have:=aL.new ((w.alloc (.cells #[.slice a len cap,iV s] 124)).alloc (.cells #[iV x0,iV x1,iV x2,iV x3,iV x4,iV x5,iV x6,iV x7,iV x8,iV x9] 167)) none 0 0 0;rw[bJ,bJ]at this;exact this
 ·exact(gj _ _ _).alloc (by rw[bJ,bJ];omega) _
 ·rw[bJ,bJ,bJ]
theorem DR{W:tA}{R:Nat}{a:tB}{len cap:Nat}{s e:Int}{tmps:tR}(h:aL W R a len cap s)(t:tmps[4]? =some (.pointer (some ⟨R,0,none⟩)))(te:tmps[5]? =some (iV e)):
  (results Tryz.f133 tmps).run Tryz.prog W= .ok (.tuple #[.agg #[.slice a len cap,iV s],iV e]) W:=by
 have k0:=h.cell0;have k1:=h.kX;simp[results,Tryz.results133,go_sem,k0,k1,t,te]
theorem OK{W:tA}{b:Nat}{t:tZ}{f:Nat×Nat}(p q:Part)(hb:W.heap[b]? =some (.cells #[.slice p.a p.len p.cap,.slice q.a q.len q.cap] t f)):
  ∀k,k<[p,q].length→W.cell? ⟨b,0+k,none⟩=some (.slice ([p,q].getD k cY).a ([p,q].getD k cY).len ([p,q].getD k cY).cap):=by
 intro k hk
 match k,hk with
 |0,_=>simp[World.cell?,hb]
 |1,_=>simp[World.cell?,hb]
theorem Se{W:tA}(p q:Part)(hp:RowK .u8 W p.a p.len p.l)(Ms:p.a=none→p.cap=0)(hq:RowK .u8 W q.a q.len q.l)(ZG:q.a=none→q.cap=0):
  ∀k,k<[p,q].length→RowK .u8 W ([p,q].getD k cY).a ([p,q].getD k cY).len ([p,q].getD k cY).l∧(([p,q].getD k cY).a=none→([p,q].getD k cY).cap=0):=by
 intro k hk
 match k,hk with
 |0,_=>exact⟨hp,Ms⟩
 |1,_=>exact⟨hq,ZG⟩
theorem vM(x0 x1 x2 x3 x4 x5 x6 x7 x8 x9:Int):(bytesOf x0 x1 x2 x3 x4 x5 x6 x7 x8 x9).length=if x0=2∨x0=5 then 40 else 16:=by
 unfold bytesOf;split<;>simp[nh]
theorem Ks(b:Nat)(t:tZ)(f:Nat×Nat)(a:tB)(len cap:Nat)(l:tG)(a':tB)(fD bh:Nat)(l':tG)(W:tA)
  (vN:W.heap[b]? =some (.cells #[.slice a len cap,.slice a' fD bh] t f)) (hb:b<W.heap.size) (hs:len+fD≤1000000)
  (hp:RowK .u8 W a len l) (Ms:a=none→cap=0) (hq:RowK .u8 W a' fD l') (ZG:a'=none→bh=0):
  cA 138 #[.slice (some ⟨b,0,none⟩) 2 2] W fun e w'=>
   ∃a2 cap2,e= .returned (.slice a2 (len+fD) cap2)∧RowK .u8 w' a2 (len+fD) (l++l')∧len+fD≤cap2∧(a2=none→cap2=0)∧cap2≤9223372036854775807∧(∀x,a2=some x→W.heap.size≤x.block)∧bZ W w':=by
 have e1:dr [⟨a,len,cap,l⟩,⟨a',fD,bh,l'⟩]=len+fD:=by simp[dr]
 have e2:dV [⟨a,len,cap,l⟩,⟨a',fD,bh,l'⟩]=l++l':=by simp[dV]
 have h:=sb b 0 2 [⟨a,len,cap,l⟩,⟨a',fD,bh,l'⟩] W (by simp) hb (by rw[e1];exact hs) (OK ⟨a,len,cap,l⟩ ⟨a',fD,bh,l'⟩ vN) (Se ⟨a,len,cap,l⟩ ⟨a',fD,bh,l'⟩ hp Ms hq ZG);rw[e1,e2]at h;exact h
theorem OL(a:tB)(len cap:Nat)(l:tG)(s x0 x1 x2 x3 x4 x5 x6 x7 x8 x9:Int)(w:tA)(h:RowK .u8 w a len l)(hn:a=none→cap=0)(h1:len≤100000)(h2:0≤s)(h3:s≤len)(hf:aE x0 x1 x2 x3 x4 x5 x6 x7 x8 x9=0):
  cA 133 #[.agg #[.slice a len cap,iV s],.agg #[iV x0,iV x1,iV x2,iV x3,iV x4,iV x5,iV x6,iV x7,iV x8,iV x9]] w fun e w'=>
   (100000<len+((bytesOf x0 x1 x2 x3 x4 x5 x6 x7 x8 x9).length+6)∧e= .returned (.tuple #[.agg #[.slice none 0 0,iV 0],iV 14])∧bZ w w')∨
   (len+((bytesOf x0 x1 x2 x3 x4 x5 x6 x7 x8 x9).length+6)≤100000∧∃a' bh,e= .returned (.tuple #[.agg #[.slice a' (len+((bytesOf x0 x1 x2 x3 x4 x5 x6 x7 x8 x9).length+6)) bh,iV s],iV 0])∧
    RowK .u8 w' a' (len+((bytesOf x0 x1 x2 x3 x4 x5 x6 x7 x8 x9).length+6)) (l++dL (bytesOf x0 x1 x2 x3 x4 x5 x6 x7 x8 x9))∧len+((bytesOf x0 x1 x2 x3 x4 x5 x6 x7 x8 x9).length+6)≤bh∧(a'=none→bh=0)∧bh≤9223372036854775807∧(∀x,a'=some x→w.heap.size≤x.block)∧bZ w w'):=by
 have HL:Hid ((bytesOf x0 x1 x2 x3 x4 x5 x6 x7 x8 x9).length=if x0=2∨x0=5 then 40 else 16):=vM x0 x1 x2 x3 x4 x5 x6 x7 x8 x9;go_enter Tryz.func133,Tryz.ntmps133
 go_wp2_with fail
 obtain⟨W,hW,tb0,rb,sF,B0,S0⟩:=H_ w a len cap s x0 x1 x2 x3 x4 x5 x6 x7 x8 x9;rw[←hW];have r0:=h.below B0;clear hW h;refine(lR a len cap s _ h1 h2 h3).mono ?_;rintro e w1 ⟨rfl,b1⟩;have ta2:=tb0.below b1 tb0.lt;have wA:=sF.below b1 sF.lt;have yy:=rb.below b1 rb.lt;have r1:=r0.below b1;have z1:=b1.size;have m0:=yy.cell 0 (by omega);have m1:=yy.cell 1 (by omega);have m2:=yy.cell 2 (by omega);have m3:=yy.cell 3 (by omega);have m4:=yy.cell 4 (by omega);have m5:=yy.cell 5 (by omega);have m6:=yy.cell 6 (by omega);have m7:=yy.cell 7 (by omega);have m8:=yy.cell 8 (by omega);have m9:=yy.cell 9 (by omega);simp only[List.getD_cons_zero,List.getD_cons_succ]at m0 m1 m2 m3 m4 m5 m6 m7 m8 m9;have B1:=Below.next B0 b1;clear b1 B0 tb0 sF rb yy r0
 go_wp2_with fail
 refine(OE x0 x1 x2 x3 x4 x5 x6 x7 x8 x9 _ hf).mono ?_;rintro e w2 ⟨g,n,rfl,Yr,r2,b2⟩;have Qm:n=(bytesOf x0 x1 x2 x3 x4 x5 x6 x7 x8 x9).length:=r2.cy.symm;have sR:n≤40:=by rw[Yr];split<;>omega
 clear Yr HL;subst Qm;generalize hbs:bytesOf x0 x1 x2 x3 x4 x5 x6 x7 x8 x9=bs at r2 sR⊢;have ta3:=ta2.below b2 ta2.lt;have Oy:=wA.below b2 wA.lt;have q2:=r1.below b2;have B2:=Below.next B1 b2;have z2:=b2.size;clear m0 m1 m2 m3 m4 m5 m6 m7 m8 m9 b2 wA ta2 r1 B1 hf;have HB:=bC hbs;clear hbs
 go_wp2_with fail
 refine(OB (some ⟨g,0,none⟩) bs.length bs.length bs _ r2 (by simp) (by omega)).mono ?_;rintro e w3 ⟨a3,cap3,rfl,r3,c3,n3,_,y3,b3⟩;have ta4:=ta3.below b3 ta3.lt;have ZH:=Oy.below b3 Oy.lt;have q3:=q2.below b3;have B3:=Below.next B2 b3;have z3:=b3.size;have k0:=ta4.cell0;have k1:=ta4.kX;have j0:=ZH.cell0;have j1:=ZH.kX;have jf:=ZH.free;clear ta3 Oy q2 B2 b3 r2;by_cases Ia:100000<len+(bs.length+6)
 ·have hd:(100000:Int)<(len:Int)+((bs.length+6:Nat):Int):=by omega
  have HF:=bC Ia;clear Ia;obtain⟨m,hm⟩:∃m,bs.length+6=m:=⟨_,rfl⟩;rw[hm]at hd⊢;go_wp2;exact Al (DR (ZH.store none 0 0 0) rfl rfl) rfl (.inl ⟨by rw[ae HB];exact ae HF,rfl,(cF w3 _ _ _).under B3 (by omega)⟩)
 ·have hd:¬(100000:Int)<(len:Int)+((bs.length+6:Nat):Int):=by omega
  have hS:w.heap.size<w3.heap.size:=by omega
  have hT:w.heap.size+1+1<w3.heap.size:=by omega
  have HF:=bC Ia;clear j0 j1 jf Ia;obtain⟨m,hm⟩:∃m,bs.length+6=m:=⟨_,rfl⟩;rw[hm]at hd r3 c3⊢
  go_wp2_with fail
  have BW:Below w3.heap.size w3 (w3.alloc (.cells #[.slice a len cap,.slice a3 m cap3] 122)).drew:=(aA _ _).drew;have vN:(w3.alloc (.cells #[.slice a len cap,.slice a3 m cap3] 122)).drew.heap[w3.heap.size]? =some (.cells #[.slice a len cap,.slice a3 m cap3] 122):=AQ w3 _;have Sf:w3.heap.size<(w3.alloc (.cells #[.slice a len cap,.slice a3 m cap3] 122)).drew.heap.size:=by
   have:=bJ w3 (.cells #[.slice a len cap,.slice a3 m cap3] 122);show w3.heap.size<(w3.alloc (.cells #[.slice a len cap,.slice a3 m cap3] 122)).heap.size;omega
  go_region_held3 (fun w'=>w'.cell? ⟨w.heap.size,0,none⟩=some (.slice a len cap)∧w'.cell? ⟨w.heap.size,1,none⟩=some (iV s)) (first|go_keep|exact⟨(b5.cell (p:=⟨w.heap.size,0,none⟩) hS).trans k0,(b5.cell (p:=⟨w.heap.size,1,none⟩) hS).trans k1⟩|exact⟨((cF w5 _ _ _).cell (by omega)).trans ((b5.cell (p:=⟨w.heap.size,0,none⟩) hS).trans k0),((cF w5 _ _ _).cell (by omega)).trans ((b5.cell (p:=⟨w.heap.size,1,none⟩) hS).trans k1)⟩) ((go_at_call 138;refine(Ks w3.heap.size _ _ a len cap l a3 m cap3 (dL bs) _ vN Sf (by omega) (q3.below BW) hn (r3.below BW) n3).mono ?_;rintro e w5 ⟨a5,cap5,rfl,r5,c5,n5,m5,y5,bb⟩;have b5:bZ w3 w5:=Below.next BW bb;have Qo:=ZH.below b5 hT;have j0:=Qo.cell0;have j1:=Qo.kX;have jf:=Qo.free;have y6:∀x,a5=some x→w3.heap.size≤x.block:=fun x hx=>AN (Nat.le_of_lt Sf) (y5 x hx)))
  go_wp2;refine Al (DR (Qo.store a5 (len+m) cap5 s) rfl rfl) rfl (.inr ?_);have Ia:=ae HF;rw[ae HB,hm];exact⟨by omega,a5,cap5,rfl,(cF w5 _ _ _).row r5 (fun x hx _=>by have:=y6 x hx;omega),c5,n5,m5,fun x hx=>by have:=y6 x hx;omega,(cF w5 _ _ _).under (Below.next B3 b5) (by omega)⟩
theorem th(b:tG):∀(f k:Nat) (rs:List (List Int)),k≤b.length→6*rs.length≤k→6*(jW f b k rs).1.length≤(jW f b k rs).2∧(jW f b k rs).2≤b.length
 |0,k,rs,h1,h2=>⟨h2,h1⟩
 |f+1,k,rs,h1,h2=>by
  cases hu:a7 (b.drop k)with
  |none=>rw[qB hu];exact⟨h2,h1⟩
  |some p=>
   obtain⟨zs,m⟩:=p;rw[oU hu];obtain⟨_,hm,hl,_⟩:=gx hu;rw[AM]at hl;exact th b f (k+m) (rs++[zs]) (by omega) (by simp;omega)
theorem gK(b:tG):6*(bu b).1.length≤(bu b).2∧(bu b).2≤b.length:=th b _ 0 [] (Ak _) (Aa _)
theorem mf{W:tA}{R:Nat}{a:tB}{len cap:Nat}{s e:Int}{tmps:tR}(h:aL W R a len cap s)(t:tmps[2]? =some (.pointer (some ⟨R,0,none⟩)))(te:tmps[3]? =some (iV e)):
  (results Tryz.f85 tmps).run Tryz.prog W= .ok (.tuple #[.agg #[.slice a len cap,iV s],iV e]) W:=by
 have k0:=h.cell0;have k1:=h.kX;simp[results,Tryz.results85,go_sem,k0,k1,t,te]
theorem Kt(b:Nat)(t:tZ)(f:Nat×Nat)(a:tB)(len cap:Nat)(l:tG)(W:tA)
  (vN:W.heap[b]? =some (.cells #[.slice a len cap] t f)) (hb:b<W.heap.size) (hs:len≤1000000) (hp:RowK .u8 W a len l) (Ms:a=none→cap=0):
  cA 138 #[.slice (some ⟨b,0,none⟩) 1 1] W fun e w'=>
   ∃a2 cap2,e= .returned (.slice a2 len cap2)∧RowK .u8 w' a2 len l∧len≤cap2∧(a2=none→cap2=0)∧cap2≤9223372036854775807∧(∀x,a2=some x→W.heap.size≤x.block)∧bZ W w':=by
 have e1:dr [⟨a,len,cap,l⟩]=len:=by simp[dr]
 have e2:dV [⟨a,len,cap,l⟩]=l:=by simp[dV]
 have h:=sb b 0 1 [⟨a,len,cap,l⟩] W (by simp) hb (by rw[e1];exact hs)
  (fun k hk=>by
   match k,hk with
   |0,_=>simp[World.cell?,vN])
  (fun k hk=>by
   match k,hk with
   |0,_=>exact⟨hp,Ms⟩)
 rw[e1,e2]at h;exact h
def nC(k:Nat)(s:Int):Int:=if(k:Int)<s then(k:Int)else s
theorem OM{k:Nat}{s:Int}(h:(k:Int)<s):nC k s=k:=if_pos h
theorem ON{k:Nat}{s:Int}(h:¬(k:Int)<s):nC k s=s:=if_neg h
theorem aaZ(a:tB)(len cap:Nat)(s:Int)(w:tA)(hm:len≤140737488351232)(h:¬(len≤100000∧0≤s∧s≤len)):
  cA 85 #[.agg #[.slice a len cap,iV s]] w (rB (.tuple #[.agg #[.slice none 0 0,iV 0],iV 6]) w):=by
 go_enter Tryz.func85,Tryz.ntmps85
 go_wp2_with fail
 obtain⟨W,hW,tb0,sF,B0,S0⟩:=nz w a len cap s;rw[←hW];clear hW;refine(V2 a len cap s _ hm h).mono ?_;rintro e w1 ⟨rfl,b1⟩;have wA:=sF.below b1 sF.lt;have j0:=wA.cell0;have j1:=wA.kX;have jf:=wA.free;go_wp2;exact Al (mf (wA.store none 0 0 0) rfl rfl) rfl ⟨rfl,(cF w1 _ _ _).under (Below.next B0 b1) (by omega)⟩
theorem Ku(a:tB)(len cap:Nat)(l:tG)(s:Int)(w:tA)(h:RowK .u8 w a len l)(hn:a=none→cap=0)(qv:len≤cap)(hc:cap≤9223372036854775807)(h1:len≤100000)(h2:0≤s)(h3:s≤len):
    cA 85 #[.agg #[.slice a len cap,iV s]] w fun e w'=>
      ∃a' bh,e= .returned (.tuple #[.agg #[.slice a' (bu l).2 bh,iV (nC (bu l).2 s)],iV 0])∧RowK .u8 w' a' (bu l).2 (l.take (bu l).2)∧(bu l).2≤bh∧(a'=none→bh=0)∧bh≤9223372036854775807∧(∀x,a'=some x→w.heap.size≤x.block)∧bZ w w':=by
  have hl:=h.cy;have hb:=gK l;go_enter Tryz.func85,Tryz.ntmps85
  go_wp2_with fail
  obtain⟨W,hW,tb0,sF,B0,S0⟩:=nz w a len cap s;rw[←hW];have r0:=h.below B0;clear hW h;refine(H9 a len cap l s _ r0 hn qv hc h1 h2 h3).mono ?_;rintro e w3 ⟨aR,capR,rfl,_,_,_,_,_,b3⟩;have ta4:=tb0.below b3 tb0.lt;have ZH:=sF.below b3 sF.lt;have q3:=r0.below b3;have B3:=Below.next B0 b3;have z3:=b3.size;have k0:=ta4.cell0;have k1:=ta4.kX;have hS:w.heap.size<w3.heap.size:=by omega
  have hT:w.heap.size+1<w3.heap.size:=by omega
  clear tb0 sF r0 b3 B0;obtain⟨rs,k,hro⟩:∃rs k,bu l=(rs,k):=⟨_,_,rfl⟩;rw[hro]at hb⊢;simp only at hb⊢;have HR:=bC hro;clear hro;have Jp:k≤len:=by omega
  have hkc:(k:Int)≤(cap:Int):=by omega
  have BW:Below w3.heap.size w3 (w3.alloc (.cells #[.slice a k cap] 122)).drew:=(aA _ _).drew;have vN:(w3.alloc (.cells #[.slice a k cap] 122)).drew.heap[w3.heap.size]? =some (.cells #[.slice a k cap] 122):=AQ w3 _;have Sf:w3.heap.size<(w3.alloc (.cells #[.slice a k cap] 122)).drew.heap.size:=by
    have:=bJ w3 (.cells #[.slice a k cap] 122);show w3.heap.size<(w3.alloc (.cells #[.slice a k cap] 122)).heap.size;omega
  have HW:=bC BW;have HC:=bC vN;have HL:=bC Sf;clear BW vN Sf;by_cases hs:(k:Int)<s
  all_goals
    go_wp2_with fail
    go_region_held3 (fun w'=>w'.cell? ⟨w.heap.size,0,none⟩=some (.slice a len cap)∧w'.cell? ⟨w.heap.size,1,none⟩=some (iV s)) (first|go_keep|exact⟨(b5.cell (p:=⟨w.heap.size,0,none⟩) hS).trans k0,(b5.cell (p:=⟨w.heap.size,1,none⟩) hS).trans k1⟩) ((go_at_call 138;refine(Kt w3.heap.size _ _ a k cap (l.take k) _ (ae HC) (ae HL) (by omega) ((q3.take k Jp).below (ae HW)) hn).mono ?_;rintro e w5 ⟨a5,cap5,rfl,r5,c5,n5,m5,y5,bb⟩;have b5:bZ w3 w5:=Below.next (ae HW) bb;have Qo:=ZH.below b5 hT;have j0:=Qo.cell0;have j1:=Qo.kX;have jf:=Qo.free;have y6:∀x,a5=some x→w3.heap.size≤x.block:=fun x hx=>AN (Nat.le_of_lt (ae HL)) (y5 x hx)))
    all_goals
      go_wp2
      first
        |(exfalso;omega)
        |(refine Al (mf (Qo.store a5 k cap5 (min s (k:Int))) rfl rfl) rfl ?_
          rw[ae HR,show nC k s=min s (k:Int) by unfold nC;split<;>omega]
          exact⟨a5,cap5,rfl,(cF w5 _ _ _).row r5 (fun x hx _=>by have:=y6 x hx;omega),c5,n5,m5,fun x hx=>by have:=y6 x hx;omega,(cF w5 _ _ _).under (Below.next B3 b5) (by omega)⟩)
        |(refine Al (mf (Qo.store a5 k cap5 (if(k:Int)<s then(k:Int)else s)) rfl rfl) rfl ?_
          rw[ae HR]
          exact⟨a5,cap5,rfl,(cF w5 _ _ _).row r5 (fun x hx _=>by have:=y6 x hx;omega),c5,n5,m5,fun x hx=>by have:=y6 x hx;omega,(cF w5 _ _ _).under (Below.next B3 b5) (by omega)⟩)
        |(refine Al (mf (Qo.store a5 k cap5 (k:Int)) rfl rfl) rfl ?_
          rw[ae HR,OM hs]
          exact⟨a5,cap5,rfl,(cF w5 _ _ _).row r5 (fun x hx _=>by have:=y6 x hx;omega),c5,n5,m5,fun x hx=>by have:=y6 x hx;omega,(cF w5 _ _ _).under (Below.next B3 b5) (by omega)⟩)
        |(refine Al (mf (Qo.store a5 k cap5 s) rfl rfl) rfl ?_
          rw[ae HR,ON (by simp only;omega)]
          exact⟨a5,cap5,rfl,(cF w5 _ _ _).row r5 (fun x hx _=>by have:=y6 x hx;omega),c5,n5,m5,fun x hx=>by have:=y6 x hx;omega,(cF w5 _ _ _).under (Below.next B3 b5) (by omega)⟩)
structure Rec where
 k:Int
 q:Int
 e:Int
 p:Int
 v:Ev
def Rec.fault(r:Rec):Int:=aE r.k r.q r.e r.p r.v.k r.v.p r.v.i r.v.b r.v.he r.v.hn
abbrev mj(r:Rec):Value:= .agg #[iV r.k,iV r.q,iV r.e,iV r.p,iV r.v.k,iV r.v.p,iV r.v.i,iV r.v.b,iV r.v.he,iV r.v.hn]
def km(w:tA)(R:Nat)(r:Rec):Prop:=w.heap[R]? =some (.cells #[iV r.k,iV r.q,iV r.e,iV r.p,iV r.v.k,iV r.v.p,iV r.v.i,iV r.v.b,iV r.v.he,iV r.v.hn] 167 (0,0))
theorem km.cells{w:tA}{R:Nat}{r:Rec}(h:km w R r):w.cell? ⟨R,0,none⟩=some (iV r.k)∧w.cell? ⟨R,1,none⟩=some (iV r.q)∧w.cell? ⟨R,2,none⟩=some (iV r.e)∧w.cell? ⟨R,3,none⟩=some (iV r.p)∧w.cell? ⟨R,4,none⟩=some (iV r.v.k)∧w.cell? ⟨R,5,none⟩=some (iV r.v.p)∧w.cell? ⟨R,6,none⟩=some (iV r.v.i)∧w.cell? ⟨R,7,none⟩=some (iV r.v.b)∧w.cell? ⟨R,8,none⟩=some (iV r.v.he)∧w.cell? ⟨R,9,none⟩=some (iV r.v.hn):=by
 unfold km at h;simp[World.cell?,h]
open Classical in
noncomputable def cS(B:Bt)(r:Rec):Option Bt:=
 if r.k=1 then(if r.p=0∧B.r=0∧B.e<r.e then some ⟨1,r.e,0,0,0,[]⟩else none)
 else if r.k=2 then(if r.p=0∧B.e=r.e∧B.r=1 then some (B.more [r.v])else none)
 else if r.k=3 then(if B.e=r.e∧B.r=1 then some ⟨3,B.e,B.f,r.p,B.o,B.es⟩else none)
 else if r.k=4 then(if(aU B r.e r.p).2=0 then some (aU B r.e r.p).1 else none)
 else if r.k=5 then(if r.p=0∧B.e=r.e∧B.r=4 then some (B.more [r.v])else none)
 else if r.k=6 then(if r.p=0∧B.e=r.e∧B.r=4 then some ⟨1,B.e,0,B.t,B.o,B.es++[Ev.brk]⟩else none)
 else(if r.p=0∧B.e=r.e∧B.r=3 then some ⟨0,B.e,0,0,0,[]⟩else none)
open Classical in
noncomputable def dW(B:Bt)(r:Rec):Bt×Int:=
 if ¬B.Ok then(Bt.zero,6)else if ¬r.fault=0 then(Bt.zero,r.fault)else match cS B r with
  |none=>(Bt.zero,3)
  |some D=>if D.Ok then(D,0)else(Bt.zero,3)
theorem yC{B:Bt}{r:Rec}(ok:B.Ok)(h:r.fault=0)(hd:cS B r=none):dW B r=(Bt.zero,3):=by unfold dW;rw[if_neg (fun g=>g ok),if_neg (fun g=>g h),hd]
theorem DS{B D:Bt}{r:Rec}(ok:B.Ok)(h:r.fault=0)(hd:cS B r=some D)(hD:¬D.Ok):dW B r=(Bt.zero,3):=by unfold dW;rw[if_neg (fun g=>g ok),if_neg (fun g=>g h),hd];simp[hD]
theorem eS{B D:Bt}{r:Rec}(ok:B.Ok)(h:r.fault=0)(hd:cS B r=some D)(hD:D.Ok):dW B r=(D,0):=by unfold dW;rw[if_neg (fun g=>g ok),if_neg (fun g=>g h),hd];simp[hD]
theorem Rec.kinds{r:Rec}(h:r.fault=0):r.k=1∨r.k=2∨r.k=3∨r.k=4∨r.k=5∨r.k=6∨r.k=7:=by
 unfold Rec.fault aE at h;split at h
 ·omega
 ·rename_i h1;have:=Ay.1 h1;omega
structure Mr(w wx:tA)(B:Bt)(a:tB)(c:Nat)(r:Rec):Prop where
 b:aG wx w.heap.size B.r B.e B.f B.t B.o a B.es.length c
 rc:km wx (w.heap.size+1) r
 z:aG wx (w.heap.size+2) 0 0 0 0 0 none 0 0
 cP:bZ w wx
theorem Mr.made(w:tA)(B:Bt)(a:tB)(c:Nat)(r:Rec):∃W,W=((w.alloc (.cells (dp B.r B.e B.f B.t B.o a B.es.length c) 49)).alloc (.cells #[iV r.k,iV r.q,iV r.e,iV r.p,iV r.v.k,iV r.v.p,iV r.v.i,iV r.v.b,iV r.v.he,iV r.v.hn] 167)).alloc (.cells (dp 0 0 0 0 0 none 0 0) 49)∧Mr w W B a c r:=by
 have h0:=aG.new w B.r B.e B.f B.t B.o a B.es.length c;have h1:=AQ (w.alloc (.cells (dp B.r B.e B.f B.t B.o a B.es.length c) 49)) (.cells #[iV r.k,iV r.q,iV r.e,iV r.p,iV r.v.k,iV r.v.p,iV r.v.i,iV r.v.b,iV r.v.he,iV r.v.hn] 167);have h2:=aG.new ((w.alloc (.cells (dp B.r B.e B.f B.t B.o a B.es.length c) 49)).alloc (.cells #[iV r.k,iV r.q,iV r.e,iV r.p,iV r.v.k,iV r.v.p,iV r.v.i,iV r.v.b,iV r.v.he,iV r.v.hn] 167)) 0 0 0 0 0 none 0 0;have s1:(w.alloc (.cells (dp B.r B.e B.f B.t B.o a B.es.length c) 49)).heap.size=w.heap.size+1:=by simp
 have s2:((w.alloc (.cells (dp B.r B.e B.f B.t B.o a B.es.length c) 49)).alloc (.cells #[iV r.k,iV r.q,iV r.e,iV r.p,iV r.v.k,iV r.v.p,iV r.v.i,iV r.v.b,iV r.v.he,iV r.v.hn] 167)).heap.size=w.heap.size+2:=by simp
 rw[s1]at h1;rw[s2]at h2;exact⟨_,rfl,(h0.next (aA _ _)).next (aA _ _),((aA _ _).block _ (by rw[s2];omega)).trans h1,h2,Below.next (Below.next (aA _ _) (aA _ _)) (aA _ _)⟩
def Ib(w':tA)(base:Nat)(x:Ending)(o:Option Bt):Prop:=
 match o with
 |none=>x= .returned (.tuple #[bR 0 0 0 0 0 none 0 0,.bool false])
 |some D=>∃a c,x= .returned (.tuple #[bR D.r D.e D.f D.t D.o a D.es.length c,.bool true])∧w'.ownsRow base 55 6 (.slice a D.es.length c) D.es.length ((ai D.es).map (Value.int .i64))
def iR(B:Bt)(r:Rec):Option Bt:=if B.r=0∧B.e<r.e then some ⟨1,r.e,0,0,0,[]⟩else none
def wV(B:Bt):Bt:=⟨0,B.e,0,0,0,[]⟩
theorem sd{W:tA}{R:Nat}{r e f t o:Int}{a:tB}{n c:Nat}{ok:Bool}{tmps:tR}(d:aG W R r e f t o a n c)(t4:tmps[4]? =some (.pointer (some ⟨R,0,none⟩)))(t5:tmps[5]? =some (.bool ok)):
  (results Tryz.f217 tmps).run Tryz.prog W= .ok (.tuple #[bR r e f t o a n c,.bool ok]) W:=by
 simp[results,Tryz.results217,t4,t5,asAddr,ec d]
theorem Kv{W:tA}{R:Nat}{r e f t o:Int}{a:tB}{n c:Nat}{ok:Bool}{tmps:tR}(d:aG W R r e f t o a n c)(t4:tmps[4]? =some (.pointer (some ⟨R,0,none⟩)))(t5:tmps[5]? =some (.bool ok)):
  (results Tryz.f223 tmps).run Tryz.prog W= .ok (.tuple #[bR r e f t o a n c,.bool ok]) W:=by
 simp[results,Tryz.results223,t4,t5,asAddr,ec d]
theorem Ic(B:Bt)(a:tB)(c:Nat)(r:Rec)(w:tA):cA 217 #[bR B.r B.e B.f B.t B.o a B.es.length c,mj r] w fun x w'=>Ib w' w.heap.size x (iR B r)∧bZ w w':=by
 go_enter Tryz.func217,Tryz.ntmps217
 go_upto_region 1 with fail
 obtain⟨W1,hW1,M1⟩:=Mr.made w B a c r;rw[←hW1];clear hW1;obtain⟨x0,x1,x2,x3,x4,x5⟩:=M1.b.cells;obtain⟨r0,r1,r2,r3,r4,r5,r6,r7,r8,r9⟩:=M1.rc.cells;obtain⟨z0,z1,z2,z3,z4,z5⟩:=M1.z.cells;have zf:=M1.z.free;have HM:=ah M1;clear M1;by_cases h1:B.r=0
 ·have e1:(B.r !=0)=false:=by simp[h1]
  by_cases h2:B.e<r.e
  ·have e2:¬r.e≤B.e:=by omega
   have hc:iR B r=some ⟨1,r.e,0,0,0,[]⟩:=by unfold iR;rw[if_pos ⟨h1,h2⟩]
   have HCO:=ah hc;clear h1 h2 hc;go_wp2;obtain⟨W4,hW4,d4,b4,_⟩:=dA (aa HM).z (aa HM).cP (show w.heap.size≤w.heap.size+2 by omega) 1 r.e 0 0 0 none 0 0;rw[←hW4];refine Al (sd d4 rfl rfl) rfl ⟨?_,b4⟩;rw[aa HCO];exact⟨none,0,rfl,Bn _ _ _ _⟩
  ·have e2:r.e≤B.e:=by omega
   have hc:iR B r=none:=by unfold iR;rw[if_neg (fun h=>h2 h.2)]
   have HCO:=ah hc;clear h1 h2 hc;go_wp2;obtain⟨W4,hW4,d4,b4,_⟩:=dA (aa HM).z (aa HM).cP (show w.heap.size≤w.heap.size+2 by omega) 0 0 0 0 0 none 0 0;rw[←hW4];refine Al (sd d4 rfl rfl) rfl ⟨?_,b4⟩;rw[aa HCO];exact rfl
 ·have e1:(B.r !=0)=true:=by simp[h1]
  have hc:iR B r=none:=by unfold iR;rw[if_neg (fun h=>h1 h.1)]
  have HCO:=ah hc;clear h1 hc;go_wp2;obtain⟨W4,hW4,d4,b4,_⟩:=dA (aa HM).z (aa HM).cP (show w.heap.size≤w.heap.size+2 by omega) 0 0 0 0 0 none 0 0;rw[←hW4];refine Al (sd d4 rfl rfl) rfl ⟨?_,b4⟩;rw[aa HCO];exact rfl
theorem Ie(B:Bt)(a:tB)(c:Nat)(r:Rec)(w:tA):cA 223 #[bR B.r B.e B.f B.t B.o a B.es.length c,mj r] w fun x w'=>Ib w' w.heap.size x (some (wV B))∧bZ w w':=by
 go_enter Tryz.func223,Tryz.ntmps223
 go_upto_region 1 with fail
 obtain⟨W1,hW1,M1⟩:=Mr.made w B a c r;rw[←hW1];clear hW1;obtain⟨x0,x1,x2,x3,x4,x5⟩:=M1.b.cells;obtain⟨z0,z1,z2,z3,z4,z5⟩:=M1.z.cells;have zf:=M1.z.free;have HM:=ah M1;clear M1;go_wp2;obtain⟨W4,hW4,d4,b4,_⟩:=dA (aa HM).z (aa HM).cP (show w.heap.size≤w.heap.size+2 by omega) 0 B.e 0 0 0 none 0 0;rw[←hW4];exact Al (Kv d4 rfl rfl) rfl ⟨⟨none,0,rfl,Bn _ _ _ _⟩,b4⟩
theorem V3{W:tA}{R:Nat}{r e f t o:Int}{a:tB}{n c:Nat}{ok:Bool}{tmps:tR}(d:aG W R r e f t o a n c)(t4:tmps[4]? =some (.pointer (some ⟨R,0,none⟩)))(t5:tmps[5]? =some (.bool ok)):
  (results Tryz.f219 tmps).run Tryz.prog W= .ok (.tuple #[bR r e f t o a n c,.bool ok]) W:=by
 simp[results,Tryz.results219,t4,t5,asAddr,ec d]
theorem Ig(w:tA)(x0 x1 x2 x3 x4 x5:Int)(t:tZ):∀j u,([x0,x1,x2,x3,x4,x5].map (Value.int .i64))[j]? =some u→(w.alloc (.cells #[iV x0,iV x1,iV x2,iV x3,iV x4,iV x5] t)).cell? ((⟨w.heap.size,0,none⟩:Addr).add j)=some u:=by
 intro j u hj;exact abU w x0 x1 x2 x3 x4 x5 t j u hj
theorem kD{w w1 w2:tA}{row:Option Nat}(h:w.grownBy w1 row)(g:w1.grownBy w2 row):w.grownBy w2 row:=
 ⟨g.os.trans h.os,g.tape.trans h.tape,g.output.trans h.output,AN h.size g.size,fun k hk fM=>(g.block k (Aj hk h.size) fM).trans (h.block k hk fM)⟩
theorem iv{w w1 w2:tA}{row:Option Nat}{R:Nat}(h:w.grownBy w1 row)(t:av R w1 w2)(hR:w.heap.size≤R):w.grownBy w2 row:=
 ⟨t.os.trans h.os,t.tape.trans h.tape,t.output.trans h.output,by rw[t.size];exact h.size,fun k hk fM=>(t.block k (by omega)).trans (h.block k hk fM)⟩
theorem eI{w w':tA}(row:Option Nat)(b:bZ w w'):w.grownBy w' row:=⟨b.os,b.tape,b.output,b.size,fun k hk _=>b.block k hk⟩
structure Ow(w wx:tA)(base:Nat)(row:Option Nat)(r e f t o:Int)(v:tB)(n c:Nat)(es:List Ev):Prop where
 b:aG wx w.heap.size r e f t o v n c
 z:aG wx (w.heap.size+2) 0 0 0 0 0 none 0 0
 own:wx.ownsRow base 55 6 (.slice v n c) n ((ai es).map (Value.int .i64))
 cP:w.grownBy wx row
theorem Ow.made{w wx:tA}{base:Nat}{B:Bt}{a:tB}{c:Nat}{r:Rec}(h:Mr w wx B a c r)(bM:w.ownsRow base 55 6 (.slice a B.es.length c) B.es.length ((ai B.es).map (Value.int .i64))):Ow w wx base (Value.slice a B.es.length c).ownBlock B.r B.e B.f B.t B.o a B.es.length c B.es:=
 ⟨h.b,h.z,aI bM (fun g hg _=>h.cP.block g ((bM.lt g hg).2)),eI _ h.cP⟩
theorem Ow.added{w wx W:tA}{base:Nat}{r e f t o:Int}{a v:tB}{n c vc:Nat}{es:List Ev}{x:Ev}{ob:Obj}(h:Ow w wx base (Value.slice a n c).ownBlock r e f t o a n c es)(bM:w.ownsRow base 55 6 (.slice a n c) n ((ai es).map (Value.int .i64)))
  (own:W.ownsRow base 55 6 (.slice v (n+1) vc) (n+1) ((ai es).map (Value.int .i64)++[x.k,x.p,x.i,x.b,x.he,x.hn].map (Value.int .i64))) (g:(wx.alloc ob).grownBy W (Value.slice a n c).ownBlock):
  aG W w.heap.size r e f t o a n c∧(∀W3,av w.heap.size W W3→∀r' e' f' t' o',aG W3 w.heap.size r' e' f' t' o' v (n+1) vc→Ow w W3 base (Value.slice a n c).ownBlock r' e' f' t' o' v (n+1) vc (es++[x])):=by
 have h1:=h.b.next (aA wx ob);have h2:=h.z.next (aA wx ob);have o1:∀q,(Value.slice a n c).ownBlock=some q→q<w.heap.size:=fun q hq=>(bM.lt q hq).2;have k1:aG W w.heap.size r e f t o a n c:=(g.block _ h1.lt (fun e=>by have:=o1 _ e.symm;omega)).trans h1;have k2:aG W (w.heap.size+2) 0 0 0 0 0 none 0 0:=(g.block _ h2.lt (fun e=>by have:=o1 _ e.symm;omega)).trans h2;have cP:w.grownBy W (Value.slice a n c).ownBlock:=kD (kD h.cP (World.grownBy_alloc wx ob _)) g;refine⟨k1,fun W3 t3 r' e' f' t' o' b3=>⟨b3,k2.dC t3 (by omega), ?_,iv cP t3 (Aa _)⟩⟩;have e1:(ai (es++[x])).map (Value.int .i64)=(ai es).map (Value.int .i64)++[x.k,x.p,x.i,x.b,x.he,x.hn].map (Value.int .i64):=by rw[rh,AB];rfl
 rw[e1];exact t3.owns own (aT own k1 (by decide))
theorem Ow.out{w wx:tA}{base:Nat}{row:Option Nat}{r e f t o:Int}{v:tB}{n c:Nat}{es:List Ev}(h:Ow w wx base row r e f t o v n c es):∃W,W=(((((wx.setCell ⟨w.heap.size+2,0,none⟩ (iV r)).setCell ⟨w.heap.size+2,1,none⟩ (iV e)).setCell ⟨w.heap.size+2,2,none⟩ (iV f)).setCell ⟨w.heap.size+2,3,none⟩ (iV t)).setCell ⟨w.heap.size+2,4,none⟩ (iV o)).setCell ⟨w.heap.size+2,5,none⟩ (.slice v n c)∧aG W (w.heap.size+2) r e f t o v n c∧(n=es.length→Ib W base (.returned (.tuple #[bR r e f t o v n c,.bool true])) (some ⟨r,e,f,t,o,es⟩))∧w.grownBy W row:=by
 obtain⟨W4,hW4,d4,_,t4⟩:=dA h.z (Be _ _) (Aa _) r e f t o v n c;refine⟨W4,hW4,d4, ?_,iv h.cP t4 (by omega)⟩;rintro rfl;exact⟨v,c,rfl,t4.owns h.own (aT h.own h.z (by decide))⟩
theorem Fy{W:tA}{R:Nat}{r e f t o:Int}{a:tB}{n c:Nat}{ok:Bool}{tmps:tR}(d:aG W R r e f t o a n c)(t4:tmps[4]? =some (.pointer (some ⟨R,0,none⟩)))(t5:tmps[5]? =some (.bool ok)):
  (results Tryz.f222 tmps).run Tryz.prog W= .ok (.tuple #[bR r e f t o a n c,.bool ok]) W:=by
 simp[results,Tryz.results222,t4,t5,asAddr,ec d]
theorem Sh{W:tA}{R:Nat}{r e f t o:Int}{a:tB}{n c:Nat}{ok:Bool}{tmps:tR}(d:aG W R r e f t o a n c)(t4:tmps[4]? =some (.pointer (some ⟨R,0,none⟩)))(t5:tmps[5]? =some (.bool ok)):
  (results Tryz.f220 tmps).run Tryz.prog W= .ok (.tuple #[bR r e f t o a n c,.bool ok]) W:=by
 simp[results,Tryz.results220,t4,t5,asAddr,ec d]
theorem av.drawn(R:Nat)(w:tA):av R w w.drew:=⟨rfl,rfl,rfl,rfl,fun _ _=>rfl⟩
theorem Ow.dC{w wx W:tA}{base:Nat}{row:Option Nat}{r e f t o:Int}{a:tB}{n c:Nat}{es:List Ev}(h:Ow w wx base row r e f t o a n c es)(t3:av w.heap.size wx W){r' e' f' t' o':Int}(b:aG W w.heap.size r' e' f' t' o' a n c):Ow w W base row r' e' f' t' o' a n c es:=
 ⟨b,h.z.dC t3 (by omega),t3.owns h.own (aT h.own h.b (by decide)),iv h.cP t3 (Aa _)⟩
theorem uR{W:tA}{R:Nat}{r e f t o:Int}{a:tB}{n c:Nat}{ok:Bool}{tmps:tR}(d:aG W R r e f t o a n c)(t4:tmps[4]? =some (.pointer (some ⟨R,0,none⟩)))(t5:tmps[5]? =some (.bool ok)):
  (results Tryz.f221 tmps).run Tryz.prog W= .ok (.tuple #[bR r e f t o a n c,.bool ok]) W:=by
 simp[results,Tryz.results221,t4,t5,asAddr,ec d]
def Bt.bare(B:Bt):Bt:=⟨B.r,B.e,B.f,B.t,B.o,[]⟩
theorem V4{B:Bt}(ok:B.Ok):B.bare.Ok:=by
 refine⟨?_,by simp[Bt.bare],St.zero,[],.nil⟩;have:=ok.cO;unfold Bt.cH bB at this;show bB B.r B.e B.f B.t B.o 0;unfold bB;rcases this with h|h|h|h|h
 ·exact .inl ⟨h.1,rfl,h.2.2⟩
 ·exact .inr (.inl h)
 ·exact .inr (.inr (.inl h))
 ·exact .inr (.inr (.inr (.inl h)))
 ·exact .inr (.inr (.inr (.inr h)))
theorem Kw{B:Bt}(ok:B.Ok)(ep fr:Int):∀D er,aU B.bare ep fr=(D,er)→D.es=[]∧(¬er=0→¬(aU B ep fr).2=0)∧(er=0→(aU B ep fr).2=0∧(D.e=B.e→(aU B ep fr).1=⟨D.r,D.e,D.f,D.t,D.o,B.es⟩)∧(¬D.e=B.e→(aU B ep fr).1=D)):=by
 intro D er h;have ok0:=V4 ok;unfold aU at h⊢;rw[if_neg (fun g=>g ok0)]at h;rw[if_neg (fun g=>g ok)];by_cases g:¬((1≤ep∧ep≤1048576)∧(0≤fr∧fr≤4))
 ·rw[if_pos g]at h⊢;obtain⟨rfl,rfl⟩:=AR h;exact⟨rfl,fun _=>by decide,fun g'=>by cases g'⟩
 rw[if_neg g]at h⊢;by_cases g1:B.r=1∨B.r=2∨B.r=3
 ·rw[if_pos (show B.bare.r=1∨B.bare.r=2∨B.bare.r=3 from g1)]at h;rw[if_pos g1];obtain⟨rfl,rfl⟩:=AR h;exact⟨rfl,fun _=>by decide,fun g'=>by cases g'⟩
 rw[if_neg (show ¬(B.bare.r=1∨B.bare.r=2∨B.bare.r=3) from g1)]at h;rw[if_neg g1];by_cases g2:B.r=4∧B.e=ep∧B.f=fr
 ·rw[if_pos (show B.bare.r=4∧B.bare.e=ep∧B.bare.f=fr from g2)]at h;rw[if_pos g2];obtain⟨rfl,rfl⟩:=AR h;exact⟨rfl,fun g'=>absurd rfl g',fun _=>⟨rfl,fun _=>rfl,fun g'=>absurd rfl g'⟩⟩
 rw[if_neg (show ¬(B.bare.r=4∧B.bare.e=ep∧B.bare.f=fr) from g2)]at h;rw[if_neg g2];by_cases g3:ep≤B.e
 ·rw[if_pos (show ep≤B.bare.e from g3)]at h;rw[if_pos g3];obtain⟨rfl,rfl⟩:=AR h;exact⟨rfl,fun _=>by decide,fun g'=>by cases g'⟩
 rw[if_neg (show ¬(ep≤B.bare.e) from g3)]at h;rw[if_neg g3];obtain⟨rfl,rfl⟩:=AR h;exact⟨rfl,fun g'=>absurd rfl g',fun _=>⟨rfl,fun g'=>by simp only at g';omega,fun _=>rfl⟩⟩
structure Bg(w wx:tA)(base:Nat)(B:Bt)(a:tB)(c:Nat)(r:Rec):Prop where
 b:aG wx w.heap.size B.r B.e B.f B.t B.o none 0 0
 rc:km wx (w.heap.size+1) r
 z:aG wx (w.heap.size+2) 0 0 0 0 0 none 0 0
 own:wx.ownsRow base 55 6 (.slice a B.es.length c) B.es.length ((ai B.es).map (Value.int .i64))
 cP:bZ w wx
theorem Bg.next{w wx wy:tA}{base:Nat}{B:Bt}{a:tB}{c:Nat}{r:Rec}(h:Bg w wx base B a c r)(b:bZ wx wy):Bg w wy base B a c r:=
 ⟨h.b.next b,(b.block _ (bQ h.rc)).trans h.rc,h.z.next b,aI h.own (fun g hg _=>b.block g ((h.own.lt g hg).2)),Below.trans h.cP (b.mono (by have:=h.b.lt;omega))⟩
theorem Bg.made{w wx:tA}{base:Nat}{B:Bt}{a:tB}{c:Nat}{r:Rec}(h:Mr w wx B a c r)(bM:w.ownsRow base 55 6 (.slice a B.es.length c) B.es.length ((ai B.es).map (Value.int .i64))):∃W,W=wx.setCell ⟨w.heap.size,5,none⟩ (.slice none 0 0)∧Bg w W base B a c r:=by
 have t:=av.set w.heap.size 5 wx (.slice none 0 0);refine⟨_,rfl, ?_,(t.block _ (by omega)).trans h.rc,h.z.dC t (by omega), ?_,t.under h.cP (Aa _)⟩
 ·have:=h.b;unfold aG at this⊢;rw[cE this];simp
 ·exact aI bM (fun g hg _=>by have:=(bM.lt g hg).2;rw[t.block g (by omega)];exact h.cP.block g this)
theorem Ih{B:Bt}(h:B.cH):B.bare.Ok:=by
 refine⟨?_,by simp[Bt.bare],St.zero,[],.nil⟩;unfold Bt.cH bB at h;show bB B.r B.e B.f B.t B.o 0;unfold bB;rcases h with h|h|h|h|h
 ·exact .inl ⟨h.1,rfl,h.2.2⟩
 ·exact .inr (.inl h)
 ·exact .inr (.inr (.inl h))
 ·exact .inr (.inr (.inr (.inl h)))
 ·exact .inr (.inr (.inr (.inr h)))
open Classical in
noncomputable def ka(B:Bt)(r:Rec):Option Bt:=
 if(aU B.bare r.e r.p).2=0 then some (if(aU B.bare r.e r.p).1.e=B.e then⟨(aU B.bare r.e r.p).1.r,(aU B.bare r.e r.p).1.e,(aU B.bare r.e r.p).1.f,(aU B.bare r.e r.p).1.t,(aU B.bare r.e r.p).1.o,B.es⟩else(aU B.bare r.e r.p).1)else none
open Classical in
noncomputable def fX(B:Bt)(r:Rec):Option Bt:=if r.k=4 then ka B r else cS B r
theorem nD{B:Bt}{r:Rec}(ok:B.Ok):fX B r=cS B r:=by
 unfold fX;by_cases hk:r.k=4
 ·rw[if_pos hk];unfold cS;rw[if_neg (by omega),if_neg (by omega),if_neg (by omega),if_pos hk];obtain⟨D,er,hD⟩:∃D er,aU B.bare r.e r.p=(D,er):=⟨_,_,rfl⟩;obtain⟨_,Qg,tj⟩:=Kw ok r.e r.p D er hD;unfold ka;rw[hD];by_cases h0:er=0
  ·obtain⟨y0,y1,y2⟩:=tj h0;rw[if_pos h0,if_pos y0];by_cases h1:D.e=B.e
   ·rw[if_pos h1,y1 h1]
   ·rw[if_neg h1,y2 h1]
  ·rw[if_neg h0,if_neg (Qg h0)]
 ·rw[if_neg hk]
theorem vO{B D:Bt}{r:Rec}(h:B.cH)(hd:ka B r=some D):D=B∨(D=⟨4,r.e,r.p,0,0,[]⟩∧1≤r.e∧r.e≤1048576∧0≤r.p∧r.p≤4):=by
 have ok:=Ih h;unfold ka at hd;obtain⟨E,er,hE⟩:∃E er,aU B.bare r.e r.p=(E,er):=⟨_,_,rfl⟩;rw[hE]at hd;unfold aU at hE;rw[if_neg (fun g=>g ok)]at hE;by_cases g0:¬((1≤r.e∧r.e≤1048576)∧(0≤r.p∧r.p≤4))
 ·rw[if_pos g0]at hE;obtain⟨rfl,rfl⟩:=AR hE;rw[if_neg (by decide)]at hd;cases hd
 rw[if_neg g0]at hE;have ZI:=Ay.1 g0;by_cases g1:B.r=1∨B.r=2∨B.r=3
 ·rw[if_pos (show B.bare.r=1∨B.bare.r=2∨B.bare.r=3 from g1)]at hE;obtain⟨rfl,rfl⟩:=AR hE;rw[if_neg (by decide)]at hd;cases hd
 rw[if_neg (show ¬(B.bare.r=1∨B.bare.r=2∨B.bare.r=3) from g1)]at hE;by_cases g2:B.r=4∧B.e=r.e∧B.f=r.p
 ·rw[if_pos (show B.bare.r=4∧B.bare.e=r.e∧B.bare.f=r.p from g2)]at hE;obtain⟨rfl,rfl⟩:=AR hE;rw[if_pos rfl,if_pos (show B.bare.e=B.e from rfl)]at hd;cases hd;exact .inl rfl
 rw[if_neg (show ¬(B.bare.r=4∧B.bare.e=r.e∧B.bare.f=r.p) from g2)]at hE;by_cases g3:r.e≤B.e
 ·rw[if_pos (show r.e≤B.bare.e from g3)]at hE;obtain⟨rfl,rfl⟩:=AR hE;rw[if_neg (by decide)]at hd;cases hd
 rw[if_neg (show ¬r.e≤B.bare.e from g3)]at hE;obtain⟨rfl,rfl⟩:=AR hE;rw[if_pos rfl,if_neg (show ¬r.e=B.e by omega)]at hd;cases hd;exact .inr ⟨rfl,ZI.1.1,ZI.1.2,ZI.2.1,ZI.2.2⟩
theorem oV{B D:Bt}{r:Rec}(h:B.cH)(hf:r.fault=0)(hd:fX B r=some D):D.cH∧(D.es=[]∨B.es<+:D.es):=by
 have hr:(1≤r.k∧r.k≤7)∧(0≤r.q∧r.q≤3∧0≤r.e∧r.e≤1048576∧0≤r.p∧r.p≤4):=by
  unfold Rec.fault aE at hf;split at hf
  ·omega
  ·rename_i h1;split at hf
   ·omega
   ·rename_i h2;exact⟨Ay.1 h1,Ay.1 h2⟩
 have hs:=h;unfold Bt.cH bB at hs;unfold fX at hd;by_cases hk:r.k=4
 ·rw[if_pos hk]at hd;rcases vO h hd with rfl|⟨rfl,g1,g2,g3,g4⟩
  ·exact⟨h,.inr (List.prefix_refl _)⟩
  ·exact⟨.inr (.inr (.inr (.inr ⟨rfl,g1,g2,g3,g4,rfl,rfl⟩))),.inl rfl⟩
 rw[if_neg hk]at hd;unfold cS at hd;by_cases k1:r.k=1
 ·rw[if_pos k1]at hd;split at hd
  ·rename_i g;cases hd;exact⟨.inr (.inl ⟨rfl,by simp only;omega,by simp only;omega,rfl,rfl,rfl⟩),.inl rfl⟩
  ·cases hd
 rw[if_neg k1]at hd;by_cases k2:r.k=2
 ·rw[if_pos k2]at hd;split at hd
  ·rename_i g;cases hd;refine⟨?_,.inr (List.prefix_append _ _)⟩;unfold Bt.cH bB;simp only[Bt.more];refine .inr (.inl ⟨g.2.2, ?_⟩);omega
  ·cases hd
 rw[if_neg k2]at hd;by_cases k3:r.k=3
 ·rw[if_pos k3]at hd;split at hd
  ·rename_i g;cases hd;refine⟨?_,.inr (List.prefix_refl _)⟩;show bB 3 B.e B.f r.p B.o _;unfold bB;refine .inr (.inr (.inr (.inl ⟨rfl, ?_⟩)));omega
  ·cases hd
 rw[if_neg k3,if_neg hk]at hd;by_cases k5:r.k=5
 ·rw[if_pos k5]at hd;split at hd
  ·rename_i g;cases hd;refine⟨?_,.inr (List.prefix_append _ _)⟩;unfold Bt.cH bB;simp only[Bt.more];refine .inr (.inr (.inr (.inr ⟨g.2.2, ?_⟩)));omega
  ·cases hd
 rw[if_neg k5]at hd;by_cases k6:r.k=6
 ·rw[if_pos k6]at hd;split at hd
  ·rename_i g;cases hd;refine⟨?_,.inr (List.prefix_append _ _)⟩;show bB 1 B.e 0 B.t B.o _;unfold bB;refine .inr (.inl ⟨rfl, ?_⟩);omega
  ·cases hd
 rw[if_neg k6]at hd;split at hd
 ·rename_i g;cases hd;refine⟨?_,.inl rfl⟩;show bB 0 B.e 0 0 0 0;unfold bB;exact .inl ⟨rfl,rfl,by omega,by omega,rfl,rfl,rfl⟩
 ·cases hd
open Classical in
noncomputable def stepT(B:Bt)(r:Rec):Option Bt:=
 match fX B r with
 |none=>none
 |some D=>if D.es.length<B.es.length∧¬B.Ok then none else some D
theorem yD{B D:Bt}{r:Rec}(h:stepT B r=some D):fX B r=some D∧(D.es.length<B.es.length→B.Ok):=by
 unfold stepT at h;split at h
 ·cases h
 ·rename_i E hE;split at h
  ·cases h
  ·rename_i g;cases h;exact⟨hE,fun h1=>Classical.byContradiction fun h2=>g ⟨h1,h2⟩⟩
theorem pX{B:Bt}{r:Rec}(ok:B.Ok):stepT B r=fX B r:=by
 unfold stepT;cases h:fX B r with
 |none=>rfl
 |some D=>simp only;rw[if_neg (fun g=>g.2 ok)]
theorem V5{B D:Bt}{r:Rec}(hs:B.cH)(hf:r.fault=0)(h:stepT B r=some D)(hD:D.Ok):B.Ok:=by
 obtain⟨h1,h2⟩:=yD h;obtain⟨_,h3⟩:=oV hs hf h1;by_cases hl:D.es.length<B.es.length
 ·exact h2 hl
 ·have hp:B.es<+:D.es:=by
   rcases h3 with h3|h3
   ·rw[h3]at hl⊢;have:B.es=[]:=List.length_eq_zero_iff.1 (by simpa using hl);rw[this];exact List.prefix_refl _
   ·exact h3
  obtain⟨t,ht⟩:=hp;obtain⟨s,bw,hT⟩:=hD.told;have hlen:=hD.len;rw[←ht]at hT hlen;obtain⟨s0,hT0⟩:=hT.take B.es.length (by simp);rw[Cf]at hT0
  ·exact⟨hs,by simp at hlen;omega,s0,_,hT0⟩
  ·rfl
def At(S:List Bt)(r:Rec):Bt:=S.getD r.q.toNat Bt.zero
def put(S:List Bt)(r:Rec)(D:Bt):List Bt:=S.set r.q.toNat D
open Classical in
noncomputable def dg(S:List Bt):List Rec→Option (List Bt)×Int
 |[]=>if∀B∈S,B.Ok then(some S,0)else(none,3)
 |r::l=>if ¬r.fault=0 then(none,r.fault)else match stepT (At S r) r with
  |none=>(none,3)
  |some D=>dg (put S r D) l
noncomputable def kE(S:List Bt)(i:Nat):List Rec→Option (List Bt)×Nat×Int
 |[]=>(some S,0,0)
 |r::l=>if ¬r.fault=0 then(none,i,r.fault)else match dW (At S r) r with
  |(D,e)=>if e=0 then kE (put S r D) (i+1) l else(none,i,e)
theorem wW{r:Rec}(hf:r.fault=0):0≤r.q∧r.q≤3:=by
 unfold Rec.fault aE at hf;split at hf
 ·omega
 ·split at hf
  ·omega
  ·rename_i h2;have:=Ay.1 h2;omega
theorem at_mem{S:List Bt}{r:Rec}(hl:S.length=4)(hf:r.fault=0):At S r∈S:=by
 have hq:=wW hf;have hi:r.q.toNat<S.length:=by omega
 unfold At;rw[Ah,Ag hi];exact Bu hi
theorem qC{S:List Bt}{r:Rec}{D:Bt}:(put S r D).length=S.length:=List.length_set
theorem tq{P:Bt→Prop}{S:List Bt}{r:Rec}{D:Bt}(h:∀B∈S,P B)(hD:P D):∀B∈put S r D,P B:=fun B hB=>by
 rcases List.mem_or_eq_of_mem_set hB with h1|h1
 ·exact h B h1
 ·rw[h1];exact hD
theorem Ii{P:Bt→Prop}{S:List Bt}{r:Rec}{D:Bt}(hl:S.length=4)(hf:r.fault=0)(h:∀B∈put S r D,P B):P D∧∀i,i≠r.q.toNat→∀hi:i<S.length,P S[i]:=by
 have hq:=wW hf;have hi:r.q.toNat<S.length:=by omega
 refine⟨h D (List.mem_set hi D),fun i fM hi'=>h _ ?_⟩;have:(put S r D)[i]'(by rw[qC];exact hi')=S[i]:=List.getElem_set_ne (fun e=>fM e.symm) _;rw[←this];exact Bu _
theorem Mt:∀(l:List Rec) (S S':List Bt) (e:Int),S.length=4→(∀B∈S,B.cH)→dg S l=(some S',e)→(∀B∈S,B.Ok)∧e=0
 |[],S,S',e,_,_,h=>by
  unfold dg at h;split at h
  ·rename_i g;exact⟨g,(AR h).2.symm⟩
  ·cases(AR h).1
 |r::l,S,S',e,hl,hs,h=>by
  unfold dg at h;split at h
  ·cases(AR h).1
  ·rename_i Ju;have hf:=Ay.1 Ju;split at h
   ·cases(AR h).1
   ·rename_i D hD;have hA:=hs _ (at_mem hl hf);have hDs:=(oV hA hf (yD hD).1).1;obtain⟨ih,he⟩:=Mt l (put S r D) S' e (by rw[qC];exact hl) (tq hs hDs) h;obtain⟨hDo,ho⟩:=Ii hl hf ih;have A3:=V5 hA hf hD hDo;refine⟨fun B hB=> ?_,he⟩;obtain⟨i,hi,rfl⟩:=List.getElem_of_mem hB;by_cases fM:i=r.q.toNat
    ·have:At S r=S[i]:=by
      unfold At;rw[Ah,←fM,Ag hi];rfl
     rw[←this];exact A3
    ·exact ho i fM hi
theorem Ij:∀(l:List Rec) (S S':List Bt) (i j:Nat) (e:Int),S.length=4→(∀B∈S,B.Ok)→kE S i l=(some S',j,e)→dg S l=(some S',0)∧j=0∧e=0
 |[],S,S',i,j,e,_,eC,h=>by
  unfold kE at h;cases h;unfold dg;rw[if_pos eC];exact⟨rfl,rfl,rfl⟩
 |r::l,S,S',i,j,e,hl,eC,h=>by
  unfold kE at h;split at h
  ·cases h
  ·rename_i Ju;have hf:=Ay.1 Ju;have A3:=eC _ (at_mem hl hf);cases hd:cS (At S r) r with
   |none=>
    rw[yC A3 hf hd]at h;simp at h
   |some D=>
    by_cases hDo:D.Ok
    ·rw[eS A3 hf hd hDo]at h;simp only[if_true]at h;have ih:=Ij l (put S r D) S' (i+1) j e (by rw[qC];exact hl) (tq eC hDo) h;unfold dg;rw[if_neg Ju,pX A3,nD A3,hd];exact ih
    ·rw[DS A3 hf hd hDo]at h;simp at h
theorem DT:∀(l:List Rec) (S:List Bt) (i j:Nat) (e:Int),S.length=4→(∀B∈S,B.Ok)→kE S i l=(none,j,e)→∃n,n<l.length∧j=i+n∧¬e=0∧(∀k,k≤n→∃S',dg S (l.take k)=(some S',0))∧∀k,n<k→(dg S (l.take k)).1=none∧(k=n+1→(dg S (l.take k)).2=e)
 |[],S,i,j,e,_,_,h=>by unfold kE at h;cases h
 |r::l,S,i,j,e,hl,eC,h=>by
  have pz:∃S',dg S ((r::l).take 0)=(some S',0):=⟨S,by simp only[List.take_zero];unfold dg;rw[if_pos eC]⟩;have hz:∀k,k≤0→∃S',dg S ((r::l).take k)=(some S',0):=fun k hk=>by
   rw[Nat.le_zero.1 hk];exact pz
  unfold kE at h;split at h
  ·rename_i hf;cases h;refine⟨0,by simp,rfl,hf,hz,fun k hk=> ?_⟩;obtain⟨m,rfl⟩:∃m,k=m+1:=⟨k-1,by omega⟩;rw[List.take_succ_cons];unfold dg;rw[if_pos hf];exact⟨rfl,fun _=>rfl⟩
  ·rename_i Ju;have hf:=Ay.1 Ju;have A3:=eC _ (at_mem hl hf);cases hd:cS (At S r) r with
   |none=>
    rw[yC A3 hf hd]at h;simp at h;obtain⟨rfl,rfl⟩:=h;refine⟨0,by simp,rfl,by decide,hz,fun k hk=> ?_⟩;obtain⟨m,rfl⟩:∃m,k=m+1:=⟨k-1,by omega⟩;rw[List.take_succ_cons];unfold dg;rw[if_neg Ju,pX A3,nD A3,hd];exact⟨rfl,fun _=>rfl⟩
   |some D=>
    by_cases hDo:D.Ok
    ·rw[eS A3 hf hd hDo]at h;simp only[if_true]at h;obtain⟨n,h1,h2,h3,h4,h5⟩:=DT l (put S r D) (i+1) j e (by rw[qC];exact hl) (tq eC hDo) h;have Ys:∀m,dg S ((r::l).take (m+1))=dg (put S r D) (l.take m):=by
      intro m;rw[List.take_succ_cons]
      conv=>lhs;unfold dg
      rw[if_neg Ju,pX A3,nD A3,hd]
     refine⟨n+1,by simp;omega,by omega,h3,fun k hk=> ?_,fun k hk=> ?_⟩
     ·rcases Ch k with rfl|hp
      ·exact pz
      ·obtain⟨m,rfl⟩:∃m,k=m+1:=⟨k-1,by omega⟩;rw[Ys];exact h4 m (by omega)
     ·obtain⟨m,rfl⟩:∃m,k=m+1:=⟨k-1,by omega⟩;rw[Ys];exact⟨(h5 m (by omega)).1,fun kW=>(h5 m (by omega)).2 (by omega)⟩
    ·rw[DS A3 hf hd hDo]at h;simp at h;obtain⟨rfl,rfl⟩:=h;have acf:∀m,(dg S ((r::l).take (m+1))).1=none:=by
      intro m;cases hc:(dg S ((r::l).take (m+1))).1 with
      |none=>rfl
      |some S'=>
       exfalso;have hS:=eC;have he:dg S ((r::l).take (m+1))=(some S',(dg S ((r::l).take (m+1))).2):=by rw[←hc]
       rw[List.take_succ_cons]at he;have hss:∀B∈S,B.cH:=fun B hB=>(eC B hB).cO
       conv at he=>lhs;unfold dg
       rw[if_neg Ju,pX A3,nD A3,hd]at he;simp only at he;have hDs:=(oV A3.cO hf (by rw[nD A3];exact hd)).1;have:=(Mt _ _ _ _ (by rw[qC];exact hl) (tq hss hDs) he).1;exact hDo (Ii hl hf this).1
     refine⟨0,by simp,rfl,by decide,hz,fun k hk=> ?_⟩;obtain⟨m,rfl⟩:∃m,k=m+1:=⟨k-1,by omega⟩;refine⟨acf m,fun kW=> ?_⟩;obtain rfl:m=0:=by omega
     have:=acf 0;rw[List.take_succ_cons,List.take_zero]at this⊢
     conv=>lhs;unfold dg
     conv at this=>lhs;unfold dg
     rw[if_neg Ju,pX A3,nD A3,hd]at this⊢;simp only at this⊢;unfold dg at this⊢;split at this
     ·cases this
     ·rename_i g;rw[if_neg g]
theorem Kx(B:Bt)(a:tB)(c:Nat)(ep fr:Int)(w:tA)(hb:jb w B a c)(ok:B.Ok)(h1:1≤ep∧ep≤1048576)(h2:0≤fr∧fr≤4)(h5:¬(B.r=1∨B.r=2∨B.r=3))(h7:¬ep≤B.e):cA 165 #[bR B.r B.e B.f B.t B.o a B.es.length c,iV ep,iV fr] w (rB (.tuple #[bR 4 ep fr 0 0 none 0 0,iV 0]) w):=by
 have HE:=fun w=>kz ep w;have HN:=fun w=>gE fr w;have HS:=fun w=>l9 B.r B.e B.f B.t B.o a B.es.length c w;rw[Aq h1]at HE;rw[Aq h2]at HN;rw[Ai (show ¬(B.r=1∨B.r=2) by omega)]at HS;have H1:=ah (And.intro h1 h2);have h4:¬B.r=3:=by omega
 have h6:¬(B.r=4∧B.e=ep∧B.f=fr):=by omega
 have H3:Hid (¬(B.r=1∨B.r=2)):=ah (by omega);have H5:Hid (¬(B.r=1∨B.r=2∨B.r=3)):=ah h5;clear h1 h2 h5;go_enter Tryz.func165,Tryz.ntmps165
 go_upto_region 1 with fail
 obtain⟨W1,hW1,M1⟩:=Mb.made w B a c;rw[←hW1];clear hW1;have HC:=gw B a c W1 (hb.next M1.cP) ok;obtain⟨x0,x1,x2,x3,x4,x5⟩:=M1.b.cells;have HM:=ah M1;clear M1;have e4:(B.r==3)=false:=by simpa using h4
 go_upto_region 7 with(first|(go_at_call 176;refine HC.mono ?_;rintro x W2 ⟨rfl,b2⟩;clear HC x0 x1 x2 x3 x4 x5;have M2:=(aa HM).next b2;obtain⟨x0,x1,x2,x3,x4,x5⟩:=M2.b.cells;have VN:=ah M2;clear M2 b2 HM)|(go_at_call 178;refine(HE _).mono ?_;rintro x w3 ⟨rfl,hw3⟩;subst w3)|(go_at_call 184;refine(HN _).mono ?_;rintro x w3 ⟨rfl,hw3⟩;subst w3)|(go_at_call 205;refine(HS _).mono ?_;rintro x W3 ⟨rfl,b3⟩;have M3:=(aa VN).next b3;clear VN x0 x1 x2 x3 x4 x5;obtain⟨x0,x1,x2,x3,x4,x5⟩:=M3.b.cells;have VN:=ah M3;clear M3 b3))
 clear e4 h4 HE HN;have h6':((B.r==4)=false)∨((B.r==4)=true∧(B.e==ep)=false):=by
  by_cases g1:B.r=4
  ·exact .inr ⟨by simpa using g1,by simp;omega⟩
  ·exact .inl (by simpa using g1)
 clear h6;have zf:=(aa VN).z.free;obtain⟨z0,z1,z2,z3,z4,z5⟩:=(aa VN).z.cells;rcases h6' with g1|⟨g1,g2⟩
 all_goals
  go_wp2;obtain⟨W4,hW4,d4,b4,_⟩:=dA (aa VN).z (aa VN).cP (show w.heap.size≤w.heap.size+1 by omega) 4 ep fr 0 0 none 0 0;rw[←hW4];exact Al (Kj d4 rfl rfl) rfl ⟨rfl,b4⟩
def A4(w:tA)(ox v:tK):Prop:=∀g,v.ownBlock=some g→ox.ownBlock=some g∨w.heap.size≤g
theorem A4.lower{w w1:tA}{ox v:tK}(h:A4 w1 ox v)(hs:w.heap.size≤w1.heap.size):A4 w ox v:=fun g hg=>(h g hg).imp id (fun h=>AN hs h)
def yE:Value→Nat
 | .slice _ n _=>n
 |_=>0
def fK(w w':tA)(base:Nat)(ox:tK)(x:Ending)(o:Option Bt):Prop:=
 match o with
 |none=>x= .returned (.tuple #[bR 0 0 0 0 0 none 0 0,.bool false])
 |some D=>∃a c,x= .returned (.tuple #[bR D.r D.e D.f D.t D.o a D.es.length c,.bool true])∧w'.ownsRow base 55 6 (.slice a D.es.length c) D.es.length ((ai D.es).map (Value.int .i64))∧A4 w ox (.slice a D.es.length c)∧(D.es.length<yE ox→bZ w w')
theorem fK.fresh{w w':tA}{base:Nat}{ox:tK}{x:Ending}{o:Option Bt}(h:Ib w' w.heap.size x o)(hb:base≤w.heap.size)(cP:bZ w w'):fK w w' base ox x o:=by
 cases o with
 |none=>exact h
 |some D=>
  obtain⟨a,c,h1,h2⟩:=h;exact⟨a,c,h1,lJ h2 hb,fun g hg=> .inr (h2.lt g hg).1,fun _=>cP⟩
theorem fK.lie{w w':tA}{base:Nat}{ox:tK}{r e f t o:Int}{a:tB}{n c:Nat}{D:Bt}(h:Ib w' base (.returned (.tuple #[bR r e f t o a n c,.bool true])) (some D))(hl:A4 w ox (.slice a n c))(hn:yE ox≤n):fK w w' base ox (.returned (.tuple #[bR r e f t o a n c,.bool true])) (some D):=by
 obtain⟨a',c',h1,h2⟩:=h;have h3:=h1;simp at h3;obtain⟨_,_,_,_,_,rfl,sC,rfl⟩:=h3;refine⟨a,c,h1,h2, ?_,fun h=>by omega⟩;rw[←sC];exact hl
theorem vP{B D:Bt}{ep fr er:Int}(ok:B.bare.Ok)(h:aU B.bare ep fr=(D,er)):(¬er=0∧D.es=[])∨(D=B.bare∧er=0∧D.e=B.e)∨(D=⟨4,ep,fr,0,0,[]⟩∧er=0∧(1≤ep∧ep≤1048576)∧(0≤fr∧fr≤4)∧¬(B.r=1∨B.r=2∨B.r=3)∧¬ep≤B.e):=by
 unfold aU at h;rw[if_neg (fun g=>g ok)]at h;by_cases g0:¬((1≤ep∧ep≤1048576)∧(0≤fr∧fr≤4))
 ·rw[if_pos g0]at h;obtain⟨rfl,rfl⟩:=AR h;exact .inl ⟨by decide,rfl⟩
 rw[if_neg g0]at h;have ZI:=Ay.1 g0;by_cases g1:B.r=1∨B.r=2∨B.r=3
 ·rw[if_pos (show B.bare.r=1∨B.bare.r=2∨B.bare.r=3 from g1)]at h;obtain⟨rfl,rfl⟩:=AR h;exact .inl ⟨by decide,rfl⟩
 rw[if_neg (show ¬(B.bare.r=1∨B.bare.r=2∨B.bare.r=3) from g1)]at h;by_cases g2:B.r=4∧B.e=ep∧B.f=fr
 ·rw[if_pos (show B.bare.r=4∧B.bare.e=ep∧B.bare.f=fr from g2)]at h;obtain⟨rfl,rfl⟩:=AR h;exact .inr (.inl ⟨rfl,rfl,rfl⟩)
 rw[if_neg (show ¬(B.bare.r=4∧B.bare.e=ep∧B.bare.f=fr) from g2)]at h;by_cases g3:ep≤B.e
 ·rw[if_pos (show ep≤B.bare.e from g3)]at h;obtain⟨rfl,rfl⟩:=AR h;exact .inl ⟨by decide,rfl⟩
 rw[if_neg (show ¬ep≤B.bare.e from g3)]at h;obtain⟨rfl,rfl⟩:=AR h;exact .inr (.inr ⟨rfl,rfl,ZI.1,ZI.2,g1,g3⟩)
theorem Ky(B:Bt)(a:tB)(c:Nat)(r:Rec)(w:tA)(base:Nat)(bM:w.ownsRow base 55 6 (.slice a B.es.length c) B.es.length ((ai B.es).map (Value.int .i64)))(hs:B.cH):
  cA 221 #[bR B.r B.e B.f B.t B.o a B.es.length c,mj r] w fun x w'=>fK w w' base (.slice a B.es.length c) x (ka B r)∧bZ w w':=by
 obtain⟨D,er,hD⟩:∃D er,aU B.bare r.e r.p=(D,er):=⟨_,_,rfl⟩;have ok:=Ih hs;have Yt:D.es=[]:=by
  rcases vP ok hD with h|⟨rfl,h,_⟩|⟨rfl,_⟩
  ·exact h.2
  ·rfl
  ·rfl
 have HB:∀w,cA 165 #[bR B.r B.e B.f B.t B.o none 0 0,iV r.e,iV r.p] w fun x w'=>∃a' c',x= .returned (.tuple #[bR D.r D.e D.f D.t D.o a' 0 c',iV er])∧(er=0→¬D.e=B.e→a'=none∧c'=0)∧bZ w w':=fun w=>by
  rcases vP ok hD with⟨h,_⟩|⟨rfl,h0,h⟩|⟨rfl,h0,g1,g2,g3,g4⟩
  ·refine(rX B.bare none 0 r.e r.p w ⟨RowK.nil _ _ _,Aa _,fun _=>rfl⟩).mono fun x w' ⟨y,B',er',h1,h2,h3,h4⟩=> ?_;rw[hD]at h2;obtain⟨rfl,rfl⟩:=AR h2;obtain⟨a',c',rfl,i3,_⟩:=h3;rw[Yt]at h1;exact⟨a',c',h1,fun h'=>absurd h' h,h4⟩
  ·refine(rX B.bare none 0 r.e r.p w ⟨RowK.nil _ _ _,Aa _,fun _=>rfl⟩).mono fun x w' ⟨y,B',er',h1,h2,h3,h4⟩=> ?_;rw[hD]at h2;obtain⟨rfl,rfl⟩:=AR h2;obtain⟨a',c',rfl,i3,_⟩:=h3;rw[Yt]at h1;exact⟨a',c',h1,fun _ h'=>absurd rfl h',h4⟩
  ·refine(Kx B.bare none 0 r.e r.p w ⟨RowK.nil _ _ _,Aa _,fun _=>rfl⟩ ok g1 g2 g3 g4).mono fun x w' ⟨h1,h4⟩=> ?_;rw[h0];exact⟨none,0,h1,fun _ _=>⟨rfl,rfl⟩,h4⟩
 have hT:ka B r=if er=0 then some (if D.e=B.e then⟨D.r,D.e,D.f,D.t,D.o,B.es⟩else D)else none:=by unfold ka;rw[hD]
 have HT:=ah hT;have HES:=ah Yt;clear hD Yt hT ok hs;go_enter Tryz.func221,Tryz.ntmps221
 go_upto_region 1 with fail
 obtain⟨W1,hW1,M1⟩:=Mr.made w B a c r;rw[←hW1];clear hW1;obtain⟨W2,hW2,G2⟩:=Bg.made M1 bM;obtain⟨x0,x1,x2,x3,x4,x5⟩:=M1.b.cells;have xf:=M1.b.free;have HW2:=ah hW2;have HG2:=ah G2;clear hW2 G2 M1 bM
 go_upto_region 3 with fail
 rw[←aa HW2];clear HW2 x0 x1 x2 x3 x4 x5 xf;have hc:=HB W2;obtain⟨x0,x1,x2,x3,x4,x5⟩:=(aa HG2).b.cells;obtain⟨r0,r1,r2,r3,r4,r5,r6,r7,r8,r9⟩:=(aa HG2).rc.cells;clear HB
 go_upto_region 4 with(go_at_call 165;refine hc.mono ?_;rintro x W3 ⟨a',c',rfl,n3,b3⟩;clear hc x0 x1 x2 x3 x4 x5 r0 r1 r2 r3 r4 r5 r6 r7 r8 r9;have ZJ:=ah n3;have V6:=ah ((aa HG2).next b3);clear n3 b3)
 obtain⟨W4,hW4,d4,b4⟩:∃W4,W4=W3.alloc (.cells (dp D.r D.e D.f D.t D.o a' 0 c') 49)∧aG W4 W3.heap.size D.r D.e D.f D.t D.o a' 0 c'∧bZ W3 W4:=⟨_,rfl,aG.new _ _ _ _ _ _ _ _ _,aA _ _⟩;rw[←hW4];have G4:=(aa V6).next b4;have aM:w.heap.size+2<W3.heap.size:=(aa V6).z.lt;have Mu:=ah G4;have LX:=ah d4;clear hW4 V6 HG2 G4;by_cases h0:er=0
 case neg=>
  have e1:(er !=0)=true:=by simp[h0]
  have HR:ka B r=none:=by rw[aa HT,if_neg h0]
  have HRV:=ah HR;obtain⟨z0,z1,z2,z3,z4,z5⟩:=(aa Mu).z.cells;have zf:=(aa Mu).z.free;clear h0 HR b4 d4;go_wp2;obtain⟨W5,hW5,d5,b5,_⟩:=dA (aa Mu).z (aa Mu).cP (show w.heap.size≤w.heap.size+2 by omega) 0 0 0 0 0 none 0 0;rw[←hW5];refine Al (uR d5 rfl rfl) rfl ⟨?_,b5⟩;rw[aa HRV];exact rfl
 case pos=>
 have e1:(er !=0)=false:=by simp[h0]
 have HR:ka B r=some (if D.e=B.e then⟨D.r,D.e,D.f,D.t,D.o,B.es⟩else D):=by rw[aa HT,if_pos h0]
 have HNN:Hid (¬D.e=B.e→a'=none∧c'=0):=ah (aa ZJ h0);have HRV:=ah HR;clear h0 HR b4 ZJ;obtain⟨x0,x1,x2,x3,x4,x5⟩:=(aa Mu).b.cells;obtain⟨k0,k1,k2,k3,k4,k5⟩:=d4.cells;have kf:=d4.free;clear d4;by_cases h1:D.e=B.e
 case neg=>
  have e2:(D.e==B.e)=false:=by simp[h1]
  obtain⟨rfl,rfl⟩:=aa HNN h1;have HD:Hid (ka B r=some D):=ah (by rw[aa HRV,if_neg h1]);obtain⟨z0,z1,z2,z3,z4,z5⟩:=(aa Mu).z.cells;have zf:=(aa Mu).z.free;clear h1 HNN HRV;go_wp2;obtain⟨W5,hW5,d5,b5,t5⟩:=dA (aa Mu).z (aa Mu).cP (show w.heap.size≤w.heap.size+2 by omega) D.r D.e D.f D.t D.o none 0 0;rw[←hW5];refine Al (uR d5 rfl rfl) rfl ⟨?_,b5⟩;rw[aa HD];refine⟨none,0, ?_, ?_,(fun g hg=>by cases hg),fun _=>b5⟩
  ·rw[aa HES];rfl
  ·rw[aa HES];exact Bn _ _ _ _
 case pos=>
 have e2:(D.e==B.e)=true:=by simp[h1]
 have HD:Hid (ka B r=some ⟨D.r,D.e,D.f,D.t,D.o,B.es⟩):=ah (by rw[aa HRV,if_pos h1]);clear h1 HNN HRV
 go_upto_region 8 with fail
 have ain:=(aa LX).lt;have t5:=av.set W3.heap.size 5 W4 (.slice a B.es.length c);obtain⟨W5,hW5,d5⟩:∃W5,W5=W4.setCell ⟨W3.heap.size,5,none⟩ (.slice a B.es.length c)∧aG W5 W3.heap.size D.r D.e D.f D.t D.o a B.es.length c:=by
  refine⟨_,rfl, ?_⟩;have:=aa LX;unfold aG at this⊢;rw[cE this];simp
 rw[←hW5]at t5⊢;have z5:=(aa Mu).z.dC t5 (by omega);have o5:=t5.owns (aa Mu).own (aT (aa Mu).own (aa LX) (by decide));have b5:=t5.under (aa Mu).cP (by omega);clear hW5 x0 x1 x2 x3 x4 x5 k0 k1 k2 k3 k4 k5 kf e1 e2;obtain⟨k0,k1,k2,k3,k4,k5⟩:=d5.cells;obtain⟨z0,z1,z2,z3,z4,z6⟩:=z5.cells;have zf:=z5.free;have Z5:=ah z5;have O5:=ah o5;have B5:=ah b5;clear d5 z5 o5 b5 t5 LX Mu;go_wp2;obtain⟨W6,hW6,d6,b6,t6⟩:=dA (aa Z5) (aa B5) (show w.heap.size≤w.heap.size+2 by omega) D.r D.e D.f D.t D.o a B.es.length c;rw[←hW6];refine Al (uR d6 rfl rfl) rfl ⟨?_,b6⟩;rw[aa HD];exact⟨a,c,rfl,t6.owns (aa O5) (aT (aa O5) (aa Z5) (by decide)),fun g hg=> .inl hg,fun _=>b6⟩
theorem Mw{W:tA}{R:Nat}{r e f t o:Int}{a:tB}{n c:Nat}{ok:Bool}{tmps:tR}(d:aG W R r e f t o a n c)(t4:tmps[6]? =some (.pointer (some ⟨R,0,none⟩)))(t5:tmps[7]? =some (.bool ok)):
  (results Tryz.f239 tmps).run Tryz.prog W= .ok (.tuple #[bR r e f t o a n c,.bool ok]) W:=by
 simp[results,Tryz.results239,t4,t5,asAddr,ec d]
def gg(o:Option Bt):Bt:=o.getD Bt.zero
theorem Mr.grown{w wx wy:tA}{B:Bt}{a:tB}{c:Nat}{r:Rec}{row:Option Nat}(h:Mr w wx B a c r)(g:wx.grownBy wy row)(hr:∀k,row=some k→k<w.heap.size):aG wy (w.heap.size+2) 0 0 0 0 0 none 0 0:=
 (g.block _ h.z.lt (fun e=>by have:=hr _ e.symm;omega)).trans h.z
def Kz(B:Bt)(r:Rec)(role:Int)(o:Option Bt):Option Bt:=if B.r=role∧B.e=r.e then o else none
theorem oW{W:tA}{R:Nat}{r e f t o:Int}{a:tB}{n c:Nat}{ok:Bool}{tmps:tR}(d:aG W R r e f t o a n c)(t4:tmps[5]? =some (.pointer (some ⟨R,0,none⟩)))(t5:tmps[6]? =some (.bool ok)):
  (results Tryz.f238 tmps).run Tryz.prog W= .ok (.tuple #[bR r e f t o a n c,.bool ok]) W:=by
 simp[results,Tryz.results238,t4,t5,asAddr,ec d]
def gQ(r:Rec)(o:Option Bt):Option Bt:=if r.p=0 then o else none
theorem Ik{w:tA}{B clock:Nat}{es:Array MapEntry}{z:Int}{v:tK}(hb:w.heap[B]? =some (.map es clock))(hf:Instr.findNow (.int .i64) (iV z) es.toList 0=some none):
  (Instr.mapUpdate 273 (.map (some B)) (iV z) v).run Tryz.prog w= .ok () {w with heap:=w.heap.setIfInBounds B (.map (es.push ⟨iV z,v,clock⟩) (clock+1))}:=by
 have hc:(Instr.checkKey false 10000 3 (iV z)).run Tryz.prog w= .ok () w:=AW (k:=iV z) Tryz.underlying3 (by simp[MapKept.IsKey]) false 9999;simp[Instr.mapUpdate,run_underlying Tryz.underlying273,MapKept.run_getObj_map hb,hc,MapKept.run_findKey Tryz.underlying3 hf,MapKept.run_setObj_map _ hb,Result.andThen]
theorem kb{ops:tP}{rest:List Oper}{o:Oper}{a:Act}{Q:tI}{w:tA}{B clock:Nat}{es:Array MapEntry}{z:Int}{v:tK}(m k x:tU)(ho:o.op= .insert 273 m k x)(hw:Region.wanted o (yielded ops a.tmps)=true)
  (hm:a.eval m= .map (some B)) (hk:a.eval k=iV z) (hx:a.eval x=v) (hb:w.heap[B]? =some (.map es clock)) (hf:Instr.findNow (.int .i64) (iV z) es.toList 0=some none)
  (h:∀w',w'.heap[B]? =some (.map (es.push ⟨iV z,v,clock⟩) (clock+1))→av B w w'→wpList Tryz.prog ops Q rest (a.put o.dst undef) w'):wpList Tryz.prog ops Q (o::rest) a w:=
 Bm fun K hK=>by
  rw[if_pos hw];have rT:=Ik (v:=v) hb hf;have hs:=MapKept.heap_set (o':= .map (es.push ⟨iV z,v,clock⟩) (clock+1)) hb;have:=hK _ _ (h {w with heap:=w.heap.setIfInBounds B (.map (es.push ⟨iV z,v,clock⟩) (clock+1))} hs.1 ⟨rfl,rfl,rfl,by simp,fun r hr=>hs.2 r hr⟩);unfold Oper.wp;simp only[execOp,ho,hm,hk,hx];simp[rT,Result.andThen];exact this
theorem V7{ops:tP}{rest:List Oper}{o:Oper}{a:Act}{Q:tI}{w:tA}(ho:o.op= .makeMap 273 none)(hw:Region.wanted o (yielded ops a.tmps)=true)
  (h:∀w',w'.heap[w.heap.size]? =some (.map #[] 0)→bZ w w'→wpList Tryz.prog ops Q rest (a.put o.dst (.map (some w.heap.size))) w'):wpList Tryz.prog ops Q (o::rest) a w:=
 Bm fun K hK=>by
  rw[if_pos hw];have:=hK _ _ (h _ (AQ w _) (aA _ _));unfold Oper.wp;simp only[execOp,ho];simp[run_makeMap_plain,Result.andThen];exact this
def A5(w:tA)(v:tK)(role:Int)(N:Nat):Prop:=∃P Q,v= .func (.func 239) #[] #[.pointer (some ⟨P,0,none⟩),.pointer (some ⟨Q,0,none⟩)]∧w.cell? ⟨P,0,none⟩=some (iV role)∧w.cell? ⟨Q,0,none⟩=some (.func (.func N) #[] #[])
def OO(w:tA)(v:tK)(N:Nat):Prop:=∃Q,v= .func (.func 238) #[] #[.pointer (some ⟨Q,0,none⟩)]∧w.cell? ⟨Q,0,none⟩=some (.func (.func N) #[] #[])
def Fz(w:tA)(v:tK)(role:Int)(N:Nat):Prop:=∃Q u,v= .func (.func 238) #[] #[.pointer (some ⟨Q,0,none⟩)]∧w.cell? ⟨Q,0,none⟩=some u∧A5 w u role N
theorem A5.keep{w w':tA}{v:tK}{role:Int}{N:Nat}(h:A5 w v role N)(k:∀X x,w.cell? ⟨X,0,none⟩=some x→w'.cell? ⟨X,0,none⟩=some x):A5 w' v role N:=by
 obtain⟨P,Q,rfl,h1,h2⟩:=h;exact⟨P,Q,rfl,k _ _ h1,k _ _ h2⟩
theorem OO.keep{w w':tA}{v:tK}{N:Nat}(h:OO w v N)(k:∀X x,w.cell? ⟨X,0,none⟩=some x→w'.cell? ⟨X,0,none⟩=some x):OO w' v N:=by
 obtain⟨Q,rfl,h2⟩:=h;exact⟨Q,rfl,k _ _ h2⟩
theorem Fz.keep{w w':tA}{v:tK}{role:Int}{N:Nat}(h:Fz w v role N)(k:∀X x,w.cell? ⟨X,0,none⟩=some x→w'.cell? ⟨X,0,none⟩=some x):Fz w' v role N:=by
 obtain⟨Q,u,rfl,h1,h2⟩:=h;exact⟨Q,u,rfl,k _ _ h1,h2.keep k⟩
theorem aH{w w':tA}(b:bZ w w'):∀X x,w.cell? ⟨X,0,none⟩=some x→w'.cell? ⟨X,0,none⟩=some x:=
 fun X _ h=>(b.cell (p:=⟨X,0,none⟩) (Co w _ h)).trans h
theorem bO{w w':tA}{M clock:Nat}{es:Array MapEntry}(t:av M w w')(h:w.heap[M]? =some (.map es clock)):∀X x,w.cell? ⟨X,0,none⟩=some x→w'.cell? ⟨X,0,none⟩=some x:=by
 intro X _ hx;have fM:X≠M:=by
  rintro rfl;simp[World.cell?,h]at hx
 exact(Ck (a:=⟨X,0,none⟩) (t.block X fM)).trans hx
theorem oX(w:tA)(v:tK)(t:tZ):(w.alloc (.cells #[v] t)).cell? ⟨w.heap.size,0,none⟩=some v:=by
 have:=AQ w (.cells #[v] t);unfold World.cell?;rw[this];rfl
theorem KA(w:tA)(o:Obj)(v:tK)(t:tZ):((w.alloc o).alloc (.cells #[v] t)).cell? ⟨w.heap.size+1,0,none⟩=some v:=by
 have h:=oX (w.alloc o) v t;have e:(w.alloc o).heap.size=w.heap.size+1:=by simp
 rw[e]at h;exact h
theorem KB:∀(fn:Fn) (first cap:tR) (w:tA),(Instr.makeFunc fn first cap).run Tryz.prog w= .ok (.func fn first cap) w:=fun _ _ _ _=>rfl
theorem yF(role:Int)(N:Nat)(w:tA):cA 218 #[iV role,.func (.func N) #[] #[]] w fun e w'=>∃v,e= .returned v∧A5 w' v role N∧bZ w w':=by
 have hmf:=KB;go_enter Tryz.func218,Tryz.ntmps218;go_wp2;go_ret;refine⟨_,rfl,⟨w.heap.size,w.heap.size+1,rfl, ?_, ?_⟩, ?_⟩
 ·exact aH (aA _ _) _ _ (oX _ _ _)
 ·exact KA _ _ _ _
 ·exact Below.next (aA _ _) (aA _ _)
theorem OP(N:Nat)(w:tA):cA 216 #[.func (.func N) #[] #[]] w fun e w'=>∃v,e= .returned v∧OO w' v N∧bZ w w':=by
 have hmf:=KB;go_enter Tryz.func216,Tryz.ntmps216;go_wp2;go_ret;refine⟨_,rfl,⟨w.heap.size,rfl, ?_⟩, ?_⟩
 ·exact oX _ _ _
 ·exact aA _ _
theorem tr(v:tK)(role:Int)(N:Nat)(w:tA)(h:A5 w v role N):cA 216 #[v] w fun e w'=>∃v,e= .returned v∧Fz w' v role N∧bZ w w':=by
 have hmf:=KB;obtain⟨P,Q,rfl,h1,h2⟩:=h;have H:Hid (∀o,A5 (w.alloc o) (.func (.func 239) #[] #[.pointer (some ⟨P,0,none⟩),.pointer (some ⟨Q,0,none⟩)]) role N):=ah fun o=>A5.keep ⟨P,Q,rfl,h1,h2⟩ (aH (aA w o));clear h1 h2;go_enter Tryz.func216,Tryz.ntmps216;go_wp2;go_ret;refine⟨_,rfl,⟨w.heap.size,_,rfl, ?_,aa H _⟩, ?_⟩
 ·exact oX _ _ _
 ·exact aA _ _
structure Table(w:tA)(M:Nat)(v1 v2 v3 v5 v6 v7:tK):Prop where
 pw:w.heap[M]? =some (.map #[⟨iV 1,v1,0⟩,⟨iV 2,v2,1⟩,⟨iV 3,v3,2⟩,⟨iV 4,.func (.func 221) #[] #[],3⟩,⟨iV 5,v5,4⟩,⟨iV 6,v6,5⟩,⟨iV 7,v7,6⟩] 7)
 d1:OO w v1 217
 d2:Fz w v2 1 219
 d3:A5 w v3 1 220
 d5:Fz w v5 4 219
 d6:Fz w v6 4 222
 d7:Fz w v7 3 223
structure Tb(w wx:tA)(es:Array MapEntry)(clock:Nat):Prop where
 pw:wx.heap[w.heap.size]? =some (.map es clock)
 cP:bZ w wx
theorem Tb.next{w wx wy:tA}{es:Array MapEntry}{clock:Nat}(h:Tb w wx es clock)(b:bZ wx wy):Tb w wy es clock:=⟨(b.block _ (bQ h.pw)).trans h.pw,Below.next h.cP b⟩
theorem OQ(w:tA):cA 190 #[] w fun e w'=>∃v1 v2 v3 v5 v6 v7,e= .returned (.map (some w.heap.size))∧Table w' w.heap.size v1 v2 v3 v5 v6 v7∧bZ w w':=by
 go_enter Tryz.func190,Tryz.ntmps190
 go_wp2_with (first
  |(refine V7 rfl rfl ?_;intro W0 m0 b0;have T0:=ah (Tb.mk (w:=w) m0 b0);clear b0 m0)
  |(go_at_call 216;refine(OP 217 _).mono ?_;rintro _ W1 ⟨v1,rfl,dv1,b1⟩;have T1:=ah ((aa T0).next b1);have qW:=ah dv1;clear dv1 b1 T0)
  |(refine kb (es:= #[]) (clock:=0) (z:=1) (v:=v1) _ _ _ rfl rfl rfl rfl rfl (aa T1).pw rfl ?_;intro W2 m2 t2;replace qW:=ah ((aa qW).keep (bO t2 (aa T1).pw));have T2:=ah (Tb.mk (w:=w) m2 (t2.under (aa T1).cP (Aa _)));clear m2 t2 T1)
  |(go_at_call 218;refine(yF 1 219 _).mono ?_;rintro _ W3 ⟨u2,rfl,du2,b3⟩;have T3:=ah ((aa T2).next b3);have Du2:=ah du2;replace qW:=ah ((aa qW).keep (aH b3));clear du2 b3 T2)
  |(go_at_call 216;refine(tr u2 1 219 _ (aa Du2)).mono ?_;rintro _ W4 ⟨v2,rfl,dv2,b4⟩;have T4:=ah ((aa T3).next b4);have uS:=ah dv2;replace qW:=ah ((aa qW).keep (aH b4));clear dv2 b4 T3 Du2)
  |(refine kb (es:= #[(⟨iV 1,v1,0⟩:tf)]) (clock:=1) (z:=2) (v:=v2) _ _ _ rfl rfl rfl rfl rfl (aa T4).pw rfl ?_;intro W5 m5 t5;replace qW:=ah ((aa qW).keep (bO t5 (aa T4).pw));replace uS:=ah ((aa uS).keep (bO t5 (aa T4).pw));have T5:=ah (Tb.mk (w:=w) m5 (t5.under (aa T4).cP (Aa _)));clear m5 t5 T4)
  |(go_at_call 218;refine(yF 1 220 _).mono ?_;rintro _ W6 ⟨v3,rfl,dv3,b6⟩;have T6:=ah ((aa T5).next b6);have yG:=ah dv3;replace qW:=ah ((aa qW).keep (aH b6));replace uS:=ah ((aa uS).keep (aH b6));clear dv3 b6 T5)
  |(refine kb (es:= #[(⟨iV 1,v1,0⟩:tf),(⟨iV 2,v2,1⟩:tf)]) (clock:=2) (z:=3) (v:=v3) _ _ _ rfl rfl rfl rfl rfl (aa T6).pw rfl ?_;intro W7 m7 t7;replace qW:=ah ((aa qW).keep (bO t7 (aa T6).pw));replace uS:=ah ((aa uS).keep (bO t7 (aa T6).pw));replace yG:=ah ((aa yG).keep (bO t7 (aa T6).pw));have T7:=ah (Tb.mk (w:=w) m7 (t7.under (aa T6).cP (Aa _)));clear m7 t7 T6)
  |(refine kb (es:= #[(⟨iV 1,v1,0⟩:tf),(⟨iV 2,v2,1⟩:tf),(⟨iV 3,v3,2⟩:tf)]) (clock:=3) (z:=4) (v:=(.func (.func 221) #[] #[])) _ _ _ rfl rfl rfl rfl rfl (aa T7).pw rfl ?_;intro W8 m8 t8;replace qW:=ah ((aa qW).keep (bO t8 (aa T7).pw));replace uS:=ah ((aa uS).keep (bO t8 (aa T7).pw));replace yG:=ah ((aa yG).keep (bO t8 (aa T7).pw));have T8:=ah (Tb.mk (w:=w) m8 (t8.under (aa T7).cP (Aa _)));clear m8 t8 T7)
  |(go_at_call 218;refine(yF 4 219 _).mono ?_;rintro _ W9 ⟨u5,rfl,du5,b9⟩;have T9:=ah ((aa T8).next b9);have Du5:=ah du5;replace qW:=ah ((aa qW).keep (aH b9));replace uS:=ah ((aa uS).keep (aH b9));replace yG:=ah ((aa yG).keep (aH b9));clear du5 b9 T8)
  |(go_at_call 216;refine(tr u5 4 219 _ (aa Du5)).mono ?_;rintro _ W10 ⟨v5,rfl,dv5,b10⟩;have ZK:=ah ((aa T9).next b10);have KC:=ah dv5;replace qW:=ah ((aa qW).keep (aH b10));replace uS:=ah ((aa uS).keep (aH b10));replace yG:=ah ((aa yG).keep (aH b10));clear dv5 b10 T9 Du5)
  |(refine kb (es:= #[(⟨iV 1,v1,0⟩:tf),(⟨iV 2,v2,1⟩:tf),(⟨iV 3,v3,2⟩:tf),(⟨iV 4,(.func (.func 221) #[] #[]),3⟩:tf)]) (clock:=4) (z:=5) (v:=v5) _ _ _ rfl rfl rfl rfl rfl (aa ZK).pw rfl ?_;intro W11 m11 t11;replace qW:=ah ((aa qW).keep (bO t11 (aa ZK).pw));replace uS:=ah ((aa uS).keep (bO t11 (aa ZK).pw));replace yG:=ah ((aa yG).keep (bO t11 (aa ZK).pw));replace KC:=ah ((aa KC).keep (bO t11 (aa ZK).pw));have T11:=ah (Tb.mk (w:=w) m11 (t11.under (aa ZK).cP (Aa _)));clear m11 t11 ZK)
  |(go_at_call 218;refine(yF 4 222 _).mono ?_;rintro _ W12 ⟨u6,rfl,du6,b12⟩;have T12:=ah ((aa T11).next b12);have Du6:=ah du6;replace qW:=ah ((aa qW).keep (aH b12));replace uS:=ah ((aa uS).keep (aH b12));replace yG:=ah ((aa yG).keep (aH b12));replace KC:=ah ((aa KC).keep (aH b12));clear du6 b12 T11)
  |(go_at_call 216;refine(tr u6 4 222 _ (aa Du6)).mono ?_;rintro _ W13 ⟨v6,rfl,dv6,b13⟩;have Yu:=ah ((aa T12).next b13);have V8:=ah dv6;replace qW:=ah ((aa qW).keep (aH b13));replace uS:=ah ((aa uS).keep (aH b13));replace yG:=ah ((aa yG).keep (aH b13));replace KC:=ah ((aa KC).keep (aH b13));clear dv6 b13 T12 Du6)
  |(refine kb (es:= #[(⟨iV 1,v1,0⟩:tf),(⟨iV 2,v2,1⟩:tf),(⟨iV 3,v3,2⟩:tf),(⟨iV 4,(.func (.func 221) #[] #[]),3⟩:tf),(⟨iV 5,v5,4⟩:tf)]) (clock:=5) (z:=6) (v:=v6) _ _ _ rfl rfl rfl rfl rfl (aa Yu).pw rfl ?_;intro W14 m14 t14;replace qW:=ah ((aa qW).keep (bO t14 (aa Yu).pw));replace uS:=ah ((aa uS).keep (bO t14 (aa Yu).pw));replace yG:=ah ((aa yG).keep (bO t14 (aa Yu).pw));replace KC:=ah ((aa KC).keep (bO t14 (aa Yu).pw));replace V8:=ah ((aa V8).keep (bO t14 (aa Yu).pw));have T14:=ah (Tb.mk (w:=w) m14 (t14.under (aa Yu).cP (Aa _)));clear m14 t14 Yu)
  |(go_at_call 218;refine(yF 3 223 _).mono ?_;rintro _ W15 ⟨u7,rfl,du7,b15⟩;have T15:=ah ((aa T14).next b15);have Du7:=ah du7;replace qW:=ah ((aa qW).keep (aH b15));replace uS:=ah ((aa uS).keep (aH b15));replace yG:=ah ((aa yG).keep (aH b15));replace KC:=ah ((aa KC).keep (aH b15));replace V8:=ah ((aa V8).keep (aH b15));clear du7 b15 T14)
  |(go_at_call 216;refine(tr u7 3 223 _ (aa Du7)).mono ?_;rintro _ W16 ⟨v7,rfl,dv7,b16⟩;have V9:=ah ((aa T15).next b16);have Dv7:=ah dv7;replace qW:=ah ((aa qW).keep (aH b16));replace uS:=ah ((aa uS).keep (aH b16));replace yG:=ah ((aa yG).keep (aH b16));replace KC:=ah ((aa KC).keep (aH b16));replace V8:=ah ((aa V8).keep (aH b16));clear dv7 b16 T15 Du7)
  |(refine kb (es:= #[(⟨iV 1,v1,0⟩:tf),(⟨iV 2,v2,1⟩:tf),(⟨iV 3,v3,2⟩:tf),(⟨iV 4,(.func (.func 221) #[] #[]),3⟩:tf),(⟨iV 5,v5,4⟩:tf),(⟨iV 6,v6,5⟩:tf)]) (clock:=6) (z:=7) (v:=v7) _ _ _ rfl rfl rfl rfl rfl (aa V9).pw rfl ?_;intro W17 m17 t17;replace qW:=ah ((aa qW).keep (bO t17 (aa V9).pw));replace uS:=ah ((aa uS).keep (bO t17 (aa V9).pw));replace yG:=ah ((aa yG).keep (bO t17 (aa V9).pw));replace KC:=ah ((aa KC).keep (bO t17 (aa V9).pw));replace V8:=ah ((aa V8).keep (bO t17 (aa V9).pw));replace Dv7:=ah ((aa Dv7).keep (bO t17 (aa V9).pw));have T17:=ah (Tb.mk (w:=w) m17 (t17.under (aa V9).cP (Aa _)));clear m17 t17 V9))
 go_ret;exact⟨_,_,_,_,_,_,rfl,⟨(aa T17).pw,aa qW,aa uS,aa yG,aa KC,aa V8,aa Dv7⟩,(aa T17).cP⟩
theorem se{w:tA}{M:Nat}{v1 v2 v3 v5 v6 v7:tK}(h:Table w M v1 v2 v3 v5 v6 v7):
  (Instr.lookup 273 (.map (some M)) (iV 1) false).run Tryz.prog w= .ok (v1) w∧(Instr.lookup 273 (.map (some M)) (iV 2) false).run Tryz.prog w= .ok (v2) w∧(Instr.lookup 273 (.map (some M)) (iV 3) false).run Tryz.prog w= .ok (v3) w∧(Instr.lookup 273 (.map (some M)) (iV 4) false).run Tryz.prog w= .ok (.func (.func 221) #[] #[]) w∧(Instr.lookup 273 (.map (some M)) (iV 5) false).run Tryz.prog w= .ok (v5) w∧(Instr.lookup 273 (.map (some M)) (iV 6) false).run Tryz.prog w= .ok (v6) w∧(Instr.lookup 273 (.map (some M)) (iV 7) false).run Tryz.prog w= .ok (v7) w:=by
 have hc:∀k,(Instr.checkKey false 10000 3 (iV k)).run Tryz.prog w= .ok () w:=fun k=>AW (k:=iV k) Tryz.underlying3 (by simp[MapKept.IsKey]) false 9999;have ht:=h.pw;refine⟨?_, ?_, ?_, ?_, ?_, ?_, ?_⟩
 ·have hf:Instr.findNow (.int .i64) (iV 1) [(⟨iV 1,v1,0⟩:tf),⟨iV 2,v2,1⟩,⟨iV 3,v3,2⟩,⟨iV 4,.func (.func 221) #[] #[],3⟩,⟨iV 5,v5,4⟩,⟨iV 6,v6,5⟩,⟨iV 7,v7,6⟩] 0=some (some (0,v1)):=rfl;simp[Instr.lookup,run_underlying Tryz.underlying273,MapKept.run_getObj_map ht,hc 1,MapKept.run_findKey Tryz.underlying3 hf,Result.andThen]
 ·have hf:Instr.findNow (.int .i64) (iV 2) [(⟨iV 1,v1,0⟩:tf),⟨iV 2,v2,1⟩,⟨iV 3,v3,2⟩,⟨iV 4,.func (.func 221) #[] #[],3⟩,⟨iV 5,v5,4⟩,⟨iV 6,v6,5⟩,⟨iV 7,v7,6⟩] 0=some (some (1,v2)):=rfl;simp[Instr.lookup,run_underlying Tryz.underlying273,MapKept.run_getObj_map ht,hc 2,MapKept.run_findKey Tryz.underlying3 hf,Result.andThen]
 ·have hf:Instr.findNow (.int .i64) (iV 3) [(⟨iV 1,v1,0⟩:tf),⟨iV 2,v2,1⟩,⟨iV 3,v3,2⟩,⟨iV 4,.func (.func 221) #[] #[],3⟩,⟨iV 5,v5,4⟩,⟨iV 6,v6,5⟩,⟨iV 7,v7,6⟩] 0=some (some (2,v3)):=rfl;simp[Instr.lookup,run_underlying Tryz.underlying273,MapKept.run_getObj_map ht,hc 3,MapKept.run_findKey Tryz.underlying3 hf,Result.andThen]
 ·have hf:Instr.findNow (.int .i64) (iV 4) [(⟨iV 1,v1,0⟩:tf),⟨iV 2,v2,1⟩,⟨iV 3,v3,2⟩,⟨iV 4,.func (.func 221) #[] #[],3⟩,⟨iV 5,v5,4⟩,⟨iV 6,v6,5⟩,⟨iV 7,v7,6⟩] 0=some (some (3,.func (.func 221) #[] #[])):=rfl;simp[Instr.lookup,run_underlying Tryz.underlying273,MapKept.run_getObj_map ht,hc 4,MapKept.run_findKey Tryz.underlying3 hf,Result.andThen]
 ·have hf:Instr.findNow (.int .i64) (iV 5) [(⟨iV 1,v1,0⟩:tf),⟨iV 2,v2,1⟩,⟨iV 3,v3,2⟩,⟨iV 4,.func (.func 221) #[] #[],3⟩,⟨iV 5,v5,4⟩,⟨iV 6,v6,5⟩,⟨iV 7,v7,6⟩] 0=some (some (4,v5)):=rfl;simp[Instr.lookup,run_underlying Tryz.underlying273,MapKept.run_getObj_map ht,hc 5,MapKept.run_findKey Tryz.underlying3 hf,Result.andThen]
 ·have hf:Instr.findNow (.int .i64) (iV 6) [(⟨iV 1,v1,0⟩:tf),⟨iV 2,v2,1⟩,⟨iV 3,v3,2⟩,⟨iV 4,.func (.func 221) #[] #[],3⟩,⟨iV 5,v5,4⟩,⟨iV 6,v6,5⟩,⟨iV 7,v7,6⟩] 0=some (some (5,v6)):=rfl;simp[Instr.lookup,run_underlying Tryz.underlying273,MapKept.run_getObj_map ht,hc 6,MapKept.run_findKey Tryz.underlying3 hf,Result.andThen]
 ·have hf:Instr.findNow (.int .i64) (iV 7) [(⟨iV 1,v1,0⟩:tf),⟨iV 2,v2,1⟩,⟨iV 3,v3,2⟩,⟨iV 4,.func (.func 221) #[] #[],3⟩,⟨iV 5,v5,4⟩,⟨iV 6,v6,5⟩,⟨iV 7,v7,6⟩] 0=some (some (6,v7)):=rfl;simp[Instr.lookup,run_underlying Tryz.underlying273,MapKept.run_getObj_map ht,hc 7,MapKept.run_findKey Tryz.underlying3 hf,Result.andThen]
theorem mL{w W:tA}{base n c:Nat}{a:tB}{xs:tM}(h:w.ownsRow base 55 6 (.slice a n c) n xs)(b:bZ w W):W.ownsRow base 55 6 (.slice a n c) n xs:=
 aI h (fun g hg _=>b.block g ((h.lt g hg).2))
section
variable{w:tA}{B:Bt}{a:tB}{c base:Nat}{r:Rec}
theorem kc{w W W':tA}(b:bZ w W)(b':bZ W W'):bZ w W':=Below.next b b'
end
theorem Si(B:Bt)(a:tB)(c:Nat)(r:Rec)(w:tA)(base:Nat)(bM:w.ownsRow base 55 6 (.slice a B.es.length c) B.es.length ((ai B.es).map (Value.int .i64)))(hb:base≤w.heap.size)(hs:(B.es.length+1)*48≤140737488355328):
  cA 219 #[bR B.r B.e B.f B.t B.o a B.es.length c,mj r] w fun x w'=>fK w w' base (.slice a B.es.length c) x (some (B.more [r.v]))∧w.grownBy w' (Value.slice a B.es.length c).ownBlock:=by
 obtain⟨i6,hi6,hz60,hz61,hz62⟩:=iq Tryz.lK;go_enter Tryz.func219,Tryz.ntmps219
 go_upto_region 1 with fail
 obtain⟨W1,hW1,M1⟩:=Mr.made w B a c r;rw[←hW1];clear hW1;have wh:=bQ M1.z;have O1:=Ow.made M1 bM;obtain⟨x0,x1,x2,x3,x4,x5⟩:=M1.b.cells;obtain⟨r0,r1,r2,r3,r4,r5,r6,r7,r8,r9⟩:=M1.rc.cells;have g1:B.es.length+1≤maxLen:=by unfold maxLen;omega
 have g2:(B.es.length+1)*48≤140737488355328:=hs;have g3:base≤W1.heap.size:=by omega
 have g4:=Ig W1 r.v.k r.v.p r.v.i r.v.b r.v.he r.v.hn 55;have g5:=O1.own.alloc (.cells #[iV r.v.k,iV r.v.p,iV r.v.i,iV r.v.b,iV r.v.he,iV r.v.hn] 55);have G1:=ah g1;have G2:=ah g2;have G3:=ah g3;have G4:=ah g4;have G5:=ah g5;have Yv:=ah O1;have HOW:=ah bM;clear g1 g2 g3 g4 g5 M1 O1 bM
 go_upto_region 2 with(at_builtin;refine wpList_append_own_at _ rfl (.tmp 7) (.tmp 10) 47 rfl base 55 i6 _ 6 48 Tryz.underlying47 hi6 hz60 hz61 hz62 rfl (by decide) (.slice a B.es.length c) B.es.length ((ai B.es).map (Value.int .i64)) rfl (aa G5) ⟨W1.heap.size,0,none⟩ 1 1 ([r.v.k,r.v.p,r.v.i,r.v.b,r.v.he,r.v.hn].map (Value.int .i64)) rfl rfl (aa G4) (Cp .i64 _) (aa G1) (aa G2) (by have:=aa G3;simp;omega) ?_;intro v2 W2 FA grow2 _ hat2;obtain⟨a2,c2,rfl⟩:=lY FA;have HAT:Hid (A4 w (.slice a B.es.length c) (.slice a2 (B.es.length+1) c2)):=ah (fun g hg=>by rcases hat2 with e|e<;>rw[e]at hg<;>first|exact .inl hg|(cases hg;exact .inr (by simp;omega)));clear hat2;obtain⟨k2,K2⟩:=(aa Yv).added (aa HOW) FA grow2;clear x0 x1 x2 x3 x4 x5 r0 r1 r2 r3 r4 r5 r6 r7 r8 r9 FA grow2;have x5:=k2.cells.2.2.2.2.2;have xf:=k2.free 5;have HK:=ah k2;have Gh:=ah K2;clear k2 K2)
 obtain⟨W3,hW3,O3⟩:∃W3,W3=W2.setCell ⟨w.heap.size,5,none⟩ (.slice a2 (B.es.length+1) c2)∧Ow w W3 base (Value.slice a B.es.length c).ownBlock B.r B.e B.f B.t B.o a2 (B.es.length+1) c2 (B.es++[r.v]):=by
  refine⟨_,rfl,aa Gh _ (av.set _ _ _ _) _ _ _ _ _ ?_⟩;have:=aa HK;unfold aG at this⊢;rw[cE this];simp
 rw[←hW3];clear hW3 x5 xf HK Gh;obtain⟨W4,hW4,d4,D4,b4⟩:=O3.out;obtain⟨y0,y1,y2,y3,y4,y5⟩:=O3.b.cells;obtain⟨z0,z1,z2,z3,z4,z5⟩:=O3.z.cells;have zf:=O3.z.free;have D5:=ah (D4 (by simp));have LW:=ah b4;have LX:=ah d4;have ZE:=ah hW4;clear hW4 d4 D4 b4 O3 Yv HOW G1 G2 G3 G4 G5;go_wp2;rw[←aa ZE];exact Al (V3 (aa LX) rfl rfl) rfl ⟨fK.lie (aa D5) (aa HAT) (by simp[yE]),aa LW⟩
theorem A6(B:Bt)(a:tB)(c:Nat)(r:Rec)(w:tA)(base:Nat)(bM:w.ownsRow base 55 6 (.slice a B.es.length c) B.es.length ((ai B.es).map (Value.int .i64)))(hb:base≤w.heap.size)(hs:(B.es.length+1)*48≤140737488355328):
  cA 222 #[bR B.r B.e B.f B.t B.o a B.es.length c,mj r] w fun x w'=>fK w w' base (.slice a B.es.length c) x (some ⟨1,B.e,0,B.t,B.o,B.es++[Ev.brk]⟩)∧w.grownBy w' (Value.slice a B.es.length c).ownBlock:=by
 obtain⟨i6,hi6,hz60,hz61,hz62⟩:=iq Tryz.lK;go_enter Tryz.func222,Tryz.ntmps222
 go_upto_region 1 with fail
 obtain⟨W0,hW0,M0⟩:=Mr.made w B a c r;rw[←hW0];clear hW0;have O0:=Ow.made M0 bM;obtain⟨x0,x1,x2,x3,x4,x5⟩:=M0.b.cells;have xf:=M0.b.free;have ZL:=ah O0;have HOW:=ah bM;clear M0 O0 bM
 go_upto_region 2 with fail
 obtain⟨W1,hW1,O1⟩:∃W1,W1=(W0.setCell ⟨w.heap.size,0,none⟩ (iV 1)).setCell ⟨w.heap.size,2,none⟩ (iV 0)∧Ow w W1 base (Value.slice a B.es.length c).ownBlock 1 B.e 0 B.t B.o a B.es.length c B.es:=by
  refine⟨_,rfl,(aa ZL).dC ((av.set _ _ _ _).trans (av.set _ _ _ _)) ?_⟩;have:=(aa ZL).b;unfold aG at this⊢;rw[cE (cE this)];simp
 rw[←hW1];clear hW1 x0 x1 x2 x3 x4 x5 xf ZL;have wh:=O1.z.lt;obtain⟨x0,x1,x2,x3,x4,x5⟩:=O1.b.cells;have g1:B.es.length+1≤maxLen:=by unfold maxLen;omega
 have g2:(B.es.length+1)*48≤140737488355328:=hs;have g3:base≤W1.heap.size:=by omega
 have g4:=Ig W1 4 0 0 0 0 0 55;have g5:=O1.own.alloc (.cells #[iV 4,iV 0,iV 0,iV 0,iV 0,iV 0] 55);have G1:=ah g1;have G2:=ah g2;have G3:=ah g3;have G4:=ah g4;have G5:=ah g5;have Yv:=ah O1;clear g1 g2 g3 g4 g5 O1
 go_upto_region 3 with(at_builtin;refine wpList_append_own_at _ rfl (.tmp 9) (.tmp 11) 47 rfl base 55 i6 _ 6 48 Tryz.underlying47 hi6 hz60 hz61 hz62 rfl (by decide) (.slice a B.es.length c) B.es.length ((ai B.es).map (Value.int .i64)) rfl (aa G5) ⟨W1.heap.size,0,none⟩ 1 1 ([4,0,0,0,0,0].map (Value.int .i64)) rfl rfl (aa G4) (Cp .i64 _) (aa G1) (aa G2) (by have:=aa G3;simp;omega) ?_;intro v2 W2 FA grow2 _ hat2;obtain⟨a2,c2,rfl⟩:=lY FA;have HAT:Hid (A4 w (.slice a B.es.length c) (.slice a2 (B.es.length+1) c2)):=ah (fun g hg=>by rcases hat2 with e|e<;>rw[e]at hg<;>first|exact .inl hg|(cases hg;exact .inr (by simp;omega)));clear hat2;obtain⟨k2,K2⟩:=(aa Yv).added (x:=Ev.brk) (aa HOW) FA grow2;clear x0 x1 x2 x3 x4 x5 FA grow2;have x5:=k2.cells.2.2.2.2.2;have xf:=k2.free 5;have HK:=ah k2;have Gh:=ah K2;clear k2 K2)
 obtain⟨W3,hW3,O3⟩:∃W3,W3=W2.setCell ⟨w.heap.size,5,none⟩ (.slice a2 (B.es.length+1) c2)∧Ow w W3 base (Value.slice a B.es.length c).ownBlock 1 B.e 0 B.t B.o a2 (B.es.length+1) c2 (B.es++[Ev.brk]):=by
  refine⟨_,rfl,aa Gh _ (av.set _ _ _ _) _ _ _ _ _ ?_⟩;have:=aa HK;unfold aG at this⊢;rw[cE this];simp
 rw[←hW3];clear hW3 x5 xf HK Gh;obtain⟨W4,hW4,d4,D4,b4⟩:=O3.out;obtain⟨y0,y1,y2,y3,y4,y5⟩:=O3.b.cells;obtain⟨z0,z1,z2,z3,z4,z5⟩:=O3.z.cells;have zf:=O3.z.free;have D5:=ah (D4 (by simp));have LW:=ah b4;have LX:=ah d4;have ZE:=ah hW4;clear hW4 d4 D4 b4 O3 Yv HOW G1 G2 G3 G4 G5;go_wp2;rw[←aa ZE];exact Al (Fy (aa LX) rfl rfl) rfl ⟨fK.lie (aa D5) (aa HAT) (by simp[yE]),aa LW⟩
theorem OS(B:Bt)(a:tB)(c:Nat)(r:Rec)(w:tA)(base:Nat)(bM:w.ownsRow base 55 6 (.slice a B.es.length c) B.es.length ((ai B.es).map (Value.int .i64))):
  cA 220 #[bR B.r B.e B.f B.t B.o a B.es.length c,mj r] w fun x w'=>fK w w' base (.slice a B.es.length c) x (some ⟨3,B.e,B.f,r.p,B.o,B.es⟩)∧w.grownBy w' (Value.slice a B.es.length c).ownBlock:=by
 go_enter Tryz.func220,Tryz.ntmps220
 go_upto_region 1 with fail
 obtain⟨W0,hW0,M0⟩:=Mr.made w B a c r;rw[←hW0];clear hW0;have O0:=Ow.made M0 bM;obtain⟨x0,x1,x2,x3,x4,x5⟩:=M0.b.cells;obtain⟨r0,r1,r2,r3,r4,r5,r6,r7,r8,r9⟩:=M0.rc.cells;have xf:=M0.b.free;have ZL:=ah O0;clear M0 O0 bM
 go_region
 obtain⟨W3,hW3,O3⟩:∃W3,W3=((W0.setCell ⟨w.heap.size,0,none⟩ (iV 3)).setCell ⟨w.heap.size,3,none⟩ (iV r.p)).drew∧Ow w W3 base (Value.slice a B.es.length c).ownBlock 3 B.e B.f r.p B.o a B.es.length c B.es:=by
  refine⟨_,rfl,(aa ZL).dC (((av.set _ _ _ _).trans (av.set _ _ _ _)).trans (av.drawn _ _)) ?_⟩;have:=(aa ZL).b;unfold aG at this⊢;show((W0.setCell ⟨w.heap.size,0,none⟩ (iV 3)).setCell ⟨w.heap.size,3,none⟩ (iV r.p)).heap[w.heap.size]? =_;rw[cE (cE this)];simp
 rw[←hW3];clear hW3 x0 x1 x2 x3 x4 x5 r0 r1 r2 r3 r4 r5 r6 r7 r8 r9 xf ZL;obtain⟨W4,hW4,d4,D4,b4⟩:=O3.out;obtain⟨y0,y1,y2,y3,y4,y5⟩:=O3.b.cells;obtain⟨z0,z1,z2,z3,z4,z5⟩:=O3.z.cells;have zf:=O3.z.free;have D5:=ah (D4 rfl);have LW:=ah b4;have LX:=ah d4;have ZE:=ah hW4;clear hW4 d4 D4 b4 O3;go_wp2;rw[←aa ZE];exact Al (Sh (aa LX) rfl rfl) rfl ⟨fK.lie (aa D5) (fun g hg=> .inl hg) (by simp[yE]),aa LW⟩
end Go.Proofs.YtmhifeahpnkpiaaGreatDoor
