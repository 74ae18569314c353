/- Out of my texts: BeG, MoH, MpC, RvM, MpD, MpE, MpG, MpH, MpI, MpJ, MpK, BeH, BeI, MpL, MpM, DrA, DrB, DrC, DrG, DrD, PkD, PkG, PkH, PkB, TpA, TpB, PkJ, TpC, TpD, TpE, PkI, TpF, PkK, KpA, PkL, PlA, PlB, TpJ, TpK, TpL, TpM, TpG, TpH, TpQ, TpR, RdA, RdB, RdC, RdD, RdE, RlA, RlB, RlC, RlI, RlD, RdF, RdG, RdH, RdI, RdJ, RlF. -/
import Derived.BigQuiet
import Derived.Deep.CutRange
import Derived.Deep.DeepCutAuto
import Derived.Deep.QuietTactic
import Derived.Deep.RegionHeld3
import Derived.Defers
import Derived.Lib.Bytes
import Derived.Maps.AppendAt
import Derived.Recover
import Derived.WideMake
import Derived.Test.YtmhifeahpnkpiaaGreatDoorProg
import Derived.Test.YtmhifeahpnkpiaaGreatDoorTAA
import Derived.Test.YtmhifeahpnkpiaaGreatDoorTAB
set_option maxRecDepth 20000
set_option maxHeartbeats 8000000
set_option linter.unusedVariables false
namespace Go.Proofs.YtmhifeahpnkpiaaGreatDoor
open Go.RowKit
section
open Rv
theorem Ic{W:tA}{R:Nat}{r e f t o:Int}{a:tB}{n c:Nat}{er:Int}{tmps:tN}(d:aD W R r e f t o a n c)(t1:tmps[6]? =some (.pointer (some ⟨R,0,none⟩)))(t2:tmps[7]? =some (iV er)):
  (results Tryz.f165 tmps).run Tryz.prog W= .ok (.tuple #[bN r e f t o a n c,iV er]) W:=by
 simp[results,Tryz.results165,t1,t2,asAddr,dX d]
theorem rM(B:Bt)(a:tB)(c:Nat)(ep fr:Int)(w:tA)(hb:iL w B a c):cA 165 #[bN B.r B.e B.f B.t B.o a B.es.length c,iV ep,iV fr] w fun x w'=>∃y B' er,x= .returned (.tuple #[y,iV er])∧aQ B ep fr=(B',er)∧g_ w w' B' y∧bZ w w':=by
 have no:=fun er w=>lE er w;refine en (H:=[]) _ [vg (bS B.r B.e B.f B.t B.o a B.es.length c),vi ep,vi fr] Tryz.func165 rfl rfl (EV hb) (r [] rfl fun _=> ?_);unfold aQ;by_cases ok:B.Ok
 case neg=>exact Rv.cb rfl (vi 6) (fun w hS=>jP B a c w hS.now.1 ok) (r [1] rfl fun _=>Rv.cb rfl (vt [CY,.o (iV 6)]) (fun w _=>no 6 w) (r [] rfl fun _=>fin fun w hS=>⟨_,_,_,rfl,if_pos ok,g_.zero _ _,hS.now.2⟩))
 rw[if_neg (not_not_intro ok)];refine Rv.cb rfl (vi 0) (fun w hS=>gh B a c w hS.now.1 ok) (r [0] rfl fun _=> ?_);by_cases h1:1≤ep∧ep≤1048576
 case neg=>exact Rv.cb rfl (vv (.bool false)) (fun w _=>gg false (ka ep w) (decide_eq_false h1)) (r [] rfl fun _=>Rv.cb rfl (vt [CY,.o (iV 2)]) (fun w _=>no 2 w) (r [] rfl fun _=>fin fun w hS=>⟨_,_,_,rfl,if_pos (fun h=>h1 h.1),g_.zero _ _,hS.now.2⟩))
 refine Rv.cb rfl (vv (.bool true)) (fun w _=>gg true (ka ep w) (decide_eq_true h1)) (r [] rfl fun _=> ?_);by_cases h2:0≤fr∧fr≤4
 case neg=>exact Rv.cb rfl (vv (.bool false)) (fun w _=>gg false (gm fr w) (decide_eq_false h2)) (r [] rfl fun _=>Rv.cb rfl (vt [CY,.o (iV 2)]) (fun w _=>no 2 w) (r [] rfl fun _=>fin fun w hS=>⟨_,_,_,rfl,if_pos (fun h=>h2 h.2),g_.zero _ _,hS.now.2⟩))
 rw[if_neg (not_not_intro ⟨h1,h2⟩)];refine Rv.cb rfl (vv (.bool true)) (fun w _=>gg true (gm fr w) (decide_eq_true h2)) (r [] rfl fun _=> ?_);by_cases h3:B.r=1∨B.r=2
 case pos=>exact Rv.cb rfl (vv (.bool true)) (fun w _=>mE true (lD B.r B.e B.f B.t B.o a B.es.length c w) (decide_eq_true h3)) (r [] rfl fun _=>Rv.cb rfl (vt [CY,.o (iV 8)]) (fun w _=>no 8 w) (r [] rfl fun _=>fin fun w hS=>⟨_,_,_,rfl,if_pos (by omega),g_.zero _ _,hS.now.2⟩))
 refine Rv.cb rfl (vv (.bool false)) (fun w _=>mE false (lD B.r B.e B.f B.t B.o a B.es.length c w) (decide_eq_false h3)) ?_;by_cases h4:B.r=3
 case pos=>exact r [1] rfl fun _=>Rv.cb rfl (vt [CY,.o (iV 8)]) (fun w _=>no 8 w) (r [] rfl fun _=>fin fun w hS=>⟨_,_,_,rfl,if_pos (by omega),g_.zero _ _,hS.now.2⟩)
 rw[if_neg (by omega)];by_cases h5:B.r=4∧B.e=ep∧B.f=fr
 ·rw[if_pos h5];obtain⟨k1,k2,k3⟩:=h5;refine r [0,1,1,1] rfl fun _=>Rv.cx rfl (fun y=> .s (bY B B.es.length y)) (wg w) (fun y w=>iL w B y.1 y.2) (fun w1 hS=>(rK B a c w1 hS.now.1 ok.len).mono fun _ _ h=>by obtain⟨y,h1,h2,h3,h4⟩:=J_ hS.now.2 h;exact⟨y,h1,h2,h3,h4⟩) fun y hy=> ?_;exact r [] rfl fun _=>fin fun w hS=>⟨_,_,_,rfl,rfl,⟨y.1,y.2,rfl,hS.now.1.2,hy⟩,hS.now.2⟩
 rw[if_neg h5];have fi:∀{P:Prop},(¬B.r=4→P)→(B.r=4→¬B.e=ep→P)→(B.r=4→B.e=ep→¬B.f=fr→P)→P:=fun f g h=>by
  by_cases e:B.r=4
  ·by_cases e2:B.e=ep
   ·exact h e e2 fun e3=>h5 ⟨e,e2,e3⟩
   ·exact g e e2
  ·exact f e
 refine fi (fun e=> ?_) (fun e e2=> ?_) fun e e2 e3=> ?_
 case' refine_1=>refine r [0,0] rfl fun _=> ?_
 case' refine_2=>refine r [0,1,0] rfl fun _=> ?_
 case' refine_3=>refine r [0,1,1,0] rfl fun _=> ?_
 all_goals
  by_cases h6:ep≤B.e
  ·exact r [1] rfl fun _=>Rv.cb rfl (vt [CY,.o (iV 15)]) (fun w _=>no 15 w) (r [] rfl fun _=>fin fun w hS=>⟨_,_,_,rfl,if_pos h6,g_.zero _ _,hS.now.2⟩)
  ·rw[if_neg h6];exact r [0] rfl fun _=>fin fun w hS=>⟨_,_,_,rfl,rfl,⟨none,0,rfl,⟨RowK.nil _ _ _,Nat.le_refl _,fun _=>rfl⟩,fun x hx=>by cases hx⟩,hS.now.2⟩
end
section
variable(r e f t o:Int)(a:tB)(n c:Nat)(q:tC)(r' e' f' t' o':Int)(a':tB)(n' c':Nat)(w:tA)
theorem aat(er:Int)(h0:¬er=0):cA 143 #[jg r e f t o a n c q,bN r' e' f' t' o' a' n' c',iV er] w (rB (.tuple #[jg 0 0 0 0 0 none 0 0 zQ,iV er]) w):=by
 go_enter Tryz.func143,Tryz.ntmps143
 go_wp2_with (first
  |(refine A5 _ rfl rfl rfl ?_;intro W1 m1 b1 _s1;have L1:=m1.lt;clear m1 _s1)
  |(refine Wn _ rfl rfl rfl ?_;intro W2 d2 b2 _s2;have L2:=d2.lt;have B2:=b1.trans (b2.mono (by omega));clear d2 b1 b2 _s2)
  |(refine J5 rfl rfl ?_;intro W3 z3 b3 _s3;have L3:=z3.lt;have B3:=B2.trans (b3.mono (by omega));clear B2 b3 _s3)
  |(go_at_call 169;refine(iZ _ _).mono ?_;rintro x W4 ⟨rfl,b4⟩;have z4:=z3.next b4;have B4:=B3.trans (b4.mono (by omega));clear z3 B3 b4)
  |(refine J4 _ _ rfl rfl rfl rfl z4 xO ?_;intro W5 z5 t5;have B5:=t5.under B4 (by omega);clear z4 B4 t5))
 exact bodyPost_ret (J6 z5 _ rfl rfl rfl) rfl ⟨rfl,B5⟩
end
structure jG(w:tA)(B:Bt)(a:tB)(c:Nat)(q:tC):Prop where
 b:iL w B a c
 q:∃s bu,bm B.es s bu∧uG w s q
theorem jG.one{w:tA}{B:Bt}{a:tB}{c:Nat}{q:tC}(h:jG w B a c q):aT q 41:=by
 obtain⟨s,bu,_,hq⟩:=h.q;exact hq.one
abbrev xV(B:Bt)(a:tB)(c:Nat)(q:tC):Value:=jg B.r B.e B.f B.t B.o a B.es.length c q
def rN(U:tD)(w':tA)(B:Bt)(y:tJ):Prop:=∃a c q,y=xV B a c q∧bR U w' fun w=>jG w B a c q
theorem EY(w:tA):uG w St.zero zQ:=⟨none,0,none,0,eF,rfl,RowK.nil _ _ _,RowK.nil _ _ _,Nat.le_refl _,Nat.le_refl _,fun _=>rfl,fun _=>rfl,js⟩
theorem jG.dp{w:tA}{B:Bt}(h:B.es=[]):jG w B none 0 zQ:=⟨⟨by rw[h];exact RowK.nil _ _ _,by rw[h];exact Nat.le_refl _,fun _=>rfl⟩,St.zero,[],by rw[h];exact .nil,EY w⟩
theorem jG.nil{w w':tA}{B:Bt}{a:tB}{c:Nat}(h:B.es=[])(hb:iL w B a c):jG w' B a c zQ:=⟨⟨by rw[h];exact RowK.nil _ _ _,hb.cap,hb.nil⟩,St.zero,[],by rw[h];exact .nil,EY w'⟩
def Bt.dp(B:Bt):Bt:=⟨B.r,B.e,B.f,B.t,B.o,[]⟩
theorem vE{r e f t o:Int}{n m:Nat}(h:bw r e f t o n)(hm:m≤n):bw r e f t o m:=by
 unfold bw at h⊢;rcases h with⟨h1,h2,h3⟩|h|h|h|h
 ·exact .inl ⟨h1,by omega,h3⟩
 ·exact .inr (.inl h)
 ·exact .inr (.inr (.inl h))
 ·exact .inr (.inr (.inr (.inl h)))
 ·exact .inr (.inr (.inr (.inr h)))
theorem Bt.Ok.dp{B:Bt}(h:B.Ok):B.dp.Ok:=⟨vE h.cJ (Nat.zero_le _),by simp[Bt.dp],St.zero,[],.nil⟩
theorem pK(w:tA)(B:Bt):iL w B.dp none 0:=⟨RowK.nil _ _ _,Nat.le_refl _,fun _=>rfl⟩
theorem LZ{B:Bt}(ok:B.Ok)(ep:Int):fJ B.dp ep=fJ B ep:=by
 unfold fJ;rw[if_neg (nn ok),if_neg (nn ok.dp)];rfl
theorem TU{B B':Bt}{ep er:Int}(h:fJ B ep=(B',er)):B'.es=[]:=by
 unfold fJ at h
 repeat' split at h
 all_goals cases h;rfl
theorem EZ{B:Bt}(ok:B.Ok)(ep:Int):bC B.dp ep=bC B ep:=by
 unfold bC;rw[if_neg (nn ok),if_neg (nn ok.dp)];rfl
theorem L0{B B':Bt}{ep er:Int}(h:bC B ep=(B',er)):B'.es=[]:=by
 unfold bC at h
 repeat' split at h
 all_goals cases h;rfl
theorem jG.role{w:tA}{B B':Bt}{a:tB}{c:Nat}{q:tC}(h:jG w B a c q)(e:B'.es=B.es):jG w B' a c q:=⟨⟨by rw[e];exact h.b.row,by rw[e];exact h.b.cap,h.b.nil⟩,by rw[e];exact h.q⟩
theorem Ka(r e f t o:Int)(a:tB)(n c:Nat)(q:tC)(r' e' f' t' o':Int)(a':tB)(n' c':Nat)(er:Int)(w:tA)(hq:aT q 41):cA 143 #[jg r e f t o a n c q,bN r' e' f' t' o' a' n' c',iV er] w fun x w'=>∃y,x= .returned (.tuple #[y,iV er])∧(er=0→y=jg r' e' f' t' o' a n c q)∧(¬er=0→y=jg 0 0 0 0 0 none 0 0 zQ)∧bZ w w':=by
 by_cases h0:er=0
 ·subst h0;refine(XT r e f t o a n c q r' e' f' t' o' a' n' c' w hq).mono ?_;rintro _ w' ⟨rfl,b⟩;exact⟨_,rfl,fun _=>rfl,fun h=>absurd rfl h,b⟩
 ·refine(aat r e f t o a n c q r' e' f' t' o' a' n' c' w er h0).mono ?_;rintro _ w' ⟨rfl,b⟩;exact⟨_,rfl,fun h=>absurd h h0,fun _=>rfl,b⟩
theorem PM{U:tD}{w:tA}{B B1:Bt}{a:tB}{c:Nat}{q:tC}{er:Int}{y:tJ}(hm:bR U w fun w=>jG w B a c q)(h1:er=0→y=jg B1.r B1.e B1.f B1.t B1.o a B.es.length c q)(h2:¬er=0→y=jg 0 0 0 0 0 none 0 0 zQ):rN U w (if er=0 then⟨B1.r,B1.e,B1.f,B1.t,B1.o,B.es⟩else Bt.zero) y:=by
 by_cases h0:er=0
 ·rw[if_pos h0,h1 h0];exact⟨a,c,q,rfl,fun w' hc=>(hm w' hc).role rfl⟩
 ·rw[if_neg h0,h2 h0];exact⟨none,0,zQ,rfl,fun w' _=>jG.dp rfl⟩
theorem L4{B B1:Bt}(ok:B.Ok){nd er:Int}(h:dQ B.dp nd=(B1,er)):dQ B nd=((if er=0 then⟨B1.r,B1.e,B1.f,B1.t,B1.o,B.es⟩else Bt.zero),er):=by
 unfold dQ at h⊢;rw[if_neg (nn ok.dp)]at h;rw[if_neg (nn ok)];by_cases g1:0≤nd∧nd≤4
 ·rw[if_neg (nn g1)]at h⊢;by_cases g2:B.r=2∨B.r=3
  ·rw[if_pos (show B.dp.r=2∨B.dp.r=3 from g2)]at h;rw[if_pos g2];cases h;rfl
  ·rw[if_neg (show ¬(B.dp.r=2∨B.dp.r=3) from g2)]at h;rw[if_neg g2];by_cases g3:B.r=1
   ·rw[if_neg (nn (show B.dp.r=1 from g3))]at h;rw[if_neg (nn g3)];by_cases g4:B.e=1048576
    ·rw[if_pos (show B.dp.e=1048576 from g4)]at h;rw[if_pos g4];cases h;rfl
    ·rw[if_neg (show ¬B.dp.e=1048576 from g4)]at h;rw[if_neg g4];cases h;rfl
   ·rw[if_pos (show ¬B.dp.r=1 from g3)]at h;rw[if_pos g3];cases h;rfl
 ·rw[if_pos g1]at h⊢;cases h;rfl
def Bt.short(B:Bt):Bt:=⟨B.r,B.e,B.f,B.t,B.o,B.es.take 1⟩
theorem Bt.Ok.short{B:Bt}(h:B.Ok):B.short.Ok:=by
 obtain⟨s,bu,ht⟩:=h.told;rcases Nat.eq_zero_or_pos B.es.length with h0|h0
 ·have e:B.es.take 1=B.es:=List.take_of_length_le (by omega);exact⟨by unfold Bt.cC Bt.short;rw[e];exact h.cJ,by unfold Bt.short;rw[e];exact h.len,s,bu,by unfold Bt.short;rw[e];exact ht⟩
 ·obtain⟨s0,h1⟩:=ht.take 1 h0;exact⟨vE (m:=(B.es.take 1).length) h.cJ (by rw[List.length_take];omega),by simp[Bt.short];omega,s0,_,h1⟩
def kA(hv:Int)(n:Nat):Int:=if hv<0∨(n:Int)<hv then-1 else if hv=n then((min 1 n:Nat):Int)else 0
theorem xW{B:Bt}(ok:B.Ok)(hv:Int):dj B.short (kA hv B.es.length)=dj B hv:=by
 unfold dj;rw[if_neg (nn ok),if_neg (nn ok.short)];by_cases g1:B.r=2∨B.r=3
 ·rw[if_neg (nn g1),if_neg (nn (show B.short.r=2∨B.short.r=3 from g1))];have hl:B.short.es.length=min 1 B.es.length:=by simp[Bt.short]
  rw[hl];unfold kA;by_cases g2:hv<0∨(B.es.length:Int)<hv
  ·rw[if_pos g2,if_pos (by omega),if_pos (by omega)]
  ·rw[if_neg g2,if_neg (nn (show 0≤hv∧hv≤(B.es.length:Int) by omega))];split<;>rw[if_neg (nn (by omega))]
 ·rw[if_pos g1,if_pos (show ¬(B.short.r=2∨B.short.r=3) from g1)]
theorem CZ{B B1:Bt}(ok:B.Ok){hv er:Int}(h:aW B.short (kA hv B.es.length)=(B1,er)):aW B hv=((if er=0 then⟨B1.r,B1.e,B1.f,B1.t,B1.o,B.es⟩else Bt.zero),er):=by
 unfold aW at h⊢;rw[xW ok]at h;by_cases g1:dj B hv=0
 ·rw[if_neg (nn g1)]at h⊢;have GS:0≤hv∧hv≤(B.es.length:Int):=by
   unfold dj at g1;rw[if_neg (nn ok)]at g1;split at g1
   ·omega
   ·split at g1
    ·omega
    ·rename_i g;exact Decidable.not_not.1 g
  by_cases g2:B.r=3
  ·rw[if_pos (show B.short.r=3 from g2)]at h;rw[if_pos g2];cases h;rfl
  ·rw[if_neg (show ¬B.short.r=3 from g2)]at h;rw[if_neg g2];have hl:B.short.es.length=min 1 B.es.length:=by simp[Bt.short]
   have e:(kA hv B.es.length=(B.short.es.length:Int)∨B.short.o=4)↔(hv=(B.es.length:Int)∨B.o=4):=by
    refine or_congr ?_ Iff.rfl;rw[hl];unfold kA;rw[if_neg (by omega)];split
    ·rename_i g;simp[g]
    ·rename_i g;constructor
     ·intro hz;omega
     ·intro hz;exact absurd hz g
   by_cases g3:hv=(B.es.length:Int)∨B.o=4
   ·rw[if_pos (e.2 g3)]at h;rw[if_pos g3];cases h;rfl
   ·rw[if_neg (fun k=>g3 (e.1 k))]at h;rw[if_neg g3];cases h;rfl
 ·rw[if_pos g1]at h⊢;cases h;rw[if_neg g1]
theorem E0{B B1:Bt}(ok:B.Ok){ep fr er:Int}(h:aQ B.dp ep fr=(B1,er)):(er=0∧B1.e=B.e→aQ B ep fr=(B,0))∧(¬(er=0∧B1.e=B.e)→aQ B ep fr=(B1,er)∧B1.es=[]):=by
 unfold aQ at h⊢;rw[if_neg (nn ok.dp)]at h;rw[if_neg (nn ok)];by_cases g1:(1≤ep∧ep≤1048576)∧(0≤fr∧fr≤4)
 ·rw[if_neg (nn g1)]at h⊢;by_cases g2:B.r=1∨B.r=2∨B.r=3
  ·rw[if_pos (show B.dp.r=1∨B.dp.r=2∨B.dp.r=3 from g2)]at h;rw[if_pos g2];cases h;exact⟨fun hh=>absurd hh.1 (by decide),fun _=>⟨rfl,rfl⟩⟩
  ·rw[if_neg (show ¬(B.dp.r=1∨B.dp.r=2∨B.dp.r=3) from g2)]at h;rw[if_neg g2];by_cases g3:B.r=4∧B.e=ep∧B.f=fr
   ·rw[if_pos (show B.dp.r=4∧B.dp.e=ep∧B.dp.f=fr from g3)]at h;rw[if_pos g3];cases h;exact⟨fun _=>rfl,fun hh=>absurd ⟨rfl,rfl⟩ hh⟩
   ·rw[if_neg (show ¬(B.dp.r=4∧B.dp.e=ep∧B.dp.f=fr) from g3)]at h;rw[if_neg g3];by_cases g4:ep≤B.e
    ·rw[if_pos (show ep≤B.dp.e from g4)]at h;rw[if_pos g4];cases h;exact⟨fun hh=>absurd hh.1 (by decide),fun _=>⟨rfl,rfl⟩⟩
    ·rw[if_neg (show ¬ep≤B.dp.e from g4)]at h;rw[if_neg g4];cases h;exact⟨fun hh=>absurd hh.2 (by show ¬ep=B.e;omega),fun _=>⟨rfl,rfl⟩⟩
 ·rw[if_pos g1]at h⊢;cases h;exact⟨fun hh=>absurd hh.1 (by decide),fun _=>⟨rfl,rfl⟩⟩
theorem PN{k:IntKind}{w:tA}{a:tB}{len:Nat}{l:tF}(h:RowK k w a len l)(n:Nat)(hn:n≤len):RowK k w a n (l.take n):=by
 have hl:=h.b_;refine⟨by simp;omega,fun u hu=>h.wf u (List.mem_of_mem_take hu),fun i hi=> ?_⟩;obtain⟨b,off,ha,aL,hc⟩:=h.cell i (by omega);refine⟨b,off,ha,aL, ?_⟩;rw[hc];simp[List.getD_eq_getElem?_getD,hi]
theorem uI{w:tA}{B:Bt}{a:tB}{c:Nat}(h:iL w B a c):iL w B.short a c:=by
 have e:ai (B.es.take 1)=(ai B.es).take (6*(B.es.take 1).length):=by
  cases B.es with
  |nil=>rfl
  |cons v l=>simp[ai,aY]
 refine⟨?_,by simp[Bt.short];have:=h.cap;omega,h.nil⟩;show RowK .i64 w a (6*(B.es.take 1).length) (ai (B.es.take 1));rw[e];exact PN h.row _ (by rw[List.length_take];omega)
section
open Rv
abbrev pr(B:Bt)(a:tB)(c:Nat)(q:tC):List Sg:=[.o (iV B.r),.o (iV B.e),.o (iV B.f),.o (iV B.t),.o (iV B.o),.o (.slice a B.es.length c),.f 41 q]
abbrev L5:=Bt×Option Addr×Nat×(Nat→Value)
abbrev Ie(y:L5):SV:= .g (pr y.1 y.2.1 y.2.2.1 y.2.2.2)
abbrev PO(y:L5)(w:tA):Prop:=jG w y.1 y.2.1 y.2.2.1 y.2.2.2
theorem L6(U:tD)(B:Bt)(a:tB)(c:Nat)(q:tC)(ep:Int)(w:tA)(ok:B.Ok):cA 77 #[xV B a c q,iV ep] w fun x w'=>∃y B' er,x= .returned (.tuple #[y,iV er])∧fJ B ep=(B',er)∧rN U w' B' y∧bZ w w':=by
 refine en (H:=[]) _ [vg (pr B a c q),vi ep] Tryz.func77 rfl rfl (m0 w) (r [] rfl fun _=>Rv.cb rfl (vg (bS B.r B.e B.f B.t B.o none 0 0)) (fun w _=>kc B.r B.e B.f B.t B.o a B.es.length c q w) (r [] rfl fun _=> ?_));refine cx rfl (fun y:(Bt×Int)×Option Addr×Nat=>vt [bY y.1.1 y.1.1.es.length y.2,.o (iV y.1.2)]) (fun y=>fJ B.dp ep=y.1) (fun y w=>iL w y.1.1 y.2.1 y.2.2) (fun w hS=>(LY B.dp none 0 ep w (pK _ _)).mono fun _ w4 ⟨_,B1,er,h0,h1,ho,b⟩=> ?_) ?_
 ·obtain⟨a1,c1,rfl,l9,uu⟩:=ho.ex;exact⟨((B1,er),a1,c1),h0,b,h1,fun hU w2 c2=>⟨bT l9.row uu hU w2 c2,l9.cap,l9.nil⟩⟩
 rintro⟨⟨B1,er⟩,a1,c1⟩ h1;exact r [] rfl fun _=>fin fun w hS=>⟨_,B1,er,rfl,(LZ ok _)▸h1,⟨a1,c1,zQ,rfl,fun _ _=>jG.nil (TU h1) hS.now.1.2⟩,hS.now.2⟩
theorem E1(U:tD)(B:Bt)(a:tB)(c:Nat)(q:tC)(ep:Int)(w:tA)(ok:B.Ok):cA 124 #[xV B a c q,iV ep] w fun x w'=>∃y B' er,x= .returned (.tuple #[y,iV er])∧bC B ep=(B',er)∧rN U w' B' y∧bZ w w':=by
 refine en (H:=[]) _ [vg (pr B a c q),vi ep] Tryz.func124 rfl rfl (m0 w) (r [] rfl fun _=>Rv.cb rfl (vg (bS B.r B.e B.f B.t B.o none 0 0)) (fun w _=>kc B.r B.e B.f B.t B.o a B.es.length c q w) (r [] rfl fun _=> ?_));refine cx rfl (fun y:(Bt×Int)×Option Addr×Nat=>vt [bY y.1.1 y.1.1.es.length y.2,.o (iV y.1.2)]) (fun y=>bC B.dp ep=y.1) (fun y w=>iL w y.1.1 y.2.1 y.2.2) (fun w hS=>(EW B.dp none 0 ep w (pK _ _)).mono fun _ w4 ⟨_,B1,er,h0,h1,ho,b⟩=> ?_) ?_
 ·obtain⟨a1,c1,rfl,l9,uu⟩:=ho.ex;exact⟨((B1,er),a1,c1),h0,b,h1,fun hU w2 c2=>⟨bT l9.row uu hU w2 c2,l9.cap,l9.nil⟩⟩
 rintro⟨⟨B1,er⟩,a1,c1⟩ h1;exact r [] rfl fun _=>fin fun w hS=>⟨_,B1,er,rfl,(EZ ok _)▸h1,⟨a1,c1,zQ,rfl,fun _ _=>jG.nil (L0 h1) hS.now.1.2⟩,hS.now.2⟩
theorem A9(r e f t o:Int)(a:tB)(n c:Nat)(w:tA)(hc:n≤c):cA 182 #[bN r e f t o a n c] w (rB (bN r e f t o a (min 1 n) c) w):=by
 exact en (H:=[]) _ [vg (bS r e f t o a n c)] Tryz.func182 rfl rfl (m0 w) (rz [2] [((min 1 n:Nat):Int)] rfl fun _=>fin fun w hS=>⟨rfl,hS.now.2⟩)
theorem vG(r e f t o:Int)(a:tB)(n c:Nat)(q:tC)(hv:Int)(w:tA)(hc:n≤c):cA 167 #[jg r e f t o a n c q,iV hv] w (rB (.tuple #[bN r e f t o a (min 1 n) c,iV (kA hv n)]) w):=by
 refine en (H:=[]) _ [vg [.o (iV r),.o (iV e),.o (iV f),.o (iV t),.o (iV o),.o (.slice a n c),.f 41 q],vi hv] Tryz.func167 rfl rfl (m0 w) (Rv.r [] rfl fun _=>Rv.cb rfl (vg (bS r e f t o a (min 1 n) c)) (fun w _=>A9 r e f t o a n c w hc) ?_);unfold kA;by_cases h0:hv<0
 ·exact Rv.r [1] rfl fun _=>fin fun w hS=>⟨by rw[if_pos (.inl h0)];rfl,hS.now.2⟩
 by_cases h1:(n:Int)<hv
 ·exact Rv.r [0,1] rfl fun _=>fin fun w hS=>⟨by rw[if_pos (.inr h1)];rfl,hS.now.2⟩
 rw[if_neg (by omega)];by_cases h2:hv=n
 ·refine Rv.r [0,0,1,5,1,4] rfl fun _=> ?_
  repeat' first|refine Cq ?_ ?_|refine rs [] rfl rfl fun _=> ?_
  all_goals exact fin fun w hS=>⟨by rw[if_pos h2];rfl,hS.now.2⟩
 ·exact Rv.r [0,0,0] rfl fun _=>fin fun w hS=>⟨by rw[if_neg h2];rfl,hS.now.2⟩
theorem Wo{r' e' f' t' o':Int}{a:tB}{n c:Nat}{q:tC}{er:Int}{y:tJ}(hq:aT q 41)(h1:er=0→y=jg r' e' f' t' o' a n c q)(h2:¬er=0→y=jg 0 0 0 0 0 none 0 0 zQ):∃yg,aT yg 47∧y=vF yg 47:=by
 by_cases h0:er=0
 ·exact⟨_,dY hq,h1 h0⟩
 ·exact⟨_,dY xO,h2 h0⟩
theorem E2(B:Bt)(a:tB)(c:Nat)(hv:Int)(w:tA)(hb:iL w B a c):cA 166 #[bN B.r B.e B.f B.t B.o a (min 1 B.es.length) c,iV hv] w fun x w'=>∃y B' er,x= .returned (.tuple #[y,iV er])∧aW B.short hv=(B',er)∧g_ w w' B' y∧bZ w w':=by
 have e:min 1 B.es.length=B.short.es.length:=by simp[Bt.short]
 rw[e];exact EX B.short a c hv w (uI hb)
theorem TV(U:tD)(B:Bt)(a:tB)(c:Nat)(q:tC)(nd:Int)(w:tA)(hU:∀b,U b→b<w.heap.size)(hm:bR U w fun w=>jG w B a c q)(ok:B.Ok):cA 92 #[xV B a c q,iV nd] w fun x w'=>∃y B' er,x= .returned (.tuple #[y,iV er])∧dQ B nd=(B',er)∧rN U w' B' y∧bZ w w':=by
 have oq:=hm.now.one;refine en (H:=[]) _ [vg (pr B a c q),vi nd] Tryz.func92 rfl rfl (nZ hU hm) (r [] rfl fun _=>Rv.cb rfl (vg (bS B.r B.e B.f B.t B.o none 0 0)) (fun w _=>kc B.r B.e B.f B.t B.o a B.es.length c q w) (r [] rfl fun _=> ?_));refine cq rfl (fun y:(Bt×Int)×Option Addr×Nat=>vt [bY y.1.1 y.1.1.es.length y.2,.o (iV y.1.2)]) (fun y=>dQ B.dp nd=y.1) (fun w hS=>(TS B.dp none 0 nd w (pK _ _)).mono fun _ w4 ⟨_,B1,er,h0,h1,ho,b⟩=> ?_) ?_
 ·obtain⟨a1,c1,rfl,l9,uu⟩:=ho.ex;exact⟨((B1,er),a1,c1),h0,b,h1⟩
 rintro⟨⟨B1,er⟩,a1,c1⟩ h1;refine r [] rfl fun _=>cq rfl (fun y:Nat→Value=>vt [.g [.f 47 y],.o (iV er)]) (fun y=>aT y 47∧(er=0→vF y 47=jg B1.r B1.e B1.f B1.t B1.o a B.es.length c q)∧(¬er=0→vF y 47=jg 0 0 0 0 0 none 0 0 zQ)) (fun w hS=>(Ka B.r B.e B.f B.t B.o a B.es.length c q B1.r B1.e B1.f B1.t B1.o a1 B1.es.length c1 er w oq).mono fun _ _ ⟨y,h0,y1,y2,b⟩=> ?_) ?_
 ·obtain⟨yg,oy,rfl⟩:∃yg,aT yg 47∧y=vF yg 47:=Wo oq y1 y2;exact⟨yg,h0,b,oy,y1,y2⟩
 rintro yg ⟨oy,y1,y2⟩;exact r [] rfl fun _=>fin fun w hS=>⟨_,_,er,rfl,L4 ok h1,PM hS.Cr y1 y2,hS.now.2⟩
theorem E3(U:tD)(B:Bt)(a:tB)(c:Nat)(q:tC)(hv:Int)(w:tA)(hU:∀b,U b→b<w.heap.size)(hm:bR U w fun w=>jG w B a c q)(ok:B.Ok):cA 117 #[xV B a c q,iV hv] w fun x w'=>∃y B' er,x= .returned (.tuple #[y,iV er])∧aW B hv=(B',er)∧rN U w' B' y∧bZ w w':=by
 have oq:=hm.now.one;have hc:=hm.now.b.cap;refine en (H:=[]) _ [vg (pr B a c q),vi hv] Tryz.func117 rfl rfl (nZ hU hm) (r [] rfl fun _=>Rv.cb rfl (vt [.g (bS B.r B.e B.f B.t B.o a (min 1 B.es.length) c),.o (iV (kA hv B.es.length))]) (fun w _=>vG B.r B.e B.f B.t B.o a B.es.length c q hv w hc) (r [] rfl fun _=> ?_));refine cq rfl (fun y:(Bt×Int)×Option Addr×Nat=>vt [bY y.1.1 y.1.1.es.length y.2,.o (iV y.1.2)]) (fun y=>aW B.short (kA hv B.es.length)=y.1) (fun w hS=>(E2 B a c (kA hv B.es.length) w hS.now.1.b).mono fun _ w4 ⟨_,B1,er,h0,h1,ho,b⟩=> ?_) ?_
 ·obtain⟨a1,c1,rfl,l9,uu⟩:=ho.ex;exact⟨((B1,er),a1,c1),h0,b,h1⟩
 rintro⟨⟨B1,er⟩,a1,c1⟩ h1;refine r [] rfl fun _=>cq rfl (fun y:Nat→Value=>vt [.g [.f 47 y],.o (iV er)]) (fun y=>aT y 47∧(er=0→vF y 47=jg B1.r B1.e B1.f B1.t B1.o a B.es.length c q)∧(¬er=0→vF y 47=jg 0 0 0 0 0 none 0 0 zQ)) (fun w hS=>(Ka B.r B.e B.f B.t B.o a B.es.length c q B1.r B1.e B1.f B1.t B1.o a1 B1.es.length c1 er w oq).mono fun _ _ ⟨y,h0,y1,y2,b⟩=> ?_) ?_
 ·obtain⟨yg,oy,rfl⟩:∃yg,aT yg 47∧y=vF yg 47:=Wo oq y1 y2;exact⟨yg,h0,b,oy,y1,y2⟩
 rintro yg ⟨oy,y1,y2⟩;exact r [] rfl fun _=>fin fun w hS=>⟨_,_,er,rfl,CZ ok h1,PM hS.Cr y1 y2,hS.now.2⟩
theorem Ig(U:tD)(B:Bt)(a:tB)(c:Nat)(q:tC)(ep fr:Int)(w:tA)(hU:∀b,U b→b<w.heap.size)(hm:bR U w fun w=>jG w B a c q)(ok:B.Ok):cA 114 #[xV B a c q,iV ep,iV fr] w fun x w'=>∃y B' er,x= .returned (.tuple #[y,iV er])∧aQ B ep fr=(B',er)∧rN U w' B' y∧bZ w w':=by
 have oq:=hm.now.one;refine en (H:=[]) _ [vg (pr B a c q),vi ep,vi fr] Tryz.func114 rfl rfl (nZ hU hm) (r [] rfl fun _=>Rv.cb rfl (vg (bS B.r B.e B.f B.t B.o none 0 0)) (fun w _=>kc B.r B.e B.f B.t B.o a B.es.length c q w) (r [] rfl fun _=> ?_));refine cx rfl (fun y:(Bt×Int)×Option Addr×Nat=>vt [bY y.1.1 y.1.1.es.length y.2,.o (iV y.1.2)]) (fun y=>aQ B.dp ep fr=y.1) (fun y w=>iL w y.1.1 y.2.1 y.2.2) (fun w hS=>(rM B.dp none 0 ep fr w (pK _ _)).mono fun _ w4 ⟨_,B1,er,h0,h1,ho,b⟩=> ?_) ?_
 ·obtain⟨a1,c1,rfl,l9,uu⟩:=ho.ex;exact⟨((B1,er),a1,c1),h0,b,h1,fun hU w2 c2=>⟨bT l9.row uu hU w2 c2,l9.cap,l9.nil⟩⟩
 rintro⟨⟨B1,er⟩,a1,c1⟩ h1;have h1:aQ B.dp ep fr=(B1,er):=h1;obtain⟨e1,e2⟩:=E0 ok h1;by_cases h0:er=0∧B1.e=B.e
 ·exact r [1,1] rfl fun _=>fin fun w hS=>⟨_,B,0,rfl,e1 h0,⟨a,c,q,rfl,fun w2 c2=>(hS.Cr w2 c2).1⟩,hS.now.2⟩
 have cs:(er=0∧¬B1.e=B.e)∨¬er=0:=by omega
 rcases cs with⟨h2,h3⟩|h2
 case' inl=>refine r [1,0] rfl fun _=> ?_
 case' inr=>refine r [0] rfl fun _=> ?_
 all_goals exact fin fun w hS=>⟨_,B1,er,rfl,(e2 h0).1,⟨a1,c1,zQ,rfl,fun _ _=>jG.nil (e2 h0).2 hS.now.1.2⟩,hS.now.2⟩
end
theorem jG.split{U:tD}{w:tA}{B:Bt}{a:tB}{c:Nat}{q:tC}(h:bR U w fun w=>jG w B a c q):∃s bu,bm B.es s bu∧bR U w fun w=>iL w B a c∧uG w s q:=by
 obtain⟨s,bu,ht,hq⟩:=h.now.q;refine⟨s,bu,ht,fun w' c'=>⟨(h w' c').b, ?_⟩⟩;obtain⟨s',ans',Wp,xX⟩:=(h w' c').q;obtain⟨rfl,_⟩:=ht.one Wp;exact xX
def qU(U:tD)(w:tA)(B:Bt)(l:List Ev)(y:tJ)(k:Bool):Prop:=
 (k=true∧B.es.length+l.length≤2000∧(∃s bu,bm (B.es++l) s bu)∧rN U w (B.more l) y)∨(k=false∧¬(B.es.length+l.length≤2000∧∃s bu,bm (B.es++l) s bu)∧y=jg 0 0 0 0 0 none 0 0 zQ)
theorem Kb{es l:List Ev}{k:Nat}{v:Ev}{s s1:St}{bu:List An}{an:An}{ch:Bool}{er:Int}(ht:bm (es++l.take k) s bu)(hv:l[k]? =some v)(hd:EM s v s1 an ch er)(h0:¬(er=0∧ch=true)):¬∃s bu,bm (es++l) s bu:=by
 rintro⟨s2,LS,h2⟩;have hk:k<l.length:=(List.getElem?_eq_some_iff.1 hv).1;have e:(es++l).take (es.length+(k+1))=(es++l.take k)++[v]:=by
  rw[List.take_length_add_append,List.append_assoc,List.take_add_one,hv];rfl
 obtain⟨s3,h3⟩:=h2.take (es.length+(k+1)) (by simp;omega);rw[e]at h3;obtain⟨s4,ans4,an4,h4,ed,st,_⟩:=h3.last;obtain⟨rfl,_⟩:=ht.one h4;cases hd with
 |step _ st'=>
  cases ch with
  |true=>exact h0 ⟨rfl,rfl⟩
  |false=>
   have:=(st.Wl ht.wf st').2.2;cases this
 |form _ hf hn=>exact hn (by rw[←hf];exact ed)
theorem rO{l:List Ev}{k:Nat}{v:Ev}(hk:l[k]? =some v):∀j,j<6→iV ((ai l).getD (6*k+j) 0)=lF [iV v.k,iV v.p,iV v.i,iV v.b,iV v.he,iV v.hn] j:=by
 induction l generalizing k with
 |nil=>simp at hk
 |cons u l ih=>
  intro j hj;cases k with
  |zero=>
   simp at hk;subst hk
   match j,hj with
   |0,_=>rfl
   |1,_=>rfl
   |2,_=>rfl
   |3,_=>rfl
   |4,_=>rfl
   |5,_=>rfl
  |succ k=>
   have e:(ai (u::l)).getD (6*(k+1)+j) 0=(ai l).getD (6*k+j) 0:=by
    show([u.k,u.p,u.i,u.b,u.he,u.hn]++ai l).getD _ 0=_;rw[List.getD_eq_getElem?_getD,List.getD_eq_getElem?_getD,List.getElem?_append_right (by simp;omega)];congr 2;simp;omega
   rw[e];exact ih (by simpa using hk) j hj
theorem oD{w:tA}{a:tB}{len:Nat}{L:tF}(h:RowK .i64 w a len L)(hl:0<len):∃b off,a=some ⟨b,off,none⟩:=by
 obtain⟨b,off,ha,_⟩:=h.cell 0 hl;exact⟨b,off,ha⟩
section
open Rv
theorem L7{es l:List Ev}{k:Nat}{v:Ev}{s s1:St}{bu:List An}{an:An}(ht:bm (es++l.take k) s bu)(hv:l[k]? =some v)(hd:EM s v s1 an true 0):bm (es++l.take (k+1)) s1 (bu++[an]):=by
 cases hd with
 |step ed st=>
  have e:es++l.take (k+1)=(es++l.take k)++[v]:=by
   rw[List.append_assoc,List.take_add_one,hv];rfl
  rw[e];exact ht.snoc ed st
theorem PR{U:tD}{w:tA}{B:Bt}{a a2:tB}{c c2:Nat}{b:tB}{lb:Nat}{l:List Ev}{s:St}{bu:List An}{q:tC}(SM:lb=l.length)(ht:bm (B.es++l) s bu)(h:bR U w fun w=>((iL w B a c∧RowK .i64 w b (6*lb) (ai l))∧uG w s q)∧RowK .i64 w a2 (6*(B.es.length+lb)) (ai B.es++ai l))(jo:B.es.length+lb≤c2)(qL:a2=none→c2=0):bR U w fun w=>jG w (B.more l) a2 c2 q:=fun w' c'=>by
 have hh:=h w' c';have e:(B.more l).es.length=B.es.length+lb:=by simp[Bt.more,SM]
 refine⟨⟨?_,by rw[e];exact jo,qL⟩,s,bu,ht,hh.1.2⟩;rw[e];have e2:ai (B.more l).es=ai B.es++ai l:=by simp[Bt.more,ai]
 rw[e2];exact hh.2
theorem A_(U:tD)(B:Bt)(a:tB)(c:Nat)(q:tC)(l:List Ev)(b:tB)(lb cb:Nat)(w:tA)(hU:∀b,U b→b<w.heap.size)(hm:bR U w fun w=>jG w B a c q)(hr:bR U w fun w=>RowK .i64 w b (6*lb) (ai l))(SM:lb=l.length)(ur:b=none→cb=0)(hlen:B.es.length≤2000)(GR:lb≤2000):cA 171 #[xV B a c q,.slice b lb cb] w fun x w'=>∃y k,x= .returned (.tuple #[y,.bool k])∧qU U w' B l y k∧bZ w w':=by
 obtain⟨s,bu,ht,si⟩:=jG.split hm;have oq:=hm.now.one;have hS0:Mem w (hs []) U (fun w=>(iL w B a c∧RowK .i64 w b (6*lb) (ai l))∧uG w s q) (fun w'=>bZ w w'):=nZ hU fun w2 c2=>⟨⟨(si w2 c2).1,hr w2 c2⟩,(si w2 c2).2⟩;have tZ:0<lb→∃bb bo,b=some ⟨bb,bo,none⟩:=fun h=>oD hr.now (by omega);refine en (H:=[]) _ [vg (pr B a c q),vv (.slice b lb cb)] Tryz.func171 rfl rfl hS0 ?_;by_cases hbig:2000<B.es.length+lb
 ·exact rz [1,1] [((B.es.length+lb:Nat):Int)] rfl fun _=>fin fun w hS=>⟨_,false,rfl,.inr ⟨rfl,fun h=>by omega,rfl⟩,hS.now.2⟩
 refine rz [1,0] [((B.es.length+lb:Nat):Int)] rfl fun α=>ic (X:=Nat×(Nat→Value)×Go.Proofs.YtmhifeahpnkpiaaGreatDoor.St×List An) ⟨fun x=>[(1,vv (.slice b lb cb)),(2,vp 0 0 (α 0)),(4,vp 1 0 (α 1)),(21,vv (.slice b lb cb)),(22,vi (lb:Int)),(23,vi (x.1:Int))],fun x=>[⟨α 0,117,pr B a c x.2.1⟩,⟨α 1,117,pr Bt.zero none 0 zQ⟩],fun _=>U,fun x w=>(iL w B a c∧RowK .i64 w b (6*lb) (ai l))∧uG w x.2.2.1 x.2.1,fun _ w'=>bZ w w',fun x=>x.1≤lb∧bm (B.es++l.take x.1) x.2.2.1 x.2.2.2∧aT x.2.1 41,fun x=>lb-x.1⟩ (0,q,s,bu) ⟨rfl,rfl,rfl,rfl,rfl,rfl,trivial⟩ (fun w hS=>hS) ⟨Nat.zero_le _,by simpa using ht,oq⟩ ?_;clear ht oq si hS0 s bu;rintro f ⟨k,q,s,bu⟩ ⟨hk,ht,oq⟩;have hk:k≤lb:=hk;have ht:bm (B.es++l.take k) s bu:=ht;have oq:aT q 41:=oq;by_cases aL:k<lb
 case neg=>
  rw[show l.take k=l from List.take_of_length_le (by omega)]at ht;refine r [0] rfl fun _=>cx rfl (fun y:Option Addr×Nat=>vv (.slice y.1 (B.es.length+lb) y.2)) (fun y=>B.es.length+lb≤y.2∧(y.1=none→y.2=0)) (fun y w=>RowK .i64 w y.1 (6*(B.es.length+lb)) (ai B.es++ai l)) (fun w hS=>(vB a b B.es.length c lb cb (ai B.es) (ai l) w hS.now.1.1.1.row hS.now.1.1.2 hS.now.1.1.1.nil ur (by omega)).mono ?_) fun y hy=> ?_
  ·rintro _ w3 ⟨_,rfl,ho,b1⟩;obtain⟨a2,c2,rfl,hr2,jo,qL,hf2⟩:=ho.ex;exact⟨(a2,c2),rfl,b1,⟨jo,qL⟩,fun hl=>bT hr2 hf2 hl⟩
  ·exact r [] rfl fun _=>fin fun w hS=>⟨_,true,rfl,.inl ⟨rfl,by omega,⟨s,bu,ht⟩,⟨y.1,y.2,q,by rw[xV,show(B.more l).es.length=B.es.length+lb by simp[Bt.more,SM]];rfl,PR SM ht hS.Cr hy.1 hy.2⟩⟩,hS.now.2⟩
 obtain⟨bb,bo,LC⟩:=tZ (by omega);obtain⟨v,hv⟩:∃v,l[k]? =some v:=⟨l[k],List.getElem?_eq_getElem (by omega)⟩;refine sv 21 (vv (.slice (some ⟨bb,bo,none⟩) lb cb)) (congrArg (fun b=>Value.slice b lb cb) LC) (r [1] rfl fun _=>lf (q:=bo+k*6) rfl 6 (lF [iV v.k,iV v.p,iV v.i,iV v.b,iV v.he,iV v.hn]) (fun w hS j hj=> ?_) (r [] rfl fun β=> ?_))
 ·have de:=hS.now.1.1.2;rw[LC]at de;obtain⟨b0,o0,e0,_,Od⟩:=de.cell (6*k+j) (by omega);cases e0;rw[Nat.add_assoc,Nat.mul_comm k 6,Od];exact congrArg some (rO hv j hj)
 refine cx rfl (fun y:Go.Proofs.YtmhifeahpnkpiaaGreatDoor.St×An×Bool×Int×(Nat→Value)=>vt [.g [.f 41 y.2.2.2.2],.g (Og y.2.1),.o (.bool y.2.2.1),.o (iV y.2.2.2.1)]) (fun y=>EM s v y.1 y.2.1 y.2.2.1 y.2.2.2.1∧aT y.2.2.2.2 41) (fun y w=>uG w y.1 y.2.2.2.2) (fun w hS=>(Px hS.now.1.2 ht.wf.ok v).mono fun _ _ ⟨s1,an,ch,er,q1,h1,hd,hq1,b⟩=>⟨(s1,an,ch,er,q1),h1,b,⟨hd,(hq1 (fun _=>False) (fun _ h=>h.elim)).now.one⟩,fun hl=>hq1 _ hl⟩) ?_;rintro⟨s1,an,ch,er,q1⟩ ⟨hd,TW⟩;have hd:EM s v s1 an ch er:=hd;have TW:aT q1 41:=TW;rcases hd.err with rfl|⟨ER,rfl⟩
 case inr=>exact r [1] rfl fun _=>fin fun w hS=>⟨_,false,rfl,.inr ⟨rfl,fun h=>Kb ht hv hd (fun g=>ER g.1) h.2,rfl⟩,hS.now.2⟩
 cases ch
 ·exact r [0] rfl fun _=>fin fun w hS=>⟨_,false,rfl,.inr ⟨rfl,fun h=>Kb ht hv hd (fun g=>by cases g.2) h.2,rfl⟩,hS.now.2⟩
 ·exact rz [0,1] [((k+1:Nat):Int)] rfl fun _=>bU (k+1,q1,s1,bu++[an]) ⟨rfl,rfl,rfl,(congrArg (fun b=>Value.slice b lb cb) LC).symm,rfl,rfl,trivial⟩ (fun w hS=>(hS.take 2).said fun _ h=>⟨h.1.1,h.2⟩) ⟨(show k+1≤lb by omega),L7 ht hv hd,TW⟩ (show lb-(k+1)<lb-k by omega)
theorem L8{w:tA}{R T:Nat}(v:Ev)(hv:∀u∈aY v,(Lit.int .i64 u).wf=true)(h:aZ w R T 6 (lF [iV v.k,iV v.p,iV v.i,iV v.b,iV v.he,iV v.hn])):RowK .i64 w (some ⟨R,0,none⟩) (6*1) (ai [v]):=by
 refine⟨rfl,by simpa[ai]using hv,fun i hi=>⟨R,0,rfl,h.lt, ?_⟩⟩;rw[Nat.zero_add,h.at i (by omega)]
 match i,hi with
 |0,_=>rfl
 |1,_=>rfl
 |2,_=>rfl
 |3,_=>rfl
 |4,_=>rfl
 |5,_=>rfl
theorem Kc{U:tD}{w:tA}{B:Bt}{l:List Ev}{y:tJ}{k:Bool}(h:qU U w B l y k):∃yg,aT yg 47∧y=vF yg 47:=by
 rcases h with⟨_,_,_,a,c,q,rfl,hm⟩|⟨_,_,rfl⟩
 ·exact⟨_,dY hm.now.one,rfl⟩
 ·exact⟨_,dY xO,rfl⟩
theorem qU.Ch{U V:tD}{w w':tA}{B:Bt}{l:List Ev}{y:tJ}{k:Bool}(h:qU U w B l y k)(c:dk U w w')(hV:∀b,V b→U b):qU V w' B l y k:=by
 rcases h with⟨h1,h2,h3,a,c',q,e,hm⟩|h
 ·exact .inl ⟨h1,h2,h3,a,c',q,e,hm.Ch c fun b _ hb=>hV b hb⟩
 ·exact .inr h
theorem Ev.XV:∀u∈aY Ev.brk,(Lit.int .i64 u).wf=true:=by decide
theorem vH(U:tD)(B:Bt)(a:tB)(c:Nat)(q:tC)(w:tA)(hU:∀b,U b→b<w.heap.size)(hm:bR U w fun w=>jG w B a c q)(hlen:B.es.length≤2000):cA 172 #[xV B a c q] w fun x w'=>∃y k,x= .returned (.tuple #[y,.bool k])∧qU U w' ⟨1,B.e,0,0,0,B.es⟩ [Ev.brk] y k∧bZ w w':=by
 have oq:=hm.now.one;refine en (H:=[]) _ [vg (pr B a c q)] Tryz.func172 rfl rfl (nZ hU hm) (r [] rfl fun _=> ?_);refine kp 2 rfl (cx rfl (fun y:(Nat→Value)×Bool=>vt [.g [.f 47 y.1],.o (.bool y.2)]) (fun y=>aT y.1 47) (fun y w=>qU U w ⟨1,B.e,0,0,0,B.es⟩ [Ev.brk] (vF y.1 47) y.2) (fun w hS=>(A_ _ ⟨1,B.e,0,0,0,B.es⟩ a c q [Ev.brk] _ 1 1 w hS.ult (fun w2 c2=>(hS.g w2 c2).1.role rfl) (fun w2 c2=>JV Ev.brk Ev.XV (hS.g w2 c2).2 (fun i hi=>by match i,hi with|0,_=>rfl|1,_=>rfl|2,_=>rfl|3,_=>rfl|4,_=>rfl|5,_=>rfl)) rfl (fun h=>by cases h) hlen (by decide)).mono fun _ _ ⟨y,k,h0,iF,b⟩=> ?_) fun y oy=> ?_)
 ·obtain⟨yg,oy,rfl⟩:=Kc iF;exact⟨(yg,k),h0,b,oy,fun _ w2 c2=>iF.Ch c2 fun _ h=> .inr h⟩
 have oy:aT y.1 47:=oy;exact r [] rfl fun _=>fin fun w hS=>⟨_,y.2,rfl,hS.now.1.2,hS.now.2⟩
theorem xY{B:Bt}(ok:B.Ok)(hr:B.r=1∨B.r=2){U:tD}{w:tA}{y:tJ}{k:Bool}(h:qU U w ⟨1,B.e,0,0,0,B.es⟩ [Ev.brk] y k):(k=true→a7 B=(B.broken,0)∧rN U w B.broken y)∧(k=false→a7 B=(Bt.zero,14)):=by
 have st:1≤B.e∧B.e≤1048576:=by
  have:=ok.cJ;unfold Bt.cC bw at this;omega
 unfold a7;rw[if_neg (nn ok),if_neg (nn hr)];rcases h with⟨rfl,h2,⟨s,bu,h3⟩,h4⟩|⟨rfl,h2,_⟩
 ·have ob:B.broken.Ok:=⟨.inr (.inl ⟨rfl,st.1,st.2,rfl,rfl,rfl⟩),by simpa[Bt.broken]using h2,s,bu,h3⟩;exact⟨fun _=>⟨by rw[if_neg (nn ob)],h4⟩,fun h=>by cases h⟩
 ·refine⟨fun h=>(by cases h),fun _=> ?_⟩;rw[if_pos];intro ob;obtain⟨s,bu,ht⟩:=ob.told;exact h2 ⟨by simpa[Bt.broken]using ob.len,s,bu,ht⟩
theorem L9(U:tD)(B:Bt)(a:tB)(c:Nat)(q:tC)(w:tA)(hU:∀b,U b→b<w.heap.size)(hm:bR U w fun w=>jG w B a c q)(ok:B.Ok)(hr:¬(B.r=1∨B.r=2)):cA 140 #[xV B a c q] w fun x w'=>∃y B' er,x= .returned (.tuple #[y,iV er])∧a7 B=(B',er)∧rN U w' B' y∧bZ w w':=by
 have oq:=hm.now.one;exact en (H:=[]) _ [vg (pr B a c q)] Tryz.func140 rfl rfl (nZ hU hm) (r [] rfl fun _=>Rv.cb rfl (vv (.bool false)) (fun w _=>mE false (kb B.r B.e B.f B.t B.o a B.es.length c q w) (decide_eq_false hr)) (r [] rfl fun _=>fin fun w hS=>⟨_,B,0,rfl,by unfold a7;rw[if_neg (nn ok),if_pos hr],⟨a,c,q,rfl,hS.Cr⟩,hS.now.2⟩))
theorem L_(U:tD)(B:Bt)(a:tB)(c:Nat)(q:tC)(w:tA)(hU:∀b,U b→b<w.heap.size)(hm:bR U w fun w=>jG w B a c q)(ok:B.Ok)(hr:B.r=1∨B.r=2):cA 140 #[xV B a c q] w fun x w'=>∃y B' er,x= .returned (.tuple #[y,iV er])∧a7 B=(B',er)∧rN U w' B' y∧bZ w w':=by
 have oq:=hm.now.one;refine en (H:=[]) _ [vg (pr B a c q)] Tryz.func140 rfl rfl (nZ hU hm) (r [] rfl fun _=>Rv.cb rfl (vv (.bool true)) (fun w _=>mE true (kb B.r B.e B.f B.t B.o a B.es.length c q w) (decide_eq_true hr)) (r [] rfl fun _=> ?_));refine cx rfl (fun y:(Nat→Value)×Bool=>vt [.g [.f 47 y.1],.o (.bool y.2)]) (fun y=>aT y.1 47) (fun y w=>qU U w ⟨1,B.e,0,0,0,B.es⟩ [Ev.brk] (vF y.1 47) y.2) (fun w hS=>(vH _ B a c q w hS.ult (fun w2 c2=>hS.g w2 c2) ok.len).mono fun _ _ ⟨y,k,h0,iF,b⟩=> ?_) ?_
 ·obtain⟨yg,oy,rfl⟩:=Kc iF;exact⟨(yg,k),h0,b,oy,fun _ w2 c2=>iF.Ch c2 fun _ h=> .inr h⟩
 rintro⟨yg,k⟩ oy;have oy:aT yg 47:=oy;cases k
 ·exact r [] rfl fun _=>Rv.cb rfl (vt [.g (pr Bt.zero none 0 zQ),.o (iV 14)]) (fun w _=>iZ 14 w) (r [] rfl fun _=>fin fun w hS=>⟨_,Bt.zero,14,rfl,(xY ok hr hS.now.1.2).2 rfl,⟨none,0,zQ,rfl,fun _ _=>jG.dp rfl⟩,hS.now.2⟩)
 ·exact r [] rfl fun _=>fin fun w hS=>⟨_,B.broken,0,rfl,((xY ok hr hS.now.1.2).1 rfl).1,((xY ok hr hS.now.1.2).1 rfl).2,hS.now.2⟩
theorem Ma(U:tD)(B:Bt)(a:tB)(c:Nat)(q:tC)(w:tA)(hU:∀b,U b→b<w.heap.size)(hm:bR U w fun w=>jG w B a c q)(ok:B.Ok):cA 140 #[xV B a c q] w fun x w'=>∃y B' er,x= .returned (.tuple #[y,iV er])∧a7 B=(B',er)∧rN U w' B' y∧bZ w w':=by
 by_cases hr:B.r=1∨B.r=2
 ·exact L_ U B a c q w hU hm ok hr
 ·exact L9 U B a c q w hU hm ok hr
def sR(v:Ev):Int:=if ¬aP v.k v.p v.i v.b v.he v.hn=0 then aP v.k v.p v.i v.b v.he v.hn else if v.k=4 then 3 else 0
theorem Ih(v:Ev)(w:tA):cA 202 #[ov v] w (rB (iV (sR v)) w):=by
 refine en (H:=[]) _ [vg (XO v)] Tryz.func202 rfl rfl (m0 w) (r [] rfl fun _=>Rv.cb rfl (vi (aP v.k v.p v.i v.b v.he v.hn)) (fun w _=>mW v.k v.p v.i v.b v.he v.hn w) ?_);unfold sR;by_cases h0:aP v.k v.p v.i v.b v.he v.hn=0
 case neg=>exact r [1] rfl fun _=>fin fun w hS=>⟨by rw[if_pos h0];rfl,hS.now.2⟩
 rw[if_neg (not_not_intro h0)];by_cases h4:v.k=4
 ·exact r [0,1] rfl fun _=>fin fun w hS=>⟨by rw[if_pos h4];rfl,hS.now.2⟩
 ·exact r [0,0] rfl fun _=>fin fun w hS=>⟨by rw[if_neg h4];rfl,hS.now.2⟩
inductive SN(B:Bt)(s:St)(v:Ev):An→List Ev→Prop
 |shut (hr:B.r=3):SN B s v ⟨12,0,0,0⟩ []
 |none (hr:¬B.r=3) (hs:¬(B.r=1∨B.r=2)):SN B s v ⟨7,0,0,0⟩ []
 |same (hr:B.r=1∨B.r=2) (s':St) (an:An) (st:Step s v s' an false):SN B s v an []
 |full (hr:B.r=1∨B.r=2) (s':St) (an:An) (st:Step s v s' an true) (hl:1999≤B.es.length):SN B s v ⟨14,0,0,0⟩ []
 |done (hr:B.r=1∨B.r=2) (s':St) (an:An) (st:Step s v s' an true) (hl:B.es.length<1999):SN B s v an [v]
theorem E4(B:Bt)(a:tB)(c:Nat)(s:St)(q:tC)(v:Ev)(w:tA)(hq:uG w s q)(h:s.Ok)(hv:v.Ok)(Zf:∀u∈aY v,(Lit.int .i64 u).wf=true):
  cA 203 #[bN B.r B.e B.f B.t B.o a B.es.length c,vF q 41,ov v] w fun x w'=>∃an l a' c',x= .returned (.tuple #[EJ an,.slice a' l.length c'])∧SN B s v an l∧RowK .i64 w' a' (6*l.length) (ai l)∧(a'=none→c'=0)∧(∀x,a'=some x→w.heap.size≤x.block)∧bZ w w':=by
 refine en (H:=[]) _ [vg (bS B.r B.e B.f B.t B.o a B.es.length c),vf 41 q,vg (XO v)] Tryz.func203 rfl rfl (Mem.start (M:=fun _=>False) (G:=fun w=>uG w s q) (R:=fun w'=>bZ w w') (fun _ h=>h.elim) (fun w' c=>hq.next (c.below (Nat.le_refl _) fun _ _ h=>h)) fun _ h=>h) ?_;have nil:∀{w'},RowK .i64 w' none (6*([]:List Ev).length) (ai []):=RowK.nil _ _ _;by_cases h3:B.r=3
 ·exact r [1] rfl fun _=>fin fun w hS=>⟨⟨12,0,0,0⟩,[],none,0,rfl,.shut h3,nil,fun _=>rfl,fun _ h=>(by cases h),hS.now.2⟩
 refine r [0] rfl fun _=> ?_;by_cases hr:B.r=1∨B.r=2
 case neg=>exact Rv.cb rfl (vv (.bool false)) (fun w _=>mE false (lD B.r B.e B.f B.t B.o a B.es.length c w) (decide_eq_false hr)) (r [] rfl fun _=>fin fun w hS=>⟨⟨7,0,0,0⟩,[],none,0,rfl,.none h3 hr,nil,fun _=>rfl,fun _ h=>(by cases h),hS.now.2⟩)
 refine Rv.cb rfl (vv (.bool true)) (fun w _=>mE true (lD B.r B.e B.f B.t B.o a B.es.length c w) (decide_eq_true hr)) (r [] rfl fun _=> ?_);refine cq rfl (fun y:Go.Proofs.YtmhifeahpnkpiaaGreatDoor.St×An×Bool×(Nat→Value)=>vt [.g [.f 41 y.2.2.2],.g (Og y.2.1),.o (.bool y.2.2.1),.o (iV 0)]) (fun y=>Step s v y.1 y.2.1 y.2.2.1∧aT y.2.2.2 41) (fun w hS=>(Px hS.now.1 h v).mono ?_) ?_
 ·rintro _ w2 ⟨s1,an2,ch2,er2,q1,rfl,hd,hq1,b⟩;obtain⟨rfl,st⟩:=Wj hv hd;exact⟨(s1,an2,ch2,q1),rfl,b,st,(hq1 (fun _=>False) (fun _ h=>h.elim)).now.one⟩
 rintro⟨s1,an2,ch2,q1⟩ ⟨st,TW⟩;have st:Step s v s1 an2 ch2:=st;have TW:aT q1 41:=TW;cases ch2
 ·exact r [] rfl fun _=>fin fun w hS=>⟨an2,[],none,0,rfl,.same hr s1 an2 st,nil,fun _=>rfl,fun _ h=>(by cases h),hS.now.2⟩
 by_cases h9:1999≤B.es.length
 ·exact r [1] rfl fun _=>fin fun w hS=>⟨⟨14,0,0,0⟩,[],none,0,rfl,.full hr s1 an2 st h9,nil,fun _=>rfl,fun _ h=>(by cases h),hS.now.2⟩
 refine r [0,5,3,3] rfl fun _=> ?_
 repeat' first|refine Cq ?_ ?_|refine rs [] rfl rfl fun _=> ?_
 all_goals exact fin fun w hS=>⟨an2,[v],_,_,rfl,.done hr s1 an2 st (by omega),JV v Zf (hS.at 6 rfl) (fun i hi=>by match i,hi with|0,_=>rfl|1,_=>rfl|2,_=>rfl|3,_=>rfl|4,_=>rfl|5,_=>rfl),fun h=>(by cases h),fun x hx=>(by cases hx;exact hS.jq 6 rfl),hS.now.2⟩
theorem TX{v:Ev}(h:sR v=0):v.Ok∧¬v.k=4:=by
 unfold sR at h;by_cases h0:aP v.k v.p v.i v.b v.he v.hn=0
 ·rw[if_neg (fun g=>g h0)]at h;by_cases h1:v.k=4
  ·rw[if_pos h1]at h;omega
  ·exact⟨h0,h1⟩
 ·rw[if_pos h0]at h;exact absurd h h0
theorem XW{B:Bt}{v:Ev}(ok:B.Ok)(h:¬sR v=0):cO B v Bt.zero An.zero false (sR v):=by
 unfold sR at h⊢;by_cases h0:aP v.k v.p v.i v.b v.he v.hn=0
 ·rw[if_neg (fun g=>g h0)]at h⊢;by_cases h1:v.k=4
  ·rw[if_pos h1];exact .brk ok h0 h1
  ·rw[if_neg h1]at h;exact absurd rfl h
 ·rw[if_pos h0];exact .fault ok _ rfl h0
theorem SN.serve{B:Bt}{v:Ev}{s:St}{bu:List An}{an:An}{l:List Ev}(h:SN B s v an l)(ok:B.Ok)(hv:v.Ok)(hk:¬v.k=4)(ht:bm B.es s bu):cO B v (B.more l) an (decide (0<l.length)) 0:=by
 cases h with
 |shut hr=>rw[Bt.pJ];exact .shut ok hv hk hr
 |none h3 hr=>
  rw[Bt.pJ];refine .none ok hv hk ?_;have:=ok.cJ;unfold Bt.cC bw at this;omega
 |same hr s' an st=>rw[Bt.pJ];exact .same ok hv hk hr s bu ht s' an st
 |full hr s' an st hl=>rw[Bt.pJ];exact .full ok hv hk hr s bu ht s' an st hl
 |done hr s' an st hl=>exact .done ok hv hk hr s bu ht s' an st hl
theorem Mc(B:Bt)(a:tB)(c:Nat)(v:Ev)(w:tA)(hb:iL w B a c)(Zf:∀u∈aY v,(Lit.int .i64 u).wf=true):
  cA 163 #[bN B.r B.e B.f B.t B.o a B.es.length c,ov v] w fun x w'=>∃y an ch er B',x= .returned (.tuple #[y,EJ an,.bool ch,iV er])∧cO B v B' an ch er∧g_ w w' B' y∧bZ w w':=by
 refine en (H:=[]) _ [vg (bS B.r B.e B.f B.t B.o a B.es.length c),vg (XO v)] Tryz.func163 rfl rfl (EV hb) (r [] rfl fun _=> ?_);refine cx rfl (fun y:Go.Proofs.YtmhifeahpnkpiaaGreatDoor.St×Int×(Nat→Value)=>vt [.g [.f 41 y.2.2],.o (iV y.2.1)]) (fun y=>Rb B y.1 y.2.1∧aT y.2.2 41) (fun y w=>uG w y.1 y.2.2) (fun w hS=>(sQ B a c w hS.now.1).mono ?_) ?_
 ·rintro _ w2 ⟨_,er,s,rfl,hr,ho,b⟩;obtain⟨a1,c1,a2,c2,ws,rfl,g1,g2,g3,g4,g5,g6,g7,g8,g9⟩:=ho.ex;exact⟨(s,er,qF s.ep s.nx s.gv (.slice a1 s.rn c1) (.slice a2 s.ln c2) ws),by rw[qo];rfl,b,⟨hr,(uG.mk (w:=w2) ⟨a1,c1,a2,c2,ws,rfl,g1,g2,g3,g4,g5,g6,g7⟩).one⟩,fun hU w3 c3=>⟨a1,c1,a2,c2,ws,rfl,bT g1 g8 hU w3 c3,bT g2 g9 hU w3 c3,g3,g4,g5,g6,g7⟩⟩
 rintro⟨s,er,q⟩ ⟨hr,oq⟩;have oq:aT q 41:=oq;cases hr with
 |no hn=>exact r [0,1] rfl fun _=>fin fun w hS=>⟨_,An.zero,false,6,_,rfl,.state hn,g_.zero _ _,hS.now.2⟩
 |yes ok bu ht=>
  refine r [1] rfl fun _=>Rv.cb rfl (vi (sR v)) (fun w _=>Ih v w) ?_;by_cases h0:sR v=0
  case neg=>exact r [1] rfl fun _=>fin fun w hS=>⟨_,An.zero,false,_,_,rfl,XW ok h0,g_.zero _ _,hS.now.2⟩
  obtain⟨hv,hk⟩:=TX h0;refine r [0] rfl fun _=>cx rfl (fun y:An×List Ev×Option Addr×Nat=>vt [.g (Og y.1),.o (.slice y.2.2.1 y.2.1.length y.2.2.2)]) (fun y=>SN B s v y.1 y.2.1∧(y.2.2.1=none→y.2.2.2=0)) (fun y w=>RowK .i64 w y.2.2.1 (6*y.2.1.length) (ai y.2.1)) (fun w hS=>(E4 B a c s q v w hS.now.1.2 ht.wf.ok hv Zf).mono fun _ w2 ⟨an,l,a2,c2,h1,h2,h3,h4,h5,b⟩=>⟨(an,l,a2,c2),h1,b,⟨h2,h4⟩,fun hU=>bT h3 h5 hU⟩) ?_;rintro⟨an,l,a2,c2⟩ ⟨hs,n2⟩;have hsr:SN B s v an l:=hs;clear hs;have n2:a2=none→c2=0:=n2;have GU:=hsr.serve ok hv hk ht;have hlen:=ok.len;have hl:l=[]∨l=[v]:=by cases hsr<;>first|exact .inl rfl|exact .inr rfl
  have end_:∀{w':tA} {M:tD} {Φ:tI} {H:List En} (y:Option Addr×Nat),wg w y→Mem w' (hs H) M (fun w=>Φ w∧iL w (B.more l) y.1 y.2) (fun w'=>bZ w w')→g_ w w' (B.more l) (bY (B.more l) (B.more l).es.length y).val:=fun y hy hS=>⟨y.1,y.2,rfl,hS.now.1.2,hy⟩;have wi:∀w1,bZ w w1→iL w1 B a c→RowK .i64 w1 a2 (6*l.length) (ai l)→cA 186 #[bN B.r B.e B.f B.t B.o a B.es.length c,.slice a2 l.length c2] w1 fun x w'=>∃y:Option Addr×Nat,x= .returned (bY (B.more l) (B.more l).es.length y).val∧bZ w1 w'∧wg w y∧∀{U:tD},(∀b,U b→b<w1.heap.size)→bR U w' fun w=>iL w (B.more l) y.1 y.2:=fun w1 h0 hb hr=>(A6 B a c l a2 l.length c2 w1 hb rfl hr n2 (by rcases hl with rfl|rfl<;>simp<;>omega)).mono fun _ _ h=>J_ h0 h
  by_cases hp:0<l.length
  case' pos=>rw[decide_eq_true hp]at GU;refine r [6,2,7,1] rfl fun _=> ?_
  case' neg=>rw[decide_eq_false hp]at GU;refine r [6,2,7,0] rfl fun _=> ?_
  all_goals
   refine cx rfl (fun y=> .s (bY (B.more l) (B.more l).es.length y)) (wg w) (fun y w=>iL w (B.more l) y.1 y.2) (fun w1 hS=>(wi w1 hS.now.2 hS.now.1.1.1 hS.now.1.2).mono fun _ _ ⟨y,k1,k2,k3,k4⟩=>⟨y,k1,k2,k3,k4⟩) fun y hy=>r [] rfl fun _=> ?_;exact fin fun w hS=>⟨_,an,_,0,_,rfl,GU,end_ y hy hS,hS.now.2⟩
theorem Me{B B1:Bt}(ok:B.Ok){v:Ev}{an:An}{ch:Bool}{er:Int}(h:cO B.dp v B1 an ch er)(h0:¬er=0):cO B v Bt.zero An.zero false er:=by
 cases h with
 |state h=>exact absurd ok.dp h
 |fault _ f hf h0=>exact .fault ok _ hf h0
 |brk _ hv hk=>exact .brk ok hv hk
 |_=>exact absurd rfl h0
theorem Mf{B B1:Bt}(ok:B.Ok)(hr:¬(B.r=1∨B.r=2)){v:Ev}{an:An}{ch:Bool}(h:cO B.dp v B1 an ch 0):cO B v B an false 0:=by
 generalize he:(0:Int)=er at h;cases h with
 |state h=>cases he
 |fault _ f hf h0=>exact absurd he.symm h0
 |brk _ hv hk=>cases he
 |shut _ hv hk h3=>exact .shut ok hv hk h3
 |none _ hv hk h3=>exact .none ok hv hk h3
 |same _ _ _ h3=>exact absurd h3 hr
 |full _ _ _ h3=>exact absurd h3 hr
 |done _ _ _ h3=>exact absurd h3 hr
theorem PT{B B1:Bt}{v:Ev}{an:An}{ch:Bool}(h:cO B v B1 an ch 0):v.Ok∧¬v.k=4:=by
 generalize he:(0:Int)=er at h;cases h with
 |state h=>cases he
 |fault _ f hf h0=>exact absurd he.symm h0
 |brk _ hv hk=>cases he
 |shut _ hv hk=>exact⟨hv,hk⟩
 |none _ hv hk=>exact⟨hv,hk⟩
 |same _ hv hk=>exact⟨hv,hk⟩
 |full _ hv hk=>exact⟨hv,hk⟩
 |done _ hv hk=>exact⟨hv,hk⟩
theorem Mh{U:tD}{w:tA}{B:Bt}{a2:tB}{c2:Nat}{v:Ev}{s s1:St}{bu:List An}{an:An}{q1:tC}(ht:bm B.es s bu)(hv:v.Ok)(st:Step s v s1 an true)(h1:bR U w fun w=>uG w s1 q1)(h2:bR U w fun w=>RowK .i64 w a2 (6*(B.es.length+1)) (ai B.es++ai [v]))(jo:B.es.length+1≤c2)(qL:a2=none→c2=0):bR U w fun w=>jG w (B.more [v]) a2 c2 q1:=fun w' c'=>by
 have e:(B.more [v]).es.length=B.es.length+1:=by simp[Bt.more]
 refine⟨⟨?_,by rw[e];exact jo,qL⟩,s1,bu++[an],ht.snoc hv st,h1 w' c'⟩;rw[e];have e2:ai (B.more [v]).es=ai B.es++ai [v]:=by simp[Bt.more,ai]
 rw[e2];exact h2 w' c'
theorem xZ(U:tD)(B:Bt)(a:tB)(c:Nat)(q:tC)(v:Ev)(w:tA)(hU:∀b,U b→b<w.heap.size)(hm:bR U w fun w=>jG w B a c q)(ok:B.Ok)(Zf:∀u∈aY v,(Lit.int .i64 u).wf=true):cA 109 #[xV B a c q,ov v] w fun x w'=>∃y an k er B',x= .returned (.tuple #[y,EJ an,.bool k,iV er])∧cO B v B' an k er∧rN U w' B' y∧bZ w w':=by
 have hq:aT q 41:=(hm.now).one;obtain⟨s,bu,ht,hm⟩:=jG.split hm;have mi:∀{w},iL w B a c∧uG w s q→jG w B a c q:=fun h=>⟨h.1,s,bu,ht,h.2⟩;refine en (H:=[]) 70 [vg (pr B a c q),vg (XO v)] Tryz.func109 rfl rfl (nZ hU hm) (r [] rfl fun α=> ?_);refine cut (X:=Nat×An×Int) (fun x=>[(2,vp 0 0 (α 0)),(3,vp 1 0 (α 1)),(4,vp 2 0 (α 2)),(5,vp 3 0 (α 3)),(9,vp 4 0 x.1),(11,vi x.2.2)]) (fun x=>[⟨α 0,117,pr B a c q⟩,⟨α 1,55,XO v⟩,⟨α 2,117,pr Bt.zero none 0 zQ⟩,⟨α 3,59,Og An.zero⟩,⟨x.1,59,Og x.2.1⟩]) (fun _=>U) (fun _ w=>iL w B a c∧uG w s q) (fun _ w'=>bZ w w') (fun x=>∃B1 ch,cO B.dp v B1 x.2.1 ch x.2.2) ?_ (r [4] rfl fun _=> ?_)
 case refine_2=>
  repeat' first|refine Cq ?_ ?_|refine fk3 ?_ ?_ ?_|(refine cb rfl (vg (bS B.r B.e B.f B.t B.o none 0 0)) ?_ ?_;exact fun w _=>kc _ _ _ _ _ _ _ _ _ w)|(refine cq rfl (fun y:Bt×An×Bool×Int×Option Addr×Nat=>vt [.g (bS y.1.r y.1.e y.1.f y.1.t y.1.o y.2.2.2.2.1 y.1.es.length y.2.2.2.2.2),.g (Og y.2.1),.o (.bool y.2.2.1),.o (iV y.2.2.2.1)]) (fun y=>cO B.dp v y.1 y.2.1 y.2.2.1 y.2.2.2.1) ?_ fun y hy=> ?_;exact fun w _=>(Mc B.dp none 0 v _ (pK _ _) Zf).mono fun _ _ ⟨_,an,ch,er,B1,h0,h1,ho,b⟩=>by obtain⟨a1,c1,rfl,_,_⟩:=ho.ex;exact⟨(B1,an,ch,er,a1,c1),h0,b,h1⟩)|refine rs [] rfl rfl fun _=> ?_
  all_goals first|exact bU (_,y.2.1,y.2.2.2.1) ⟨rfl,rfl,rfl,rfl,rfl,rfl,trivial⟩ (fun w hS=>hS.G_ [0,1,2,3,4] (by decide)) ⟨_,_,hy⟩ Nat.zero_lt_one|exact bU (_,y.2.1,y.2.2.2.1) ⟨rfl,rfl,rfl,rfl,rfl,rfl,trivial⟩ (fun w hS=>hS.G_ [0,1,2,3,5] (by decide)) ⟨_,_,hy⟩ Nat.zero_lt_one
 rintro f1 ⟨x,an,er⟩ ⟨B1,ch,h1⟩;have h1:cO B.dp v B1 an ch er:=h1;by_cases h0:er=0
 ·subst h0;have hv:=PT h1;have hs:=kb B.r B.e B.f B.t B.o a B.es.length c q;refine r [0] rfl fun _=> ?_;by_cases hr:B.r=1∨B.r=2
  ·rw[decide_eq_true hr]at hs;refine cb rfl (vv (.bool true)) (fun w _=>hs w) (r [] rfl fun _=> ?_);refine cx rfl (fun y:St×An×Bool×(Nat→Value)=>vt [.g [.f 41 y.2.2.2],.g (Og y.2.1),.o (.bool y.2.2.1),.o (iV 0)]) (fun y=>Step s v y.1 y.2.1 y.2.2.1∧aT y.2.2.2 41) (fun y w=>uG w y.1 y.2.2.2) (fun w hS=>(Px hS.now.1.2 ht.wf.ok v).mono ?_) ?_
   ·rintro _ w2 ⟨s1,an2,ch2,er2,q1,rfl,hd,hq1,b⟩;obtain⟨rfl,st⟩:=Wj hv.1 hd;exact⟨(s1,an2,ch2,q1),rfl,b,⟨st,(hq1 (fun _=>False) (fun _ h=>h.elim)).now.one⟩,fun hl=>hq1 _ hl⟩
   rintro⟨s1,an2,ch2,q1⟩ ⟨st,TW⟩;have st:Step s v s1 an2 ch2:=st;have TW:aT q1 41:=TW;cases ch2
   ·exact r [5,2,2] rfl fun _=>fin fun w hS=>⟨_,an2,false,0,B,rfl,.same ok hv.1 hv.2 hr s bu ht s1 an2 st,⟨a,c,q,rfl,fun w2 c2=>mi (hS.Cr w2 c2).1⟩,hS.now.2⟩
   ·by_cases h9:1999≤B.es.length
    ·exact r [1] rfl fun _=>fin fun w hS=>⟨_,⟨14,0,0,0⟩,false,0,B,rfl,.full ok hv.1 hv.2 hr s bu ht s1 an2 st h9,⟨a,c,q,rfl,fun w2 c2=>mi (hS.Cr w2 c2).1⟩,hS.now.2⟩
    ·refine r [0,8,6] rfl fun _=> ?_
     repeat' first|refine Cq ?_ ?_|(refine cx rfl (fun y:Option Addr×Nat=>vv (.slice y.1 (B.es.length+1) y.2)) (fun y=>B.es.length+1≤y.2∧(y.1=none→y.2=0)) (fun y w=>RowK .i64 w y.1 (6*(B.es.length+1)) (ai B.es++ai [v])) ?_ fun y hy=> ?_;refine fun w hS=>(vB a _ B.es.length c 1 1 (ai B.es) (ai [v]) w hS.now.1.1.1.row (L8 v Zf (hS.at 6 rfl)) hS.now.1.1.1.nil (fun h=>by cases h) (by omega)).mono ?_;rintro _ w2 ⟨_,rfl,ho,b1⟩;obtain⟨a2,c2,rfl,hr2,jo,qL,hf2⟩:=ho.ex;exact⟨(a2,c2),rfl,b1,⟨jo,qL⟩,fun hl=>bT hr2 hf2 hl⟩)|refine rs [] rfl rfl fun _=> ?_
     all_goals exact r [5,2,2] rfl fun _=>fin fun w hS=>⟨_,an2,true,0,B.more [v],rfl,.done ok hv.1 hv.2 hr s bu ht s1 an2 st (by omega),⟨y.1,y.2,q1,by rw[xV,show(B.more [v]).es.length=B.es.length+1 by simp[Bt.more]];rfl,Mh ht hv.1 st (fun w2 c2=>(hS.Cr w2 c2).1.2) (fun w2 c2=>(hS.Cr w2 c2).2) hy.1 hy.2⟩,hS.now.2⟩
  ·rw[decide_eq_false hr]at hs;exact cb rfl (vv (.bool false)) (fun w _=>hs w) (r [5,2,2] rfl fun _=>fin fun w hS=>⟨_,an,false,0,B,rfl,Mf ok hr h1,⟨a,c,q,rfl,fun w2 c2=>mi (hS.Cr w2 c2)⟩,hS.now.2⟩)
 ·exact r [1] rfl fun _=>fin fun w hS=>⟨_,An.zero,false,er,Bt.zero,rfl,Me ok h1 h0,⟨none,0,zQ,rfl,fun _ _=>jG.dp rfl⟩,hS.now.2⟩
theorem E9(B:Bt)(a:tB)(c:Nat)(w:tA)(hb:iL w B a c)(ok:B.Ok):cA 176 #[bN B.r B.e B.f B.t B.o a (min 1 B.es.length) c] w (rB (iV 0) w):=by
 have e:min 1 B.es.length=B.short.es.length:=by simp[Bt.short]
 rw[e];exact gh B.short a c w (uI hb) ok.short
theorem TY{es:List Ev}{s:St}(h:Rv es s 0):∃bu,bm es s bu:=by
 generalize he:(0:Int)=er at h;cases h with
 |size=>cases he
 |form=>cases he
 |told bu _ ht=>exact⟨bu,ht⟩
theorem PU{w w':tA}{s:St}{x:tJ}(h:uF w w' s x):∃q,x=vF q 41∧∀U:Nat→Prop,(∀b,U b→b<w.heap.size)→bR U w' fun w=>uG w s q:=by
 obtain⟨a1,c1,a2,c2,ws',rfl,g1,g2,g3,g4,g5,g6,g7,g8,g9⟩:=h.ex;refine⟨_,qo _ _ _ _ _ _,fun U hU w2 c2'=> ?_⟩;exact⟨a1,c1,a2,c2,ws',rfl,bT g1 g8 hU w2 c2',bT g2 g9 hU w2 c2',g3,g4,g5,g6,g7⟩
theorem TZ(U:tD)(B:Bt)(a:tB)(c:Nat)(w:tA)(hU:∀b,U b→b<w.heap.size)(hm:bR U w fun w=>iL w B a c)(ok:B.Ok):cA 139 #[bN B.r B.e B.f B.t B.o a B.es.length c] w fun x w'=>∃y,x= .returned (.tuple #[y,iV 0])∧rN U w' B y∧bZ w w':=by
 refine en (H:=[]) _ [vg (bS B.r B.e B.f B.t B.o a B.es.length c)] Tryz.func139 rfl rfl (nZ hU hm) (r [] rfl fun _=>Rv.cb rfl (vg (bS B.r B.e B.f B.t B.o a (min 1 B.es.length) c)) (fun w hS=>A9 B.r B.e B.f B.t B.o a B.es.length c w hS.now.1.cap) (r [] rfl fun _=>Rv.cb rfl (vi 0) (fun w hS=>E9 B a c w hS.now.1 ok) (r [0] rfl fun _=> ?_)));refine cx rfl (fun y:Go.Proofs.YtmhifeahpnkpiaaGreatDoor.St×(Nat→Value)=>vt [.g [.f 41 y.2],.o (iV 0)]) (fun y=>(∃bu,bm B.es y.1 bu)∧aT y.2 41) (fun y w=>uG w y.1 y.2) (fun w hS=>(rJ B.es a c w hS.now.1.row).mono fun _ w2 ⟨x,er,s,h0,hv,hq,b⟩=> ?_) ?_
 ·obtain rfl:er=0:=(Rv.ok (B:=B) hv ok.cJ).2 ok;obtain⟨q,rfl,hq1⟩:=PU hq;exact⟨(s,q),h0,b,⟨TY hv,(hq1 (fun _=>False) (fun _ h=>h.elim)).now.one⟩,fun hU=>hq1 _ hU⟩
 rintro⟨s,q⟩ ⟨⟨bu,ht⟩,oq⟩;have oq:aT q 41:=oq;refine r [0,6,1,4] rfl fun _=> ?_
 repeat' first|refine Cq ?_ ?_|(refine cx rfl (fun y:Option Addr×Nat=> .s (bY B B.es.length y)) (fun y=>B.es.length≤y.2∧(y.1=none→y.2=0)) (fun y w=>RowK .i64 w y.1 (6*B.es.length) (ai B.es)) ?_ fun y hy=> ?_;refine fun w hS=>(J8 B.r B.e B.f B.t B.o a B.es.length c (ai B.es) w hS.now.1.1.row hS.now.1.1.nil (by have:=ok.len;omega)).mono ?_;rintro _ w9 ⟨x,rfl,ho,b⟩;obtain⟨a1,c1,rfl,sS,mm,sH,uu⟩:=ho.ex;exact⟨(a1,c1),rfl,b,⟨mm,sH⟩,fun hl=>bT sS uu hl⟩)|refine rs [] rfl rfl fun _=> ?_
 all_goals exact fin fun w hS=>⟨_,rfl,⟨y.1,y.2,q,rfl,fun w2 c2=>⟨⟨(hS.Cr w2 c2).2,hy.1,hy.2⟩,s,bu,ht,(hS.Cr w2 c2).1.2⟩⟩,hS.now.2⟩
abbrev pL(n e:Int):Value:= .agg #[iV n,iV e]
abbrev PV(n e:tG):Array Value:= #[iV (n 0),iV (e 0),iV (n 1),iV (e 1),iV (n 2),iV (e 2),iV (n 3),iV (e 3)]
abbrev gG(n e:tG):Value:= .agg (PV n e)
def E_(n e:Int):Prop:=(n= -1∧e=0)∨(0≤n∧n≤4∧1≤e∧e≤1048576)
def dB(n e:tG):Prop:=∀p,p<4→E_ (n p) (e p)
theorem wP{p:tD}(h0:p 0)(h1:p 1)(h2:p 2)(h3:p 3):∀i,i<4→p i
 |0,_=>h0
 |1,_=>h1
 |2,_=>h2
 |3,_=>h3
 |n+4,h=>absurd h (by omega)
theorem uJ(n e:tG):∀p:Nat,p<4→∀w:World,(Instr.index 27 (gG n e) (iV p)).run Tryz.prog w= .ok (pL (n p) (e p)) w:=by
 refine wP ?_ ?_ ?_ ?_<;>(intro w;simp[Instr.index,run_underlying Tryz.underlying27,asIntOf,go_sem])
theorem i_(w:tA):cA 66 #[] w (rB (pL (-1) 0) w):=by
 go_enter Tryz.func66,Tryz.ntmps66;go_wp2;exact bodyPost_ret (v:=pL (-1) 0) (by simp[results,Tryz.results66,go_sem]) rfl ⟨rfl,aA _ _⟩
theorem Ii(x:Int)(w:tA):cA 129 #[iV x] w fun e w'=>e= .returned (.bool (decide (0≤x∧x≤4)))∧w'=w:=by
 by_cases h1:0≤x
 ·by_cases h2:x≤4
  ·rw[decide_eq_true (show 0≤x∧x≤4 from⟨h1,h2⟩)];have h3:x<5:=by omega
   go_enter Tryz.func129,Tryz.ntmps129;go_wp2;go_ret;exact⟨rfl,rfl⟩
  ·rw[decide_eq_false (show ¬(0≤x∧x≤4) from fun h=>h2 h.2)];have h3:¬x<5:=by omega
   go_enter Tryz.func129,Tryz.ntmps129;go_wp2;go_ret;exact⟨rfl,rfl⟩
 ·rw[decide_eq_false (show ¬(0≤x∧x≤4) from fun h=>h1 h.1)];go_enter Tryz.func129,Tryz.ntmps129;go_wp2;go_ret;exact⟨rfl,rfl⟩
theorem Fa(x:Int)(w:tA):cA 128 #[iV x] w fun e w'=>e= .returned (.bool (decide (0≤x∧x≤3)))∧w'=w:=by
 by_cases h1:0≤x
 ·by_cases h2:x≤3
  ·rw[decide_eq_true (show 0≤x∧x≤3 from⟨h1,h2⟩)];have h3:x<4:=by omega
   go_enter Tryz.func128,Tryz.ntmps128;go_wp2;go_ret;exact⟨rfl,rfl⟩
  ·rw[decide_eq_false (show ¬(0≤x∧x≤3) from fun h=>h2 h.2)];have h3:¬x<4:=by omega
   go_enter Tryz.func128,Tryz.ntmps128;go_wp2;go_ret;exact⟨rfl,rfl⟩
 ·rw[decide_eq_false (show ¬(0≤x∧x≤3) from fun h=>h1 h.1)];go_enter Tryz.func128,Tryz.ntmps128;go_wp2;go_ret;exact⟨rfl,rfl⟩
def rP(n e:Int):Bool:=decide (0≤n∧n≤4∧1≤e∧e≤1048576)
abbrev zW(a b:Int):List Sg:=[.o (iV a),.o (iV b)]
abbrev wQ(a b:tG):List Sg:=[.o (iV (a 0)),.o (iV (b 0)),.o (iV (a 1)),.o (iV (b 1)),.o (iV (a 2)),.o (iV (b 2)),.o (iV (a 3)),.o (iV (b 3))]
theorem oE(a b c d:Int)(w:tA):(Op.equalIn 10000 26 (pL a b) (pL c d)).run Tryz.prog w= .ok (decide (a=c∧b=d)) w:=by
 rw[run_equalIn_agg (P:=Tryz.prog) w 9999 26 _ _ Tryz.underlying26 (by kernel_rfl)];by_cases h0:a=c
 case neg=>simp[go_sem,h0]
 by_cases h1:b=d
 case neg=>simp[go_sem,h0,h1]
 simp[go_sem,h0,h1]
theorem Bb{P:tI}{x:Int}{b:Bool}(h:decide (0≤x∧x≤4)=b)(w:tA)(_:P w):cA 129 #[iV x] w (rB (.bool b) w):=(Ii x w).mono fun _ _ ⟨h1,e⟩=>⟨by rw[h1,h],by rw[e];exact Below.refl _ _⟩
theorem Ke{P:tI}{x:Int}{b:Bool}(h:decide (0≤x∧x≤3)=b)(w:tA)(_:P w):cA 128 #[iV x] w (rB (.bool b) w):=(Fa x w).mono fun _ _ ⟨h1,e⟩=>⟨by rw[h1,h],by rw[e];exact Below.refl _ _⟩
theorem qV(n e:Int)(w:tA):cA 175 #[pL n e] w (rB (.bool (rP n e)) w):=by
 refine en (H:=[]) _ [vg (zW n e)] Tryz.func175 rfl rfl (m0 w) (r [] rfl fun _=> ?_);by_cases h1:0≤n∧n≤4
 case neg=>exact Rv.cb rfl (vv (.bool false)) (Bb (decide_eq_false h1)) (r [] rfl fun _=>fin fun w hS=>⟨by rw[show rP n e=false from decide_eq_false fun h=>h1 ⟨h.1,h.2.1⟩];rfl,hS.now.2⟩)
 refine Rv.cb rfl (vv (.bool true)) (Bb (decide_eq_true h1)) ?_;by_cases h2:1≤e
 case neg=>exact r [0] rfl fun _=>fin fun w hS=>⟨by rw[show rP n e=false from decide_eq_false fun h=>h2 h.2.2.1];rfl,hS.now.2⟩
 by_cases h3:e≤1048576
 case neg=>exact r [1,0] rfl fun _=>fin fun w hS=>⟨by rw[show rP n e=false from decide_eq_false fun h=>h3 h.2.2.2];rfl,hS.now.2⟩
 exact r [1,1] rfl fun _=>fin fun w hS=>⟨by rw[show rP n e=true from decide_eq_true ⟨h1.1,h1.2,h2,h3⟩];rfl,hS.now.2⟩
theorem x_(n e:tG)(w:tA):cA 127 #[gG n e] w fun r w'=>((dB n e∧r= .returned (iV 0))∨(¬dB n e∧r= .returned (iV 6)))∧bZ w w':=by
 refine en (H:=[]) _ [vg (wQ n e)] Tryz.func127 rfl rfl (m0 w) (r [] rfl fun α=> ?_);refine ic (X:=Nat) ⟨fun k=>[(6,vg (wQ n e)),(7,vi (k:Int))],fun _=>[],fun _ _=>False,fun _ _=>True,fun _ w'=>bZ w w',fun k=>k≤4∧∀p,p<k→E_ (n p) (e p),fun k=>4-k⟩ 0 ⟨rfl,rfl,trivial⟩ (fun w hS=>hS.take 0) ⟨Nat.zero_le _,fun p hp=>absurd hp (Nat.not_lt_zero p)⟩ ?_;rintro f k ⟨hk,hp⟩;have hk:k≤4:=hk;by_cases aL:k<4
 case neg=>
  obtain rfl:k=4:=by omega
  exact r [0] rfl fun _=>fin fun w hS=>⟨.inl ⟨hp,rfl⟩,hS.now.2⟩
 refine r [1] rfl fun _=>ix (vg (zW (n k) (e k))) rfl rfl (uJ n e k aL) (r [2] rfl fun γ=>Rv.cb rfl (vg (zW (-1) 0)) (fun w _=>i_ w) ?_);have eq:=oE (n k) (e k) (-1) 0;have next:E_ (n k) (e k)→∀p,p<k+1→E_ (n p) (e p):=fun h p hp'=>by
  rcases Nat.lt_or_ge p k with h1|h1
  ·exact hp p h1
  ·obtain rfl:p=k:=by omega
   exact h
 by_cases h1:n k= -1∧e k=0
 ·rw[decide_eq_true h1]at eq;refine r [] rfl fun _=>eqs rfl eq rfl (rz [1] [((k+1:Nat):Int)] rfl fun _=> ?_);exact bU (k+1) ⟨rfl,rfl,trivial⟩ (fun w hS=>hS.take 0) ⟨aL,next (.inl h1)⟩ (show 4-(k+1)<4-k by omega)
 rw[decide_eq_false h1]at eq;refine r [] rfl fun _=>eqs rfl eq rfl (r [] rfl fun _=> ?_);cases h2:rP (n k) (e k)
 ·refine Rv.cb rfl (vv (.bool false)) (fun w _=>h2▸qV (n k) (e k) w) (r [] rfl fun _=>fin fun w hS=>⟨.inr ⟨fun h=> ?_,rfl⟩,hS.now.2⟩);rcases h k aL with h3|h3
  ·exact h1 h3
  ·exact absurd (decide_eq_true h3) (by rw[show decide _=rP _ _ from rfl,h2];simp)
 ·refine Rv.cb rfl (vv (.bool true)) (fun w _=>h2▸qV (n k) (e k) w) (rz [1] [((k+1:Nat):Int)] rfl fun _=> ?_);exact bU (k+1) ⟨rfl,rfl,trivial⟩ (fun w hS=>hS.take 0) ⟨aL,next (.inr (of_decide_eq_true h2))⟩ (show 4-(k+1)<4-k by omega)
theorem ya(n e:tG)(w:tA)(h:dB n e):cA 127 #[gG n e] w (rB (iV 0) w):=by
 refine(x_ n e w).mono ?_;rintro r w' ⟨⟨_,hr⟩|⟨h',_⟩,b⟩
 ·exact⟨hr,b⟩
 ·exact absurd h h'
theorem Bc(n e:tG)(w:tA)(h:¬dB n e):cA 127 #[gG n e] w (rB (iV 6) w):=by
 refine(x_ n e w).mono ?_;rintro r w' ⟨⟨h',_⟩|⟨_,hr⟩,b⟩
 ·exact absurd h' h
 ·exact⟨hr,b⟩
section
variable{w w':tA}{R:Nat}{n e:tG}
def cP(f:tG)(k:Nat)(x:Int):Nat→Int:=fun q=>if q=k then x else f q
end
theorem Fb{n e:tG}:∀k,k<4→∀i,i<2→Rv.cK (wQ n e) (0+k*2+i)=Rv.cK (zW (n k) (e k)) i:=by
 refine wP ?_ ?_ ?_ ?_<;>(intro i hi;obtain rfl|rfl:i=0∨i=1:=by omega)<;>rfl
theorem XX{n e:tG}{a b:Int}:∀k,k<4→∀i,i<8→fS (Rv.cK (wQ n e)) (0+k*2) 2 (Rv.cK (zW a b)) i=Rv.cK (wQ (cP n k a) (cP e k b)) i:=by
 refine wP ?_ ?_ ?_ ?_<;>(intro i hi;obtain rfl|rfl|rfl|rfl|rfl|rfl|rfl|rfl:i=0∨i=1∨i=2∨i=3∨i=4∨i=5∨i=6∨i=7:=by omega)<;>rfl
inductive jv(n e:tG)(q:Int):Int→Int→Int→Prop
 |state (h:¬dB n e):jv n e q 0 0 6
 |range (h:dB n e) (hq:¬(0≤q∧q≤3)):jv n e q 0 0 2
 |none (h:dB n e) (k:Nat) (hk:k<4) (hq:q=k) (hn:n k= -1):jv n e q 0 0 7
 |here (h:dB n e) (k:Nat) (hk:k<4) (hq:q=k) (hn:¬n k= -1):jv n e q (n k) (e k) 0
theorem Bd(n e:tG)(q:Int)(w:tA):cA 91 #[gG n e,iV q] w fun r w'=>∃a b c,r= .returned (.tuple #[pL a b,iV c])∧jv n e q a b c∧bZ w w':=by
 refine en (H:=[]) _ [vg (wQ n e),vi q] Tryz.func91 rfl rfl (m0 w) (r [] rfl fun _=> ?_);by_cases ok:dB n e
 case neg=>exact Rv.cb rfl (vi 6) (fun w _=>Bc n e w ok) (r [1] rfl fun _=>fin fun w hS=>⟨0,0,6,rfl,.state ok,hS.now.2⟩)
 refine Rv.cb rfl (vi 0) (fun w _=>ya n e w ok) (r [0] rfl fun _=> ?_);by_cases hq:0≤q∧q≤3
 case neg=>exact Rv.cb rfl (vv (.bool false)) (Ke (decide_eq_false hq)) (r [] rfl fun _=>fin fun w hS=>⟨0,0,2,rfl,.range ok hq,hS.now.2⟩)
 refine Rv.cb rfl (vv (.bool true)) (Ke (decide_eq_true hq)) ?_;obtain⟨k,hk,rfl⟩:∃k:Nat,k<4∧q=k:=⟨q.toNat,by omega,by omega⟩;have eq:=oE (n k) (e k) (-1) 0;by_cases hn:n k= -1
 ·rw[decide_eq_true ⟨hn,by rcases ok k hk with h|h<;>omega⟩]at eq
  exact r [2,1] rfl fun _=>lo rfl rfl 0 rfl 2 (Rv.cK (zW (n k) (e k))) (Fb k hk) (r [] rfl fun _=>Rv.cb rfl (vg (zW (-1) 0)) (fun w _=>i_ w) (r [] rfl fun _=>eqs rfl eq rfl (r [] rfl fun _=>fin fun w hS=>⟨0,0,7,rfl,.none ok _ hk rfl hn,hS.now.2⟩)))
 ·rw[decide_eq_false fun h=>hn h.1]at eq;exact r [2,1] rfl fun _=>lo rfl rfl 0 rfl 2 (Rv.cK (zW (n k) (e k))) (Fb k hk) (r [] rfl fun _=>Rv.cb rfl (vg (zW (-1) 0)) (fun w _=>i_ w) (r [] rfl fun _=>eqs rfl eq rfl (r [1] rfl fun _=>lo rfl rfl 0 rfl 2 (Rv.cK (zW (n k) (e k))) (Fb k hk) (r [] rfl fun _=>fin fun w hS=>⟨_,_,0,rfl,.here ok _ hk rfl hn,hS.now.2⟩))))
def bD:Nat→Int:=fun _=>0
theorem Fc(n e:tG)(k:Nat)(a b:Int)(w:tA)(hk:k<4):cA 130 #[gG n e,iV k,pL a b] w (rB (gG (cP n k a) (cP e k b)) w):=by
 exact en (H:=[]) _ [vg (wQ n e),vi (k:Int),vg (zW a b)] Tryz.func130 rfl rfl (m0 w) (r [1] rfl fun _=>so (m:=2) (g:=Rv.cK (zW a b)) rfl rfl rfl 0 rfl (cK (wQ (cP n k a) (cP e k b))) (XX k hk) (r [] rfl fun _=>fin fun w hS=>⟨rfl,hS.now.2⟩) (fun i hi=>by obtain rfl|rfl:i=0∨i=1:=(by omega)<;>rfl))
def yb(x y ep node:Int):Int:=if ¬(0≤node∧node≤4)then 2 else if ¬y=ep then 15 else if x=node then 8 else if y=1048576 then 14 else 0
theorem Mi(x y ep node:Int)(w:tA):cA 174 #[pL x y,iV ep,iV node] w (rB (iV (yb x y ep node)) w):=by
 unfold yb;refine en (H:=[]) _ [vg (zW x y),vi ep,vi node] Tryz.func174 rfl rfl (m0 w) (r [] rfl fun _=> ?_);by_cases h1:0≤node∧node≤4
 case neg=>exact Rv.cb rfl (vv (.bool false)) (Bb (decide_eq_false h1)) (r [] rfl fun _=>fin fun w hS=>⟨by rw[if_pos h1];rfl,hS.now.2⟩)
 rw[if_neg fun h=>h h1];refine Rv.cb rfl (vv (.bool true)) (Bb (decide_eq_true h1)) ?_;by_cases h2:y=ep
 case neg=>exact r [1] rfl fun _=>fin fun w hS=>⟨by rw[if_pos h2];rfl,hS.now.2⟩
 by_cases h3:x=node
 ·exact r [0,1] rfl fun _=>fin fun w hS=>⟨by rw[if_neg fun h=>h h2,if_pos h3];rfl,hS.now.2⟩
 by_cases h4:y=1048576
 ·exact r [0,0,1] rfl fun _=>fin fun w hS=>⟨by rw[if_neg fun h=>h h2,if_neg h3,if_pos h4];rfl,hS.now.2⟩
 ·exact r [0,0,0] rfl fun _=>fin fun w hS=>⟨by rw[if_neg fun h=>h h2,if_neg h3,if_neg h4];rfl,hS.now.2⟩
inductive m_(n e:tG)(q node:Int):(Nat→Int)→(Nat→Int)→Int→Prop
 |state (h:¬dB n e):m_ n e q node bD bD 6
 |range (h:dB n e) (hq:¬((0≤q∧q≤3)∧(0≤node∧node≤4))):m_ n e q node bD bD 2
 |yd (h:dB n e) (k:Nat) (hk:k<4) (hq:q=k) (hd:0≤node∧node≤4) (hn:¬n k= -1):m_ n e q node bD bD 8
 |made (h:dB n e) (k:Nat) (hk:k<4) (hq:q=k) (hd:0≤node∧node≤4) (hn:n k= -1):m_ n e q node (cP n k node) (cP e k 1) 0
theorem m_.one{n e:tG}{q node:Int}{a b:tG}{c:Int}{a' b':tG}{c':Int}(h:m_ n e q node a b c)(h':m_ n e q node a' b' c'):a=a'∧b=b'∧c=c':=by
 cases h with
 |state h1=>cases h' with
  |state=>exact⟨rfl,rfl,rfl⟩
  |range h2=>exact absurd h2 h1
  |yd h2=>exact absurd h2 h1
  |made h2=>exact absurd h2 h1
 |range h1 hq=>cases h' with
  |state h2=>exact absurd h1 h2
  |range h2=>exact⟨rfl,rfl,rfl⟩
  |yd h2 k hk xX=>omega
  |made h2 k hk xX=>omega
 |yd h1 k hk hq hd hn=>cases h' with
  |state h2=>exact absurd h1 h2
  |range h2=>omega
  |yd h2 k hk xX=>exact⟨rfl,rfl,rfl⟩
  |made h2 k' j4 xX hd' sf=>
   obtain rfl:k=k':=by omega
   exact absurd sf hn
 |made h1 k hk hq hd hn=>cases h' with
  |state h2=>exact absurd h1 h2
  |range h2=>omega
  |yd h2 k' j4 xX hd' sf=>
   obtain rfl:k=k':=by omega
   exact absurd hn sf
  |made h2 k' j4 xX hd' sf=>
   obtain rfl:k=k':=by omega
   exact⟨rfl,rfl,rfl⟩
theorem PW(n e:tG)(q node:Int)(w:tA):cA 76 #[gG n e,iV q,iV node] w fun r w'=>∃a b c,r= .returned (.tuple #[gG a b,iV c])∧m_ n e q node a b c∧bZ w w':=by
 refine en (H:=[]) _ [vg (wQ n e),vi q,vi node] Tryz.func76 rfl rfl (m0 w) (r [] rfl fun _=> ?_);by_cases ok:dB n e
 case neg=>exact Rv.cb rfl (vi 6) (fun w _=>Bc n e w ok) (r [1] rfl fun _=>fin fun w hS=>⟨bD,bD,6,rfl,.state ok,hS.now.2⟩)
 refine Rv.cb rfl (vi 0) (fun w _=>ya n e w ok) (r [0] rfl fun _=> ?_);by_cases hq:0≤q∧q≤3
 case neg=>exact Rv.cb rfl (vv (.bool false)) (Ke (decide_eq_false hq)) (r [] rfl fun _=>fin fun w hS=>⟨bD,bD,2,rfl,.range ok (fun h=>hq h.1),hS.now.2⟩)
 refine Rv.cb rfl (vv (.bool true)) (Ke (decide_eq_true hq)) (r [] rfl fun _=> ?_);by_cases hd:0≤node∧node≤4
 case neg=>exact Rv.cb rfl (vv (.bool false)) (Bb (decide_eq_false hd)) (r [] rfl fun _=>fin fun w hS=>⟨bD,bD,2,rfl,.range ok (fun h=>hd h.2),hS.now.2⟩)
 refine Rv.cb rfl (vv (.bool true)) (Bb (decide_eq_true hd)) ?_;obtain⟨k,hk,rfl⟩:∃k:Nat,k<4∧q=k:=⟨q.toNat,by omega,by omega⟩;have eq:=oE (n k) (e k) (-1) 0;by_cases hn:n k= -1
 ·rw[decide_eq_true ⟨hn,by rcases ok k hk with h|h<;>omega⟩]at eq
  exact r [2,1] rfl fun _=>lo rfl rfl 0 rfl 2 (Rv.cK (zW (n k) (e k))) (Fb k hk) (r [] rfl fun _=>Rv.cb rfl (vg (zW (-1) 0)) (fun w _=>i_ w) (r [] rfl fun _=>eqs rfl eq rfl (r [] rfl fun _=>Rv.cb rfl (vg (wQ (cP n _ node) (cP e _ 1))) (fun w _=>Fc n e _ node 1 w hk) (r [] rfl fun _=>fin fun w hS=>⟨_,_,0,rfl,.made ok _ hk rfl hd hn,hS.now.2⟩))))
 ·rw[decide_eq_false fun h=>hn h.1]at eq;exact r [2,1] rfl fun _=>lo rfl rfl 0 rfl 2 (Rv.cK (zW (n k) (e k))) (Fb k hk) (r [] rfl fun _=>Rv.cb rfl (vg (zW (-1) 0)) (fun w _=>i_ w) (r [] rfl fun _=>eqs rfl eq rfl (r [] rfl fun _=>fin fun w hS=>⟨bD,bD,8,rfl,.yd ok _ hk rfl hd hn,hS.now.2⟩)))
def eD(k:Nat):Nat→Int:=fun p=>if p<k then-1 else 0
def Pq(k:Nat):Nat→Value:=fun i=>iV (if i % 2=0 then eD k (i/2)else 0)
theorem XY:∀k,k<4→∀i,i<8→fS (Rv.cK [.f 8 (Pq k)]) (0+k*2) 2 (Rv.cK (zW (-1) 0)) i=Pq (k+1) i:=by
 refine wP ?_ ?_ ?_ ?_<;>(intro i hi;obtain rfl|rfl|rfl|rfl|rfl|rfl|rfl|rfl:i=0∨i=1∨i=2∨i=3∨i=4∨i=5∨i=6∨i=7:=by omega)<;>rfl
theorem Kf(w:tA):cA 40 #[] w (rB (gG (eD 4) bD) w):=by
 refine en (H:=[]) _ [] Tryz.func40 rfl rfl (m0 w) (r [] rfl fun α=>gn 1 (Pq 0) ?_);refine ic (X:=Nat) ⟨fun k=>[(0,vp 0 0 (α 0)),(1,vp 1 0 (α 1)),(3,vi (k:Int))],fun k=>[⟨α 0,29,wQ bD bD⟩,⟨α 1,27,[.f 8 (Pq k)]⟩],fun _ _=>False,fun _ _=>True,fun _ w'=>bZ w w',fun k=>k≤4,fun k=>4-k⟩ 0 ⟨rfl,rfl,rfl,trivial⟩ (fun w hS=>hS) (Nat.zero_le _) ?_;rintro f k hk;have hk:k≤4:=hk;by_cases aL:k<4
 case neg=>
  obtain rfl:k=4:=by omega
  exact r [0] rfl fun _=>fin fun w hS=>⟨rfl,hS.now.2⟩
 refine r [1] rfl fun _=>Rv.cb rfl (vg (zW (-1) 0)) (fun w _=>i_ w) (r [1] rfl fun _=>so (m:=2) (g:=cK (zW (-1) 0)) rfl rfl rfl 1 rfl (Pq (k+1)) (XY k aL) (rz [1] [((k+1:Nat):Int)] rfl fun _=> ?_) (fun i hi=>by obtain rfl|rfl:i=0∨i=1:=(by omega)<;>rfl))
 exact bU (k+1) ⟨rfl,rfl,rfl,trivial⟩ (fun w hS=>hS) aL (show 4-(k+1)<4-k by omega)
inductive sT(n e:tG)(q ep node:Int):(Nat→Int)→(Nat→Int)→Int→Prop
 |off (a b c:Int) (h:jv n e q a b c) (hc:¬c=0):sT n e q ep node bD bD c
 |no (a b:Int) (h:jv n e q a b 0) (hc:¬yb a b ep node=0):sT n e q ep node bD bD (yb a b ep node)
 |flip (h:dB n e) (k:Nat) (hk:k<4) (hq:q=k) (hn:¬n k= -1) (hc:yb (n k) (e k) ep node=0):sT n e q ep node (cP n k node) (cP e k (e k+1)) 0
theorem jv.at{n e:tG}{q a b:Int}(h:jv n e q a b 0):dB n e∧∃k:Nat,k<4∧q=k∧¬n k= -1∧a=n k∧b=e k:=by
 obtain⟨c,hc⟩:∃c:Int,c=0:=⟨0,rfl⟩;rw[←hc]at h;cases h with
 |state h=>omega
 |range h=>omega
 |none h=>omega
 |here h k hk hq hn=>exact⟨h,k,hk,hq,hn,rfl,rfl⟩
theorem PX(n e:tG)(q ep node:Int)(w:tA):cA 126 #[gG n e,iV q,iV ep,iV node] w fun r w'=>∃a b c,r= .returned (.tuple #[gG a b,iV c])∧sT n e q ep node a b c∧bZ w w':=by
 refine en (H:=[]) _ [vg (wQ n e),vi q,vi ep,vi node] Tryz.func126 rfl rfl (m0 w) (r [] rfl fun _=> ?_);refine cq rfl (fun y:Int×Int×Int=>vt [.g (zW y.1 y.2.1),.o (iV y.2.2)]) (fun y=>jv n e q y.1 y.2.1 y.2.2) (fun w _=>(Bd n e q w).mono fun _ _ ⟨a,b,c,h1,h2,h3⟩=>⟨(a,b,c),h1,h3,h2⟩) ?_;rintro⟨a,b,c⟩ hw;have hw:jv n e q a b c:=hw;by_cases hc:c=0
 case neg=>exact r [1] rfl fun _=>fin fun w hS=>⟨bD,bD,c,rfl,.off a b c hw hc,hS.now.2⟩
 subst hc;refine r [0] rfl fun _=>Rv.cb rfl (vi (yb a b ep node)) (fun w _=>Mi a b ep node w) ?_;by_cases hg:yb a b ep node=0
 case neg=>exact r [1] rfl fun _=>fin fun w hS=>⟨bD,bD,_,rfl,.no a b hw hg,hS.now.2⟩
 obtain⟨ok,k,hk,rfl,hn,rfl,rfl⟩:=hw.at;have hb:0≤e k∧e k≤1048576:=by rcases ok k hk with h|h<;>omega
 exact rz [0,1] [e k+1] rfl fun _=>Rv.cb rfl (vg (wQ (cP n k node) (cP e k (e k+1)))) (fun w _=>Fc n e k node (e k+1) w hk) (r [] rfl fun _=>fin fun w hS=>⟨_,_,0,rfl,.flip ok k hk rfl hn hg,hS.now.2⟩)
end
theorem SK(x m:Int):x<0∨(¬x≤m∧0≤x)∨(0≤x∧x≤m):=by omega
def aC(k q ep pe ek p i b he hn:Int):Int:=
 if ¬(1≤k∧k≤7)then 3
 else if ¬(0≤q∧q≤3∧0≤ep∧ep≤1048576∧0≤pe∧pe≤4)then 2
 else if k=2∨k=5 then aP ek p i b he hn else gy ek p i b he hn
theorem Fe(k q ep pe:Int):(k<1∧¬1≤k)∨(¬k≤7∧1≤k)∨((1≤k∧k≤7)∧(q<0∨(¬q≤3∧0≤q)∨(0≤q∧q≤3)∧(ep<0∨(¬ep≤1048576∧0≤ep)∨(0≤ep∧ep≤1048576)∧
  (pe<0∨(¬pe≤4∧0≤pe)∨(0≤pe∧pe≤4)∧(k=2∨k=5∨(k==2)=false∧(k==5)=false))))):=by
 by_cases h:k<1
 ·exact .inl ⟨h,by omega⟩
 by_cases h':¬k≤7
 ·exact .inr (.inl ⟨h',by omega⟩)
 refine .inr (.inr ⟨by omega, ?_⟩);rcases SK q 3 with h|h|h
 ·exact .inl h
 ·exact .inr (.inl h)
 refine .inr (.inr ⟨h, ?_⟩);rcases SK ep 1048576 with h|h|h
 ·exact .inl h
 ·exact .inr (.inl h)
 refine .inr (.inr ⟨h, ?_⟩);rcases SK pe 4 with h|h|h
 ·exact .inl h
 ·exact .inr (.inl h)
 refine .inr (.inr ⟨h, ?_⟩);by_cases h2:k=2
 ·exact .inl h2
 by_cases h5:k=5
 ·exact .inr (.inl h5)
 exact .inr (.inr ⟨by simpa using h2,by simpa using h5⟩)
theorem jQ(k q ep pe ek p i b he hn:Int)(w:tA):
  cA 191 #[.agg #[iV k,iV q,iV ep,iV pe,iV ek,iV p,iV i,iV b,iV he,iV hn]] w fun e w'=>
   e= .returned (iV (aC k q ep pe ek p i b he hn))∧bZ w w':=by
 obtain⟨v,hv⟩:∃v,aC k q ep pe ek p i b he hn=v:=⟨_,rfl⟩;rw[hv];have HV:Hid (aC k q ep pe ek p i b he hn=v):=hv;clear hv;rcases Fe k q ep pe with⟨h1,h2⟩|⟨h1,h2⟩|⟨⟨h1,h2⟩,h3|⟨h3,h4⟩|⟨⟨h3,h4⟩,h5|⟨h5,h6⟩|⟨⟨h5,h6⟩,h7|⟨h7,h8⟩|⟨⟨h7,h8⟩,rfl|rfl|⟨h9,vW⟩⟩⟩⟩⟩
 all_goals
  go_enter Tryz.func191,Tryz.ntmps191
  go_wp2_with (first|(go_at_call 102;refine(vx _ _ _ _ _ _ _).mono ?_;rintro e w1 ⟨rfl,hb⟩)|(go_at_call 59;refine(mW _ _ _ _ _ _ _).mono ?_;rintro e w1 ⟨rfl,hb⟩)|(go_at_call 101;go_in)|(go_at_call 209;go_in))
  go_ret;refine⟨CM ?_, ?_⟩
  ·have h:=HV.out;subst h;clear HV;unfold aC
   repeat' split
   all_goals first|rfl|omega|(simp at h9 vW;omega)
  ·first|exact aA _ _|exact nQ hb
theorem bG{p:Prop}(h:p):Hid p:=h
theorem ae{p:Prop}(h:Hid p):p:=h
theorem Tryz.Wq:(Tryz.prog.info? 3).map (fun i=>(i.zero,i.size,i.bytes))=some (some (iV 0),1,8):=by kernel_rfl
abbrev dR(b:Nat):Array Value:= #[.pointer (some ⟨b,0,none⟩),.pointer (some ⟨b,1,none⟩),.pointer (some ⟨b,2,none⟩),.pointer (some ⟨b,3,none⟩),.pointer (some ⟨b,4,none⟩),.pointer (some ⟨b,5,none⟩),.pointer (some ⟨b,6,none⟩),.pointer (some ⟨b,7,none⟩),.pointer (some ⟨b,8,none⟩),.pointer (some ⟨b,9,none⟩)]
theorem ja(b:Nat)(w:tA):
  cA 208 #[.pointer (some ⟨b,0,none⟩)] w (rB (.agg (dR b)) w):=by
 go_enter Tryz.func208,Tryz.ntmps208;go_wp2
 go_region
 all_goals
  go_wp2;exact bodyPost_ret (v:= .agg (dR b)) (by simp[results,Tryz.results208,go_sem]) rfl ⟨rfl,(aA _ _).drew⟩
theorem jR{k q ep pe ek p i b he hn:Int}(h:aC k q ep pe ek p i b he hn=0):∀n∈[k,q,ep,pe,ek,p,i,b,he,hn],0≤n∧n≤2147483647:=by
 unfold aC at h;split at h
 ·omega
 split at h
 ·omega
 have hE:(0≤ek∧ek≤4)∧(0≤p∧p≤3)∧(0≤i∧i≤1073741824)∧(0≤b∧b≤1000000)∧(0≤he∧he≤1048576)∧(0≤hn∧hn≤1073741824):=by
  split at h
  ·unfold aP at h
   repeat' split at h
   all_goals omega
  ·unfold gy at h;split at h<;>omega
 intro n sf;simp only[List.mem_cons,List.not_mem_nil,or_false]at sf;rcases sf with rfl|rfl|rfl|rfl|rfl|rfl|rfl|rfl|rfl|rfl<;>omega
theorem Zg(k q ep pe ek p i b he hn:Int)(w:tA)(h:¬aC k q ep pe ek p i b he hn=0):
  cA 179 #[.agg #[iV k,iV q,iV ep,iV pe,iV ek,iV p,iV i,iV b,iV he,iV hn]] w fun e w'=>
   e= .returned (.tuple #[.slice none 0 0,iV (aC k q ep pe ek p i b he hn)])∧bZ w w':=by
 go_enter Tryz.func179,Tryz.ntmps179
 go_wp2_with fail
 refine(jQ _ _ _ _ _ _ _ _ _ _ _).mono ?_;rintro e w1 ⟨rfl,b1⟩;have fw:(aC k q ep pe ek p i b he hn !=0)=true:=by simpa using h
 clear h;go_wp2;go_ret2;exact⟨rfl,nQ b1⟩
theorem sU(k:Int)(w:tA)(h:k=2∨k=5):cA 209 #[iV k] w fun e w'=>e= .returned (.bool true)∧w=w':=by
 rcases h with rfl|rfl
 all_goals
  go_enter Tryz.func209,Tryz.ntmps209;go_wp2;go_ret;exact⟨rfl,rfl⟩
theorem vI(k:Int)(w:tA)(h:¬(k=2∨k=5)):cA 209 #[iV k] w fun e w'=>e= .returned (.bool false)∧w=w':=by
 have h2:(k==2)=false:=by simp;omega
 have h5:(k==5)=false:=by simp;omega
 clear h;go_enter Tryz.func209,Tryz.ntmps209;go_wp2;go_ret;exact⟨rfl,rfl⟩
theorem Be(l:tF)(j:Nat)(h:j<l.length):l.take (j+1)=l.take j++[l.getD j 0]:=by
 rw[List.take_succ_eq_append_getElem h];simp[h]
theorem uK(w:tA)(b o:Nat)(ho:o<10):(w.alloc (.cells (dR b) 294)).cell? ⟨w.heap.size,o,none⟩=some (.pointer (some ⟨b,o,none⟩)):=by
 match o,ho with
 |0,_|1,_|2,_|3,_|4,_|5,_|6,_|7,_|8,_|9,_=>simp[dR]
theorem Bf(w:tA)(l:tF)(t o:Nat)(ho:o<l.length):(w.alloc (.cells (l.map (Value.int .i64)).toArray t)).cell? ⟨w.heap.size,o,none⟩=some (iV (l.getD o 0)):=by
 simp[ho]
theorem Kg{w:tA}{base e n:Nat}{v:tJ}{l:tF}(h:w.ownsRow base e 1 v n (l.map (Value.int .i64)))(h0:0<n):
  ∃g cap,v= .slice (some ⟨g,0,none⟩) n cap∧base≤g∧g<w.heap.size∧∀k,k<n→w.cell? ⟨g,0+k,none⟩=some (iV (l.getD k 0)):=by
 have hl:l.length=n:=by have:=h.1;simpa using this
 rcases h.2 with⟨_,rfl⟩|⟨g,cap,cur,rfl,hb,hg,hc,hm,_⟩
 ·omega
 ·refine⟨g,cap,rfl,hb,(h.lt g rfl).2,fun k hk=> ?_⟩;rw[Nat.zero_add,h.cellAt k (by omega),List.getElem?_map,List.getElem?_eq_getElem (by omega)];simp[List.getElem?_eq_getElem (show k<l.length by omega)]
theorem Ij(k q ep pe ek p i b he hn:Int)(w:tA)(h:aC k q ep pe ek p i b he hn=0)(hk:k=2∨k=5):
  cA 179 #[.agg #[iV k,iV q,iV ep,iV pe,iV ek,iV p,iV i,iV b,iV he,iV hn]] w fun e w'=>
   ∃g,e= .returned (.tuple #[.slice (some ⟨g,0,none⟩) 40 40,iV 0])∧w.heap.size≤g∧RowK .u8 w' (some ⟨g,0,none⟩) 40 (dZ [k,q,ep,pe,ek,p,i,b,he,hn])∧bZ w w':=by
 have HR:Hid (∀n∈[k,q,ep,pe,ek,p,i,b,he,hn],0≤n∧n≤2147483647):=jR h;have HF:Hid (aC k q ep pe ek p i b he hn=0):=h;have HK:Hid (k=2∨k=5):=hk;clear h hk;obtain⟨i0,hi,AU,vZ,uz⟩:=info_parts Tryz.Wq;go_enter Tryz.func179,Tryz.ntmps179
 go_wp2_with fail
 refine(jQ _ _ _ _ _ _ _ _ _ _ _).mono ?_;rintro e w1 ⟨rfl,b1⟩;rw[HF.out];have mm:∀o,w1.cell? ⟨w.heap.size,o,none⟩=_:=fun o=>b1.cell (p:=⟨w.heap.size,o,none⟩) (by simp);have hz:w.heap.size<w1.heap.size:=by have:=b1.size;simp at this;omega
 go_wp2_with fail
 refine(ja _ _).mono ?_;rintro e w2 ⟨rfl,b2⟩;have jo:∀o,w2.cell? ⟨w.heap.size,o,none⟩=_:=fun o=>(b2.cell (p:=⟨w.heap.size,o,none⟩) (by simpa using hz)).trans (mm o);have hz3:w.heap.size<w2.heap.size:=by have:=b2.size;omega
 go_wp2_with (go_at_call 209;refine(sU _ _ HK.out).mono ?_;rintro e w3 ⟨rfl,rfl⟩)
 have hP:∀o,o<10→(w2.alloc (.cells (dR w.heap.size) 294)).cell? ⟨w2.heap.size,o,none⟩=some (.pointer (some ⟨w.heap.size,o,none⟩)):=fun o ho=>uK w2 _ o ho;have hQ:∀o,o<10→(w2.alloc (.cells (dR w.heap.size) 294)).cell? ⟨w.heap.size,o,none⟩=some (iV ([k,q,ep,pe,ek,p,i,b,he,hn].getD o 0)):=fun o ho=>by
  rw[(aA w2 _).cell (p:=⟨w.heap.size,o,none⟩) hz3,jo o];exact Bf w [k,q,ep,pe,ek,p,i,b,he,hn] _ o ho
 have BB:Below w.heap.size w (w2.alloc (.cells (dR w.heap.size) 294)):=Below.next (Below.next (nQ b1) b2) (aA w2 _);clear mm jo b1 b2;have HP:=bG hP;have HQ:=bG hQ;have HB:=bG BB;clear hP hQ BB
 go_loopw [7,22] (fun v t wr=>∃j:Nat,j≤10∧t=iV j∧wr.ownsRow (w2.heap.size+1) 3 1 v j (([k,q,ep,pe,ek,p,i,b,he,hn].take j).map (Value.int .i64))∧Below (w2.heap.size+1) (w2.alloc (.cells (dR w.heap.size) 294)) wr)
  (fun _ t _=>10-(intOf t).toNat)
 case atStart=>exact⟨0,Nat.zero_le _,rfl,World.ownsRow_nil _ _ _ _,Below.refl _ _⟩
 case round=>
  obtain⟨j,hj,rfl,bK,gF⟩:=hrel;by_cases aL:j<10
  ·have kp:wr.cell? ⟨w2.heap.size,j,none⟩=some (.pointer (some ⟨w.heap.size,j,none⟩)):=(gF.cell (by simp)).trans (ae HP j (by omega));have kq:wr.cell? ⟨w.heap.size,j,none⟩=some (iV ([k,q,ep,pe,ek,p,i,b,he,hn].getD j 0)):=(gF.cell (by simp;omega)).trans (ae HQ j (by omega));obtain⟨x,hx⟩:∃x,[k,q,ep,pe,ek,p,i,b,he,hn].getD j 0=x:=⟨_,rfl⟩;rw[hx]at kq;have HX:=bG hx;clear hx;have ij:w2.heap.size+1≤wr.heap.size:=by have:=gF.size;simpa using this
   go_wp2_with (at_builtin;refine wpList_append_own _ rfl _ _ 71 rfl (w2.heap.size+1) 3 i0 (iV 0) 1 8 Tryz.underlying71 hi AU vZ uz rfl (by decide) _ _ _ rfl (bK.alloc _) ⟨wr.heap.size,0,none⟩ 1 1 [iV x] rfl rfl (cell_one_new _ _ _) (ints_oneCell .i64 [x]) (by unfold maxLen;omega) (by omega) (by simp;omega) ?_;intro v' w4 hown4 hgrow4 _)
   have R1:Hid (w4.ownsRow (w2.heap.size+1) 3 1 v' (j+1) (([k,q,ep,pe,ek,p,i,b,he,hn].take (j+1)).map (Value.int .i64))):=by
    have ht:[k,q,ep,pe,ek,p,i,b,he,hn].take (j+1)=[k,q,ep,pe,ek,p,i,b,he,hn].take j++[x]:=by
     rw[←ae HX];exact Be [k,q,ep,pe,ek,p,i,b,he,hn] j (by simp;omega)
    rw[ht,List.map_append];exact hown4
   have R2:Below (w2.heap.size+1) (w2.alloc (.cells (dR w.heap.size) 294)) w4:=(gF.alloc ij _).grown hgrow4 (by simp;omega) (by intro t ht;exact(bK.lt t ht).1);clear hown4 hgrow4 bK kp kq;go_wp2
   go_roundw
   case rel=>exact⟨j+1,by omega,by go_num,R1.out,R2⟩
   case measure=>simp[intOf];omega
  ·have PA:j=10:=by omega
   subst PA;obtain⟨g,cap,hv,GN,Cp,hg3⟩:=Kg bK (by omega);subst hv;clear bK
   go_wp2_with fail
   refine(JL g 0 cap [k,q,ep,pe,ek,p,i,b,he,hn] _ Cp (by simp) ?_ hg3).mono ?_
   ·intro n sf;exact HR.out n (by simp at sf⊢;exact sf)
   rintro e w5 ⟨rfl,hr5,Oe⟩;go_wp2;go_ret2;refine⟨_,rfl, ?_,hr5, ?_⟩
   ·have:=gF.size;simp at this;omega
   ·exact Below.next (Below.next (ae HB) (gF.mono (by simp))) Oe
theorem Ff(k q ep pe ek p i b he hn:Int)(w:tA)(h:aC k q ep pe ek p i b he hn=0)(hk:¬(k=2∨k=5)):
  cA 179 #[.agg #[iV k,iV q,iV ep,iV pe,iV ek,iV p,iV i,iV b,iV he,iV hn]] w fun e w'=>
   ∃g,e= .returned (.tuple #[.slice (some ⟨g,0,none⟩) 16 16,iV 0])∧w.heap.size≤g∧RowK .u8 w' (some ⟨g,0,none⟩) 16 (dZ [k,q,ep,pe])∧bZ w w':=by
 have HR:Hid (∀n∈[k,q,ep,pe,ek,p,i,b,he,hn],0≤n∧n≤2147483647):=jR h;have HF:Hid (aC k q ep pe ek p i b he hn=0):=h;have HK:Hid (¬(k=2∨k=5)):=hk;clear h hk;obtain⟨i0,hi,AU,vZ,uz⟩:=info_parts Tryz.Wq;go_enter Tryz.func179,Tryz.ntmps179
 go_wp2_with fail
 refine(jQ _ _ _ _ _ _ _ _ _ _ _).mono ?_;rintro e w1 ⟨rfl,b1⟩;rw[HF.out];have mm:∀o,w1.cell? ⟨w.heap.size,o,none⟩=_:=fun o=>b1.cell (p:=⟨w.heap.size,o,none⟩) (by simp);have hz:w.heap.size<w1.heap.size:=by have:=b1.size;simp at this;omega
 go_wp2_with fail
 refine(ja _ _).mono ?_;rintro e w2 ⟨rfl,b2⟩;have jo:∀o,w2.cell? ⟨w.heap.size,o,none⟩=_:=fun o=>(b2.cell (p:=⟨w.heap.size,o,none⟩) (by simpa using hz)).trans (mm o);have hz3:w.heap.size<w2.heap.size:=by have:=b2.size;omega
 go_wp2_with (go_at_call 209;refine(vI _ _ HK.out).mono ?_;rintro e w3 ⟨rfl,rfl⟩)
 have hP:∀o,o<10→(w2.alloc (.cells (dR w.heap.size) 294)).cell? ⟨w2.heap.size,o,none⟩=some (.pointer (some ⟨w.heap.size,o,none⟩)):=fun o ho=>uK w2 _ o ho;have hQ:∀o,o<10→(w2.alloc (.cells (dR w.heap.size) 294)).cell? ⟨w.heap.size,o,none⟩=some (iV ([k,q,ep,pe,ek,p,i,b,he,hn].getD o 0)):=fun o ho=>by
  rw[(aA w2 _).cell (p:=⟨w.heap.size,o,none⟩) hz3,jo o];exact Bf w [k,q,ep,pe,ek,p,i,b,he,hn] _ o ho
 have BB:Below w.heap.size w (w2.alloc (.cells (dR w.heap.size) 294)):=Below.next (Below.next (nQ b1) b2) (aA w2 _);clear mm jo b1 b2;have HP:=bG hP;have HQ:=bG hQ;have HB:=bG BB;clear hP hQ BB
 go_loopw [7,22] (fun v t wr=>∃j:Nat,j≤4∧t=iV j∧wr.ownsRow (w2.heap.size+1) 3 1 v j (([k,q,ep,pe,ek,p,i,b,he,hn].take j).map (Value.int .i64))∧Below (w2.heap.size+1) (w2.alloc (.cells (dR w.heap.size) 294)) wr)
  (fun _ t _=>4-(intOf t).toNat)
 case atStart=>exact⟨0,Nat.zero_le _,rfl,World.ownsRow_nil _ _ _ _,Below.refl _ _⟩
 case round=>
  obtain⟨j,hj,rfl,bK,gF⟩:=hrel;by_cases aL:j<4
  ·have kp:wr.cell? ⟨w2.heap.size,j,none⟩=some (.pointer (some ⟨w.heap.size,j,none⟩)):=(gF.cell (by simp)).trans (ae HP j (by omega));have kq:wr.cell? ⟨w.heap.size,j,none⟩=some (iV ([k,q,ep,pe,ek,p,i,b,he,hn].getD j 0)):=(gF.cell (by simp;omega)).trans (ae HQ j (by omega));obtain⟨x,hx⟩:∃x,[k,q,ep,pe,ek,p,i,b,he,hn].getD j 0=x:=⟨_,rfl⟩;rw[hx]at kq;have HX:=bG hx;clear hx;have ij:w2.heap.size+1≤wr.heap.size:=by have:=gF.size;simpa using this
   go_wp2_with (at_builtin;refine wpList_append_own _ rfl _ _ 71 rfl (w2.heap.size+1) 3 i0 (iV 0) 1 8 Tryz.underlying71 hi AU vZ uz rfl (by decide) _ _ _ rfl (bK.alloc _) ⟨wr.heap.size,0,none⟩ 1 1 [iV x] rfl rfl (cell_one_new _ _ _) (ints_oneCell .i64 [x]) (by unfold maxLen;omega) (by omega) (by simp;omega) ?_;intro v' w4 hown4 hgrow4 _)
   have R1:Hid (w4.ownsRow (w2.heap.size+1) 3 1 v' (j+1) (([k,q,ep,pe,ek,p,i,b,he,hn].take (j+1)).map (Value.int .i64))):=by
    have ht:[k,q,ep,pe,ek,p,i,b,he,hn].take (j+1)=[k,q,ep,pe,ek,p,i,b,he,hn].take j++[x]:=by
     rw[←ae HX];exact Be [k,q,ep,pe,ek,p,i,b,he,hn] j (by simp;omega)
    rw[ht,List.map_append];exact hown4
   have R2:Below (w2.heap.size+1) (w2.alloc (.cells (dR w.heap.size) 294)) w4:=(gF.alloc ij _).grown hgrow4 (by simp;omega) (by intro t ht;exact(bK.lt t ht).1);clear hown4 hgrow4 bK kp kq;go_wp2
   go_roundw
   case rel=>exact⟨j+1,by omega,by go_num,R1.out,R2⟩
   case measure=>simp[intOf];omega
  ·have PA:j=4:=by omega
   subst PA;obtain⟨g,cap,hv,GN,Cp,hg3⟩:=Kg bK (by omega);subst hv;clear bK
   go_wp2_with fail
   refine(JL g 0 cap [k,q,ep,pe] _ Cp (by simp) ?_ hg3).mono ?_
   ·intro n sf;exact HR.out n (by simp at sf⊢;rcases sf with h|h|h|h<;>simp[h])
   rintro e w5 ⟨rfl,hr5,Oe⟩;go_wp2;go_ret2;refine⟨_,rfl, ?_,hr5, ?_⟩
   ·have:=gF.size;simp at this;omega
   ·exact Below.next (Below.next (ae HB) (gF.mono (by simp))) Oe
theorem kY(n:Int)(agP:0≤n)(agQ:n<2^62):IntKind.i64.wrap n=n:=by rw[IntKind.wrap_i64];omega
theorem adJ(c0 c1:Int)(r0:0≤c0)(s0:c0≤255)(r1:0≤c1)(s1:c1≤255):bits .or .i64 (c0*16777216) (c1*65536)=c0*16777216+c1*65536:=
 bits_join .i64 62 (by decide) kY 24 _ _ (by omega) (by omega) (by omega) (by omega) (by omega) (by omega)
theorem adK(c0 c1 c2:Int)(r0:0≤c0)(s0:c0≤255)(r1:0≤c1)(s1:c1≤255)(r2:0≤c2)(s2:c2≤255):bits .or .i64 (c0*16777216+c1*65536) (c2*256)=c0*16777216+c1*65536+c2*256:=
 bits_join .i64 62 (by decide) kY 16 _ _ (by omega) (by omega) (by omega) (by omega) (by omega) (by omega)
theorem or8(c0 c1 c2 c3:Int)(r0:0≤c0)(s0:c0≤255)(r1:0≤c1)(s1:c1≤255)(r2:0≤c2)(s2:c2≤255)(r3:0≤c3)(s3:c3≤255):bits .or .i64 (c0*16777216+c1*65536+c2*256) c3=c0*16777216+c1*65536+c2*256+c3:=
 bits_join .i64 62 (by decide) kY 8 _ _ (by omega) (by omega) (by omega) (by omega) (by omega) (by omega)
def gL(l:tF):Int×Int:=
 if l.length<4 then(0,4)
 else if 127<l.getD 0 0 then(0,2)
 else(16777216*l.getD 0 0+65536*l.getD 1 0+256*l.getD 2 0+l.getD 3 0,0)
theorem Ik(b off len cap:Nat)(c0 c1 c2 c3:Int)(w:tA)(hl:4≤len)
  (k0:w.cell? ⟨b,off,none⟩=some (.int .u8 c0)) (k1:w.cell? ⟨b,off+1,none⟩=some (.int .u8 c1)) (k2:w.cell? ⟨b,off+2,none⟩=some (.int .u8 c2)) (k3:w.cell? ⟨b,off+3,none⟩=some (.int .u8 c3))
  (r0:0≤c0) (s0:c0≤255) (r1:0≤c1) (s1:c1≤255) (r2:0≤c2) (s2:c2≤255) (r3:0≤c3) (s3:c3≤255):
  cA 237 #[.slice (some ⟨b,off,none⟩) len cap] w fun e w'=>
   e= .returned (if 127<c0 then .tuple #[iV 0,iV 2]else .tuple #[iV (16777216*c0+65536*c1+256*c2+c3),iV 0])∧∃n,w'=w.drewN n:=by
 have J1:=adJ c0 c1 r0 s0 r1 s1;have J2:=adK c0 c1 c2 r0 s0 r1 s1 r2 s2;have J3:=or8 c0 c1 c2 c3 r0 s0 r1 s1 r2 s2 r3 s3;by_cases hc:127<c0
 ·rw[if_pos hc];go_enter Tryz.func237,Tryz.ntmps237;go_wp2
  go_quiet (fail)
  go_wp2;go_ret2;exact⟨rfl,_,rfl⟩
 ·rw[if_neg hc];go_enter Tryz.func237,Tryz.ntmps237;go_wp2
  go_quiet (fail)
  go_wp2;go_ret2;refine⟨?_,_,rfl⟩;rw[show 16777216*c0+65536*c1+256*c2+c3=c0*16777216+c1*65536+c2*256+c3 by omega];rfl
theorem Il(a:tB)(len cap:Nat)(w:tA)(hl:len<4):cA 237 #[.slice a len cap] w fun e w'=>e= .returned (.tuple #[iV 0,iV 4])∧w=w':=by
 go_enter Tryz.func237,Tryz.ntmps237;go_wp2;go_ret2;exact⟨rfl,rfl⟩
theorem eV{l:tF}(hw:∀u∈l,(Lit.int .u8 u).wf=true)(k:Nat):0≤l.getD k 0∧l.getD k 0≤255:=by
 by_cases h:k<l.length
 ·have:=bounds_u8 (hw _ (Et l k h));omega
 ·rw[List.getD_eq_getElem?_getD,List.getElem?_eq_none (by omega)];simp
theorem mG{l:tF}(h:l.length<4):gL l=(0,4):=by simp[gL,h]
theorem C0{l:tF}(h:¬l.length<4):Value.tuple #[iV (gL l).1,iV (gL l).2]=if 127<l.getD 0 0 then .tuple #[iV 0,iV 2]else .tuple #[iV (16777216*l.getD 0 0+65536*l.getD 1 0+256*l.getD 2 0+l.getD 3 0),iV 0]:=by
 unfold gL;rw[if_neg h];split<;>rfl
theorem PY(a:tB)(len cap:Nat)(l:tF)(w:tA)(h:RowK .u8 w a len l):
  cA 237 #[.slice a len cap] w fun e w'=>e= .returned (.tuple #[iV (gL l).1,iV (gL l).2])∧∃n,w'=w.drewN n:=by
 by_cases h4:l.length<4
 ·rw[mG h4];refine(Il a len cap w (by rw[←h.b_];exact h4)).mono ?_;rintro e w' ⟨rfl,rfl⟩;exact⟨rfl,0,rfl⟩
 ·rw[C0 h4];have hl:=h.b_;obtain⟨b,off,rfl⟩:=h.form (by omega);have b0:=eV h.wf 0;have b1:=eV h.wf 1;have b2:=eV h.wf 2;have b3:=eV h.wf 3;exact Ik b off len cap _ _ _ _ w (by omega) (h.at 0 (by omega)) (h.at 1 (by omega)) (h.at 2 (by omega)) (h.at 3 (by omega)) b0.1 b0.2 b1.1 b1.2 b2.1 b2.2 b3.1 b3.2
def iG(p:Int×Int)(b:Int):Int×Int:=((p.1+b) % 65521,(p.2+(p.1+b) % 65521) % 65521)
def et(l:tF):Int×Int:=l.foldl iG (1,0)
def sumOf(l:tF):Int:=(et l).2*65536+(et l).1
theorem C1(l:tF)(k:Nat)(h:k<l.length):et (l.take (k+1))=iG (et (l.take k)) (l.getD k 0):=by
 rw[List.take_succ_eq_append_getElem h];simp only[et,List.foldl_append,List.foldl_cons,List.foldl_nil];simp[h]
theorem C8(l:tF)(p:Int×Int)(h0:0≤p.1)(h1:p.1<65521)(h2:0≤p.2)(h3:p.2<65521):
  0≤(l.foldl iG p).1∧(l.foldl iG p).1<65521∧0≤(l.foldl iG p).2∧(l.foldl iG p).2<65521:=by
 induction l generalizing p with
 |nil=>exact⟨h0,h1,h2,h3⟩
 |cons b l ih=>exact ih (iG p b) (by simp only[iG];omega) (by simp only[iG];omega) (by simp only[iG];omega) (by simp only[iG];omega)
theorem pM(l:tF):0≤(et l).1∧(et l).1<65521∧0≤(et l).2∧(et l).2<65521:=
 C8 l (1,0) (by decide) (by decide) (by decide) (by decide)
theorem oF(l:tF):0≤sumOf l∧sumOf l<4293984256:=by
 have:=pM l;unfold sumOf;omega
theorem XZ(s f:Int)(h0:0≤f)(h1:f<65521)(h2:0≤s)(h3:s<65521):bits .or .i64 (s*65536) f=s*65536+f:=
 bits_join .i64 62 (by decide) kY 16 _ _ (by omega) (by omega) (by omega) (by omega) (by omega) (by omega)
theorem T_(a:tB)(len cap:Nat)(l:tF)(w:tA)(h:RowK .u8 w a len l)(hm:len≤140737488351232):
  cA 213 #[.slice a len cap] w fun e w'=>e= .returned (iV (sumOf l))∧w=w':=by
 have hl:=h.b_;go_enter Tryz.func213,Tryz.ntmps213;go_wp2
 go_loopw [3,4,9] (fun x y i wr=>∃k:Nat,k≤len∧i=iV k∧x=iV (et (l.take k)).1∧y=iV (et (l.take k)).2∧wr=w)
  (fun _ _ i _=>len-(intOf i).toNat)
 case atStart=>exact⟨0,Nat.zero_le _,rfl,rfl,rfl,rfl⟩
 case round=>
  obtain⟨k,hk,rfl,rfl,rfl,rfl⟩:=hrel;have hb:=pM (l.take k);by_cases aL:k<len
  ·have HX:Hid (et (l.take (k+1))=iG (et (l.take k)) (l.getD k 0)):=C1 l k (by omega);obtain⟨b,off,rfl⟩:=h.form (by omega);have Za:=h.at k aL;have hx:=eV h.wf k;generalize et (l.take k)=p at hb HX;generalize l.getD k 0=x at Za hx HX;obtain⟨p,q⟩:=p;obtain⟨ur,l9,AN,LF⟩:=hb;obtain⟨hx0,hx1⟩:=hx;simp only at ur l9 AN LF;clear h;go_wp2
   go_roundw
   case rel=>exact⟨k+1,by omega,by go_num,by rw[HX.out];first|done|rfl,by rw[HX.out];first|done|rfl,by first|rfl|trivial⟩
   case measure=>simp[intOf];omega
  ·have j4:k=len:=by omega
   subst j4;rw[List.take_of_length_le (by omega)]at*;have J:=XZ (et l).2 (et l).1 hb.1 hb.2.1 hb.2.2.1 hb.2.2.2;have HX:Hid (sumOf l=(et l).2*65536+(et l).1):=rfl;generalize et l=p at hb HX J;obtain⟨p,q⟩:=p;obtain⟨ur,l9,AN,LF⟩:=hb;simp only at ur l9 AN LF J;go_wp2;go_ret;exact⟨by rw[HX.out];rfl,rfl⟩
theorem kZ(a:tB)(len cap:Nat)(s:Int)(w:tA)(h1:len≤100000)(h2:0≤s)(h3:s≤len):
  cA 136 #[.agg #[.slice a len cap,iV s]] w (rB (.bool true) w):=by
 have d1:(len:Int)≤100000:=by omega
 go_enter Tryz.func136,Tryz.ntmps136;go_wp2;go_ret;exact⟨rfl,aA _ _⟩
theorem Fg(a:tB)(len cap:Nat)(s:Int)(w:tA)(hm:len≤140737488351232)(h:¬(len≤100000∧0≤s∧s≤len)):
  cA 136 #[.agg #[.slice a len cap,iV s]] w (rB (.bool false) w):=by
 by_cases h1:len≤100000
 ·have d1:(len:Int)≤100000:=by omega
  by_cases h2:0≤s
  ·have d2:¬s≤(len:Int):=by omega
   clear h;go_enter Tryz.func136,Tryz.ntmps136;go_wp2;go_ret;exact⟨rfl,aA _ _⟩
  ·clear h;go_enter Tryz.func136,Tryz.ntmps136;go_wp2;go_ret;exact⟨rfl,aA _ _⟩
 ·have d1:¬(len:Int)≤100000:=by omega
  clear h;go_enter Tryz.func136,Tryz.ntmps136;go_wp2;go_ret;exact⟨rfl,aA _ _⟩
structure Part where
 a:Option Addr
 len:Nat
 cap:Nat
 l:List Int
def cW:Part:=⟨none,0,0,[]⟩
def dq(ps:List Part):Nat:=(ps.map (·.len)).sum
def dS(ps:List Part):List Int:=ps.flatMap (·.l)
theorem Fh(ps:List Part)(k:Nat)(h:k<ps.length):ps.take (k+1)=ps.take k++[ps.getD k cW]:=by
 rw[List.take_succ_eq_append_getElem h];simp[h]
theorem ye(ps:List Part)(k:Nat)(h:k<ps.length):dq (ps.take (k+1))=dq (ps.take k)+(ps.getD k cW).len:=by
 rw[Fh ps k h];simp[dq]
theorem C9(ps:List Part)(k:Nat)(h:k<ps.length):dS (ps.take (k+1))=dS (ps.take k)++(ps.getD k cW).l:=by
 rw[Fh ps k h];simp[dS]
theorem oG(ps:List Part)(k:Nat):dq (ps.take k)≤dq ps:=by
 have h:dq (ps.take k++ps.drop k)=dq (ps.take k)+dq (ps.drop k):=by simp only[dq,List.map_append,List.sum_append]
 rw[List.take_append_drop]at h;omega
theorem yh(b off cap:Nat)(ps:List Part)(w:tA)(hlen:ps.length≤1000)(hb:b<w.heap.size)(hs:dq ps≤1000000)
  (hc:∀k,k<ps.length→w.cell? ⟨b,off+k,none⟩=some (.slice (ps.getD k cW).a (ps.getD k cW).len (ps.getD k cW).cap))
  (hr:∀k,k<ps.length→RowK .u8 w (ps.getD k cW).a (ps.getD k cW).len (ps.getD k cW).l∧((ps.getD k cW).a=none→(ps.getD k cW).cap=0)):
  cA 138 #[.slice (some ⟨b,off,none⟩) ps.length cap] w fun e w'=>
   ∃a' bh,e= .returned (.slice a' (dq ps) bh)∧RowK .u8 w' a' (dq ps) (dS ps)∧dq ps≤bh∧(a'=none→bh=0)∧bh≤9223372036854775807∧(∀x,a'=some x→w.heap.size≤x.block)∧bZ w w'∧w'.ownsRow w.heap.size 5 1 (.slice a' (dq ps) bh) (dq ps) ((dS ps).map (Value.int .u8)):=by
 obtain⟨i0,hi,AU,vZ,uz⟩:=info_parts Tryz.O4;have HC:=bG hc;have HR:=bG hr;clear hc hr;go_enter Tryz.func138,Tryz.ntmps138;go_wp2
 go_loopw [3,11] (fun v t wr=>∃j:Nat,j≤ps.length∧t=iV j∧v=iV (dq (ps.take j))∧w=wr) (fun _ t _=>ps.length-(intOf t).toNat)
 case atStart=>exact⟨0,Nat.zero_le _,rfl,rfl,rfl⟩
 case round=>
  obtain⟨j,hj,rfl,rfl,rfl⟩:=hrel;have ht:=oG ps j;by_cases aL:j<ps.length
  ·have kq:=ae HC j aL;have HX:Hid (dq (ps.take (j+1))=dq (ps.take j)+(ps.getD j cW).len):=ye ps j aL;have zz:=oG ps (j+1);rw[ae HX]at zz;generalize ps.getD j cW=p at kq HX zz;obtain⟨pa,pl,pc,pb⟩:=p;generalize dq (ps.take j)=z at HX ht zz;simp only at kq zz;go_wp2
   go_roundw
   case rel=>exact⟨j+1,by omega,by go_num,by rw[ae HX];go_num,by first|rfl|trivial⟩
   case measure=>simp[intOf];omega
  ·have PA:j=ps.length:=by omega
   subst PA;rw[List.take_length]at*
   go_wp2_with (at_make;refine wpList_make_own _ rfl _ _ 122 rfl w.heap.size 5 i0 (.int .u8 0) 1 Tryz.underlying122 hi AU vZ _ _ _ (dq ps) rfl rfl (by omega) (by rw[uz];omega) (by unfold maxLen;omega) (Nat.le_refl _) ?_;intro w1 hown1 hgrow1)
   have l9:bZ w w1:=(Below.refl _ _).grown hgrow1 (Nat.le_refl _) (by simp)
   go_loopw [6,24] (fun v t wr=>∃j:Nat,j≤ps.length∧t=iV j∧wr.ownsRow w.heap.size 5 1 v (dq (ps.take j)) ((dS (ps.take j)).map (Value.int .u8))∧bZ w wr) (fun _ t _=>ps.length-(intOf t).toNat)
   case atStart=>exact⟨0,Nat.zero_le _,rfl,by simpa[dq,dS]using hown1,l9⟩
   case round=>
    obtain⟨j,hj,rfl,bK,gF⟩:=hrel;have ht:=oG ps j;by_cases aL:j<ps.length
    ·have kq:=(gF.cell hb).trans (ae HC j aL);have de:=(ae HR j aL).1.below gF;have pk:=(ae HR j aL).2;have HX:Hid (dq (ps.take (j+1))=dq (ps.take j)+(ps.getD j cW).len):=ye ps j aL;have HY:Hid (dS (ps.take (j+1))=dS (ps.take j)++(ps.getD j cW).l):=C9 ps j aL;have zz:=oG ps (j+1);rw[ae HX]at zz;generalize ps.getD j cW=p at kq HX zz de pk HY;obtain⟨pa,pl,pc,pb⟩:=p;simp only at kq zz de pk;have ij:=gF.size
     go_wp2_with (at_builtin;refine l_ rfl _ _ 122 rfl w.heap.size 5 i0 (.int .u8 0) 1 Tryz.underlying122 hi AU vZ uz rfl .u8 _ _ _ rfl bK pa pl pc pb rfl de pk (by unfold maxLen;omega) (by omega) (by omega) ?_;intro v' w4 hown4 hgrow4)
     have R1:Hid (w4.ownsRow w.heap.size 5 1 v' (dq (ps.take (j+1))) ((dS (ps.take (j+1))).map (Value.int .u8))):=by
      rw[ae HX,ae HY];exact hown4
     have R2:bZ w w4:=gF.grown hgrow4 (by omega) (by intro t ht;exact(bK.lt t ht).1);clear hown4 hgrow4 bK kq de;go_wp2
     go_roundw
     case rel=>exact⟨j+1,by omega,by go_num,R1.out,R2⟩
     case measure=>simp[intOf];omega
    ·have PA:j=ps.length:=by omega
     subst PA;rw[List.take_length]at*
     obtain⟨a',bh,rfl,hr,hc',hm',sf,hx'⟩:=RowK.xc bK (by
      intro u hu;simp only[dS,List.mem_flatMap]at hu;obtain⟨p,hp,hu⟩:=hu;obtain⟨k,hk,hpk⟩:=List.getElem_of_mem hp;have:=(ae HR k hk).1.wf u;rw[List.getD_eq_getElem?_getD,List.getElem?_eq_getElem hk]at this
      exact this (by simpa[hpk]using hu))
     have HO:=bG bK;clear bK;go_wp2;go_ret;exact⟨a',bh,rfl,hr,hc',sf,by unfold maxLen at hm';exact hm',hx',gF,ae HO⟩
theorem rQ(b off cap:Nat)(ps:List Part)(w:tA)(hlen:ps.length≤1000)(hb:b<w.heap.size)(hs:dq ps≤1000000)
  (hc:∀k,k<ps.length→w.cell? ⟨b,off+k,none⟩=some (.slice (ps.getD k cW).a (ps.getD k cW).len (ps.getD k cW).cap))
  (hr:∀k,k<ps.length→RowK .u8 w (ps.getD k cW).a (ps.getD k cW).len (ps.getD k cW).l∧((ps.getD k cW).a=none→(ps.getD k cW).cap=0)):
  cA 138 #[.slice (some ⟨b,off,none⟩) ps.length cap] w fun e w'=>
   ∃a' bh,e= .returned (.slice a' (dq ps) bh)∧RowK .u8 w' a' (dq ps) (dS ps)∧dq ps≤bh∧(a'=none→bh=0)∧bh≤9223372036854775807∧(∀x,a'=some x→w.heap.size≤x.block)∧bZ w w':=by
 refine(yh b off cap ps w hlen hb hs hc hr).mono ?_;rintro e w' ⟨a',bh,h1,h2,h3,h4,h5,h6,h7,_⟩;exact⟨a',bh,h1,h2,h3,h4,h5,h6,h7⟩
def ak(l:tF)(j:Nat):Int:=(gL (l.drop (4*j))).1
def dG(l:tF)(j:Nat):Int:=(gL (l.drop (4*j))).2
def aJ(w:tA)(R:Nat)(zs:tF):Prop:=zs.length=10∧w.heap[R]? =some (.cells (zs.map (Value.int .i64)).toArray 167 (0,0))
def C_(l zs:tF)(s:Nat):Nat→List Int
 |0=>zs
 |j+1=>(C_ l zs s j).set (s+j) (ak l j)
structure aN(R:Nat)(w w':tA):Prop where
 os:w'.os=w.os
 tape:w'.tape=w.tape
 output:w'.output=w.output
 size:w'.heap.size=w.heap.size
 block:∀k,k≠R→w'.heap[k]? =w.heap[k]?
theorem aN.refl(R:Nat)(w:tA):aN R w w:=⟨rfl,rfl,rfl,rfl,fun _ _=>rfl⟩
theorem aN.trans{R:Nat}{a b c:tA}(h:aN R a b)(k:aN R b c):aN R a c:=
 ⟨k.os.trans h.os,k.tape.trans h.tape,k.output.trans h.output,k.size.trans h.size,fun x hx=>(k.block x hx).trans (h.block x hx)⟩
theorem aN.drewN(R:Nat)(w:tA)(n:Nat):aN R w (w.drewN n):=⟨rfl,rfl,rfl,rfl,fun _ _=>rfl⟩
theorem aN.cell{R:Nat}{w w':tA}(h:aN R w w'){b o:Nat}(hb:b≠R):w'.cell? ⟨b,o,none⟩=w.cell? ⟨b,o,none⟩:=World.cell?_of_block (w:=w) (h.block b hb)
theorem aN.row{R:Nat}{k:IntKind}{w w':tA}(h:aN R w w'){a:tB}{len:Nat}{l:tF}(hr:RowK k w a len l)(fw:∀x,a=some x→0<len→x.block≠R):RowK k w' a len l:=
 ⟨hr.b_,hr.wf,fun i hi=>by
  obtain⟨b,off,ha,aL,hc⟩:=hr.cell i hi
  exact⟨b,off,ha,by rw[h.size];exact aL,(h.cell (fw _ ha (by omega))).trans hc⟩⟩
theorem aJ.cell{w:tA}{R:Nat}{zs:tF}(h:aJ w R zs)(o:Nat)(ho:o<10):w.cell? ⟨R,o,none⟩=some (iV (zs.getD o 0)):=by
 have:=h.1;simp[World.cell?,h.2,show o<zs.length by omega]
theorem aJ.free{w:tA}{R:Nat}{zs:tF}(h:aJ w R zs)(o:Nat):w.frozen? ⟨R,o,none⟩=false:=by
 simp[World.frozen?,h.2]
theorem aJ.lt{w:tA}{R:Nat}{zs:tF}(h:aJ w R zs):R<w.heap.size:=by
 rcases Nat.lt_or_ge R w.heap.size with h'|h'
 ·exact h'
 ·have:=h.2;rw[Array.getElem?_eq_none h']at this;cases this
theorem aJ.set{w:tA}{R:Nat}{zs:tF}(h:aJ w R zs)(o:Nat)(x:Int):aJ (w.setCell ⟨R,o,none⟩ (iV x)) R (zs.set o x):=by
 refine⟨by simpa using h.1, ?_⟩;rw[setCell_eq_setRow w R o _ _ (0,0) _ h.2];rw[setRow_heap w R _ _ _ _ h.2];simp[List.map_set]
theorem aJ.drewN{w:tA}{R:Nat}{zs:tF}(h:aJ w R zs)(n:Nat):aJ (w.drewN n) R zs:=h
theorem aN.set(R o:Nat)(w:tA)(v:tJ):aN R w (w.setCell ⟨R,o,none⟩ v):=by
 refine⟨?_, ?_, ?_, ?_,fun k hk=>Below.heap_setCell w _ v k hk⟩<;>(unfold World.setCell;split<;>simp)
theorem RowK.aax{k:IntKind}{w:tA}{b off len:Nat}{l:tF}(h:RowK k w (some ⟨b,off,none⟩) len l)(a:tB)(h4:4≤len)(ha:4<len→a=some ⟨b,off+4,none⟩):RowK k w a (len-4) (l.drop 4):=by
 refine⟨by simp[h.b_],fun u hu=>h.wf u (List.mem_of_mem_drop hu),fun i hi=> ?_⟩;refine⟨b,off+4,ha (by omega),h.lt (by omega), ?_⟩;have:=h.at (4+i) (by omega);rw[Nat.add_assoc,this];simp[List.getD_eq_getElem?_getD]
theorem Fi(N R s n aay:Nat)(a:tB)(len cap:Nat)(l zs:tF)(w:tA)(hs:s+n≤10)(hN:N≠R)
    (hp:∀o,o<10→w.cell? ⟨N,o,none⟩=some (.pointer (some ⟨R,o,none⟩))) (hR:aJ w R zs) (hb:RowK .u8 w a len l) (fw:∀x,a=some x→0<len→x.block≠R) (qk:len≤cap) (hc:cap≤9223372036854775807):
    cA 215 #[.slice (some ⟨N,s,none⟩) n aay,.slice a len cap] w fun e w'=>
      ((∃a' bh e_,e= .returned (.slice a' e_ bh)∧(∀t,t<n→dG l t=0)∧RowK .u8 w' a' e_ (l.drop (4*n))∧(∀x,a'=some x→0<e_→x.block≠R)∧e_≤bh∧bh≤9223372036854775807∧aJ w' R (C_ l zs s n))∨
       (∃t zs',t<n∧(∀u,u<t→dG l u=0)∧dG l t≠0∧e= .panicked [{v:= .iface 35 (iV (dG l t)),recovered:=false}]∧aJ w' R zs'))∧aN R w w':=by
  go_enter Tryz.func215,Tryz.ntmps215;go_wp2
  go_loopw [1,11] (fun v i wr=>∃(j e_ bh:Nat) (a':tB),j≤n∧i=iV j∧v= .slice a' e_ bh∧(∀t,t<j→dG l t=0)∧RowK .u8 wr a' e_ (l.drop (4*j))∧(∀x,a'=some x→0<e_→x.block≠R)∧e_≤bh∧bh≤9223372036854775807∧aJ wr R (C_ l zs s j)∧aN R w wr)
    (fun _ i _=>n-(intOf i).toNat)
  case atStart=>exact⟨0,len,cap,a,Nat.zero_le _,rfl,rfl,fun t ht=>by omega,by simpa using hb,fw,qk,hc,hR,aN.refl _ _⟩
  case round=>
    obtain⟨j,e_,bh,a',hj,rfl,rfl,uL,de,hne',hlc',hc',hrec,hsame⟩:=hrel;by_cases aL:j<n
    ·have kp:wr.cell? ⟨N,s+j,none⟩=some (.pointer (some ⟨R,s+j,none⟩)):=(hsame.cell hN).trans (hp (s+j) (by omega));have HE:=bG uL;have HR:=bG de;have HC:=bG hrec;have HS:=bG hsame;clear uL de hrec hsame hR hb hp
     go_wp2_with fail
     refine(PY _ _ _ _ _ (ae HR)).mono ?_;rintro e w1 ⟨rfl,q,rfl⟩;by_cases hz:dG l j=0
     ·have h4:4≤e_:=by
         have h1:=(ae HR).b_;rcases Nat.lt_or_ge (l.drop (4*j)).length 4 with h|h
         ·exfalso;have:=hz;unfold dG at this;rw[mG h]at this;simp at this
         ·omega
      obtain⟨b0,qI,rfl⟩:=(ae HR).form (by omega);have hz':((gL (l.drop (4*j))).2 !=0)=false:=by simpa[dG]using hz
      have kr:=(ae HC).cell (s+j) (by omega);have kf:=(ae HC).free (s+j);go_wp2
      go_region
      all_goals
        generalize hA:(if bh=4 then some (⟨b0,qI,none⟩:Addr)else some ⟨b0,qI+4,none⟩)=A';have HA:=bG hA;clear hA kr kf kp hz';go_wp2
        go_roundw
        case rel=>
          have hS:aN R wr ((wr.drewN (q+1)).setCell ⟨R,s+j,none⟩ (iV (gL (l.drop (4*j))).1)):=(aN.drewN R wr (q+1)).trans (aN.set R (s+j) _ _);have Zh:(l.drop (4*j)).drop 4=l.drop (4*(j+1)):=by rw[List.drop_drop];congr 1
          have hA4:4<e_→A'=some ⟨b0,qI+4,none⟩:=fun h=>by rw[←ae HA,if_neg (by omega)]
          have hAb:∀x,A'=some x→0<e_-4→x.block≠R:=fun x hx hp=>by
            have h1:=hne' _ rfl (by omega);rw[←ae HA]at hx;split at hx<;>(simp at hx;subst hx;exact h1)
          refine⟨j+1,e_-4,bh-4,A',by omega,by go_num,rfl, ?_, ?_,hAb,by omega,by omega, ?_,(ae HS).trans hS⟩
          ·intro t ht;by_cases h:t=j
           ·rw[h];exact hz
           ·exact ae HE t (by omega)
          ·rw[←Zh];exact hS.row ((ae HR).aax A' h4 hA4) hAb
          ·exact((ae HC).drewN (q+1)).set (s+j) _
        case measure=>simp[intOf];omega
     ·have hz':((gL (l.drop (4*j))).2 !=0)=true:=by simpa[dG]using hz
      go_wp2;exact⟨rfl,.inr ⟨j,_,aL,ae HE,hz,rfl,(ae HC).drewN q⟩,(ae HS).trans (aN.drewN R wr q)⟩
    ·have hjn:j=n:=by omega
     subst hjn;have HE:=bG uL;have HR:=bG de;have HC:=bG hrec;have HS:=bG hsame;clear uL de hrec hsame hR hb hp;go_wp2;go_ret;exact⟨.inl ⟨a',bh,e_,rfl,ae HE,ae HR,hne',hlc',hc',ae HC⟩,ae HS⟩
def aK(w:tA)(R:Nat)(a:tB)(len cap:Nat)(s:Int):Prop:=w.heap[R]? =some (.cells #[.slice a len cap,iV s] 124 (0,0))
theorem aK.cell0{w:tA}{R:Nat}{a:tB}{len cap:Nat}{s:Int}(h:aK w R a len cap s):w.cell? ⟨R,0,none⟩=some (.slice a len cap):=by
 unfold aK at h;simp[World.cell?,h]
theorem aK.kI{w:tA}{R:Nat}{a:tB}{len cap:Nat}{s:Int}(h:aK w R a len cap s):w.cell? ⟨R,1,none⟩=some (iV s):=by
 unfold aK at h;simp[World.cell?,h]
theorem aK.free{w:tA}{R:Nat}{a:tB}{len cap:Nat}{s:Int}(h:aK w R a len cap s)(o:Nat):w.frozen? ⟨R,o,none⟩=false:=by
 unfold aK at h;simp[World.frozen?,h]
theorem aK.lt{w:tA}{R:Nat}{a:tB}{len cap:Nat}{s:Int}(h:aK w R a len cap s):R<w.heap.size:=by
 unfold aK at h;rcases Nat.lt_or_ge R w.heap.size with h'|h'
 ·exact h'
 ·simp[Array.getElem?_eq_none h']at h
theorem aK.below{w w':tA}{R B:Nat}{a:tB}{len cap:Nat}{s:Int}(h:aK w R a len cap s)(hb:Below B w w')(hR:R<B):aK w' R a len cap s:=by
 unfold aK at h⊢;rw[←h];exact hb.block R hR
theorem aK.new(w:tA)(a:tB)(len cap:Nat)(s:Int):aK (w.alloc (.cells #[.slice a len cap,iV s] 124)) w.heap.size a len cap s:=heap_alloc_new w _
theorem aK.store{w:tA}{R:Nat}{a:tB}{len cap:Nat}{s:Int}(h:aK w R a len cap s)(a':tB)(e_ bh:Nat)(s':Int):
  aK ((w.setCell ⟨R,0,none⟩ (.slice a' e_ bh)).setCell ⟨R,1,none⟩ (iV s')) R a' e_ bh s':=by
 unfold aK at h⊢;have h1:(w.setCell ⟨R,0,none⟩ (.slice a' e_ bh)).heap[R]? =some (.cells #[.slice a' e_ bh,iV s] 124 (0,0)):=by
  rw[setCell_eq_setRow w R 0 _ _ (0,0) _ h,setRow_heap w R _ _ _ _ h];simp
 rw[setCell_eq_setRow _ R 1 _ _ (0,0) _ h1,setRow_heap _ R _ _ _ _ h1];simp
theorem cB(w:tA)(R:Nat)(v v':tJ):aN R w ((w.setCell ⟨R,0,none⟩ v).setCell ⟨R,1,none⟩ v'):=(aN.set R 0 w v).trans (aN.set R 1 _ v')
theorem aN.under{R B:Nat}{w w1 w2:tA}(hb:Below B w w1)(h:aN R w1 w2)(hR:B≤R):Below B w w2:=
 ⟨h.os.trans hb.os,h.tape.trans hb.tape,h.output.trans hb.output,by rw[h.size];exact hb.size,fun k hk=>(h.block k (by omega)).trans (hb.block k hk)⟩
theorem PZ{W:tA}{R:Nat}{a:tB}{len cap:Nat}{s:Int}{tmps:tN}(h:aK W R a len cap s)(t:tmps[2]? =some (.pointer (some ⟨R,0,none⟩))):
  (results Tryz.f137 tmps).run Tryz.prog W= .ok (.agg #[.slice a len cap,iV s]) W:=by
 have k0:=h.cell0;have k1:=h.kI;simp[results,Tryz.results137,go_sem,k0,k1,t]
theorem P0{W:tA}{R:Nat}{a:tB}{len cap:Nat}{s e:Int}{tmps:tN}(h:aK W R a len cap s)(t:tmps[2]? =some (.pointer (some ⟨R,0,none⟩)))(te:tmps[3]? =some (iV e)):
  (results Tryz.f134 tmps).run Tryz.prog W= .ok (.tuple #[.agg #[.slice a len cap,iV s],iV e]) W:=by
 have k0:=h.cell0;have k1:=h.kI;simp[results,Tryz.results134,go_sem,k0,k1,t,te]
theorem Bh{W:tA}{R:Nat}{a:tB}{len cap:Nat}{s e:Int}{tmps:tN}(h:aK W R a len cap s)(t:tmps[4]? =some (.pointer (some ⟨R,0,none⟩)))(te:tmps[5]? =some (iV e)):
  (results Tryz.f84 tmps).run Tryz.prog W= .ok (.tuple #[.agg #[.slice a len cap,iV s],iV e]) W:=by
 have k0:=h.cell0;have k1:=h.kI;simp[results,Tryz.results84,go_sem,k0,k1,t,te]
theorem Fj(a:tB)(len cap:Nat)(l:tF)(w:tA)(h:RowK .u8 w a len l)(hn:a=none→cap=0)(hm:len≤1000000):
  cA 137 #[.slice a len cap] w fun e w'=>
   ∃a' bh,e= .returned (.agg #[.slice a' len bh,iV len])∧RowK .u8 w' a' len l∧len≤bh∧(a'=none→bh=0)∧bh≤9223372036854775807∧(∀x,a'=some x→w.heap.size≤x.block)∧bZ w w':=by
 go_enter Tryz.func137,Tryz.ntmps137
 go_wp2_with fail
 refine(rQ (w.heap.size+1) 0 1 [⟨a,len,cap,l⟩] _ (by simp) (by simp) (by simp[dq];omega) ?_ ?_).mono ?_
 ·intro k hk
  match k,hk with
  |0,_=>simp
 ·intro k hk
  match k,hk with
  |0,_=>exact⟨h.below (fV _ _ _),hn⟩
 rintro e w1 ⟨a',bh,rfl,r1,c1,n1,m1,x1,b1⟩;have e1:dq [⟨a,len,cap,l⟩]=len:=by simp[dq]
 have e2:dS [⟨a,len,cap,l⟩]=l:=by simp[dS]
 rw[e1,e2]at r1;rw[e1]at c1⊢;clear e1 e2;have tb:aK w1 w.heap.size none 0 0 0:=(((aK.new w none 0 0 0).below (aA _ _) (by simp)).below b1 (by simp;omega));have k0:=tb.cell0;have k1:=tb.kI;have kf:=tb.free;have B1:=bG (ss b1);have X1:Hid (∀x,a'=some x→w.heap.size+1≤x.block):=bG (fun x hx=>by have:=x1 x hx;simp at this;omega);clear b1 x1;go_wp2;refine bodyPost_ret (PZ (tb.store a' len bh len) rfl) rfl ⟨a',bh,rfl,(cB w1 w.heap.size _ _).row r1 (fun x hx _=>by have:=ae X1 x hx;omega),c1,n1,m1,fun x hx=>by have:=ae X1 x hx;omega,(cB w1 w.heap.size _ _).under (ae B1) (Nat.le_refl _)⟩
theorem na(w:tA)(a:tB)(len cap:Nat)(s:Int):∃W,W=(w.alloc (.cells #[.slice a len cap,iV s] 124)).alloc (.cells #[.slice none 0 0,iV 0] 124)∧
  aK W w.heap.size a len cap s∧aK W (w.heap.size+1) none 0 0 0∧bZ w W∧W.heap.size=w.heap.size+2:=
 ⟨_,rfl,(aK.new w a len cap s).below (aA _ _) (by simp),by have:=aK.new (w.alloc (.cells #[.slice a len cap,iV s] 124)) none 0 0 0;simpa using this,fV _ _ _,by simp⟩
theorem P3(a:tB)(len cap:Nat)(l:tF)(s:Int)(w:tA)(h:RowK .u8 w a len l)(hn:a=none→cap=0)(h1:len≤100000)(h2:0≤s)(h3:s≤len):
  cA 134 #[.agg #[.slice a len cap,iV s]] w fun e w'=>
   ∃a' bh,e= .returned (.tuple #[.agg #[.slice a' len bh,iV len],iV 0])∧RowK .u8 w' a' len l∧len≤bh∧(a'=none→bh=0)∧bh≤9223372036854775807∧(∀x,a'=some x→w.heap.size≤x.block)∧bZ w w':=by
 go_enter Tryz.func134,Tryz.ntmps134
 go_wp2_with fail
 obtain⟨W,hW,tb0,sq,B0,S0⟩:=na w a len cap s;rw[←hW];have r0:=h.below B0;clear hW;refine(kZ a len cap s _ h1 h2 h3).mono ?_;rintro e w1 ⟨rfl,b1⟩;have r1:=r0.below b1;have z1:=b1.size;have ta:=tb0.below b1 tb0.lt;have wh:=sq.below b1 sq.lt;have B1:=Below.next B0 b1;have i0:=ta.cell0;clear tb0 sq r0 b1 B0
 go_wp2_with fail
 refine(Fj a len cap l _ r1 hn (by omega)).mono ?_;rintro e w2 ⟨a',bh,rfl,r2,c2,n2,m2,x2,b2⟩;have Mj:=wh.below b2 wh.lt;have B2:=Below.next B1 b2;have j0:=Mj.cell0;have j1:=Mj.kI;have jf:=Mj.free;clear wh b2 i0 ta;go_wp2;exact bodyPost_ret (P0 (Mj.store a' len bh len) rfl rfl) rfl ⟨a',bh,rfl,(cB w2 _ _ _).row r2 (fun x hx _=>by have:=x2 x hx;omega),c2,n2,m2,fun x hx=>by have:=x2 x hx;omega,(cB w2 _ _ _).under B2 (by omega)⟩
theorem RowK.take{k:IntKind}{w:tA}{a:tB}{len:Nat}{l:tF}(h:RowK k w a len l)(n:Nat)(hn:n≤len):RowK k w a n (l.take n):=by
 have hl:=h.b_;refine⟨by simp;omega,fun u hu=>h.wf u (List.mem_of_mem_take hu),fun i hi=> ?_⟩;obtain⟨b,off,ha,aL,hc⟩:=h.cell i (by omega);refine⟨b,off,ha,aL, ?_⟩;rw[hc];simp[List.getD_eq_getElem?_getD,hi]
def leftOf(len:Nat)(s keep:Int):Nat:=(if keep<len-s then s+keep else len).toNat
theorem aaz(a:tB)(len cap:Nat)(s keep:Int)(w:tA)(hm:len≤140737488351232)(h:¬(len≤100000∧0≤s∧s≤len)):
  cA 84 #[.agg #[.slice a len cap,iV s],iV keep] w (rB (.tuple #[.agg #[.slice none 0 0,iV 0],iV 6]) w):=by
 go_enter Tryz.func84,Tryz.ntmps84
 go_wp2_with fail
 obtain⟨W,hW,tb0,sq,B0,S0⟩:=na w a len cap s;rw[←hW];clear hW;refine(Fg a len cap s _ hm h).mono ?_;rintro e w1 ⟨rfl,b1⟩;have wh:=sq.below b1 sq.lt;have j0:=wh.cell0;have j1:=wh.kI;have jf:=wh.free;go_wp2;exact bodyPost_ret (Bh (wh.store none 0 0 0) rfl rfl) rfl ⟨rfl,(cB w1 _ _ _).under (Below.next B0 b1) (by omega)⟩
theorem Mk(a:tB)(len cap:Nat)(l:tF)(s keep:Int)(w:tA)(h:RowK .u8 w a len l)(hn:a=none→cap=0)(hc:len≤cap)(h1:len≤100000)(h2:0≤s)(h3:s≤len)(hk:0≤keep)(XI:keep≤9223372036854775807):
  cA 84 #[.agg #[.slice a len cap,iV s],iV keep] w fun e w'=>
   ∃a' bh,e= .returned (.tuple #[.agg #[.slice a' (leftOf len s keep) bh,iV (leftOf len s keep)],iV 0])∧RowK .u8 w' a' (leftOf len s keep) (l.take (leftOf len s keep))∧leftOf len s keep≤bh∧(a'=none→bh=0)∧bh≤9223372036854775807∧(∀x,a'=some x→w.heap.size≤x.block)∧bZ w w':=by
 have d0:¬keep<0:=by omega
 go_enter Tryz.func84,Tryz.ntmps84
 go_wp2_with fail
 obtain⟨W,hW,tb0,sq,B0,S0⟩:=na w a len cap s;rw[←hW];have r0:=h.below B0;clear hW;refine(kZ a len cap s _ h1 h2 h3).mono ?_;rintro e w1 ⟨rfl,b1⟩;have r1:=r0.below b1;have z1:=b1.size;have ta:=tb0.below b1 tb0.lt;have wh:=sq.below b1 sq.lt;have B1:=Below.next B0 b1;have i0:=ta.cell0;have i1:=ta.kI;clear tb0 sq r0 b1 B0;have hle:leftOf len s keep≤len:=by unfold leftOf;split<;>omega
 go_wp2_with fail
 all_goals
  first
   |rw[show(s+keep).toNat=leftOf len s keep by unfold leftOf;split<;>omega]
   |rw[show(s+(↑len-s)).toNat=leftOf len s keep by unfold leftOf;split<;>omega]
   |rw[show(s+min keep (↑len-s)).toNat=leftOf len s keep by unfold leftOf;split<;>omega]
  refine(Fj a (leftOf len s keep) cap (l.take (leftOf len s keep)) _ (r1.take (leftOf len s keep) hle) hn (by omega)).mono ?_;rintro e w2 ⟨a',bh,rfl,r2,c2,n2,m2,x2,b2⟩;have Mj:=wh.below b2 wh.lt;have B2:=Below.next B1 b2;have j0:=Mj.cell0;have j1:=Mj.kI;have jf:=Mj.free;clear wh b2 i0 ta;go_wp2;exact bodyPost_ret (Bh (Mj.store a' (leftOf len s keep) bh (leftOf len s keep)) rfl rfl) rfl ⟨a',bh,rfl,(cB w2 _ _ _).row r2 (fun x hx _=>by have:=x2 x hx;omega),c2,n2,m2,fun x hx=>by have:=x2 x hx;omega,(cB w2 _ _ _).under B2 (by omega)⟩
theorem uM{w w':tA}{base e size n:Nat}{v:tJ}{xs:tK}(h:w.ownsRow base e size v n xs)(hb:bZ w w'):w'.ownsRow base e size v n xs:=by
 obtain⟨h1,h2⟩:=h;refine⟨h1, ?_⟩;rcases h2 with h|⟨g,cap,cur,hv,hg,hh,r⟩
 ·exact .inl h
 ·refine .inr ⟨g,cap,cur,hv,hg, ?_,r⟩;have aL:g<w.heap.size:=by
   rcases Nat.lt_or_ge g w.heap.size with h'|h'
   ·exact h'
   ·rw[Array.getElem?_eq_none h']at hh;cases hh
  rw[hb.block g aL];exact hh
def kB(l:tF):List Int:=[(l.length:Int)/256,(l.length:Int) % 256]++l
def dL(l:tF):List Int:=kB l++four (sumOf (kB l))
theorem yi(l:tF):(kB l).length=l.length+2:=by simp[kB]
theorem mn(l:tF):(dL l).length=l.length+6:=by simp[dL,kB,four]
theorem Ml(n:Int)(h0:0≤n)(h1:n<4294967296):∀u∈four n,(Lit.int .u8 u).wf=true:=by
 intro u hu;simp only[four,List.mem_cons,List.not_mem_nil,or_false]at hu;rcases hu with rfl|rfl|rfl|rfl<;>exact WalkArith.wf_u8 (by omega)
theorem P4(l:tF):∀u∈four (sumOf l),(Lit.int .u8 u).wf=true:=Ml _ (oF l).1 (by have:=(oF l).2;omega)
theorem P5(n:Nat)(h:n≤65535):∀u∈[(n:Int)/256,(n:Int) % 256],(Lit.int .u8 u).wf=true:=by
 intro u hu;simp only[List.mem_cons,List.not_mem_nil,or_false]at hu;rcases hu with rfl|rfl<;>exact WalkArith.wf_u8 (by omega)
theorem bH(w:tA)(o:Obj):(w.alloc o).heap.size=w.heap.size+1:=by simp
theorem yj(a:tB)(len cap:Nat)(l:tF)(w:tA)(h:RowK .u8 w a len l)(hm:len≤1000000):
  cA 188 #[.slice a len cap] w fun e w'=>
   e= .returned (.slice (some ⟨w.heap.size,0,none⟩) 4 4)∧RowK .u8 w' (some ⟨w.heap.size,0,none⟩) 4 (four (sumOf l))∧bZ w w':=by
 go_enter Tryz.func188,Tryz.ntmps188
 go_wp2_with fail
 refine(T_ a len cap l _ h (by omega)).mono ?_;rintro e w1 ⟨rfl,rfl⟩;have hw:=P4 l;obtain⟨s0,s1⟩:=oF l;obtain⟨s,hs⟩:∃s,sumOf l=s:=⟨_,rfl⟩;rw[hs]at hw s0 s1;rw[hs];have HS:=bG hs;have hw:=bG hw;clear hs;go_wp2;go_ret;rw[ae HS];exact⟨rfl,RowK.Jw (World.ownsRow_lit (base:=w.heap.size) (e:=5) (size:=1) w ((four s).map (Value.int .u8)).toArray 4 (Nat.le_refl _) (by decide) rfl) rfl (ae hw),aA _ _⟩
theorem Mm(a:tB)(len cap:Nat)(l:tF)(w:tA)(h:RowK .u8 w a len l)(hn:a=none→cap=0)(hm:len≤65535):
  cA 180 #[.slice a len cap] w fun e w'=>
   ∃a' bh,e= .returned (.slice a' (len+6) bh)∧RowK .u8 w' a' (len+6) (dL l)∧len+6≤bh∧(a'=none→bh=0)∧bh≤9223372036854775807∧(∀x,a'=some x→w.heap.size≤x.block)∧bZ w w':=by
 obtain⟨i0,hi,AU,vZ,uz⟩:=info_parts Tryz.O4;have hl:=h.b_;go_enter Tryz.func180,Tryz.ntmps180
 go_wp2_with fail
 refine(yh (w.heap.size+1) 0 2 [⟨some ⟨w.heap.size,0,none⟩,2,2,[(len:Int)/256,(len:Int) % 256]⟩,⟨a,len,cap,l⟩] _ (by simp) (by simp) (by simp[dq];omega) ?_ ?_).mono ?_
 ·intro k hk
  match k,hk with
  |0,_=>simp
  |1,_=>simp
 ·intro k hk
  match k,hk with
  |0,_=>exact⟨(RowK.Jw (World.ownsRow_lit (base:=w.heap.size) (e:=5) (size:=1) w ([(len:Int)/256,(len:Int) % 256].map (Value.int .u8)).toArray 2 (Nat.le_refl _) (by decide) rfl) rfl (P5 len hm)).below (aA _ _),by simp⟩
  |1,_=>exact⟨h.below (fV _ _ _),hn⟩
 rintro e w1 ⟨a1,cap1,rfl,r1,c1,n1,m1,x1,b1,o1⟩;have e1:dq [⟨some ⟨w.heap.size,0,none⟩,2,2,[(len:Int)/256,(len:Int) % 256]⟩,⟨a,len,cap,l⟩]=len+2:=by simp[dq];omega
 have e2:dS [⟨some ⟨w.heap.size,0,none⟩,2,2,[(len:Int)/256,(len:Int) % 256]⟩,⟨a,len,cap,l⟩]=kB l:=by simp[dS,kB,hl]
 rw[e1,e2]at r1 o1;rw[e1]at c1⊢;clear e1 e2;have B1:=bG (ss b1);have z1:w.heap.size+2≤w1.heap.size:=by have:=b1.size;rw[bH,bH]at this;omega
 rw[bH,bH]at o1;clear b1 x1
 go_wp2_with fail
 refine(yj a1 (len+2) cap1 (kB l) _ r1 (by omega)).mono ?_;rintro e w2 ⟨rfl,r2,b2⟩;have o2:=uM o1 b2;have z2:=b2.size
 go_wp2_with (at_builtin;refine l_ rfl _ _ 122 rfl _ 5 i0 (.int .u8 0) 1 Tryz.underlying122 hi AU vZ uz rfl .u8 _ _ _ rfl o2 _ 4 4 _ rfl r2 (by simp) (by unfold maxLen;omega) (by omega) (by omega) ?_;intro v' w3 hown3 hgrow3)
 have aL:=o2.lt
 obtain⟨a',bh,rfl,hr,hc',hm',sf,hx'⟩:=RowK.xc hown3 (fun u hu=>by
  rcases List.mem_append.1 hu with hu|hu
  ·exact r1.wf u hu
  ·exact r2.wf u hu)
 have B3:Hid (bZ w w3):=(Below.next (ae B1) b2).grown hgrow3 (by omega) (by intro t ht;have:=(aL t ht).1;omega);have HR:Hid (RowK .u8 w3 a' (len+6) (dL l)):=hr;clear hown3 hgrow3 o1 o2 r2 hr aL;go_wp2;go_ret;exact⟨a',bh,rfl,ae HR,hc',sf,by unfold maxLen at hm';exact hm',fun x hx=>by have:=hx' x hx;omega,ae B3⟩
theorem aJ.zero{w:tA}{R:Nat}{zs:tF}(h:aJ w R zs):
  aJ ((((((((((w.setCell ⟨R,0,none⟩ (iV 0)).setCell ⟨R,1,none⟩ (iV 0)).setCell ⟨R,2,none⟩ (iV 0)).setCell ⟨R,3,none⟩ (iV 0)).setCell ⟨R,4,none⟩ (iV 0)).setCell ⟨R,5,none⟩ (iV 0)).setCell ⟨R,6,none⟩ (iV 0)).setCell ⟨R,7,none⟩ (iV 0)).setCell ⟨R,8,none⟩ (iV 0)).setCell ⟨R,9,none⟩ (iV 0)) R [0,0,0,0,0,0,0,0,0,0]:=by
 have hl:=h.1
 match zs,hl,h with
 |[_,_,_,_,_,_,_,_,_,_],_,h=>exact(((((((((h.set 0 0).set 1 0).set 2 0).set 3 0).set 4 0).set 5 0).set 6 0).set 7 0).set 8 0).set 9 0
theorem aN.zero(w:tA)(R:Nat):
  aN R w ((((((((((w.setCell ⟨R,0,none⟩ (iV 0)).setCell ⟨R,1,none⟩ (iV 0)).setCell ⟨R,2,none⟩ (iV 0)).setCell ⟨R,3,none⟩ (iV 0)).setCell ⟨R,4,none⟩ (iV 0)).setCell ⟨R,5,none⟩ (iV 0)).setCell ⟨R,6,none⟩ (iV 0)).setCell ⟨R,7,none⟩ (iV 0)).setCell ⟨R,8,none⟩ (iV 0)).setCell ⟨R,9,none⟩ (iV 0)):=
 (((((((((aN.set R 0 w _).trans (aN.set R 1 _ _)).trans (aN.set R 2 _ _)).trans (aN.set R 3 _ _)).trans (aN.set R 4 _ _)).trans (aN.set R 5 _ _)).trans (aN.set R 6 _ _)).trans (aN.set R 7 _ _)).trans (aN.set R 8 _ _)).trans (aN.set R 9 _ _)
theorem aN.below{R B:Nat}{w w':tA}(h:aN R w w')(hB:B≤R):Below B w w':=
 ⟨h.os,h.tape,h.output,by rw[h.size];exact Nat.le_refl _,fun k hk=>h.block k (by omega)⟩
theorem aJ.other{w:tA}{R E:Nat}{zs:tF}(h:aJ w R zs)(fw:R≠E)(o:Nat)(v:tJ):aJ (w.setCell ⟨E,o,none⟩ v) R zs:=
 ⟨h.1,(Below.heap_setCell w _ v R fw).trans h.2⟩
theorem X0(R E:Nat)(zs:tF)(x y:Int)(t:tT)(w:tA)(hR:aJ w R zs)(hE:w.heap[E]? =some (.cells #[iV y] t (0,0)))(fw:R≠E):
  aJ (((((((((((w.setCell ⟨R,0,none⟩ (iV 0)).setCell ⟨R,1,none⟩ (iV 0)).setCell ⟨R,2,none⟩ (iV 0)).setCell ⟨R,3,none⟩ (iV 0)).setCell ⟨R,4,none⟩ (iV 0)).setCell ⟨R,5,none⟩ (iV 0)).setCell ⟨R,6,none⟩ (iV 0)).setCell ⟨R,7,none⟩ (iV 0)).setCell ⟨R,8,none⟩ (iV 0)).setCell ⟨R,9,none⟩ (iV 0)).setCell ⟨E,0,none⟩ (iV x)).drew R [0,0,0,0,0,0,0,0,0,0]∧
  (((((((((((w.setCell ⟨R,0,none⟩ (iV 0)).setCell ⟨R,1,none⟩ (iV 0)).setCell ⟨R,2,none⟩ (iV 0)).setCell ⟨R,3,none⟩ (iV 0)).setCell ⟨R,4,none⟩ (iV 0)).setCell ⟨R,5,none⟩ (iV 0)).setCell ⟨R,6,none⟩ (iV 0)).setCell ⟨R,7,none⟩ (iV 0)).setCell ⟨R,8,none⟩ (iV 0)).setCell ⟨R,9,none⟩ (iV 0)).setCell ⟨E,0,none⟩ (iV x)).drew.cell? ⟨E,0,none⟩=some (iV x)∧
  Below (min R E) w (((((((((((w.setCell ⟨R,0,none⟩ (iV 0)).setCell ⟨R,1,none⟩ (iV 0)).setCell ⟨R,2,none⟩ (iV 0)).setCell ⟨R,3,none⟩ (iV 0)).setCell ⟨R,4,none⟩ (iV 0)).setCell ⟨R,5,none⟩ (iV 0)).setCell ⟨R,6,none⟩ (iV 0)).setCell ⟨R,7,none⟩ (iV 0)).setCell ⟨R,8,none⟩ (iV 0)).setCell ⟨R,9,none⟩ (iV 0)).setCell ⟨E,0,none⟩ (iV x)).drew:=by
 have h1:=hR.zero;have h2:=aN.zero w R;generalize((((((((((w.setCell ⟨R,0,none⟩ (iV 0)).setCell ⟨R,1,none⟩ (iV 0)).setCell ⟨R,2,none⟩ (iV 0)).setCell ⟨R,3,none⟩ (iV 0)).setCell ⟨R,4,none⟩ (iV 0)).setCell ⟨R,5,none⟩ (iV 0)).setCell ⟨R,6,none⟩ (iV 0)).setCell ⟨R,7,none⟩ (iV 0)).setCell ⟨R,8,none⟩ (iV 0)).setCell ⟨R,9,none⟩ (iV 0))=W at h1 h2;have hE':W.heap[E]? =some (.cells #[iV y] t (0,0)):=(h2.block E (Ne.symm fw)).trans hE;refine⟨h1.other fw 0 _, ?_,((h2.below (Nat.min_le_left _ _)).setCell (p:=⟨E,0,none⟩) (Nat.min_le_right _ _) _).drew⟩;show(W.setCell ⟨E,0,none⟩ (iV x)).cell? ⟨E,0,none⟩=_;rw[World.cell?_of_block (w:=W.setCell ⟨E,0,none⟩ (iV x)) rfl];have:=setCell_eq_setRow W E 0 _ _ (0,0) (iV x) hE';rw[this];simp[World.cell?,setRow_heap W E _ _ _ _ hE']
theorem pf(R E:Nat)(zs:tF)(x y:Int)(t:tT)(w:tA)(hR:aJ w R zs)(hE:w.heap[E]? =some (.cells #[iV y] t (0,0)))(fw:R≠E):
  CallsD Tryz.prog 214 #[.pointer (some ⟨R,0,none⟩),.pointer (some ⟨E,0,none⟩)] (.panicking [{v:= .iface 35 (iV x),recovered:=false}]) w fun e u' w'=>
   e= .returned (.tuple #[])∧u'= .panicking [{v:= .iface 35 (iV x),recovered:=true}]∧aJ w' R [0,0,0,0,0,0,0,0,0,0]∧w'.cell? ⟨E,0,none⟩=some (iV x)∧Below (min R E) w w':=by
 refine callsD_of_wpS Tryz.func214 rfl fun c₀ cs hu=> ?_;apply wpS_seq;apply wpS_region;simp[wpOpsS,go_sem,recoverD,hu,Tryz.ntmps214,Exit.thenS];have ht: #[Value.pointer (some ⟨R,0,none⟩),Value.pointer (some ⟨E,0,none⟩)]++(((Array.replicate 7 undef).setIfInBounds 1 (Value.iface 35 (iV x))).setIfInBounds 0 (Value.iface 35 (iV x)))=
   #[.pointer (some ⟨R,0,none⟩),.pointer (some ⟨E,0,none⟩),.iface 35 (iV x),.iface 35 (iV x),undef,undef,undef,undef,undef]:=rfl
 rw[ht];refine wpS_of_wp ?_;have k0:=hR.cell 0 (by omega);have k1:=hR.cell 1 (by omega);have k2:=hR.cell 2 (by omega);have k3:=hR.cell 3 (by omega);have k4:=hR.cell 4 (by omega);have k5:=hR.cell 5 (by omega);have k6:=hR.cell 6 (by omega);have k7:=hR.cell 7 (by omega);have k8:=hR.cell 8 (by omega);have k9:=hR.cell 9 (by omega);have kf:=hR.free;have ke:w.cell? ⟨E,0,none⟩=some (iV y):=by simp[World.cell?,hE]
 have Mo:w.frozen? ⟨E,0,none⟩=false:=by simp[World.frozen?,hE]
 have ta:∀W:World,(Instr.typeAssert (.iface 35 (iV x)) 20 35 false).run Tryz.prog W= .ok (iV x) W:=fun _=>by kernel_rfl
 go_wp2
 go_region
 show bodyPostS _ _ _ _ _ _ _ _ _;have Z:=X0 R E zs x y t w hR hE fw;generalize(((((((((((w.setCell ⟨R,0,none⟩ (iV 0)).setCell ⟨R,1,none⟩ (iV 0)).setCell ⟨R,2,none⟩ (iV 0)).setCell ⟨R,3,none⟩ (iV 0)).setCell ⟨R,4,none⟩ (iV 0)).setCell ⟨R,5,none⟩ (iV 0)).setCell ⟨R,6,none⟩ (iV 0)).setCell ⟨R,7,none⟩ (iV 0)).setCell ⟨R,8,none⟩ (iV 0)).setCell ⟨R,9,none⟩ (iV 0)).setCell ⟨E,0,none⟩ (iV x)).drew=W at Z;clear k0 k1 k2 k3 k4 k5 k6 k7 k8 k9 kf ke Mo ta hR hE;simp[bodyPostS,results,Tryz.results214];exact Z
theorem jS(p q:Addr)(w:tA):
  CallsD Tryz.prog 214 #[.pointer (some p),.pointer (some q)] .returning w fun e u' w'=>e= .returned (.tuple #[])∧u'= .returning∧w=w':=by
 refine callsD_of_wpS Tryz.func214 rfl fun c₀ cs hu=> ?_;apply wpS_seq;apply wpS_region;simp[wpOpsS,go_sem,recoverD,hu,Tryz.ntmps214,Exit.thenS];have ht: #[Value.pointer (some p),Value.pointer (some q)]++(((Array.replicate 7 undef).setIfInBounds 1 Value.nilIface).setIfInBounds 0 Value.nilIface)=
   #[.pointer (some p),.pointer (some q),.nilIface,.nilIface,undef,undef,undef,undef,undef]:=rfl
 rw[ht];refine wpS_of_wp ?_;go_wp2;show bodyPostS _ _ _ _ _ _ _ _ _;cases c₀
 simp_all [bodyPostS,results,Tryz.results214]
theorem aJ.below{w w':tA}{R B:Nat}{zs:tF}(h:aJ w R zs)(hb:Below B w w')(hR:R<B):aJ w' R zs:=⟨h.1,(hb.block R hR).trans h.2⟩
def iz(l:tF):Nat→Nat→Int
 |_,0=>0
 |s,n+1=>if dG l s=0 then iz l (s+1) n else dG l s
def jb(k:Int):Bool:=decide (k=2∨k=5)
def fe(l:tF):List Int:=
 [ak l 0,ak l 1,ak l 2,ak l 3]++(if jb (ak l 0)then[ak l 4,ak l 5,ak l 6,ak l 7,ak l 8,ak l 9]else[0,0,0,0,0,0])
def jw(l:tF):Int:=aC (ak l 0) (ak l 1) (ak l 2) (ak l 3) ((fe l).getD 4 0) ((fe l).getD 5 0) ((fe l).getD 6 0) ((fe l).getD 7 0) ((fe l).getD 8 0) ((fe l).getD 9 0)
def eI:List Int:=[0,0,0,0,0,0,0,0,0,0]
def bO(l:tF):List Int×Int:=
 if ¬iz l 0 4=0 then(eI,iz l 0 4)
 else if jb (ak l 0)=true∧¬iz l 4 6=0 then(eI,iz l 4 6)
 else if ¬l.length=4*(if jb (ak l 0)then 10 else 4)∨¬jw l=0 then(eI,3)
 else(fe l,0)
def jx(zs:tF):Value:= .agg (zs.map (Value.int .i64)).toArray
theorem mH(l:tF):∀(n s t:Nat),t<n→(∀u,u<t→dG l (s+u)=0)→dG l (s+t)≠0→iz l s n=dG l (s+t)
 |0,_,_,h,_,_=>by omega
 |n+1,s,0,_,_,h=>by simp only[iz];rw[if_neg (by simpa using h)];rfl
 |n+1,s,t+1,ht,hu,h=>by
  simp only[iz];rw[if_pos (by simpa using hu 0 (by omega)),mH l n (s+1) t (by omega) (fun u aL=>by have:=hu (u+1) (by omega);rw[show s+1+u=s+(u+1) by omega];exact this) (by rw[show s+1+t=s+(t+1) by omega];exact h)];rw[show s+1+t=s+(t+1) by omega]
theorem iA(l:tF):∀(n s:Nat),(∀u,u<n→dG l (s+u)=0)→iz l s n=0
 |0,_,_=>rfl
 |n+1,s,h=>by
  simp only[iz];rw[if_pos (by simpa using h 0 (by omega))];exact iA l n (s+1) (fun u hu=>by rw[show s+1+u=s+(u+1) by omega];exact h (u+1) (by omega))
theorem oH(l:tF)(t:Nat):dG (l.drop (4*4)) t=dG l (4+t):=by
 unfold dG;rw[List.drop_drop,show 4*4+4*t=4*(4+t) by omega]
theorem jT(l:tF)(t:Nat):ak (l.drop (4*4)) t=ak l (4+t):=by
 unfold ak;rw[List.drop_drop,show 4*4+4*t=4*(4+t) by omega]
theorem Da{l:tF}{t:Nat}(ht:t<4)(hu:∀u,u<t→dG l u=0)(h:dG l t≠0):bO l=(eI,dG l t):=by
 have h1:=mH l 4 0 t ht (fun u aL=>by rw[Nat.zero_add];exact hu u aL) (by rw[Nat.zero_add];exact h);rw[Nat.zero_add]at h1;unfold bO;rw[h1,if_pos h]
theorem zX{l:tF}{t:Nat}(h0:∀u,u<4→dG l u=0)(hk:ak l 0=2∨ak l 0=5)(ht:t<6)(hu:∀u,u<t→dG l (4+u)=0)(h:dG l (4+t)≠0):bO l=(eI,dG l (4+t)):=by
 have h1:=iA l 4 0 (fun u aL=>by rw[Nat.zero_add];exact h0 u aL);have h2:=mH l 6 4 t ht hu h;unfold bO;rw[h1,if_neg (by simp),h2,if_pos ⟨by simp[jb,hk],h⟩]
theorem qq{l:tF}(h0:∀u,u<4→dG l u=0)(hk:ak l 0=2∨ak l 0=5)(h4:∀u,u<6→dG l (4+u)=0):bO l=if ¬l.length=40∨¬jw l=0 then(eI,3)else(fe l,0):=by
 have h1:=iA l 4 0 (fun u aL=>by rw[Nat.zero_add];exact h0 u aL);have h2:=iA l 6 4 h4;have h3:jb (ak l 0)=true:=by simp[jb,hk]
 unfold bO;rw[h1,if_neg (by simp),h2,if_neg (by simp),h3];rfl
theorem mq{l:tF}(h0:∀u,u<4→dG l u=0)(hk:¬(ak l 0=2∨ak l 0=5)):bO l=if ¬l.length=16∨¬jw l=0 then(eI,3)else(fe l,0):=by
 have h1:=iA l 4 0 (fun u aL=>by rw[Nat.zero_add];exact h0 u aL);have h3:jb (ak l 0)=false:=by simp only[jb,decide_eq_false_iff_not];exact hk
 unfold bO;rw[h1,if_neg (by simp),h3,if_neg (by simp)];rfl
theorem yk{l:tF}{n:Nat}(h:∀u,u<n+1→dG l u=0):4*(n+1)≤l.length:=by
 have h1:=h n (by omega);rcases Nat.lt_or_ge (l.drop (4*n)).length 4 with h'|h'
 ·unfold dG at h1;rw[mG h']at h1;simp at h1
 ·simp at h';omega
theorem uN(W:tA)(E:Nat)(y x:Int)(t:tT)(hE:W.heap[E]? =some (.cells #[iV y] t (0,0))):(W.setCell ⟨E,0,none⟩ (iV x)).cell? ⟨E,0,none⟩=some (iV x):=by
 have:=setCell_eq_setRow W E 0 _ _ (0,0) (iV x) hE;rw[this];simp[World.cell?,setRow_heap W E _ _ _ _ hE]
theorem aJ.Kh{W:tA}{R:Nat}{zs:tF}(v0 v1 v2 v3 v4 v5 v6 v7 v8 v9:Int)(h:aJ W R zs):aJ ((((((((((W.setCell ⟨R,0,none⟩ (iV v0)).setCell ⟨R,1,none⟩ (iV v1)).setCell ⟨R,2,none⟩ (iV v2)).setCell ⟨R,3,none⟩ (iV v3)).setCell ⟨R,4,none⟩ (iV v4)).setCell ⟨R,5,none⟩ (iV v5)).setCell ⟨R,6,none⟩ (iV v6)).setCell ⟨R,7,none⟩ (iV v7)).setCell ⟨R,8,none⟩ (iV v8)).setCell ⟨R,9,none⟩ (iV v9)) R [v0,v1,v2,v3,v4,v5,v6,v7,v8,v9]:=by
 have hl:=h.1
 match zs,hl,h with
 |[_,_,_,_,_,_,_,_,_,_],_,h=>exact(((((((((h.set 0 v0).set 1 v1).set 2 v2).set 3 v3).set 4 v4).set 5 v5).set 6 v6).set 7 v7).set 8 v8).set 9 v9
theorem aN.Kh(W:tA)(R:Nat)(v0 v1 v2 v3 v4 v5 v6 v7 v8 v9:Int):aN R W ((((((((((W.setCell ⟨R,0,none⟩ (iV v0)).setCell ⟨R,1,none⟩ (iV v1)).setCell ⟨R,2,none⟩ (iV v2)).setCell ⟨R,3,none⟩ (iV v3)).setCell ⟨R,4,none⟩ (iV v4)).setCell ⟨R,5,none⟩ (iV v5)).setCell ⟨R,6,none⟩ (iV v6)).setCell ⟨R,7,none⟩ (iV v7)).setCell ⟨R,8,none⟩ (iV v8)).setCell ⟨R,9,none⟩ (iV v9)):=
 (((((((((aN.set R 0 W _).trans (aN.set R 1 _ _)).trans (aN.set R 2 _ _)).trans (aN.set R 3 _ _)).trans (aN.set R 4 _ _)).trans (aN.set R 5 _ _)).trans (aN.set R 6 _ _)).trans (aN.set R 7 _ _)).trans (aN.set R 8 _ _)).trans (aN.set R 9 _ _)
theorem jU{w W:tA}{zs:tF}{y:Int}{t:tT}(v0 v1 v2 v3 v4 v5 v6 v7 v8 v9 x:Int)(hR:aJ W w.heap.size zs)(hE:W.heap[w.heap.size+1]? =some (.cells #[iV y] t (0,0)))(hB:bZ w W):
  aJ (((((((((((W.setCell ⟨w.heap.size,0,none⟩ (iV v0)).setCell ⟨w.heap.size,1,none⟩ (iV v1)).setCell ⟨w.heap.size,2,none⟩ (iV v2)).setCell ⟨w.heap.size,3,none⟩ (iV v3)).setCell ⟨w.heap.size,4,none⟩ (iV v4)).setCell ⟨w.heap.size,5,none⟩ (iV v5)).setCell ⟨w.heap.size,6,none⟩ (iV v6)).setCell ⟨w.heap.size,7,none⟩ (iV v7)).setCell ⟨w.heap.size,8,none⟩ (iV v8)).setCell ⟨w.heap.size,9,none⟩ (iV v9)).setCell ⟨w.heap.size+1,0,none⟩ (iV x)) w.heap.size [v0,v1,v2,v3,v4,v5,v6,v7,v8,v9]∧
  (((((((((((W.setCell ⟨w.heap.size,0,none⟩ (iV v0)).setCell ⟨w.heap.size,1,none⟩ (iV v1)).setCell ⟨w.heap.size,2,none⟩ (iV v2)).setCell ⟨w.heap.size,3,none⟩ (iV v3)).setCell ⟨w.heap.size,4,none⟩ (iV v4)).setCell ⟨w.heap.size,5,none⟩ (iV v5)).setCell ⟨w.heap.size,6,none⟩ (iV v6)).setCell ⟨w.heap.size,7,none⟩ (iV v7)).setCell ⟨w.heap.size,8,none⟩ (iV v8)).setCell ⟨w.heap.size,9,none⟩ (iV v9)).setCell ⟨w.heap.size+1,0,none⟩ (iV x)).cell? ⟨w.heap.size+1,0,none⟩=some (iV x)∧
  Below w.heap.size w (((((((((((W.setCell ⟨w.heap.size,0,none⟩ (iV v0)).setCell ⟨w.heap.size,1,none⟩ (iV v1)).setCell ⟨w.heap.size,2,none⟩ (iV v2)).setCell ⟨w.heap.size,3,none⟩ (iV v3)).setCell ⟨w.heap.size,4,none⟩ (iV v4)).setCell ⟨w.heap.size,5,none⟩ (iV v5)).setCell ⟨w.heap.size,6,none⟩ (iV v6)).setCell ⟨w.heap.size,7,none⟩ (iV v7)).setCell ⟨w.heap.size,8,none⟩ (iV v8)).setCell ⟨w.heap.size,9,none⟩ (iV v9)).setCell ⟨w.heap.size+1,0,none⟩ (iV x)):=by
 have h1:=hR.Kh v0 v1 v2 v3 v4 v5 v6 v7 v8 v9;have h2:=aN.Kh W w.heap.size v0 v1 v2 v3 v4 v5 v6 v7 v8 v9;generalize((((((((((W.setCell ⟨w.heap.size,0,none⟩ (iV v0)).setCell ⟨w.heap.size,1,none⟩ (iV v1)).setCell ⟨w.heap.size,2,none⟩ (iV v2)).setCell ⟨w.heap.size,3,none⟩ (iV v3)).setCell ⟨w.heap.size,4,none⟩ (iV v4)).setCell ⟨w.heap.size,5,none⟩ (iV v5)).setCell ⟨w.heap.size,6,none⟩ (iV v6)).setCell ⟨w.heap.size,7,none⟩ (iV v7)).setCell ⟨w.heap.size,8,none⟩ (iV v8)).setCell ⟨w.heap.size,9,none⟩ (iV v9))=V at h1 h2;have hE':V.heap[w.heap.size+1]? =some (.cells #[iV y] t (0,0)):=(h2.block _ (by omega)).trans hE;exact⟨h1.other (by omega) 0 _,uN V _ y x t hE',((hB.trans (h2.below (Nat.le_refl _))).setCell (p:=⟨w.heap.size+1,0,none⟩) (by simp) _)⟩
theorem gR{w W:World}{zs:List Int}{x:Int}{tmps:Array Value}(h1:aJ W w.heap.size zs)(h2:W.cell? ⟨w.heap.size+1,0,none⟩=some (.int .i64 x))(h3:Below w.heap.size w W)
  (t2:tmps[2]? =some (.pointer (some ⟨w.heap.size,0,none⟩))) (t3:tmps[3]? =some (.pointer (some ⟨w.heap.size+1,0,none⟩))):
  Leaves Tryz.prog Tryz.f189 tmps (fun e w'=>e= .returned (.tuple #[jx zs,.int .i64 x])∧Below w.heap.size w w') [] .returning W:=by
 have hl:=h1.1;have k0:=h1.cell 0 (by omega);have k1:=h1.cell 1 (by omega);have k2:=h1.cell 2 (by omega);have k3:=h1.cell 3 (by omega);have k4:=h1.cell 4 (by omega);have k5:=h1.cell 5 (by omega);have k6:=h1.cell 6 (by omega);have k7:=h1.cell 7 (by omega);have k8:=h1.cell 8 (by omega);have k9:=h1.cell 9 (by omega);clear h1
 match zs,hl with
 |[y0,y1,y2,y3,y4,y5,y6,y7,y8,y9],_=>
  simp at k0 k1 k2 k3 k4 k5 k6 k7 k8 k9;simp[Leaves,results,Tryz.results189,go_sem,k0,k1,k2,k3,k4,k5,k6,k7,k8,k9,h2,jx,t2,t3,h3]
theorem Db(k:Int)(t:tF)(h0:0≤k)(h1:k≤2147483647):gL (four k++t)=(k,0):=by
 unfold gL four;have hl:¬([k/16777216,k/65536 % 256,k/256 % 256,k % 256]++t).length<4:=by simp
 rw[if_neg hl];simp only[List.cons_append,List.getD_cons_zero,List.getD_cons_succ];rw[if_neg (by omega)];congr 1;omega
theorem Zi(a b:Int)(ha0:0≤a)(ha1:a≤255)(ur:0≤b)(l9:b≤255):decide (UInt8.ofNat a.toNat<UInt8.ofNat b.toNat)=decide (a<b):=by
 rw[decide_eq_decide,UInt8.lt_iff_toNat_lt];simp only[UInt8.toNat_ofNat'];omega
theorem Im(a:tB)(len cap:Nat)(l:tF)(w:tA)(hb:RowK .u8 w a len l)(qk:len≤cap)(hc:cap≤9223372036854775807):
  cA 189 #[.slice a len cap] w (rB (.tuple #[jx (bO l).1,iV (bO l).2]) w):=by
 have hmf:∀(fn:Fn) (first cap:tN) (w:tA),(Instr.makeFunc fn first cap).run Tryz.prog w= .ok (.func fn first cap) w:=fun _ _ _ _=>rfl;have Zj:aJ ((w.alloc (.cells #[iV 0,iV 0,iV 0,iV 0,iV 0,iV 0,iV 0,iV 0,iV 0,iV 0] 167)).alloc (.cells #[iV 0] 35)) w.heap.size eI:=by
  refine⟨rfl, ?_⟩;rw[Below.heap_alloc _ _ _ (by simp)];exact heap_alloc_new w _
 have Ca:((w.alloc (.cells #[iV 0,iV 0,iV 0,iV 0,iV 0,iV 0,iV 0,iV 0,iV 0,iV 0] 167)).alloc (.cells #[iV 0] 35)).heap[w.heap.size+1]? =some (.cells #[iV 0] 35 (0,0)):=by
  have:=heap_alloc_new (w.alloc (.cells #[iV 0,iV 0,iV 0,iV 0,iV 0,iV 0,iV 0,iV 0,iV 0,iV 0] 167)) (.cells #[iV 0] 35);simpa using this
 have HR0:=bG Zj;have HE0:=bG Ca;have HB:=bG hb;clear Zj Ca hb
 go_enter_defers Tryz.func189,Tryz.ntmps189
 go_wp2_with fail
 refine(ja _ _).mono ?_;rintro e w1 ⟨rfl,b1⟩;have GP:w.heap.size+2≤w1.heap.size:=by have:=b1.size;simp at this;omega
 have HR1:=bG ((ae HR0).below b1 (by simp;omega));have HE1:Hid (w1.heap[w.heap.size+1]? =some (.cells #[iV 0] 35 (0,0))):=bG ((b1.block (w.heap.size+1) (by simp)).trans (ae HE0));have HB1:=bG (ss b1);have HW1:=bG ((ae HB).below (ae HB1));have hblk:∀x,a=some x→0<len→x.block≠w.heap.size:=fun x hx h0=>by
  obtain⟨b0,o0,ur,GQ,_⟩:=(ae HB).cell 0 h0;rw[hx]at ur;simp at ur;subst ur;exact Nat.ne_of_lt GQ
 have HK:=bG hblk;clear HR0 HE0 b1 HB hblk
 go_wp2_with fail
 have XU:=bG ((ae HR1).below (aA w1 (.cells (dR w.heap.size) 294)) (by omega));have xG:Hid ((w1.alloc (.cells (dR w.heap.size) 294)).heap[w.heap.size+1]? =some (.cells #[iV 0] 35 (0,0))):=bG (((aA w1 (.cells (dR w.heap.size) 294)).block (w.heap.size+1) (by omega)).trans (ae HE1));have Zk:=bG ((ae HW1).below (aA w1 (.cells (dR w.heap.size) 294)));have sj:=bG (Below.next (ae HB1) (aA w1 (.cells (dR w.heap.size) 294)));have HP2:Hid (∀o,o<10→(w1.alloc (.cells (dR w.heap.size) 294)).cell? ⟨w1.heap.size,o,none⟩=some (.pointer (some ⟨w.heap.size,o,none⟩))):=bG (fun o ho=>uK w1 _ o ho);clear HR1 HE1 HW1 HB1;refine(Fi w1.heap.size w.heap.size 0 4 10 a len cap l eI _ (by omega) (by omega) (ae HP2) (ae XU) (ae Zk) (ae HK) qk hc).mono ?_;rintro e w2 ⟨(⟨a',bh,e_,rfl,uL,de,hne',hlc',hc',hrec⟩|⟨t,zs',ht,aL,hez,rfl,hrec⟩),hsame⟩
 rotate_left
 ·have Zl:w2.heap[w.heap.size+1]? =some (.cells #[iV 0] 35 (0,0)):=(hsame.block _ (by omega)).trans (ae xG);have zN:=bG ((ae sj).trans (hsame.below (Nat.le_refl _)));have HD:=bG (Da ht aL hez);have pq:=bG hrec;have Ki:=bG Zl;clear XU xG Zk sj HP2 hsame hrec Zl ht aL hez;go_wp2;refine leaves_cons (f:=214) (args:= #[.pointer (some ⟨w.heap.size,0,none⟩),.pointer (some ⟨w.heap.size+1,0,none⟩)]) (by simp) (by simp[go_sem]) ?_;refine(pf w.heap.size (w.heap.size+1) _ (dG l t) 0 35 _ (ae pq) (ae Ki) (by omega)).mono ?_;rintro e u' w9 ⟨rfl,rfl,z1,z2,z3⟩;have BB:=(ae zN).trans (z3.mono (by omega));rw[ae HD];exact gR z1 z2 BB rfl rfl
 ·have Zl:w2.heap[w.heap.size+1]? =some (.cells #[iV 0] 35 (0,0)):=(hsame.block _ (by omega)).trans (ae xG);have zN:=bG ((ae sj).trans (hsame.below (Nat.le_refl _)));have HP3:Hid (∀o,o<10→w2.cell? ⟨w1.heap.size,o,none⟩=some (.pointer (some ⟨w.heap.size,o,none⟩))):=bG (fun o ho=>(hsame.cell (by omega)).trans (ae HP2 o ho));have pq:Hid (aJ w2 w.heap.size [ak l 0,ak l 1,ak l 2,ak l 3,0,0,0,0,0,0]):=bG hrec;have Ki:=bG Zl;have P6:=bG de;have HX:=bG uL;have Ua:=bG hne';clear XU xG Zk sj HP2 hsame hrec Zl de uL HK hne';have kk:w2.cell? ⟨w.heap.size,0,none⟩=some (iV (ak l 0)):=(ae pq).cell 0 (by omega)
  go_wp2_with fail
  by_cases hk:ak l 0=2∨ak l 0=5
  ·refine(sU _ _ hk).mono ?_;rintro e w3 ⟨rfl,rfl⟩;have D0:=bG hk;clear hk kk
   go_wp2_with fail
   refine(Fi w1.heap.size w.heap.size 4 6 6 a' e_ bh (l.drop (4*4)) [ak l 0,ak l 1,ak l 2,ak l 3,0,0,0,0,0,0] _ (by omega) (by omega) (ae HP3) (ae pq) (ae P6) (ae Ua) hlc' hc').mono ?_;rintro e w4 ⟨(⟨a4,cap4,Ub,rfl,uL,de,hne',_,_,hrec⟩|⟨t,zs',ht,aL,hez,rfl,hrec⟩),hsame⟩
   rotate_left
   ·have Zm:w4.heap[w.heap.size+1]? =some (.cells #[iV 0] 35 (0,0)):=(hsame.block _ (by omega)).trans (ae Ki);have JR:=bG ((ae zN).trans (hsame.below (Nat.le_refl _)));have HD:=bG (zX (ae HX) (ae D0) ht (fun u hu=>by rw[←oH];exact aL u hu) (by rw[←oH];exact hez));have qW:=bG hrec;have X2:=bG Zm;clear pq Ki P6 zN HP3 hsame hrec Zm ht aL hez;rw[oH];go_wp2;refine leaves_cons (f:=214) (args:= #[.pointer (some ⟨w.heap.size,0,none⟩),.pointer (some ⟨w.heap.size+1,0,none⟩)]) (by simp) (by simp[go_sem]) ?_;refine(pf w.heap.size (w.heap.size+1) _ (dG l (4+t)) 0 35 _ (ae qW) (ae X2) (by omega)).mono ?_;rintro e u' w9 ⟨rfl,rfl,z1,z2,z3⟩;have BB:=(ae JR).trans (z3.mono (by omega));rw[ae HD];exact gR z1 z2 BB rfl rfl
   ·have Zm:w4.heap[w.heap.size+1]? =some (.cells #[iV 0] 35 (0,0)):=(hsame.block _ (by omega)).trans (ae Ki);have JR:=bG ((ae zN).trans (hsame.below (Nat.le_refl _)));have Wt:aJ w4 w.heap.size [ak l 0,ak l 1,ak l 2,ak l 3,ak l 4,ak l 5,ak l 6,ak l 7,ak l 8,ak l 9]:=by
     have h:aJ w4 w.heap.size [ak l 0,ak l 1,ak l 2,ak l 3,ak (l.drop (4*4)) 0,ak (l.drop (4*4)) 1,ak (l.drop (4*4)) 2,ak (l.drop (4*4)) 3,ak (l.drop (4*4)) 4,ak (l.drop (4*4)) 5]:=hrec;rw[jT,jT,jT,jT,jT,jT]at h;exact h
    have qW:=bG Wt;have X2:=bG Zm;have X3:=bG de;have HX4:Hid (∀u,u<6→dG l (4+u)=0):=bG (fun u hu=>by rw[←oH];exact uL u hu)
    have HX6:Hid (∀u,u<10→dG l u=0):=bG (fun u hu=>by
     by_cases h:u<4
     ·exact ae HX u h
     ·have:=ae HX4 (u-4) (by omega);rwa [show 4+(u-4)=u by omega]at this)
    clear pq Ki P6 zN HP3 hsame hrec Wt Zm de uL hne' Ua hlc' hc';have HF:Hid (jw l=aC (ak l 0) (ak l 1) (ak l 2) (ak l 3) (ak l 4) (ak l 5) (ak l 6) (ak l 7) (ak l 8) (ak l 9)):=bG (by unfold jw fe;rw[show jb (ak l 0)=true from by simp only[jb,decide_eq_true_iff];exact ae D0];rfl);have HN:Hid (fe l=[ak l 0,ak l 1,ak l 2,ak l 3,ak l 4,ak l 5,ak l 6,ak l 7,ak l 8,ak l 9]):=bG (by unfold fe;rw[show jb (ak l 0)=true from by simp only[jb,decide_eq_true_iff];exact ae D0];rfl);have HL:Hid (l.length-40=Ub):=bG (by have:=(ae X3).b_;simp at this;omega);have HL2:Hid (40≤l.length):=bG (yk (ae HX6));by_cases GQ:0<Ub
    ·have HD:Hid (bO l=(eI,3)):=bG (by rw[qq (ae HX) (ae D0) (ae HX4),if_pos (.inl (by have:=ae HL;omega))]);have Lg:(0:Int)<(Ub:Int):=by omega
     have k0:=(ae qW).cell 0 (by omega);have k1:=(ae qW).cell 1 (by omega);have k2:=(ae qW).cell 2 (by omega);have k3:=(ae qW).cell 3 (by omega);have k4:=(ae qW).cell 4 (by omega);have k5:=(ae qW).cell 5 (by omega);have k6:=(ae qW).cell 6 (by omega);have k7:=(ae qW).cell 7 (by omega);have k8:=(ae qW).cell 8 (by omega);have k9:=(ae qW).cell 9 (by omega);simp only[List.getD_cons_zero,List.getD_cons_succ]at k0 k1 k2 k3 k4 k5 k6 k7 k8 k9;have kf:=(ae qW).free;have ke:w4.cell? ⟨w.heap.size+1,0,none⟩=some (iV 0):=by simp[World.cell?,ae X2]
     have Mo:w4.frozen? ⟨w.heap.size+1,0,none⟩=false:=by simp[World.frozen?,ae X2]
     go_wp2;refine leaves_cons (f:=214) (args:= #[.pointer (some ⟨w.heap.size,0,none⟩),.pointer (some ⟨w.heap.size+1,0,none⟩)]) (by simp) (by simp[go_sem]) ?_;refine(jS ⟨w.heap.size,0,none⟩ ⟨w.heap.size+1,0,none⟩ _).mono ?_;rintro e u' w9 ⟨rfl,rfl,rfl⟩;have Z:=jU 0 0 0 0 0 0 0 0 0 0 3 (ae qW) (ae X2) (ae JR);clear k0 k1 k2 k3 k4 k5 k6 k7 k8 k9 kf ke Mo;rw[ae HD];exact gR Z.1 Z.2.1 Z.2.2 rfl rfl
    ·have AU:Ub=0:=by omega
     have P7:l.length=40:=by have:=ae HL;have:=ae HL2;omega
     have Uc:=bG P7;clear P7 GQ;subst AU;have k0:=(ae qW).cell 0 (by omega);have k1:=(ae qW).cell 1 (by omega);have k2:=(ae qW).cell 2 (by omega);have k3:=(ae qW).cell 3 (by omega);have k4:=(ae qW).cell 4 (by omega);have k5:=(ae qW).cell 5 (by omega);have k6:=(ae qW).cell 6 (by omega);have k7:=(ae qW).cell 7 (by omega);have k8:=(ae qW).cell 8 (by omega);have k9:=(ae qW).cell 9 (by omega);simp only[List.getD_cons_zero,List.getD_cons_succ]at k0 k1 k2 k3 k4 k5 k6 k7 k8 k9
     go_wp2_with fail
     refine(jQ _ _ _ _ _ _ _ _ _ _ _).mono ?_;rintro e w7 ⟨rfl,b7⟩;clear k0 k1 k2 k3 k4 k5 k6 k7 k8 k9;have kN:=bG ((ae qW).below b7 (ae qW).lt);have Mp:Hid (w7.heap[w.heap.size+1]? =some (.cells #[iV 0] 35 (0,0))):=bG ((b7.block _ (lt_of_block (ae X2))).trans (ae X2));have Pa:=bG (Below.next (ae JR) b7);by_cases hf:aC (ak l 0) (ak l 1) (ak l 2) (ak l 3) (ak l 4) (ak l 5) (ak l 6) (ak l 7) (ak l 8) (ak l 9)=0
     ·have HD:Hid (bO l=([ak l 0,ak l 1,ak l 2,ak l 3,ak l 4,ak l 5,ak l 6,ak l 7,ak l 8,ak l 9],0)):=bG (by rw[qq (ae HX) (ae D0) (ae HX4),if_neg (by rw[ae HF,ae Uc,hf];simp),ae HN]);have Wu:(aC (ak l 0) (ak l 1) (ak l 2) (ak l 3) (ak l 4) (ak l 5) (ak l 6) (ak l 7) (ak l 8) (ak l 9) !=0)=false:=by simpa using hf
      have k0:=(ae kN).cell 0 (by omega);have k1:=(ae kN).cell 1 (by omega);have k2:=(ae kN).cell 2 (by omega);have k3:=(ae kN).cell 3 (by omega);have k4:=(ae kN).cell 4 (by omega);have k5:=(ae kN).cell 5 (by omega);have k6:=(ae kN).cell 6 (by omega);have k7:=(ae kN).cell 7 (by omega);have k8:=(ae kN).cell 8 (by omega);have k9:=(ae kN).cell 9 (by omega);simp only[List.getD_cons_zero,List.getD_cons_succ]at k0 k1 k2 k3 k4 k5 k6 k7 k8 k9;have kf:=(ae kN).free;have ke:w7.cell? ⟨w.heap.size+1,0,none⟩=some (iV 0):=by simp[World.cell?,ae Mp]
      have Mo:w7.frozen? ⟨w.heap.size+1,0,none⟩=false:=by simp[World.frozen?,ae Mp]
      go_wp2;refine leaves_cons (f:=214) (args:= #[.pointer (some ⟨w.heap.size,0,none⟩),.pointer (some ⟨w.heap.size+1,0,none⟩)]) (by simp) (by simp[go_sem]) ?_;refine(jS ⟨w.heap.size,0,none⟩ ⟨w.heap.size+1,0,none⟩ _).mono ?_;rintro e u' w9 ⟨rfl,rfl,rfl⟩;have Z:=jU (ak l 0) (ak l 1) (ak l 2) (ak l 3) (ak l 4) (ak l 5) (ak l 6) (ak l 7) (ak l 8) (ak l 9) 0 (ae kN) (ae Mp) (ae Pa);clear k0 k1 k2 k3 k4 k5 k6 k7 k8 k9 kf ke Mo;rw[ae HD];exact gR Z.1 Z.2.1 Z.2.2 rfl rfl
     ·have HD:Hid (bO l=(eI,3)):=bG (by rw[qq (ae HX) (ae D0) (ae HX4),if_pos (.inr (by rw[ae HF];exact hf))]);have Wu:(aC (ak l 0) (ak l 1) (ak l 2) (ak l 3) (ak l 4) (ak l 5) (ak l 6) (ak l 7) (ak l 8) (ak l 9) !=0)=true:=by simpa using hf
      have k0:=(ae kN).cell 0 (by omega);have k1:=(ae kN).cell 1 (by omega);have k2:=(ae kN).cell 2 (by omega);have k3:=(ae kN).cell 3 (by omega);have k4:=(ae kN).cell 4 (by omega);have k5:=(ae kN).cell 5 (by omega);have k6:=(ae kN).cell 6 (by omega);have k7:=(ae kN).cell 7 (by omega);have k8:=(ae kN).cell 8 (by omega);have k9:=(ae kN).cell 9 (by omega);simp only[List.getD_cons_zero,List.getD_cons_succ]at k0 k1 k2 k3 k4 k5 k6 k7 k8 k9;have kf:=(ae kN).free;have ke:w7.cell? ⟨w.heap.size+1,0,none⟩=some (iV 0):=by simp[World.cell?,ae Mp]
      have Mo:w7.frozen? ⟨w.heap.size+1,0,none⟩=false:=by simp[World.frozen?,ae Mp]
      go_wp2;refine leaves_cons (f:=214) (args:= #[.pointer (some ⟨w.heap.size,0,none⟩),.pointer (some ⟨w.heap.size+1,0,none⟩)]) (by simp) (by simp[go_sem]) ?_;refine(jS ⟨w.heap.size,0,none⟩ ⟨w.heap.size+1,0,none⟩ _).mono ?_;rintro e u' w9 ⟨rfl,rfl,rfl⟩;have Z:=jU 0 0 0 0 0 0 0 0 0 0 3 (ae kN) (ae Mp) (ae Pa);clear k0 k1 k2 k3 k4 k5 k6 k7 k8 k9 kf ke Mo;rw[ae HD];exact gR Z.1 Z.2.1 Z.2.2 rfl rfl
  ·refine(vI _ _ hk).mono ?_;rintro e w3 ⟨rfl,rfl⟩;have D0:=bG hk;clear hk kk HP3 Ua hlc' hc';have HF:Hid (jw l=aC (ak l 0) (ak l 1) (ak l 2) (ak l 3) 0 0 0 0 0 0):=bG (by unfold jw fe;rw[show jb (ak l 0)=false from by simp only[jb,decide_eq_false_iff_not];exact ae D0];rfl);have HN:Hid (fe l=[ak l 0,ak l 1,ak l 2,ak l 3,0,0,0,0,0,0]):=bG (by unfold fe;rw[show jb (ak l 0)=false from by simp only[jb,decide_eq_false_iff_not];exact ae D0];rfl);have HL:Hid (l.length-16=e_):=bG (by have:=(ae P6).b_;simp at this;omega);have HL2:Hid (16≤l.length):=bG (yk (ae HX));by_cases GQ:0<e_
   ·have HD:Hid (bO l=(eI,3)):=bG (by rw[mq (ae HX) (ae D0),if_pos (.inl (by have:=ae HL;omega))]);have Lg:(0:Int)<(e_:Int):=by omega
    have k0:=(ae pq).cell 0 (by omega);have k1:=(ae pq).cell 1 (by omega);have k2:=(ae pq).cell 2 (by omega);have k3:=(ae pq).cell 3 (by omega);have k4:=(ae pq).cell 4 (by omega);have k5:=(ae pq).cell 5 (by omega);have k6:=(ae pq).cell 6 (by omega);have k7:=(ae pq).cell 7 (by omega);have k8:=(ae pq).cell 8 (by omega);have k9:=(ae pq).cell 9 (by omega);simp only[List.getD_cons_zero,List.getD_cons_succ]at k0 k1 k2 k3 k4 k5 k6 k7 k8 k9;have kf:=(ae pq).free;have ke:w2.cell? ⟨w.heap.size+1,0,none⟩=some (iV 0):=by simp[World.cell?,ae Ki]
    have Mo:w2.frozen? ⟨w.heap.size+1,0,none⟩=false:=by simp[World.frozen?,ae Ki]
    go_wp2;refine leaves_cons (f:=214) (args:= #[.pointer (some ⟨w.heap.size,0,none⟩),.pointer (some ⟨w.heap.size+1,0,none⟩)]) (by simp) (by simp[go_sem]) ?_;refine(jS ⟨w.heap.size,0,none⟩ ⟨w.heap.size+1,0,none⟩ _).mono ?_;rintro e u' w9 ⟨rfl,rfl,rfl⟩;have Z:=jU 0 0 0 0 0 0 0 0 0 0 3 (ae pq) (ae Ki) (ae zN);clear k0 k1 k2 k3 k4 k5 k6 k7 k8 k9 kf ke Mo;rw[ae HD];exact gR Z.1 Z.2.1 Z.2.2 rfl rfl
   ·have AU:e_=0:=by omega
    have P7:l.length=16:=by have:=ae HL;have:=ae HL2;omega
    have Uc:=bG P7;clear P7 GQ;subst AU;have k0:=(ae pq).cell 0 (by omega);have k1:=(ae pq).cell 1 (by omega);have k2:=(ae pq).cell 2 (by omega);have k3:=(ae pq).cell 3 (by omega);have k4:=(ae pq).cell 4 (by omega);have k5:=(ae pq).cell 5 (by omega);have k6:=(ae pq).cell 6 (by omega);have k7:=(ae pq).cell 7 (by omega);have k8:=(ae pq).cell 8 (by omega);have k9:=(ae pq).cell 9 (by omega);simp only[List.getD_cons_zero,List.getD_cons_succ]at k0 k1 k2 k3 k4 k5 k6 k7 k8 k9
    go_wp2_with fail
    refine(jQ _ _ _ _ _ _ _ _ _ _ _).mono ?_;rintro e w7 ⟨rfl,b7⟩;clear k0 k1 k2 k3 k4 k5 k6 k7 k8 k9;have kN:=bG ((ae pq).below b7 (ae pq).lt);have Mp:Hid (w7.heap[w.heap.size+1]? =some (.cells #[iV 0] 35 (0,0))):=bG ((b7.block _ (lt_of_block (ae Ki))).trans (ae Ki));have Pa:=bG (Below.next (ae zN) b7);by_cases hf:aC (ak l 0) (ak l 1) (ak l 2) (ak l 3) 0 0 0 0 0 0=0
    ·have HD:Hid (bO l=([ak l 0,ak l 1,ak l 2,ak l 3,0,0,0,0,0,0],0)):=bG (by rw[mq (ae HX) (ae D0),if_neg (by rw[ae HF,ae Uc,hf];simp),ae HN]);have Wu:(aC (ak l 0) (ak l 1) (ak l 2) (ak l 3) 0 0 0 0 0 0 !=0)=false:=by simpa using hf
     have k0:=(ae kN).cell 0 (by omega);have k1:=(ae kN).cell 1 (by omega);have k2:=(ae kN).cell 2 (by omega);have k3:=(ae kN).cell 3 (by omega);have k4:=(ae kN).cell 4 (by omega);have k5:=(ae kN).cell 5 (by omega);have k6:=(ae kN).cell 6 (by omega);have k7:=(ae kN).cell 7 (by omega);have k8:=(ae kN).cell 8 (by omega);have k9:=(ae kN).cell 9 (by omega);simp only[List.getD_cons_zero,List.getD_cons_succ]at k0 k1 k2 k3 k4 k5 k6 k7 k8 k9;have kf:=(ae kN).free;have ke:w7.cell? ⟨w.heap.size+1,0,none⟩=some (iV 0):=by simp[World.cell?,ae Mp]
     have Mo:w7.frozen? ⟨w.heap.size+1,0,none⟩=false:=by simp[World.frozen?,ae Mp]
     go_wp2;refine leaves_cons (f:=214) (args:= #[.pointer (some ⟨w.heap.size,0,none⟩),.pointer (some ⟨w.heap.size+1,0,none⟩)]) (by simp) (by simp[go_sem]) ?_;refine(jS ⟨w.heap.size,0,none⟩ ⟨w.heap.size+1,0,none⟩ _).mono ?_;rintro e u' w9 ⟨rfl,rfl,rfl⟩;have Z:=jU (ak l 0) (ak l 1) (ak l 2) (ak l 3) 0 0 0 0 0 0 0 (ae kN) (ae Mp) (ae Pa);clear k0 k1 k2 k3 k4 k5 k6 k7 k8 k9 kf ke Mo;rw[ae HD];exact gR Z.1 Z.2.1 Z.2.2 rfl rfl
    ·have HD:Hid (bO l=(eI,3)):=bG (by rw[mq (ae HX) (ae D0),if_pos (.inr (by rw[ae HF];exact hf))]);have Wu:(aC (ak l 0) (ak l 1) (ak l 2) (ak l 3) 0 0 0 0 0 0 !=0)=true:=by simpa using hf
     have k0:=(ae kN).cell 0 (by omega);have k1:=(ae kN).cell 1 (by omega);have k2:=(ae kN).cell 2 (by omega);have k3:=(ae kN).cell 3 (by omega);have k4:=(ae kN).cell 4 (by omega);have k5:=(ae kN).cell 5 (by omega);have k6:=(ae kN).cell 6 (by omega);have k7:=(ae kN).cell 7 (by omega);have k8:=(ae kN).cell 8 (by omega);have k9:=(ae kN).cell 9 (by omega);simp only[List.getD_cons_zero,List.getD_cons_succ]at k0 k1 k2 k3 k4 k5 k6 k7 k8 k9;have kf:=(ae kN).free;have ke:w7.cell? ⟨w.heap.size+1,0,none⟩=some (iV 0):=by simp[World.cell?,ae Mp]
     have Mo:w7.frozen? ⟨w.heap.size+1,0,none⟩=false:=by simp[World.frozen?,ae Mp]
     go_wp2;refine leaves_cons (f:=214) (args:= #[.pointer (some ⟨w.heap.size,0,none⟩),.pointer (some ⟨w.heap.size+1,0,none⟩)]) (by simp) (by simp[go_sem]) ?_;refine(jS ⟨w.heap.size,0,none⟩ ⟨w.heap.size+1,0,none⟩ _).mono ?_;rintro e u' w9 ⟨rfl,rfl,rfl⟩;have Z:=jU 0 0 0 0 0 0 0 0 0 0 3 (ae kN) (ae Mp) (ae Pa);clear k0 k1 k2 k3 k4 k5 k6 k7 k8 k9 kf ke Mo;rw[ae HD];exact gR Z.1 Z.2.1 Z.2.2 rfl rfl
def bytesOf(x0 x1 x2 x3 x4 x5 x6 x7 x8 x9:Int):List Int:=if x0=2∨x0=5 then dZ [x0,x1,x2,x3,x4,x5,x6,x7,x8,x9]else dZ [x0,x1,x2,x3]
theorem Mq(x0 x1 x2 x3 x4 x5 x6 x7 x8 x9:Int)(w:tA)(h:aC x0 x1 x2 x3 x4 x5 x6 x7 x8 x9=0):
  cA 179 #[.agg #[iV x0,iV x1,iV x2,iV x3,iV x4,iV x5,iV x6,iV x7,iV x8,iV x9]] w fun e w'=>
   ∃g n,e= .returned (.tuple #[.slice (some ⟨g,0,none⟩) n n,iV 0])∧n=(if x0=2∨x0=5 then 40 else 16)∧RowK .u8 w' (some ⟨g,0,none⟩) n (bytesOf x0 x1 x2 x3 x4 x5 x6 x7 x8 x9)∧bZ w w':=by
 by_cases hk:x0=2∨x0=5
 ·refine(Ij _ _ _ _ _ _ _ _ _ _ w h hk).mono ?_;rintro e w' ⟨g,rfl,_,hr,hb⟩;exact⟨g,40,rfl,by rw[if_pos hk],by unfold bytesOf;rw[if_pos hk];exact hr,hb⟩
 ·refine(Ff _ _ _ _ _ _ _ _ _ _ w h hk).mono ?_;rintro e w' ⟨g,rfl,_,hr,hb⟩;exact⟨g,16,rfl,by rw[if_neg hk],by unfold bytesOf;rw[if_neg hk];exact hr,hb⟩
theorem yl:∀(t:Nat) (zs:tF),t≤zs.length→(dZ zs).drop (4*t)=dZ (zs.drop t)
 |0,zs,_=>by simp
 |t+1,[],h=>by simp at h
 |t+1,z::zs,h=>by
  have ih:=yl t zs (by simpa using h);have:dZ (z::zs)=four z++dZ zs:=rfl;rw[this,show 4*(t+1)=4+4*t by omega,←List.drop_drop];have h4:(four z++dZ zs).drop 4=dZ zs:=rfl;rw[h4,ih];rfl
theorem Fk(zs tail:tF)(hr:∀n∈zs,0≤n∧n≤2147483647)(t:Nat)(ht:t<zs.length):ak (dZ zs++tail) t=zs.getD t 0∧dG (dZ zs++tail) t=0:=by
 have hd:(dZ zs++tail).drop (4*t)=dZ (zs.drop t)++tail:=by
  rw[List.drop_append_of_le_length (by rw[mT];omega),yl t zs (by omega)]
 unfold ak dG;rw[hd,List.drop_eq_getElem_cons ht];have hm:=hr zs[t] (List.getElem_mem ht);have:dZ (zs[t]::zs.drop (t+1))++tail=four zs[t]++(dZ (zs.drop (t+1))++tail):=by
  rw[show dZ (zs[t]::zs.drop (t+1))=four zs[t]++dZ (zs.drop (t+1)) from rfl,List.append_assoc]
 rw[this,Db _ _ hm.1 hm.2];simp[ht]
theorem Fl(x0 x1 x2 x3 x4 x5 x6 x7 x8 x9:Int)(tail:tF)(hf:aC x0 x1 x2 x3 x4 x5 x6 x7 x8 x9=0)(hz:¬(x0=2∨x0=5)→x4=0∧x5=0∧x6=0∧x7=0∧x8=0∧x9=0):
  bO (bytesOf x0 x1 x2 x3 x4 x5 x6 x7 x8 x9++tail)=if tail=[]then([x0,x1,x2,x3,x4,x5,x6,x7,x8,x9],0)else(eI,3):=by
 have hr:=jR hf;unfold bytesOf;by_cases hk:x0=2∨x0=5
 ·rw[if_pos hk];have A:=fun t ht=>Fk [x0,x1,x2,x3,x4,x5,x6,x7,x8,x9] tail hr t ht;have hlen:(dZ [x0,x1,x2,x3,x4,x5,x6,x7,x8,x9]++tail).length=40+tail.length:=by simp[mT]
  generalize dZ [x0,x1,x2,x3,x4,x5,x6,x7,x8,x9]++tail=L at A hlen;have n0:ak L 0=x0:=(A 0 (by simp)).1;have n1:ak L 1=x1:=(A 1 (by simp)).1;have n2:ak L 2=x2:=(A 2 (by simp)).1;have n3:ak L 3=x3:=(A 3 (by simp)).1;have n4:ak L 4=x4:=(A 4 (by simp)).1;have n5:ak L 5=x5:=(A 5 (by simp)).1;have n6:ak L 6=x6:=(A 6 (by simp)).1;have n7:ak L 7=x7:=(A 7 (by simp)).1;have n8:ak L 8=x8:=(A 8 (by simp)).1;have n9:ak L 9=x9:=(A 9 (by simp)).1;have H4:jb x0=true:=by simp[jb,hk]
  have hn:fe L=[x0,x1,x2,x3,x4,x5,x6,x7,x8,x9]:=by unfold fe;rw[n0,H4,n1,n2,n3,n4,n5,n6,n7,n8,n9];rfl
  have hF:jw L=0:=by unfold jw;rw[hn,n0,n1,n2,n3];exact hf
  rw[qq (fun u hu=>(A u (by simp;omega)).2) (by rw[n0];exact hk) (fun u hu=>(A (4+u) (by simp;omega)).2),hF,hn,hlen];cases tail with
  |nil=>simp
  |cons y ys=>simp
 ·rw[if_neg hk];obtain⟨rfl,rfl,rfl,rfl,rfl,rfl⟩:=hz hk;have hr4:∀n∈[x0,x1,x2,x3],0≤n∧n≤2147483647:=fun n hn=>hr n (by simp at hn⊢;rcases hn with h|h|h|h<;>simp[h])
  have A:=fun t ht=>Fk [x0,x1,x2,x3] tail hr4 t ht;have hlen:(dZ [x0,x1,x2,x3]++tail).length=16+tail.length:=by simp[mT]
  generalize dZ [x0,x1,x2,x3]++tail=L at A hlen;have n0:ak L 0=x0:=(A 0 (by simp)).1;have n1:ak L 1=x1:=(A 1 (by simp)).1;have n2:ak L 2=x2:=(A 2 (by simp)).1;have n3:ak L 3=x3:=(A 3 (by simp)).1;have H4:jb x0=false:=by simp only[jb,decide_eq_false_iff_not];exact hk
  have hn:fe L=[x0,x1,x2,x3,0,0,0,0,0,0]:=by unfold fe;rw[n0,H4,n1,n2,n3];rfl
  have hF:jw L=0:=by unfold jw;rw[hn,n0,n1,n2,n3];exact hf
  rw[mq (fun u hu=>(A u (by simp;omega)).2) (by rw[n0];exact hk),hF,hn,hlen];cases tail with
  |nil=>simp
  |cons y ys=>simp
def toldOf(b:tF):Nat:=(256*b.getD 0 0+b.getD 1 0).toNat
def bf(b:tF):Option (List Int×Nat):=
 if b.length<2 then none
 else if b.length<toldOf b+6 then none
 else if ¬four (sumOf (b.take (toldOf b+2)))=(b.drop (toldOf b+2)).take 4 then none
 else if ¬(bO ((b.drop 2).take (toldOf b))).2=0 then none
 else some ((bO ((b.drop 2).take (toldOf b))).1,toldOf b+6)
def jK:Nat→List Int→Nat→List (List Int)→List (List Int)×Nat
 |0,_,k,rs=>(rs,k)
 |f+1,b,k,rs=>match bf (b.drop k)with
  |none=>(rs,k)
  |some (zs,m)=>jK f b (k+m) (rs++[zs])
def bz(b:tF):List (List Int)×Nat:=jK (b.length+1) b 0 []
theorem qs{f:Nat}{b:tF}{k:Nat}{rs:List (List Int)}(h:bf (b.drop k)=none):jK f b k rs=(rs,k):=by
 cases f with
 |zero=>rfl
 |succ f=>simp only[jK,h]
theorem oI{f:Nat}{b:tF}{k m:Nat}{rs:List (List Int)}{zs:tF}(h:bf (b.drop k)=some (zs,m)):jK (f+1) b k rs=jK f b (k+m) (rs++[zs]):=by
 simp only[jK,h]
theorem gi{b zs:tF}{m:Nat}(h:bf b=some (zs,m)):
  2≤b.length∧m=toldOf b+6∧m≤b.length∧four (sumOf (b.take (toldOf b+2)))=(b.drop (toldOf b+2)).take 4∧bO ((b.drop 2).take (toldOf b))=(zs,0):=by
 unfold bf at h;split at h
 ·cases h
 split at h
 ·cases h
 split at h
 ·cases h
 split at h
 ·cases h
 rename_i h1 h2 h3 h4;simp only[Option.some.injEq,Prod.mk.injEq]at h;refine⟨by omega,h.2.symm,by omega,Classical.not_not.1 h3, ?_⟩;exact Prod.ext h.1 (Classical.not_not.1 h4)
def Bi(b:tF)(k:Nat)(rs:List (List Int)):Prop:=k≤b.length∧∃f,b.length+1≤f+k∧jK f b k rs=bz b
theorem vJ(b:tF):Bi b 0 []:=⟨Nat.zero_le _,b.length+1,by omega,rfl⟩
theorem uO{b:tF}{k:Nat}{rs:List (List Int)}(h:Bi b k rs)(hn:bf (b.drop k)=none):bz b=(rs,k):=by
 obtain⟨_,f,_,hf⟩:=h;rw[←hf,qs hn]
theorem ym{b:tF}{k m:Nat}{rs:List (List Int)}{zs:tF}(h:Bi b k rs)(hn:bf (b.drop k)=some (zs,m)):Bi b (k+m) (rs++[zs]):=by
 obtain⟨hk,f,hf,he⟩:=h;obtain⟨_,hm,hl,_⟩:=gi hn;rw[List.length_drop]at hl;cases f with
 |zero=>omega
 |succ f=>exact⟨by omega,f,by omega,by rw[←he,oI hn]⟩
theorem Fm{b zs:tF}{m:Nat}(h:bf b=some (zs,m)):zs.length=10:=by
 obtain⟨_,_,_,_,hd⟩:=gi h;have:(bO ((b.drop 2).take (toldOf b))).1.length=10:=by
  unfold bO
  repeat' split
  all_goals first|rfl|(unfold fe;split<;>rfl)
 rw[hd]at this;exact this
theorem Fo{b:tF}(hw:∀u∈b,(Lit.int .u8 u).wf=true):(toldOf b:Int)=256*b.getD 0 0+b.getD 1 0:=by
 have h0:=eV hw 0;have h1:=eV hw 1;unfold toldOf;omega
theorem RowK.part{k:IntKind}{w:tA}{b off len:Nat}{l:tF}(h:RowK k w (some ⟨b,off,none⟩) len l)(a:tB)(lo n:Nat)(hle:lo+n≤len)(ha:0<n→a=some ⟨b,off+lo,none⟩):RowK k w a n ((l.drop lo).take n):=by
 have hl:=h.b_;refine⟨by simp;omega,fun u hu=>h.wf u (List.mem_of_mem_drop (List.mem_of_mem_take hu)),fun i hi=> ?_⟩;refine⟨b,off+lo,ha (by omega),h.lt (by omega), ?_⟩;have:=h.at (lo+i) (by omega);rw[Nat.add_assoc,this];simp[List.getD_eq_getElem?_getD,hi]
theorem Bj(a a':tB)(len e_ cap bh:Nat)(l l':tF)(w:tA)(h:RowK .u8 w a len l)(h':RowK .u8 w a' e_ l'):
  cA 187 #[.slice a len cap,.slice a' e_ bh] w fun e w'=>
   e= .returned (.bool ((strOfNums l).toList==(strOfNums l').toList))∧w=w':=by
 have c1:=pw (P:=Tryz.prog) 122 5 Tryz.underlying122 Tryz.underlying5 (cap:=cap) h 9 Tryz.underlying9;have c2:=pw (P:=Tryz.prog) 122 5 Tryz.underlying122 Tryz.underlying5 (cap:=bh) h' 9 Tryz.underlying9;clear h h';go_enter Tryz.func187,Tryz.ntmps187;go_wp2;go_ret;exact⟨rfl,rfl⟩
theorem Ms{l l':tF}(hw:∀u∈l,(Lit.int .u8 u).wf=true)(hw':∀u∈l',(Lit.int .u8 u).wf=true)(h:(strOfNums l).toList=(strOfNums l').toList):l=l':=by
 rw[Go.Lib.strOfNums_toList,Go.Lib.strOfNums_toList]at h;unfold Go.Lib.bytesOf at h;refine List.ext_getElem (by have:=congrArg List.length h;simpa using this) fun i h1 h2=> ?_;have e:(l.map fun n=>UInt8.ofNat n.toNat)[i]? =(l'.map fun n=>UInt8.ofNat n.toNat)[i]? :=by rw[h]
 simp only[List.getElem?_map,List.getElem?_eq_getElem h1,List.getElem?_eq_getElem h2,Option.map_some,Option.some.injEq]at e;have b1:=bounds_u8 (hw _ (List.getElem_mem h1));have b2:=bounds_u8 (hw' _ (List.getElem_mem h2));have e2:=congrArg UInt8.toNat e;simp only[UInt8.toNat_ofNat']at e2;omega
theorem kg{W:tA}{R:Nat}{zs:tF}{m:Int}{tmps:tN}(h1:aJ W R zs)(t2:tmps[2]? =some (.pointer (some ⟨R,0,none⟩)))(t3:tmps[3]? =some (iV m)):
  (results Tryz.f144 tmps).run Tryz.prog W= .ok (.tuple #[jx zs,iV m]) W:=by
 have hl:=h1.1;have k0:=h1.cell 0 (by omega);have k1:=h1.cell 1 (by omega);have k2:=h1.cell 2 (by omega);have k3:=h1.cell 3 (by omega);have k4:=h1.cell 4 (by omega);have k5:=h1.cell 5 (by omega);have k6:=h1.cell 6 (by omega);have k7:=h1.cell 7 (by omega);have k8:=h1.cell 8 (by omega);have k9:=h1.cell 9 (by omega);clear h1
 match zs,hl with
 |[y0,y1,y2,y3,y4,y5,y6,y7,y8,y9],_=>
  simp at k0 k1 k2 k3 k4 k5 k6 k7 k8 k9;simp[results,Tryz.results144,go_sem,k0,k1,k2,k3,k4,k5,k6,k7,k8,k9,jx,t2,t3]
theorem P8(w:tA):∃W,W=w.alloc (.cells #[iV 0,iV 0,iV 0,iV 0,iV 0,iV 0,iV 0,iV 0,iV 0,iV 0] 167)∧
  aJ W w.heap.size eI∧bZ w W∧W.heap.size=w.heap.size+1:=
 ⟨_,rfl,⟨rfl,heap_alloc_new w _⟩,aA _ _,bH _ _⟩
theorem Ud(c0 c1:Int)(r0:0≤c0)(s0:c0≤255)(r1:0≤c1)(s1:c1≤255):bits .or .i64 (c0*256) c1=c0*256+c1:=
 bits_join .i64 62 (by decide) kY 8 _ _ (by omega) (by omega) (by omega) (by omega) (by omega) (by omega)
theorem aJ.X4{w:tA}{R:Nat}{x0 x1 x2 x3 x4 x5 x6 x7 x8 x9:Int}(h:aJ w R [x0,x1,x2,x3,x4,x5,x6,x7,x8,x9]):
  w.cell? ⟨R,0,none⟩=some (iV x0)∧w.cell? ⟨R,1,none⟩=some (iV x1)∧w.cell? ⟨R,2,none⟩=some (iV x2)∧w.cell? ⟨R,3,none⟩=some (iV x3)∧w.cell? ⟨R,4,none⟩=some (iV x4)∧
  w.cell? ⟨R,5,none⟩=some (iV x5)∧w.cell? ⟨R,6,none⟩=some (iV x6)∧w.cell? ⟨R,7,none⟩=some (iV x7)∧w.cell? ⟨R,8,none⟩=some (iV x8)∧w.cell? ⟨R,9,none⟩=some (iV x9):=by
 have m0:=h.cell 0 (by omega);have m1:=h.cell 1 (by omega);have m2:=h.cell 2 (by omega);have m3:=h.cell 3 (by omega);have m4:=h.cell 4 (by omega);have m5:=h.cell 5 (by omega);have m6:=h.cell 6 (by omega);have m7:=h.cell 7 (by omega);have m8:=h.cell 8 (by omega);have m9:=h.cell 9 (by omega);simp only[List.getD_cons_zero,List.getD_cons_succ]at m0 m1 m2 m3 m4 m5 m6 m7 m8 m9;exact⟨m0,m1,m2,m3,m4,m5,m6,m7,m8,m9⟩
def bV(b:tF):List Int×Nat:=match bf b with
 |none=>(eI,0)
 |some p=>p
theorem j5(a:tB)(len cap:Nat)(w:tA)(h:len<2):
  cA 144 #[.slice a len cap] w (rB (.tuple #[jx eI,iV 0]) w):=by
 go_enter Tryz.func144,Tryz.ntmps144;go_wp2;obtain⟨W,hW,rb,B,_⟩:=P8 w;rw[←hW];exact bodyPost_ret (kg rb rfl rfl) rfl ⟨rfl,B⟩
theorem Mt(w:tA)(n:Nat):∃W,W=(w.alloc (.cells #[iV 0,iV 0,iV 0,iV 0,iV 0,iV 0,iV 0,iV 0,iV 0,iV 0] 167)).drewN n∧
  aJ W w.heap.size eI∧bZ w W∧W.heap.size=w.heap.size+1:=
 ⟨_,rfl,⟨rfl,heap_alloc_new w _⟩,Below.next (aA _ _) (px _ _),bH w _⟩
theorem Dc(b off len cap:Nat)(l:tF)(w:tA)(h:RowK .u8 w (some ⟨b,off,none⟩) len l)(h2:2≤len)(qk:len≤cap)(hc:cap≤9223372036854775807)(hm:len≤1000000):
  cA 144 #[.slice (some ⟨b,off,none⟩) len cap] w (rB (.tuple #[jx (bV l).1,iV (bV l).2]) w):=by
 have hl:=h.b_;have ur:=eV h.wf 0;have l9:=eV h.wf 1;have PQ:=Fo h.wf;have k0:=h.at 0 (by omega);have k1:=h.at 1 (by omega);have Hd:=h.lt (by omega);rw[Nat.add_zero]at k0;generalize l.getD 0 0=c0 at ur PQ k0;generalize l.getD 1 0=c1 at l9 PQ k1;obtain⟨p0,q0⟩:=ur;obtain⟨p1,q1⟩:=l9;have J:=Ud c0 c1 p0 q0 p1 q1;obtain⟨n,hn⟩:∃n,toldOf l=n:=⟨_,rfl⟩;rw[hn]at PQ;have HN:=bG hn;clear hn;have e1:2+(c0*256+c1)=((n+2:Nat):Int):=by omega
 have sH:n≤65535:=by omega
 have HT:=bG PQ;have HE:=bG e1;clear PQ e1;go_enter Tryz.func144,Tryz.ntmps144
 go_wp2_with fail
 go_quiet (fail)
 rw[ae HE];obtain⟨W,hW,rb,B0,S0⟩:=Mt w nq;rw[←hW];have r0:=h.below B0;clear hW k0 k1 h;obtain⟨E,hE⟩:∃E:Int,((n+2:Nat):Int)=E:=⟨_,rfl⟩;rw[hE];have Ca:(0:Int)≤E:=by omega
 have hE1:E≤70000:=by omega
 have D7:IntKind.i64.wrap (E+4)=E+4:=kY _ (by omega) (by omega);have Ww:Hid (((n+2:Nat):Int)=E):=hE;clear hE;by_cases ht:len<n+6
 ·have hd:(len:Int)<E+4:=by have:=ae Ww;omega
  have HP:Hid (bV l=(eI,0)):=by
   show bV l=(eI,0);unfold bV bf;rw[ae HN,if_neg (by omega),if_pos (by omega)]
  have hT:=bG ht;clear ht
  go_wp2_with fail
  go_quiet (fail)
  obtain⟨W1,hW1,yn,B1⟩:∃W1,W1=W.drewN nq∧aJ W1 w.heap.size eI∧bZ w W1:=⟨_,rfl,rb,Below.next B0 (px _ _)⟩;rw[←hW1];clear hW1;have kf:=yn.free;obtain⟨m0,m1,m2,m3,m4,m5,m6,m7,m8,m9⟩:=aJ.X4 yn;go_wp2;exact bodyPost_ret (kg (yn.Kh 0 0 0 0 0 0 0 0 0 0) rfl rfl) rfl ⟨by rw[ae HP];rfl,(aN.Kh W1 w.heap.size 0 0 0 0 0 0 0 0 0 0).under B1 (Nat.le_refl _)⟩
 ·have hd:decide ((len:Int)<E+4)=false:=by have:=ae Ww;simp;omega
  have Jy:E≤(cap:Int):=by have:=ae Ww;omega
  have Zl:E+4≤(cap:Int):=by have:=ae Ww;omega
  have Zm:E≤E+4:=by omega
  have hT:=bG ht;clear ht
  go_wp2_with fail
  have Zn:E.toNat=n+2:=by have:=ae Ww;omega
  have hE5:(E+4).toNat-E.toNat=4:=by omega
  have hTT:=ae hT;have rs:RowK .u8 W.drew (some ⟨b,off,none⟩) E.toNat (l.take (n+2)):=by rw[Zn];exact(r0.below (px _ 1)).take (n+2) (by omega)
  have rp:RowK .u8 W (some ⟨b,off+E.toNat,none⟩) ((E+4).toNat-E.toNat) ((l.drop (n+2)).take 4):=by
   rw[hE5,Zn];exact r0.part _ (n+2) 4 (by omega) (fun _=>rfl)
  have aaB:=P4 (l.take (n+2));clear hTT Zn hE5;by_cases hq:four (sumOf (l.take (n+2)))=(l.drop (n+2)).take 4
  ·have hb:((strOfNums (four (sumOf (l.take (n+2))))).toList==(strOfNums ((l.drop (n+2)).take 4)).toList)=true:=by rw[hq];simp
   have HQ:=bG hq;clear hq
   go_region_held3 (fun _=>True) (trivial) ((first|(go_at_call 188;refine(yj _ E.toNat _ (l.take (n+2)) _ rs (by omega)).mono ?_;rintro e w1 ⟨rfl,r1,bb⟩;have b2:bZ W w1:=Below.next (px _ 1) bb;have r2:RowK .u8 w1 (some ⟨w.heap.size+1,0,none⟩) 4 (four (sumOf (l.take (n+2)))):=(by rw[←S0];exact r1);have rp1:=rp.below b2)|(go_at_call 187;refine(Bj _ _ _ _ _ _ (four (sumOf (l.take (n+2)))) ((l.drop (n+2)).take 4) _ r2 rp1).mono ?_;rintro e w2 ⟨rfl,rfl⟩)))
   have yn:=rb.below b2 rb.lt;have B1:=Below.next B0 b2;have z2:=b2.size;have hTT:=ae hT;have Zn:E.toNat-2=n:=by have:=ae Ww;omega
   have rd:RowK .u8 w1 (some ⟨b,off+2,none⟩) (E.toNat-2) ((l.drop 2).take n):=by rw[Zn];exact(r0.below b2).part _ 2 n (by omega) (fun _=>rfl)
   have hE6:(2:Int)≤E:=by have:=ae Ww;omega
   have Y5:E.toNat-2≤cap-2:=by omega
   have hcd:cap-2≤9223372036854775807:=by omega
   have aaC:(bO ((l.drop 2).take n)).1.length=10:=by
    unfold bO
    repeat' split
    all_goals first|rfl|(unfold fe;split<;>rfl)
   have HU:Hid (bV l=if ¬(bO ((l.drop 2).take n)).2=0 then(eI,0)else((bO ((l.drop 2).take n)).1,n+6)):=by
    show bV l=_;unfold bV bf;rw[ae HN,if_neg (by omega),if_neg (by omega),if_neg (not_not_intro (ae HQ))];by_cases hz:(bO ((l.drop 2).take n)).2=0
    ·rw[if_neg (not_not_intro hz),if_neg (not_not_intro hz)]
    ·rw[if_pos hz,if_pos hz]
   have HDL:=bG aaC;clear rs rp rp1 r1 r2 bb b2 rb B0 r0 aaB hb Zn hTT hd aaC
   go_wp2_with fail
   refine(Im _ _ _ ((l.drop 2).take n) _ rd Y5 hcd).mono ?_;rintro e w3 ⟨rfl,b3⟩;have SO:=yn.below b3 yn.lt;have B3:=Below.next B1 b3;obtain⟨zs,er,hde⟩:∃zs er,bO ((l.drop 2).take n)=(zs,er):=⟨_,_,rfl⟩;rw[hde]at HDL HU⊢;simp only at HU;have hlz:zs.length=10:=ae HDL;clear HDL hde rd yn B1 b3;have kf:=SO.free;have L3:=SO.lt;obtain⟨m0,m1,m2,m3,m4,m5,m6,m7,m8,m9⟩:=aJ.X4 SO
   match zs,hlz with
   |[x0,x1,x2,x3,x4,x5,x6,x7,x8,x9],_=>
    simp only[jx,List.map_cons,List.map_nil];have HUU:=bG (ae HU);clear HU;by_cases ER:er=0
    ·subst ER;have HP:Hid (bV l=([x0,x1,x2,x3,x4,x5,x6,x7,x8,x9],n+6)):=by show bV l=_;rw[ae HUU,if_neg (not_not_intro rfl)]
     have aaD:E+4=((n+6:Nat):Int):=by have:=ae Ww;omega
     have adS:=bG aaD;clear aaD;go_wp2;have SB:=aN.Kh w3 w.heap.size x0 x1 x2 x3 x4 x5 x6 x7 x8 x9;have RT:=SO.Kh x0 x1 x2 x3 x4 x5 x6 x7 x8 x9;have BT:=SB.under B3 (Nat.le_refl _);exact bodyPost_ret (kg (RT.below (aA _ _) RT.lt) rfl rfl) rfl ⟨by rw[ae HP,ae adS],BT.alloc BT.size _⟩
    ·have fw:(er==0)=false:=by simpa using ER
     have HP:Hid (bV l=(eI,0)):=by show bV l=_;rw[ae HUU,if_pos ER]
     clear ER;go_wp2;have SB:=aN.Kh w3 w.heap.size 0 0 0 0 0 0 0 0 0 0;have RT:=SO.Kh 0 0 0 0 0 0 0 0 0 0;have BT:=SB.under B3 (Nat.le_refl _);exact bodyPost_ret (kg (RT.below (aA _ _) RT.lt) rfl rfl) rfl ⟨by rw[ae HP];rfl,BT.alloc BT.size _⟩
  ·have hb:((strOfNums (four (sumOf (l.take (n+2))))).toList==(strOfNums ((l.drop (n+2)).take 4)).toList)=false:=by
    simp only[beq_eq_false_iff_ne,ne_eq];exact fun hh=>hq (Ms aaB rp.wf hh)
   have HP:Hid (bV l=(eI,0)):=by
    show bV l=(eI,0);have:=ae hT;unfold bV bf;rw[ae HN,if_neg (by omega),if_neg (by omega),if_pos hq]
   clear hq
   go_region_held3 (fun _=>True) (trivial) ((first|(go_at_call 188;refine(yj _ E.toNat _ (l.take (n+2)) _ rs (by omega)).mono ?_;rintro e w1 ⟨rfl,r1,bb⟩;have b2:bZ W w1:=Below.next (px _ 1) bb;have r2:RowK .u8 w1 (some ⟨w.heap.size+1,0,none⟩) 4 (four (sumOf (l.take (n+2)))):=(by rw[←S0];exact r1);have rp1:=rp.below b2)|(go_at_call 187;refine(Bj _ _ _ _ _ _ (four (sumOf (l.take (n+2)))) ((l.drop (n+2)).take 4) _ r2 rp1).mono ?_;rintro e w2 ⟨rfl,rfl⟩)))
   have yn:=rb.below b2 rb.lt;have B1:=Below.next B0 b2;have kf:=yn.free;obtain⟨m0,m1,m2,m3,m4,m5,m6,m7,m8,m9⟩:=aJ.X4 yn;go_wp2;exact bodyPost_ret (kg (yn.Kh 0 0 0 0 0 0 0 0 0 0) rfl rfl) rfl ⟨by rw[ae HP];rfl,(aN.Kh _ w.heap.size 0 0 0 0 0 0 0 0 0 0).under B1 (Nat.le_refl _)⟩
theorem Fp(a:tB)(len cap:Nat)(l:tF)(w:tA)(h:RowK .u8 w a len l)(qk:len≤cap)(hc:cap≤9223372036854775807)(hm:len≤1000000):
  cA 144 #[.slice a len cap] w (rB (.tuple #[jx (bV l).1,iV (bV l).2]) w):=by
 by_cases h2:len<2
 ·have hp:bV l=(eI,0):=by
   have:=h.b_;unfold bV bf;rw[if_pos (by omega)]
  rw[hp];exact j5 a len cap w h2
 ·obtain⟨b,off,rfl⟩:=h.form (by omega);exact Dc b off len cap l w h (by omega) qk hc hm
theorem Tryz.Ue:(Tryz.prog.info? 167).map (fun i=>(i.zero,i.size,i.bytes))=some (some (.agg #[iV 0,iV 0,iV 0,iV 0,iV 0,iV 0,iV 0,iV 0,iV 0,iV 0]),10,80):=by kernel_rfl
def lG(rs:List (List Int)):List Value:=rs.flatten.map (Value.int .i64)
theorem zY(rs:List (List Int))(zs:tF):lG (rs++[zs])=lG rs++zs.map (Value.int .i64):=by simp[lG]
structure iM(w:tA)(a:tB)(rs:List (List Int)):Prop where
 Kh:∀z∈rs,z.length=10
 cell:∀i,i<rs.length*10→∃b off,a=some ⟨b,off,none⟩∧b<w.heap.size∧w.cell? ⟨b,off+i,none⟩=some (iV (rs.flatten.getD i 0))
theorem Fq(rs:List (List Int))(h:∀z∈rs,z.length=10):rs.flatten.length=rs.length*10:=by
 induction rs with
 |nil=>rfl
 |cons z rs ih=>
  have:=h z (by simp);have:=ih (fun y hy=>h y (by simp[hy]));simp only[List.flatten_cons,List.length_append,List.length_cons];omega
theorem iM.below{w w':tA}{a:tB}{rs:List (List Int)}(h:iM w a rs)(hb:bZ w w'):iM w' a rs:=
 ⟨h.Kh,fun i hi=>by
  obtain⟨b,off,ha,aL,hc⟩:=h.cell i hi
  exact⟨b,off,ha,Nat.lt_of_lt_of_le aL hb.size,(hb.cell aL).trans hc⟩⟩
theorem iM.nil(w:tA)(a:tB):iM w a []:=⟨by simp,fun i hi=>by simp at hi⟩
theorem iM.xc{w:tA}{base n:Nat}{v:tJ}{rs:List (List Int)}(h:w.ownsRow base 167 10 v n (lG rs))(hn:rs.length=n)(ht:∀z∈rs,z.length=10):
  ∃a cap,v= .slice a n cap∧iM w a rs∧n≤cap∧cap≤maxLen∧(a=none→cap=0)∧(∀x,a=some x→base≤x.block):=by
 have hf:=Fq rs ht;rcases h.2 with⟨rfl,rfl⟩|⟨g,cap,cur,rfl,hb,hg,hc,hm,_⟩
 ·have:rs=[]:=List.length_eq_zero_iff.1 hn;subst this;exact⟨none,0,rfl,iM.nil _ _,Nat.le_refl _,by unfold maxLen;omega,fun _=>rfl,fun x hx=>by cases hx⟩
 ·refine⟨some ⟨g,0,none⟩,cap,rfl,⟨ht,fun i hi=> ?_⟩,hc,hm,by simp,fun x hx=>by simp at hx;subst hx;exact hb⟩;have hci:=h.cellAt i (by omega);have Hd:=(h.lt g rfl).2;refine⟨g,0,rfl,Hd, ?_⟩;rw[Nat.zero_add,hci,lG,List.getElem?_map,List.getElem?_eq_getElem (by omega)];simp[List.getElem?_eq_getElem (show i<rs.flatten.length by omega)]
theorem P9{w:tA}{R:Nat}{zs:tF}(h:aJ w R zs):∀j u,(zs.map (Value.int .i64))[j]? =some u→w.cell? ((⟨R,0,none⟩:Addr).add j)=some u:=by
 intro j u hj;have hl:=h.1;have hjl:j<zs.length:=by
  rcases Nat.lt_or_ge j zs.length with h'|h'
  ·exact h'
  ·simp[List.getElem?_eq_none h']at hj
 have Ot:(⟨R,0,none⟩:Addr).add j=⟨R,j,none⟩:=by unfold Addr.add;split<;>simp_all
 rw[Ot,h.cell j (by omega)];simp[List.getElem?_eq_getElem hjl]at hj;simp[List.getElem?_eq_getElem hjl,hj]
theorem RowK.from{k:IntKind}{w:tA}{b off len:Nat}{l:tF}(h:RowK k w (some ⟨b,off,none⟩) len l)(a:tB)(lo:Nat)(ha:lo<len→a=some ⟨b,off+lo,none⟩):RowK k w a (len-lo) (l.drop lo):=by
 have hl:=h.b_;refine⟨by simp;omega,fun u hu=>h.wf u (List.mem_of_mem_drop hu),fun i hi=> ?_⟩;refine⟨b,off+lo,ha (by omega),h.lt (by omega), ?_⟩;have:=h.at (lo+i) (by omega);rw[Nat.add_assoc,this];simp[List.getD_eq_getElem?_getD]
theorem pN{W:tA}{v:tJ}{n e:Int}{tmps:tN}(t2:tmps[2]? =some v)(t3:tmps[3]? =some (iV n))(t4:tmps[4]? =some (iV e)):
  (results Tryz.f93 tmps).run Tryz.prog W= .ok (.tuple #[v,iV n,iV e]) W:=by
 simp[results,Tryz.results93,go_sem,t2,t3,t4]
theorem Uf(a:tB)(len cap:Nat)(s:Int)(w:tA)(hm:len≤140737488351232)(h:¬(len≤100000∧0≤s∧s≤len)):
  cA 93 #[.agg #[.slice a len cap,iV s]] w (rB (.tuple #[.slice none 0 0,iV 0,iV 6]) w):=by
 go_enter Tryz.func93,Tryz.ntmps93
 go_wp2_with fail
 refine(Fg a len cap s _ hm h).mono ?_;rintro e w1 ⟨rfl,b1⟩;go_wp2;exact bodyPost_ret (pN rfl rfl rfl) rfl ⟨rfl,nQ b1⟩
theorem yo{b zs:tF}{m:Nat}(h:bf b=some (zs,m)):bV b=(zs,m):=by unfold bV;rw[h]
theorem yp{b:tF}(h:bf b=none):bV b=(eI,0):=by unfold bV;rw[h]
theorem Mu(b off len cap:Nat)(l:tF)(s:Int)(w:tA)(h:RowK .u8 w (some ⟨b,off,none⟩) len l)(qk:len≤cap)(hc:cap≤9223372036854775807)(h1:len≤100000)(h2:0≤s)(h3:s≤len):
  cA 93 #[.agg #[.slice (some ⟨b,off,none⟩) len cap,iV s]] w fun e w'=>
   ∃a' bh,e= .returned (.tuple #[.slice a' (bz l).1.length bh,iV (bz l).2,iV 0])∧iM w' a' (bz l).1∧(bz l).1.length≤bh∧bh≤9223372036854775807∧(a'=none→bh=0)∧(∀x,a'=some x→w.heap.size≤x.block)∧bZ w w':=by
 obtain⟨i0,hi,AU,vZ,uz⟩:=info_parts Tryz.Ue;have hl:=h.b_;go_enter Tryz.func93,Tryz.ntmps93
 go_wp2_with fail
 obtain⟨W,hW,tb0,B0,S0⟩:∃W,W=w.alloc (.cells #[.slice (some ⟨b,off,none⟩) len cap,iV s] 124)∧aK W w.heap.size (some ⟨b,off,none⟩) len cap s∧bZ w W∧W.heap.size=w.heap.size+1:=⟨_,rfl,aK.new w _ len cap s,aA _ _,bH _ _⟩;rw[←hW];have r0:=h.below B0;clear hW h;refine(kZ (some ⟨b,off,none⟩) len cap s _ h1 h2 h3).mono ?_;rintro e w1 ⟨rfl,b1⟩;have sq:=tb0.below b1 tb0.lt;have r1:=r0.below b1;have B1:=Below.next B0 b1;have z1:=b1.size;clear tb0 r0 B0 b1;go_wp2
 go_loopw [5,6] (fun v t wr=>∃(k:Nat) (rs:List (List Int)),t=iV k∧Bi l k rs∧6*rs.length≤k∧(∀z∈rs,z.length=10)∧wr.ownsRow w1.heap.size 167 10 v rs.length (lG rs)∧bZ w1 wr)
  (fun _ t _=>len-(intOf t).toNat)
 case atStart=>exact⟨0,[],rfl,vJ l,Nat.le_refl _,by simp,World.ownsRow_nil _ _ _ _,Below.refl _ _⟩
 case round=>
  obtain⟨k,rs,rfl,hgo,h6,hten,bK,gF⟩:=hrel;have hk:k≤len:=by have:=hgo.1;omega
  have GL:(k:Int)≤(len:Int):=by omega
  have agY:(len:Int)≤(cap:Int):=by omega
  have wh:=sq.below gF sq.lt;have r2:=r1.below gF;have z2:=gF.size;have c0:=wh.cell0;have vA:=r2.wf;by_cases hck:cap=k
  ·have hu:bf (l.drop k)=none:=by unfold bf;rw[if_pos (by simp;omega)]
   have adT:=hck.symm;clear hck;subst adT
   go_wp2_with fail
   refine(j5 _ _ _ _ (by omega)).mono ?_;rintro e w3 ⟨rfl,b3⟩;have B3:bZ w1 w3:=gF.trans (b3.mono z2);have o3:=uM bK b3;clear gF b3 bK wh r2 c0;have he:=uO hgo hu;simp only[jx,eI,List.map_cons,List.map_nil];obtain⟨a',bh,hv,hr,hc',hm',sf,hx'⟩:=iM.xc o3 rfl hten;subst hv;clear o3;go_wp2;refine bodyPost_ret (pN rfl rfl rfl) rfl ?_;rw[he];exact⟨a',bh,rfl,hr.below (aA _ _),hc',by unfold maxLen at hm';exact hm',sf,fun x hx=>by have:=hx' x hx;omega,Below.next (Below.next B1 B3) (aA _ _)⟩
  ·go_wp2_with fail
   refine(Fp _ _ _ (l.drop k) _ (r2.from _ k (fun GO=>by first|rfl|omega)) (by omega) (by omega) (by omega)).mono ?_;rintro e w3 ⟨rfl,b3⟩;have B3:bZ w1 w3:=gF.trans (b3.mono z2);have o3:=uM bK b3;clear gF b3 bK wh r2 c0;cases hu:bf (l.drop k)with
   |none=>
    rw[yp hu];have he:=uO hgo hu;simp only[jx,eI,List.map_cons,List.map_nil];obtain⟨a',bh,hv,hr,hc',hm',sf,hx'⟩:=iM.xc o3 rfl hten;subst hv;clear o3;go_wp2;refine bodyPost_ret (pN rfl rfl rfl) rfl ?_;rw[he];exact⟨a',bh,rfl,hr.below (aA _ _),hc',by unfold maxLen at hm';exact hm',sf,fun x hx=>by have:=hx' x hx;omega,Below.next (Below.next B1 B3) (aA _ _)⟩
   |some p=>
    obtain⟨zs,m⟩:=p;have Pe:=Fm hu;obtain⟨_,hm6,hml,_,_⟩:=gi hu;have adU:=bG (ym hgo hu);rw[yo hu];rw[List.length_drop]at hml;have hms:k+m≤len:=by omega
    have hm7:6≤m:=by omega
    have agZ:((m:Int)==0)=false:=by simp;omega
    have z3:=B3.size;clear hu hm6 hml
    match zs,Pe with
    |[x0,x1,x2,x3,x4,x5,x6,x7,x8,x9],_=>
     simp only[jx,List.map_cons,List.map_nil]
     have rn:Hid (aJ ((w3.alloc (.cells #[iV x0,iV x1,iV x2,iV x3,iV x4,iV x5,iV x6,iV x7,iV x8,iV x9] 167)).alloc (.cells #[iV x0,iV x1,iV x2,iV x3,iV x4,iV x5,iV x6,iV x7,iV x8,iV x9] 167)) (w3.heap.size+1) [x0,x1,x2,x3,x4,x5,x6,x7,x8,x9]):=⟨rfl,by
      have:=heap_alloc_new (w3.alloc (.cells #[iV x0,iV x1,iV x2,iV x3,iV x4,iV x5,iV x6,iV x7,iV x8,iV x9] 167)) (.cells #[iV x0,iV x1,iV x2,iV x3,iV x4,iV x5,iV x6,iV x7,iV x8,iV x9] 167);rw[bH]at this
      exact this⟩
     go_wp2_with (at_builtin;refine wpList_append_own _ rfl _ _ 176 rfl w1.heap.size 167 i0 _ 10 80 Tryz.underlying176 hi AU vZ uz rfl (by decide) _ _ _ rfl ((o3.alloc _).alloc _) ⟨w3.heap.size+1,0,none⟩ 1 1 ([x0,x1,x2,x3,x4,x5,x6,x7,x8,x9].map (Value.int .i64)) rfl rfl (P9 (ae rn)) (ints_oneCell .i64 _) (by unfold maxLen;omega) (by omega) (by simp;omega) ?_;intro v' w5 hown5 hgrow5 _)
     have aaE:=o3.lt;have R1:Hid (w5.ownsRow w1.heap.size 167 10 v' (rs++[[x0,x1,x2,x3,x4,x5,x6,x7,x8,x9]]).length (lG (rs++[[x0,x1,x2,x3,x4,x5,x6,x7,x8,x9]]))):=by
      rw[zY,List.length_append];exact hown5
     have R2:bZ w1 w5:=((B3.alloc z3 _).alloc (by simp;omega) _).grown hgrow5 (by simp;omega) (by intro t ht;exact(aaE t ht).1)
     have R3:Hid (∀z∈rs++[[x0,x1,x2,x3,x4,x5,x6,x7,x8,x9]],z.length=10):=bG (fun z hz=>by
      rcases List.mem_append.1 hz with hz|hz
      ·exact hten z hz
      ·simp at hz;subst hz;rfl)
     clear hown5 hgrow5 o3 rn aaE;go_wp2
     go_roundw
     case rel=>exact⟨k+m,_,by go_num,ae adU,by simp;omega,ae R3,ae R1,R2⟩
     case measure=>simp[intOf];omega
theorem yq:bz []=([],0):=rfl
theorem P_(s:Int)(w:tA)(h2:0≤s)(h3:s≤((0:Nat):Int)):
  cA 93 #[.agg #[.slice none 0 0,iV s]] w (rB (.tuple #[.slice none 0 0,iV 0,iV 0]) w):=by
 go_enter Tryz.func93,Tryz.ntmps93
 go_wp2_with fail
 obtain⟨W,hW,tb0,B0,S0⟩:∃W,W=w.alloc (.cells #[.slice none 0 0,iV s] 124)∧aK W w.heap.size none 0 0 s∧bZ w W∧W.heap.size=w.heap.size+1:=⟨_,rfl,aK.new w _ 0 0 s,aA _ _,bH _ _⟩;rw[←hW];clear hW;refine(kZ none 0 0 s _ (by omega) h2 h3).mono ?_;rintro e w1 ⟨rfl,b1⟩;have sq:=tb0.below b1 tb0.lt;have B1:=Below.next B0 b1;clear tb0 B0 b1;go_wp2
 go_loopw [5,6] (fun v t wr=>t=iV 0∧v= .slice none 0 0∧w1=wr) (fun _ _ _=>0)
 case atStart=>exact⟨rfl,rfl,rfl⟩
 case round=>
  obtain⟨rfl,rfl,rfl⟩:=hrel;have c0:=sq.cell0
  go_wp2_with fail
  refine(j5 _ _ _ _ (by omega)).mono ?_;rintro e w3 ⟨rfl,b3⟩;have B3:=Below.next B1 b3;clear b3 B1 c0 sq;simp only[jx,eI,List.map_cons,List.map_nil];go_wp2;exact bodyPost_ret (pN rfl rfl rfl) rfl ⟨rfl,Below.next B3 (aA _ _)⟩
theorem Mw(x:Addr)(cap:Nat)(s:Int)(w:tA)(h2:0≤s)(h3:s≤((0:Nat):Int)):
  cA 93 #[.agg #[.slice (some x) 0 cap,iV s]] w (rB (.tuple #[.slice none 0 0,iV 0,iV 0]) w):=by
 go_enter Tryz.func93,Tryz.ntmps93
 go_wp2_with fail
 obtain⟨W,hW,tb0,B0,S0⟩:∃W,W=w.alloc (.cells #[.slice (some x) 0 cap,iV s] 124)∧aK W w.heap.size (some x) 0 cap s∧bZ w W∧W.heap.size=w.heap.size+1:=⟨_,rfl,aK.new w _ 0 cap s,aA _ _,bH _ _⟩;rw[←hW];clear hW;refine(kZ (some x) 0 cap s _ (by omega) h2 h3).mono ?_;rintro e w1 ⟨rfl,b1⟩;have sq:=tb0.below b1 tb0.lt;have B1:=Below.next B0 b1;clear tb0 B0 b1;go_wp2
 go_loopw [5,6] (fun v t wr=>t=iV 0∧v= .slice none 0 0∧w1=wr) (fun _ _ _=>0)
 case atStart=>exact⟨rfl,rfl,rfl⟩
 case round=>
  obtain⟨rfl,rfl,rfl⟩:=hrel;have c0:=sq.cell0
  go_wp2_with fail
  all_goals
   refine(j5 _ _ _ _ (by omega)).mono ?_;rintro e w3 ⟨rfl,b3⟩;have B3:=Below.next B1 b3;clear b3 B1 c0 sq;simp only[jx,eI,List.map_cons,List.map_nil];go_wp2;exact bodyPost_ret (pN rfl rfl rfl) rfl ⟨rfl,Below.next B3 (aA _ _)⟩
theorem Fs(a:tB)(len cap:Nat)(l:tF)(s:Int)(w:tA)(h:RowK .u8 w a len l)(hn:a=none→cap=0)(qk:len≤cap)(hc:cap≤9223372036854775807)(h1:len≤100000)(h2:0≤s)(h3:s≤len):
  cA 93 #[.agg #[.slice a len cap,iV s]] w fun e w'=>
   ∃a' bh,e= .returned (.tuple #[.slice a' (bz l).1.length bh,iV (bz l).2,iV 0])∧iM w' a' (bz l).1∧(bz l).1.length≤bh∧bh≤9223372036854775807∧(a'=none→bh=0)∧(∀x,a'=some x→w.heap.size≤x.block)∧bZ w w':=by
 cases a with
 |none=>
  have Od:=hn rfl;subst Od;have GQ:len=0:=by omega
  subst GQ;have hl:l=[]:=List.length_eq_zero_iff.1 h.b_;subst hl;rw[yq];refine(P_ s w h2 h3).mono ?_;rintro e w' ⟨rfl,hb⟩;exact⟨none,0,rfl,iM.nil _ _,Nat.le_refl _,by omega,fun _=>rfl,(fun x hx=>by cases hx),hb⟩
 |some x=>
  obtain⟨b,off,sp⟩:=x;by_cases h0:0<len
  ·obtain⟨b',off',he⟩:=h.form h0;rw[he]at h⊢;exact Mu b' off' len cap l s w h qk hc h1 h2 h3
  ·have GQ:len=0:=by omega
   subst GQ;have hl:l=[]:=List.length_eq_zero_iff.1 h.b_;subst hl;rw[yq];refine(Mw ⟨b,off,sp⟩ cap s w h2 h3).mono ?_;rintro e w' ⟨rfl,hb⟩;exact⟨none,0,rfl,iM.nil _ _,Nat.le_refl _,by omega,fun _=>rfl,(fun x hx=>by cases hx),hb⟩
theorem Ft(w:tA)(a:tB)(len cap:Nat)(s:Int)(x0 x1 x2 x3 x4 x5 x6 x7 x8 x9:Int):
  ∃W,W=((w.alloc (.cells #[.slice a len cap,iV s] 124)).alloc (.cells #[iV x0,iV x1,iV x2,iV x3,iV x4,iV x5,iV x6,iV x7,iV x8,iV x9] 167)).alloc (.cells #[.slice none 0 0,iV 0] 124)∧
  aK W w.heap.size a len cap s∧aJ W (w.heap.size+1) [x0,x1,x2,x3,x4,x5,x6,x7,x8,x9]∧aK W (w.heap.size+1+1) none 0 0 0∧bZ w W∧W.heap.size=w.heap.size+1+1+1:=by
 refine⟨_,rfl, ?_, ?_, ?_, ?_, ?_⟩
 ·exact(((aK.new w a len cap s).below (aA _ _) (by simp)).below (aA _ _) (by simp;omega))
 ·have h0:((w.alloc (.cells #[.slice a len cap,iV s] 124)).alloc (.cells #[iV x0,iV x1,iV x2,iV x3,iV x4,iV x5,iV x6,iV x7,iV x8,iV x9] 167)).heap[w.heap.size+1]? =some (.cells #[iV x0,iV x1,iV x2,iV x3,iV x4,iV x5,iV x6,iV x7,iV x8,iV x9] 167):=by
   have:=heap_alloc_new (w.alloc (.cells #[.slice a len cap,iV s] 124)) (.cells #[iV x0,iV x1,iV x2,iV x3,iV x4,iV x5,iV x6,iV x7,iV x8,iV x9] 167);rw[bH]at this;exact this
  exact⟨rfl,by rw[Below.heap_alloc _ _ _ (by rw[bH,bH];omega)];exact h0⟩
 ·have:=aK.new ((w.alloc (.cells #[.slice a len cap,iV s] 124)).alloc (.cells #[iV x0,iV x1,iV x2,iV x3,iV x4,iV x5,iV x6,iV x7,iV x8,iV x9] 167)) none 0 0 0;rw[bH,bH]at this;exact this
 ·exact(fV _ _ _).alloc (by rw[bH,bH];omega) _
 ·rw[bH,bH,bH]
theorem Bk{W:tA}{R:Nat}{a:tB}{len cap:Nat}{s e:Int}{tmps:tN}(h:aK W R a len cap s)(t:tmps[4]? =some (.pointer (some ⟨R,0,none⟩)))(te:tmps[5]? =some (iV e)):
  (results Tryz.f133 tmps).run Tryz.prog W= .ok (.tuple #[.agg #[.slice a len cap,iV s],iV e]) W:=by
 have k0:=h.cell0;have k1:=h.kI;simp[results,Tryz.results133,go_sem,k0,k1,t,te]
theorem Mx{W:tA}{b:Nat}{t:tT}{f:Nat×Nat}(p q:Part)(hb:W.heap[b]? =some (.cells #[.slice p.a p.len p.cap,.slice q.a q.len q.cap] t f)):
  ∀k,k<[p,q].length→W.cell? ⟨b,0+k,none⟩=some (.slice ([p,q].getD k cW).a ([p,q].getD k cW).len ([p,q].getD k cW).cap):=by
 intro k hk
 match k,hk with
 |0,_=>simp[World.cell?,hb]
 |1,_=>simp[World.cell?,hb]
theorem Qa{W:tA}(p q:Part)(hp:RowK .u8 W p.a p.len p.l)(Io:p.a=none→p.cap=0)(hq:RowK .u8 W q.a q.len q.l)(X5:q.a=none→q.cap=0):
  ∀k,k<[p,q].length→RowK .u8 W ([p,q].getD k cW).a ([p,q].getD k cW).len ([p,q].getD k cW).l∧(([p,q].getD k cW).a=none→([p,q].getD k cW).cap=0):=by
 intro k hk
 match k,hk with
 |0,_=>exact⟨hp,Io⟩
 |1,_=>exact⟨hq,X5⟩
theorem vK(x0 x1 x2 x3 x4 x5 x6 x7 x8 x9:Int):(bytesOf x0 x1 x2 x3 x4 x5 x6 x7 x8 x9).length=if x0=2∨x0=5 then 40 else 16:=by
 unfold bytesOf;split<;>simp[mT]
theorem Ip(b:Nat)(t:tT)(f:Nat×Nat)(a:tB)(len cap:Nat)(l:tF)(a':tB)(e_ bh:Nat)(l':tF)(W:tA)
  (vL:W.heap[b]? =some (.cells #[.slice a len cap,.slice a' e_ bh] t f)) (hb:b<W.heap.size) (hs:len+e_≤1000000)
  (hp:RowK .u8 W a len l) (Io:a=none→cap=0) (hq:RowK .u8 W a' e_ l') (X5:a'=none→bh=0):
  cA 138 #[.slice (some ⟨b,0,none⟩) 2 2] W fun e w'=>
   ∃a2 cap2,e= .returned (.slice a2 (len+e_) cap2)∧RowK .u8 w' a2 (len+e_) (l++l')∧len+e_≤cap2∧(a2=none→cap2=0)∧cap2≤9223372036854775807∧(∀x,a2=some x→W.heap.size≤x.block)∧bZ W w':=by
 have e1:dq [⟨a,len,cap,l⟩,⟨a',e_,bh,l'⟩]=len+e_:=by simp[dq]
 have e2:dS [⟨a,len,cap,l⟩,⟨a',e_,bh,l'⟩]=l++l':=by simp[dS]
 have h:=rQ b 0 2 [⟨a,len,cap,l⟩,⟨a',e_,bh,l'⟩] W (by simp) hb (by rw[e1];exact hs) (Mx ⟨a,len,cap,l⟩ ⟨a',e_,bh,l'⟩ vL) (Qa ⟨a,len,cap,l⟩ ⟨a',e_,bh,l'⟩ hp Io hq X5);rw[e1,e2]at h;exact h
theorem My(a:tB)(len cap:Nat)(l:tF)(s x0 x1 x2 x3 x4 x5 x6 x7 x8 x9:Int)(w:tA)(h:RowK .u8 w a len l)(hn:a=none→cap=0)(h1:len≤100000)(h2:0≤s)(h3:s≤len)(hf:aC x0 x1 x2 x3 x4 x5 x6 x7 x8 x9=0):
  cA 133 #[.agg #[.slice a len cap,iV s],.agg #[iV x0,iV x1,iV x2,iV x3,iV x4,iV x5,iV x6,iV x7,iV x8,iV x9]] w fun e w'=>
   (100000<len+((bytesOf x0 x1 x2 x3 x4 x5 x6 x7 x8 x9).length+6)∧e= .returned (.tuple #[.agg #[.slice none 0 0,iV 0],iV 14])∧bZ w w')∨
   (len+((bytesOf x0 x1 x2 x3 x4 x5 x6 x7 x8 x9).length+6)≤100000∧∃a' bh,e= .returned (.tuple #[.agg #[.slice a' (len+((bytesOf x0 x1 x2 x3 x4 x5 x6 x7 x8 x9).length+6)) bh,iV s],iV 0])∧
    RowK .u8 w' a' (len+((bytesOf x0 x1 x2 x3 x4 x5 x6 x7 x8 x9).length+6)) (l++dL (bytesOf x0 x1 x2 x3 x4 x5 x6 x7 x8 x9))∧len+((bytesOf x0 x1 x2 x3 x4 x5 x6 x7 x8 x9).length+6)≤bh∧(a'=none→bh=0)∧bh≤9223372036854775807∧(∀x,a'=some x→w.heap.size≤x.block)∧bZ w w'):=by
 have HL:Hid ((bytesOf x0 x1 x2 x3 x4 x5 x6 x7 x8 x9).length=if x0=2∨x0=5 then 40 else 16):=vK x0 x1 x2 x3 x4 x5 x6 x7 x8 x9;go_enter Tryz.func133,Tryz.ntmps133
 go_wp2_with fail
 obtain⟨W,hW,tb0,rb,sq,B0,S0⟩:=Ft w a len cap s x0 x1 x2 x3 x4 x5 x6 x7 x8 x9;rw[←hW];have r0:=h.below B0;clear hW h;refine(kZ a len cap s _ h1 h2 h3).mono ?_;rintro e w1 ⟨rfl,b1⟩;have ta2:=tb0.below b1 tb0.lt;have wh:=sq.below b1 sq.lt;have yn:=rb.below b1 rb.lt;have r1:=r0.below b1;have z1:=b1.size;have m0:=yn.cell 0 (by omega);have m1:=yn.cell 1 (by omega);have m2:=yn.cell 2 (by omega);have m3:=yn.cell 3 (by omega);have m4:=yn.cell 4 (by omega);have m5:=yn.cell 5 (by omega);have m6:=yn.cell 6 (by omega);have m7:=yn.cell 7 (by omega);have m8:=yn.cell 8 (by omega);have m9:=yn.cell 9 (by omega);simp only[List.getD_cons_zero,List.getD_cons_succ]at m0 m1 m2 m3 m4 m5 m6 m7 m8 m9;have B1:=Below.next B0 b1;clear b1 B0 tb0 sq rb yn r0
 go_wp2_with fail
 refine(Mq x0 x1 x2 x3 x4 x5 x6 x7 x8 x9 _ hf).mono ?_;rintro e w2 ⟨g,n,rfl,Wx,r2,b2⟩;have Of:n=(bytesOf x0 x1 x2 x3 x4 x5 x6 x7 x8 x9).length:=r2.b_.symm;have sH:n≤40:=by rw[Wx];split<;>omega
 clear Wx HL;subst Of;generalize hbs:bytesOf x0 x1 x2 x3 x4 x5 x6 x7 x8 x9=bs at r2 sH⊢;have ta3:=ta2.below b2 ta2.lt;have Mj:=wh.below b2 wh.lt;have q2:=r1.below b2;have B2:=Below.next B1 b2;have z2:=b2.size;clear m0 m1 m2 m3 m4 m5 m6 m7 m8 m9 b2 wh ta2 r1 B1 hf;have HB:=bG hbs;clear hbs
 go_wp2_with fail
 refine(Mm (some ⟨g,0,none⟩) bs.length bs.length bs _ r2 (by simp) (by omega)).mono ?_;rintro e w3 ⟨a3,cap3,rfl,r3,c3,n3,_,y3,b3⟩;have ta4:=ta3.below b3 ta3.lt;have X6:=Mj.below b3 Mj.lt;have q3:=q2.below b3;have B3:=Below.next B2 b3;have z3:=b3.size;have k0:=ta4.cell0;have k1:=ta4.kI;have j0:=X6.cell0;have j1:=X6.kI;have jf:=X6.free;clear ta3 Mj q2 B2 b3 r2;by_cases Fu:100000<len+(bs.length+6)
 ·have hd:(100000:Int)<(len:Int)+((bs.length+6:Nat):Int):=by omega
  have HF:=bG Fu;clear Fu;obtain⟨m,hm⟩:∃m,bs.length+6=m:=⟨_,rfl⟩;rw[hm]at hd⊢;go_wp2;exact bodyPost_ret (Bk (X6.store none 0 0 0) rfl rfl) rfl (.inl ⟨by rw[ae HB];exact ae HF,rfl,(cB w3 _ _ _).under B3 (by omega)⟩)
 ·have hd:¬(100000:Int)<(len:Int)+((bs.length+6:Nat):Int):=by omega
  have hS:w.heap.size<w3.heap.size:=by omega
  have hT:w.heap.size+1+1<w3.heap.size:=by omega
  have HF:=bG Fu;clear j0 j1 jf Fu;obtain⟨m,hm⟩:∃m,bs.length+6=m:=⟨_,rfl⟩;rw[hm]at hd r3 c3⊢
  go_wp2_with fail
  have BW:Below w3.heap.size w3 (w3.alloc (.cells #[.slice a len cap,.slice a3 m cap3] 122)).drew:=(aA _ _).drew;have vL:(w3.alloc (.cells #[.slice a len cap,.slice a3 m cap3] 122)).drew.heap[w3.heap.size]? =some (.cells #[.slice a len cap,.slice a3 m cap3] 122):=heap_alloc_new w3 _;have Qc:w3.heap.size<(w3.alloc (.cells #[.slice a len cap,.slice a3 m cap3] 122)).drew.heap.size:=by
   have:=bH w3 (.cells #[.slice a len cap,.slice a3 m cap3] 122);show w3.heap.size<(w3.alloc (.cells #[.slice a len cap,.slice a3 m cap3] 122)).heap.size;omega
  go_region_held3 (fun w'=>w'.cell? ⟨w.heap.size,0,none⟩=some (.slice a len cap)∧w'.cell? ⟨w.heap.size,1,none⟩=some (iV s)) (first|go_keep|exact⟨(b5.cell (p:=⟨w.heap.size,0,none⟩) hS).trans k0,(b5.cell (p:=⟨w.heap.size,1,none⟩) hS).trans k1⟩|exact⟨((cB w5 _ _ _).cell (by omega)).trans ((b5.cell (p:=⟨w.heap.size,0,none⟩) hS).trans k0),((cB w5 _ _ _).cell (by omega)).trans ((b5.cell (p:=⟨w.heap.size,1,none⟩) hS).trans k1)⟩) ((go_at_call 138;refine(Ip w3.heap.size _ _ a len cap l a3 m cap3 (dL bs) _ vL Qc (by omega) (q3.below BW) hn (r3.below BW) n3).mono ?_;rintro e w5 ⟨a5,cap5,rfl,r5,c5,n5,m5,y5,bb⟩;have b5:bZ w3 w5:=Below.next BW bb;have Oh:=X6.below b5 hT;have j0:=Oh.cell0;have j1:=Oh.kI;have jf:=Oh.free;have y6:∀x,a5=some x→w3.heap.size≤x.block:=fun x hx=>Nat.le_trans (Nat.le_of_lt Qc) (y5 x hx)))
  go_wp2;refine bodyPost_ret (Bk (Oh.store a5 (len+m) cap5 s) rfl rfl) rfl (.inr ?_);have Fu:=ae HF;rw[ae HB,hm];exact⟨by omega,a5,cap5,rfl,(cB w5 _ _ _).row r5 (fun x hx _=>by have:=y6 x hx;omega),c5,n5,m5,fun x hx=>by have:=y6 x hx;omega,(cB w5 _ _ _).under (Below.next B3 b5) (by omega)⟩
theorem sV(b:tF):∀(f k:Nat) (rs:List (List Int)),k≤b.length→6*rs.length≤k→6*(jK f b k rs).1.length≤(jK f b k rs).2∧(jK f b k rs).2≤b.length
 |0,k,rs,h1,h2=>⟨h2,h1⟩
 |f+1,k,rs,h1,h2=>by
  cases hu:bf (b.drop k)with
  |none=>rw[qs hu];exact⟨h2,h1⟩
  |some p=>
   obtain⟨zs,m⟩:=p;rw[oI hu];obtain⟨_,hm,hl,_⟩:=gi hu;rw[List.length_drop]at hl;exact sV b f (k+m) (rs++[zs]) (by omega) (by simp;omega)
theorem gz(b:tF):6*(bz b).1.length≤(bz b).2∧(bz b).2≤b.length:=sV b _ 0 [] (Nat.zero_le _) (Nat.le_refl _)
theorem lI{W:tA}{R:Nat}{a:tB}{len cap:Nat}{s e:Int}{tmps:tN}(h:aK W R a len cap s)(t:tmps[2]? =some (.pointer (some ⟨R,0,none⟩)))(te:tmps[3]? =some (iV e)):
  (results Tryz.f85 tmps).run Tryz.prog W= .ok (.tuple #[.agg #[.slice a len cap,iV s],iV e]) W:=by
 have k0:=h.cell0;have k1:=h.kI;simp[results,Tryz.results85,go_sem,k0,k1,t,te]
theorem Iq(b:Nat)(t:tT)(f:Nat×Nat)(a:tB)(len cap:Nat)(l:tF)(W:tA)
  (vL:W.heap[b]? =some (.cells #[.slice a len cap] t f)) (hb:b<W.heap.size) (hs:len≤1000000) (hp:RowK .u8 W a len l) (Io:a=none→cap=0):
  cA 138 #[.slice (some ⟨b,0,none⟩) 1 1] W fun e w'=>
   ∃a2 cap2,e= .returned (.slice a2 len cap2)∧RowK .u8 w' a2 len l∧len≤cap2∧(a2=none→cap2=0)∧cap2≤9223372036854775807∧(∀x,a2=some x→W.heap.size≤x.block)∧bZ W w':=by
 have e1:dq [⟨a,len,cap,l⟩]=len:=by simp[dq]
 have e2:dS [⟨a,len,cap,l⟩]=l:=by simp[dS]
 have h:=rQ b 0 1 [⟨a,len,cap,l⟩] W (by simp) hb (by rw[e1];exact hs)
  (fun k hk=>by
   match k,hk with
   |0,_=>simp[World.cell?,vL])
  (fun k hk=>by
   match k,hk with
   |0,_=>exact⟨hp,Io⟩)
 rw[e1,e2]at h;exact h
def mr(k:Nat)(s:Int):Int:=if(k:Int)<s then(k:Int)else s
theorem Mz{k:Nat}{s:Int}(h:(k:Int)<s):mr k s=k:=if_pos h
theorem MA{k:Nat}{s:Int}(h:¬(k:Int)<s):mr k s=s:=if_neg h
theorem Zo(a:tB)(len cap:Nat)(s:Int)(w:tA)(hm:len≤140737488351232)(h:¬(len≤100000∧0≤s∧s≤len)):
  cA 85 #[.agg #[.slice a len cap,iV s]] w (rB (.tuple #[.agg #[.slice none 0 0,iV 0],iV 6]) w):=by
 go_enter Tryz.func85,Tryz.ntmps85
 go_wp2_with fail
 obtain⟨W,hW,tb0,sq,B0,S0⟩:=na w a len cap s;rw[←hW];clear hW;refine(Uf a len cap s _ hm h).mono ?_;rintro e w1 ⟨rfl,b1⟩;have wh:=sq.below b1 sq.lt;have j0:=wh.cell0;have j1:=wh.kI;have jf:=wh.free;go_wp2;exact bodyPost_ret (lI (wh.store none 0 0 0) rfl rfl) rfl ⟨rfl,(cB w1 _ _ _).under (Below.next B0 b1) (by omega)⟩
theorem Ir(a:tB)(len cap:Nat)(l:tF)(s:Int)(w:tA)(h:RowK .u8 w a len l)(hn:a=none→cap=0)(qk:len≤cap)(hc:cap≤9223372036854775807)(h1:len≤100000)(h2:0≤s)(h3:s≤len):
    cA 85 #[.agg #[.slice a len cap,iV s]] w fun e w'=>
      ∃a' bh,e= .returned (.tuple #[.agg #[.slice a' (bz l).2 bh,iV (mr (bz l).2 s)],iV 0])∧RowK .u8 w' a' (bz l).2 (l.take (bz l).2)∧(bz l).2≤bh∧(a'=none→bh=0)∧bh≤9223372036854775807∧(∀x,a'=some x→w.heap.size≤x.block)∧bZ w w':=by
  have hl:=h.b_;have hb:=gz l;go_enter Tryz.func85,Tryz.ntmps85
  go_wp2_with fail
  obtain⟨W,hW,tb0,sq,B0,S0⟩:=na w a len cap s;rw[←hW];have r0:=h.below B0;clear hW h;refine(Fs a len cap l s _ r0 hn qk hc h1 h2 h3).mono ?_;rintro e w3 ⟨aR,capR,rfl,_,_,_,_,_,b3⟩;have ta4:=tb0.below b3 tb0.lt;have X6:=sq.below b3 sq.lt;have q3:=r0.below b3;have B3:=Below.next B0 b3;have z3:=b3.size;have k0:=ta4.cell0;have k1:=ta4.kI;have hS:w.heap.size<w3.heap.size:=by omega
  have hT:w.heap.size+1<w3.heap.size:=by omega
  clear tb0 sq r0 b3 B0;obtain⟨rs,k,hro⟩:∃rs k,bz l=(rs,k):=⟨_,_,rfl⟩;rw[hro]at hb⊢;simp only at hb⊢;have HR:=bG hro;clear hro;have GO:k≤len:=by omega
  have hkc:(k:Int)≤(cap:Int):=by omega
  have BW:Below w3.heap.size w3 (w3.alloc (.cells #[.slice a k cap] 122)).drew:=(aA _ _).drew;have vL:(w3.alloc (.cells #[.slice a k cap] 122)).drew.heap[w3.heap.size]? =some (.cells #[.slice a k cap] 122):=heap_alloc_new w3 _;have Qc:w3.heap.size<(w3.alloc (.cells #[.slice a k cap] 122)).drew.heap.size:=by
    have:=bH w3 (.cells #[.slice a k cap] 122);show w3.heap.size<(w3.alloc (.cells #[.slice a k cap] 122)).heap.size;omega
  have HW:=bG BW;have HC:=bG vL;have HL:=bG Qc;clear BW vL Qc;by_cases hs:(k:Int)<s
  all_goals
    go_wp2_with fail
    go_region_held3 (fun w'=>w'.cell? ⟨w.heap.size,0,none⟩=some (.slice a len cap)∧w'.cell? ⟨w.heap.size,1,none⟩=some (iV s)) (first|go_keep|exact⟨(b5.cell (p:=⟨w.heap.size,0,none⟩) hS).trans k0,(b5.cell (p:=⟨w.heap.size,1,none⟩) hS).trans k1⟩) ((go_at_call 138;refine(Iq w3.heap.size _ _ a k cap (l.take k) _ (ae HC) (ae HL) (by omega) ((q3.take k GO).below (ae HW)) hn).mono ?_;rintro e w5 ⟨a5,cap5,rfl,r5,c5,n5,m5,y5,bb⟩;have b5:bZ w3 w5:=Below.next (ae HW) bb;have Oh:=X6.below b5 hT;have j0:=Oh.cell0;have j1:=Oh.kI;have jf:=Oh.free;have y6:∀x,a5=some x→w3.heap.size≤x.block:=fun x hx=>Nat.le_trans (Nat.le_of_lt (ae HL)) (y5 x hx)))
    all_goals
      go_wp2
      first
        |(exfalso;omega)
        |(refine bodyPost_ret (lI (Oh.store a5 k cap5 (min s (k:Int))) rfl rfl) rfl ?_
          rw[ae HR,show mr k s=min s (k:Int) by unfold mr;split<;>omega]
          exact⟨a5,cap5,rfl,(cB w5 _ _ _).row r5 (fun x hx _=>by have:=y6 x hx;omega),c5,n5,m5,fun x hx=>by have:=y6 x hx;omega,(cB w5 _ _ _).under (Below.next B3 b5) (by omega)⟩)
        |(refine bodyPost_ret (lI (Oh.store a5 k cap5 (if(k:Int)<s then(k:Int)else s)) rfl rfl) rfl ?_
          rw[ae HR]
          exact⟨a5,cap5,rfl,(cB w5 _ _ _).row r5 (fun x hx _=>by have:=y6 x hx;omega),c5,n5,m5,fun x hx=>by have:=y6 x hx;omega,(cB w5 _ _ _).under (Below.next B3 b5) (by omega)⟩)
        |(refine bodyPost_ret (lI (Oh.store a5 k cap5 (k:Int)) rfl rfl) rfl ?_
          rw[ae HR,Mz hs]
          exact⟨a5,cap5,rfl,(cB w5 _ _ _).row r5 (fun x hx _=>by have:=y6 x hx;omega),c5,n5,m5,fun x hx=>by have:=y6 x hx;omega,(cB w5 _ _ _).under (Below.next B3 b5) (by omega)⟩)
        |(refine bodyPost_ret (lI (Oh.store a5 k cap5 s) rfl rfl) rfl ?_
          rw[ae HR,MA (by simp only;omega)]
          exact⟨a5,cap5,rfl,(cB w5 _ _ _).row r5 (fun x hx _=>by have:=y6 x hx;omega),c5,n5,m5,fun x hx=>by have:=y6 x hx;omega,(cB w5 _ _ _).under (Below.next B3 b5) (by omega)⟩)
structure Rec where
 k:Int
 q:Int
 e:Int
 p:Int
 v:Ev
def Rec.fault(r:Rec):Int:=aC r.k r.q r.e r.p r.v.k r.v.p r.v.i r.v.b r.v.he r.v.hn
abbrev lJ(r:Rec):Value:= .agg #[iV r.k,iV r.q,iV r.e,iV r.p,iV r.v.k,iV r.v.p,iV r.v.i,iV r.v.b,iV r.v.he,iV r.v.hn]
def j6(w:tA)(R:Nat)(r:Rec):Prop:=w.heap[R]? =some (.cells #[iV r.k,iV r.q,iV r.e,iV r.p,iV r.v.k,iV r.v.p,iV r.v.i,iV r.v.b,iV r.v.he,iV r.v.hn] 167 (0,0))
theorem j6.cells{w:tA}{R:Nat}{r:Rec}(h:j6 w R r):w.cell? ⟨R,0,none⟩=some (iV r.k)∧w.cell? ⟨R,1,none⟩=some (iV r.q)∧w.cell? ⟨R,2,none⟩=some (iV r.e)∧w.cell? ⟨R,3,none⟩=some (iV r.p)∧w.cell? ⟨R,4,none⟩=some (iV r.v.k)∧w.cell? ⟨R,5,none⟩=some (iV r.v.p)∧w.cell? ⟨R,6,none⟩=some (iV r.v.i)∧w.cell? ⟨R,7,none⟩=some (iV r.v.b)∧w.cell? ⟨R,8,none⟩=some (iV r.v.he)∧w.cell? ⟨R,9,none⟩=some (iV r.v.hn):=by
 unfold j6 at h;simp[World.cell?,h]
open Classical in
noncomputable def cE(B:Bt)(r:Rec):Option Bt:=
 if r.k=1 then(if r.p=0∧B.r=0∧B.e<r.e then some ⟨1,r.e,0,0,0,[]⟩else none)
 else if r.k=2 then(if r.p=0∧B.e=r.e∧B.r=1 then some (B.more [r.v])else none)
 else if r.k=3 then(if B.e=r.e∧B.r=1 then some ⟨3,B.e,B.f,r.p,B.o,B.es⟩else none)
 else if r.k=4 then(if(aQ B r.e r.p).2=0 then some (aQ B r.e r.p).1 else none)
 else if r.k=5 then(if r.p=0∧B.e=r.e∧B.r=4 then some (B.more [r.v])else none)
 else if r.k=6 then(if r.p=0∧B.e=r.e∧B.r=4 then some ⟨1,B.e,0,B.t,B.o,B.es++[Ev.brk]⟩else none)
 else(if r.p=0∧B.e=r.e∧B.r=3 then some ⟨0,B.e,0,0,0,[]⟩else none)
open Classical in
noncomputable def dT(B:Bt)(r:Rec):Bt×Int:=
 if ¬B.Ok then(Bt.zero,6)else if ¬r.fault=0 then(Bt.zero,r.fault)else match cE B r with
  |none=>(Bt.zero,3)
  |some D=>if D.Ok then(D,0)else(Bt.zero,3)
theorem yr{B:Bt}{r:Rec}(ok:B.Ok)(h:r.fault=0)(hd:cE B r=none):dT B r=(Bt.zero,3):=by unfold dT;rw[if_neg (fun g=>g ok),if_neg (fun g=>g h),hd]
theorem Bl{B D:Bt}{r:Rec}(ok:B.Ok)(h:r.fault=0)(hd:cE B r=some D)(hD:¬D.Ok):dT B r=(Bt.zero,3):=by unfold dT;rw[if_neg (fun g=>g ok),if_neg (fun g=>g h),hd];simp[hD]
theorem eJ{B D:Bt}{r:Rec}(ok:B.Ok)(h:r.fault=0)(hd:cE B r=some D)(hD:D.Ok):dT B r=(D,0):=by unfold dT;rw[if_neg (fun g=>g ok),if_neg (fun g=>g h),hd];simp[hD]
theorem Rec.kinds{r:Rec}(h:r.fault=0):r.k=1∨r.k=2∨r.k=3∨r.k=4∨r.k=5∨r.k=6∨r.k=7:=by
 unfold Rec.fault aC at h;split at h
 ·omega
 ·rename_i h1;have:=Decidable.not_not.1 h1;omega
structure Mr(w wx:tA)(B:Bt)(a:tB)(c:Nat)(r:Rec):Prop where
 b:aD wx w.heap.size B.r B.e B.f B.t B.o a B.es.length c
 rc:j6 wx (w.heap.size+1) r
 z:aD wx (w.heap.size+2) 0 0 0 0 0 none 0 0
 cL:bZ w wx
theorem Mr.made(w:tA)(B:Bt)(a:tB)(c:Nat)(r:Rec):∃W,W=((w.alloc (.cells (dm B.r B.e B.f B.t B.o a B.es.length c) 49)).alloc (.cells #[iV r.k,iV r.q,iV r.e,iV r.p,iV r.v.k,iV r.v.p,iV r.v.i,iV r.v.b,iV r.v.he,iV r.v.hn] 167)).alloc (.cells (dm 0 0 0 0 0 none 0 0) 49)∧Mr w W B a c r:=by
 have h0:=aD.new w B.r B.e B.f B.t B.o a B.es.length c;have h1:=heap_alloc_new (w.alloc (.cells (dm B.r B.e B.f B.t B.o a B.es.length c) 49)) (.cells #[iV r.k,iV r.q,iV r.e,iV r.p,iV r.v.k,iV r.v.p,iV r.v.i,iV r.v.b,iV r.v.he,iV r.v.hn] 167);have h2:=aD.new ((w.alloc (.cells (dm B.r B.e B.f B.t B.o a B.es.length c) 49)).alloc (.cells #[iV r.k,iV r.q,iV r.e,iV r.p,iV r.v.k,iV r.v.p,iV r.v.i,iV r.v.b,iV r.v.he,iV r.v.hn] 167)) 0 0 0 0 0 none 0 0;have s1:(w.alloc (.cells (dm B.r B.e B.f B.t B.o a B.es.length c) 49)).heap.size=w.heap.size+1:=by simp
 have s2:((w.alloc (.cells (dm B.r B.e B.f B.t B.o a B.es.length c) 49)).alloc (.cells #[iV r.k,iV r.q,iV r.e,iV r.p,iV r.v.k,iV r.v.p,iV r.v.i,iV r.v.b,iV r.v.he,iV r.v.hn] 167)).heap.size=w.heap.size+2:=by simp
 rw[s1]at h1;rw[s2]at h2;exact⟨_,rfl,(h0.next (aA _ _)).next (aA _ _),((aA _ _).block _ (by rw[s2];omega)).trans h1,h2,Below.next (Below.next (aA _ _) (aA _ _)) (aA _ _)⟩
def Fv(w':tA)(base:Nat)(x:Ending)(o:Option Bt):Prop:=
 match o with
 |none=>x= .returned (.tuple #[bN 0 0 0 0 0 none 0 0,.bool false])
 |some D=>∃a c,x= .returned (.tuple #[bN D.r D.e D.f D.t D.o a D.es.length c,.bool true])∧w'.ownsRow base 55 6 (.slice a D.es.length c) D.es.length ((ai D.es).map (Value.int .i64))
def iB(B:Bt)(r:Rec):Option Bt:=if B.r=0∧B.e<r.e then some ⟨1,r.e,0,0,0,[]⟩else none
def wT(B:Bt):Bt:=⟨0,B.e,0,0,0,[]⟩
theorem rS{W:tA}{R:Nat}{r e f t o:Int}{a:tB}{n c:Nat}{ok:Bool}{tmps:tN}(d:aD W R r e f t o a n c)(t4:tmps[4]? =some (.pointer (some ⟨R,0,none⟩)))(t5:tmps[5]? =some (.bool ok)):
  (results Tryz.f217 tmps).run Tryz.prog W= .ok (.tuple #[bN r e f t o a n c,.bool ok]) W:=by
 simp[results,Tryz.results217,t4,t5,asAddr,dX d]
theorem Is{W:tA}{R:Nat}{r e f t o:Int}{a:tB}{n c:Nat}{ok:Bool}{tmps:tN}(d:aD W R r e f t o a n c)(t4:tmps[4]? =some (.pointer (some ⟨R,0,none⟩)))(t5:tmps[5]? =some (.bool ok)):
  (results Tryz.f223 tmps).run Tryz.prog W= .ok (.tuple #[bN r e f t o a n c,.bool ok]) W:=by
 simp[results,Tryz.results223,t4,t5,asAddr,dX d]
theorem Fw(B:Bt)(a:tB)(c:Nat)(r:Rec)(w:tA):cA 217 #[bN B.r B.e B.f B.t B.o a B.es.length c,lJ r] w fun x w'=>Fv w' w.heap.size x (iB B r)∧bZ w w':=by
 go_enter Tryz.func217,Tryz.ntmps217
 go_upto_region 1 with fail
 obtain⟨W1,hW1,M1⟩:=Mr.made w B a c r;rw[←hW1];clear hW1;obtain⟨x0,x1,x2,x3,x4,x5⟩:=M1.b.cells;obtain⟨r0,r1,r2,r3,r4,r5,r6,r7,r8,r9⟩:=M1.rc.cells;obtain⟨z0,z1,z2,z3,z4,z5⟩:=M1.z.cells;have zf:=M1.z.free;have HM:=ah M1;clear M1;by_cases h1:B.r=0
 ·have e1:(B.r !=0)=false:=by simp[h1]
  by_cases h2:B.e<r.e
  ·have e2:¬r.e≤B.e:=by omega
   have hc:iB B r=some ⟨1,r.e,0,0,0,[]⟩:=by unfold iB;rw[if_pos ⟨h1,h2⟩]
   have HCO:=ah hc;clear h1 h2 hc;go_wp2;obtain⟨W4,hW4,d4,b4,_⟩:=dA (aa HM).z (aa HM).cL (show w.heap.size≤w.heap.size+2 by omega) 1 r.e 0 0 0 none 0 0;rw[←hW4];refine bodyPost_ret (rS d4 rfl rfl) rfl ⟨?_,b4⟩;rw[aa HCO];exact⟨none,0,rfl,World.ownsRow_nil _ _ _ _⟩
  ·have e2:r.e≤B.e:=by omega
   have hc:iB B r=none:=by unfold iB;rw[if_neg (fun h=>h2 h.2)]
   have HCO:=ah hc;clear h1 h2 hc;go_wp2;obtain⟨W4,hW4,d4,b4,_⟩:=dA (aa HM).z (aa HM).cL (show w.heap.size≤w.heap.size+2 by omega) 0 0 0 0 0 none 0 0;rw[←hW4];refine bodyPost_ret (rS d4 rfl rfl) rfl ⟨?_,b4⟩;rw[aa HCO];exact rfl
 ·have e1:(B.r !=0)=true:=by simp[h1]
  have hc:iB B r=none:=by unfold iB;rw[if_neg (fun h=>h1 h.1)]
  have HCO:=ah hc;clear h1 hc;go_wp2;obtain⟨W4,hW4,d4,b4,_⟩:=dA (aa HM).z (aa HM).cL (show w.heap.size≤w.heap.size+2 by omega) 0 0 0 0 0 none 0 0;rw[←hW4];refine bodyPost_ret (rS d4 rfl rfl) rfl ⟨?_,b4⟩;rw[aa HCO];exact rfl
theorem Fx(B:Bt)(a:tB)(c:Nat)(r:Rec)(w:tA):cA 223 #[bN B.r B.e B.f B.t B.o a B.es.length c,lJ r] w fun x w'=>Fv w' w.heap.size x (some (wT B))∧bZ w w':=by
 go_enter Tryz.func223,Tryz.ntmps223
 go_upto_region 1 with fail
 obtain⟨W1,hW1,M1⟩:=Mr.made w B a c r;rw[←hW1];clear hW1;obtain⟨x0,x1,x2,x3,x4,x5⟩:=M1.b.cells;obtain⟨z0,z1,z2,z3,z4,z5⟩:=M1.z.cells;have zf:=M1.z.free;have HM:=ah M1;clear M1;go_wp2;obtain⟨W4,hW4,d4,b4,_⟩:=dA (aa HM).z (aa HM).cL (show w.heap.size≤w.heap.size+2 by omega) 0 B.e 0 0 0 none 0 0;rw[←hW4];exact bodyPost_ret (Is d4 rfl rfl) rfl ⟨⟨none,0,rfl,World.ownsRow_nil _ _ _ _⟩,b4⟩
theorem Ug{W:tA}{R:Nat}{r e f t o:Int}{a:tB}{n c:Nat}{ok:Bool}{tmps:tN}(d:aD W R r e f t o a n c)(t4:tmps[4]? =some (.pointer (some ⟨R,0,none⟩)))(t5:tmps[5]? =some (.bool ok)):
  (results Tryz.f219 tmps).run Tryz.prog W= .ok (.tuple #[bN r e f t o a n c,.bool ok]) W:=by
 simp[results,Tryz.results219,t4,t5,asAddr,dX d]
theorem Fy(w:tA)(x0 x1 x2 x3 x4 x5:Int)(t:tT):∀j u,([x0,x1,x2,x3,x4,x5].map (Value.int .i64))[j]? =some u→(w.alloc (.cells #[iV x0,iV x1,iV x2,iV x3,iV x4,iV x5] t)).cell? ((⟨w.heap.size,0,none⟩:Addr).add j)=some u:=by
 intro j u hj;exact aam w x0 x1 x2 x3 x4 x5 t j u hj
theorem kh{w w1 w2:tA}{row:Option Nat}(h:w.grownBy w1 row)(g:w1.grownBy w2 row):w.grownBy w2 row:=
 ⟨g.os.trans h.os,g.tape.trans h.tape,g.output.trans h.output,Nat.le_trans h.size g.size,fun k hk fw=>(g.block k (Nat.lt_of_lt_of_le hk h.size) fw).trans (h.block k hk fw)⟩
theorem h_{w w1 w2:tA}{row:Option Nat}{R:Nat}(h:w.grownBy w1 row)(t:az R w1 w2)(hR:w.heap.size≤R):w.grownBy w2 row:=
 ⟨t.os.trans h.os,t.tape.trans h.tape,t.output.trans h.output,by rw[t.size];exact h.size,fun k hk fw=>(t.block k (by omega)).trans (h.block k hk fw)⟩
theorem ew{w w':tA}(row:Option Nat)(b:bZ w w'):w.grownBy w' row:=⟨b.os,b.tape,b.output,b.size,fun k hk _=>b.block k hk⟩
structure Ow(w wx:tA)(base:Nat)(row:Option Nat)(r e f t o:Int)(v:tB)(n c:Nat)(es:List Ev):Prop where
 b:aD wx w.heap.size r e f t o v n c
 z:aD wx (w.heap.size+2) 0 0 0 0 0 none 0 0
 own:wx.ownsRow base 55 6 (.slice v n c) n ((ai es).map (Value.int .i64))
 cL:w.grownBy wx row
theorem Ow.made{w wx:tA}{base:Nat}{B:Bt}{a:tB}{c:Nat}{r:Rec}(h:Mr w wx B a c r)(bK:w.ownsRow base 55 6 (.slice a B.es.length c) B.es.length ((ai B.es).map (Value.int .i64))):Ow w wx base (Value.slice a B.es.length c).ownBlock B.r B.e B.f B.t B.o a B.es.length c B.es:=
 ⟨h.b,h.z,aG bK (fun g hg _=>h.cL.block g ((bK.lt g hg).2)),ew _ h.cL⟩
theorem Ow.added{w wx W:tA}{base:Nat}{r e f t o:Int}{a v:tB}{n c vc:Nat}{es:List Ev}{x:Ev}{ob:Obj}(h:Ow w wx base (Value.slice a n c).ownBlock r e f t o a n c es)(bK:w.ownsRow base 55 6 (.slice a n c) n ((ai es).map (Value.int .i64)))
  (own:W.ownsRow base 55 6 (.slice v (n+1) vc) (n+1) ((ai es).map (Value.int .i64)++[x.k,x.p,x.i,x.b,x.he,x.hn].map (Value.int .i64))) (g:(wx.alloc ob).grownBy W (Value.slice a n c).ownBlock):
  aD W w.heap.size r e f t o a n c∧(∀W3,az w.heap.size W W3→∀r' e' f' t' o',aD W3 w.heap.size r' e' f' t' o' v (n+1) vc→Ow w W3 base (Value.slice a n c).ownBlock r' e' f' t' o' v (n+1) vc (es++[x])):=by
 have h1:=h.b.next (aA wx ob);have h2:=h.z.next (aA wx ob);have o1:∀q,(Value.slice a n c).ownBlock=some q→q<w.heap.size:=fun q hq=>(bK.lt q hq).2;have k1:aD W w.heap.size r e f t o a n c:=(g.block _ h1.lt (fun e=>by have:=o1 _ e.symm;omega)).trans h1;have k2:aD W (w.heap.size+2) 0 0 0 0 0 none 0 0:=(g.block _ h2.lt (fun e=>by have:=o1 _ e.symm;omega)).trans h2;have cL:w.grownBy W (Value.slice a n c).ownBlock:=kh (kh h.cL (World.grownBy_alloc wx ob _)) g;refine⟨k1,fun W3 t3 r' e' f' t' o' b3=>⟨b3,k2.dD t3 (by omega), ?_,h_ cL t3 (Nat.le_refl _)⟩⟩;have e1:(ai (es++[x])).map (Value.int .i64)=(ai es).map (Value.int .i64)++[x.k,x.p,x.i,x.b,x.he,x.hn].map (Value.int .i64):=by rw[qT,List.map_append];rfl
 rw[e1];exact t3.owns own (aU own k1 (by decide))
theorem Ow.out{w wx:tA}{base:Nat}{row:Option Nat}{r e f t o:Int}{v:tB}{n c:Nat}{es:List Ev}(h:Ow w wx base row r e f t o v n c es):∃W,W=(((((wx.setCell ⟨w.heap.size+2,0,none⟩ (iV r)).setCell ⟨w.heap.size+2,1,none⟩ (iV e)).setCell ⟨w.heap.size+2,2,none⟩ (iV f)).setCell ⟨w.heap.size+2,3,none⟩ (iV t)).setCell ⟨w.heap.size+2,4,none⟩ (iV o)).setCell ⟨w.heap.size+2,5,none⟩ (.slice v n c)∧aD W (w.heap.size+2) r e f t o v n c∧(n=es.length→Fv W base (.returned (.tuple #[bN r e f t o v n c,.bool true])) (some ⟨r,e,f,t,o,es⟩))∧w.grownBy W row:=by
 obtain⟨W4,hW4,d4,_,t4⟩:=dA h.z (Below.refl _ _) (Nat.le_refl _) r e f t o v n c;refine⟨W4,hW4,d4, ?_,h_ h.cL t4 (by omega)⟩;rintro rfl;exact⟨v,c,rfl,t4.owns h.own (aU h.own h.z (by decide))⟩
theorem De{W:tA}{R:Nat}{r e f t o:Int}{a:tB}{n c:Nat}{ok:Bool}{tmps:tN}(d:aD W R r e f t o a n c)(t4:tmps[4]? =some (.pointer (some ⟨R,0,none⟩)))(t5:tmps[5]? =some (.bool ok)):
  (results Tryz.f222 tmps).run Tryz.prog W= .ok (.tuple #[bN r e f t o a n c,.bool ok]) W:=by
 simp[results,Tryz.results222,t4,t5,asAddr,dX d]
theorem Qd{W:tA}{R:Nat}{r e f t o:Int}{a:tB}{n c:Nat}{ok:Bool}{tmps:tN}(d:aD W R r e f t o a n c)(t4:tmps[4]? =some (.pointer (some ⟨R,0,none⟩)))(t5:tmps[5]? =some (.bool ok)):
  (results Tryz.f220 tmps).run Tryz.prog W= .ok (.tuple #[bN r e f t o a n c,.bool ok]) W:=by
 simp[results,Tryz.results220,t4,t5,asAddr,dX d]
theorem az.drawn(R:Nat)(w:tA):az R w w.drew:=⟨rfl,rfl,rfl,rfl,fun _ _=>rfl⟩
theorem Ow.dD{w wx W:tA}{base:Nat}{row:Option Nat}{r e f t o:Int}{a:tB}{n c:Nat}{es:List Ev}(h:Ow w wx base row r e f t o a n c es)(t3:az w.heap.size wx W){r' e' f' t' o':Int}(b:aD W w.heap.size r' e' f' t' o' a n c):Ow w W base row r' e' f' t' o' a n c es:=
 ⟨b,h.z.dD t3 (by omega),t3.owns h.own (aU h.own h.b (by decide)),h_ h.cL t3 (Nat.le_refl _)⟩
theorem uP{W:tA}{R:Nat}{r e f t o:Int}{a:tB}{n c:Nat}{ok:Bool}{tmps:tN}(d:aD W R r e f t o a n c)(t4:tmps[4]? =some (.pointer (some ⟨R,0,none⟩)))(t5:tmps[5]? =some (.bool ok)):
  (results Tryz.f221 tmps).run Tryz.prog W= .ok (.tuple #[bN r e f t o a n c,.bool ok]) W:=by
 simp[results,Tryz.results221,t4,t5,asAddr,dX d]
def Bt.bare(B:Bt):Bt:=⟨B.r,B.e,B.f,B.t,B.o,[]⟩
theorem Uh{B:Bt}(ok:B.Ok):B.bare.Ok:=by
 refine⟨?_,by simp[Bt.bare],St.zero,[],.nil⟩;have:=ok.cJ;unfold Bt.cC bw at this;show bw B.r B.e B.f B.t B.o 0;unfold bw;rcases this with h|h|h|h|h
 ·exact .inl ⟨h.1,rfl,h.2.2⟩
 ·exact .inr (.inl h)
 ·exact .inr (.inr (.inl h))
 ·exact .inr (.inr (.inr (.inl h)))
 ·exact .inr (.inr (.inr (.inr h)))
theorem It{B:Bt}(ok:B.Ok)(ep fr:Int):∀D er,aQ B.bare ep fr=(D,er)→D.es=[]∧(¬er=0→¬(aQ B ep fr).2=0)∧(er=0→(aQ B ep fr).2=0∧(D.e=B.e→(aQ B ep fr).1=⟨D.r,D.e,D.f,D.t,D.o,B.es⟩)∧(¬D.e=B.e→(aQ B ep fr).1=D)):=by
 intro D er h;have ok0:=Uh ok;unfold aQ at h⊢;rw[if_neg (fun g=>g ok0)]at h;rw[if_neg (fun g=>g ok)];by_cases g:¬((1≤ep∧ep≤1048576)∧(0≤fr∧fr≤4))
 ·rw[if_pos g]at h⊢;obtain⟨rfl,rfl⟩:=Prod.mk.inj h;exact⟨rfl,fun _=>by decide,fun g'=>by cases g'⟩
 rw[if_neg g]at h⊢;by_cases g1:B.r=1∨B.r=2∨B.r=3
 ·rw[if_pos (show B.bare.r=1∨B.bare.r=2∨B.bare.r=3 from g1)]at h;rw[if_pos g1];obtain⟨rfl,rfl⟩:=Prod.mk.inj h;exact⟨rfl,fun _=>by decide,fun g'=>by cases g'⟩
 rw[if_neg (show ¬(B.bare.r=1∨B.bare.r=2∨B.bare.r=3) from g1)]at h;rw[if_neg g1];by_cases g2:B.r=4∧B.e=ep∧B.f=fr
 ·rw[if_pos (show B.bare.r=4∧B.bare.e=ep∧B.bare.f=fr from g2)]at h;rw[if_pos g2];obtain⟨rfl,rfl⟩:=Prod.mk.inj h;exact⟨rfl,fun g'=>absurd rfl g',fun _=>⟨rfl,fun _=>rfl,fun g'=>absurd rfl g'⟩⟩
 rw[if_neg (show ¬(B.bare.r=4∧B.bare.e=ep∧B.bare.f=fr) from g2)]at h;rw[if_neg g2];by_cases g3:ep≤B.e
 ·rw[if_pos (show ep≤B.bare.e from g3)]at h;rw[if_pos g3];obtain⟨rfl,rfl⟩:=Prod.mk.inj h;exact⟨rfl,fun _=>by decide,fun g'=>by cases g'⟩
 rw[if_neg (show ¬(ep≤B.bare.e) from g3)]at h;rw[if_neg g3];obtain⟨rfl,rfl⟩:=Prod.mk.inj h;exact⟨rfl,fun g'=>absurd rfl g',fun _=>⟨rfl,fun g'=>by simp only at g';omega,fun _=>rfl⟩⟩
structure Bg(w wx:tA)(base:Nat)(B:Bt)(a:tB)(c:Nat)(r:Rec):Prop where
 b:aD wx w.heap.size B.r B.e B.f B.t B.o none 0 0
 rc:j6 wx (w.heap.size+1) r
 z:aD wx (w.heap.size+2) 0 0 0 0 0 none 0 0
 own:wx.ownsRow base 55 6 (.slice a B.es.length c) B.es.length ((ai B.es).map (Value.int .i64))
 cL:bZ w wx
theorem Bg.next{w wx wy:tA}{base:Nat}{B:Bt}{a:tB}{c:Nat}{r:Rec}(h:Bg w wx base B a c r)(b:bZ wx wy):Bg w wy base B a c r:=
 ⟨h.b.next b,(b.block _ (cj h.rc)).trans h.rc,h.z.next b,aG h.own (fun g hg _=>b.block g ((h.own.lt g hg).2)),Below.trans h.cL (b.mono (by have:=h.b.lt;omega))⟩
theorem Bg.made{w wx:tA}{base:Nat}{B:Bt}{a:tB}{c:Nat}{r:Rec}(h:Mr w wx B a c r)(bK:w.ownsRow base 55 6 (.slice a B.es.length c) B.es.length ((ai B.es).map (Value.int .i64))):∃W,W=wx.setCell ⟨w.heap.size,5,none⟩ (.slice none 0 0)∧Bg w W base B a c r:=by
 have t:=az.set w.heap.size 5 wx (.slice none 0 0);refine⟨_,rfl, ?_,(t.block _ (by omega)).trans h.rc,h.z.dD t (by omega), ?_,t.under h.cL (Nat.le_refl _)⟩
 ·have:=h.b;unfold aD at this⊢;rw[cy this];simp
 ·exact aG bK (fun g hg _=>by have:=(bK.lt g hg).2;rw[t.block g (by omega)];exact h.cL.block g this)
theorem Fz{B:Bt}(h:B.cC):B.bare.Ok:=by
 refine⟨?_,by simp[Bt.bare],St.zero,[],.nil⟩;unfold Bt.cC bw at h;show bw B.r B.e B.f B.t B.o 0;unfold bw;rcases h with h|h|h|h|h
 ·exact .inl ⟨h.1,rfl,h.2.2⟩
 ·exact .inr (.inl h)
 ·exact .inr (.inr (.inl h))
 ·exact .inr (.inr (.inr (.inl h)))
 ·exact .inr (.inr (.inr (.inr h)))
open Classical in
noncomputable def jV(B:Bt)(r:Rec):Option Bt:=
 if(aQ B.bare r.e r.p).2=0 then some (if(aQ B.bare r.e r.p).1.e=B.e then⟨(aQ B.bare r.e r.p).1.r,(aQ B.bare r.e r.p).1.e,(aQ B.bare r.e r.p).1.f,(aQ B.bare r.e r.p).1.t,(aQ B.bare r.e r.p).1.o,B.es⟩else(aQ B.bare r.e r.p).1)else none
open Classical in
noncomputable def fK(B:Bt)(r:Rec):Option Bt:=if r.k=4 then jV B r else cE B r
theorem nc{B:Bt}{r:Rec}(ok:B.Ok):fK B r=cE B r:=by
 unfold fK;by_cases hk:r.k=4
 ·rw[if_pos hk];unfold cE;rw[if_neg (by omega),if_neg (by omega),if_neg (by omega),if_pos hk];obtain⟨D,er,hD⟩:∃D er,aQ B.bare r.e r.p=(D,er):=⟨_,_,rfl⟩;obtain⟨_,N_,sW⟩:=It ok r.e r.p D er hD;unfold jV;rw[hD];by_cases h0:er=0
  ·obtain⟨y0,y1,y2⟩:=sW h0;rw[if_pos h0,if_pos y0];by_cases h1:D.e=B.e
   ·rw[if_pos h1,y1 h1]
   ·rw[if_neg h1,y2 h1]
  ·rw[if_neg h0,if_neg (N_ h0)]
 ·rw[if_neg hk]
theorem vM{B D:Bt}{r:Rec}(h:B.cC)(hd:jV B r=some D):D=B∨(D=⟨4,r.e,r.p,0,0,[]⟩∧1≤r.e∧r.e≤1048576∧0≤r.p∧r.p≤4):=by
 have ok:=Fz h;unfold jV at hd;obtain⟨E,er,hE⟩:∃E er,aQ B.bare r.e r.p=(E,er):=⟨_,_,rfl⟩;rw[hE]at hd;unfold aQ at hE;rw[if_neg (fun g=>g ok)]at hE;by_cases g0:¬((1≤r.e∧r.e≤1048576)∧(0≤r.p∧r.p≤4))
 ·rw[if_pos g0]at hE;obtain⟨rfl,rfl⟩:=Prod.mk.inj hE;rw[if_neg (by decide)]at hd;cases hd
 rw[if_neg g0]at hE;have X7:=Decidable.not_not.1 g0;by_cases g1:B.r=1∨B.r=2∨B.r=3
 ·rw[if_pos (show B.bare.r=1∨B.bare.r=2∨B.bare.r=3 from g1)]at hE;obtain⟨rfl,rfl⟩:=Prod.mk.inj hE;rw[if_neg (by decide)]at hd;cases hd
 rw[if_neg (show ¬(B.bare.r=1∨B.bare.r=2∨B.bare.r=3) from g1)]at hE;by_cases g2:B.r=4∧B.e=r.e∧B.f=r.p
 ·rw[if_pos (show B.bare.r=4∧B.bare.e=r.e∧B.bare.f=r.p from g2)]at hE;obtain⟨rfl,rfl⟩:=Prod.mk.inj hE;rw[if_pos rfl,if_pos (show B.bare.e=B.e from rfl)]at hd;cases hd;exact .inl rfl
 rw[if_neg (show ¬(B.bare.r=4∧B.bare.e=r.e∧B.bare.f=r.p) from g2)]at hE;by_cases g3:r.e≤B.e
 ·rw[if_pos (show r.e≤B.bare.e from g3)]at hE;obtain⟨rfl,rfl⟩:=Prod.mk.inj hE;rw[if_neg (by decide)]at hd;cases hd
 rw[if_neg (show ¬r.e≤B.bare.e from g3)]at hE;obtain⟨rfl,rfl⟩:=Prod.mk.inj hE;rw[if_pos rfl,if_neg (show ¬r.e=B.e by omega)]at hd;cases hd;exact .inr ⟨rfl,X7.1.1,X7.1.2,X7.2.1,X7.2.2⟩
theorem oJ{B D:Bt}{r:Rec}(h:B.cC)(hf:r.fault=0)(hd:fK B r=some D):D.cC∧(D.es=[]∨B.es<+:D.es):=by
 have hr:(1≤r.k∧r.k≤7)∧(0≤r.q∧r.q≤3∧0≤r.e∧r.e≤1048576∧0≤r.p∧r.p≤4):=by
  unfold Rec.fault aC at hf;split at hf
  ·omega
  ·rename_i h1;split at hf
   ·omega
   ·rename_i h2;exact⟨Decidable.not_not.1 h1,Decidable.not_not.1 h2⟩
 have hs:=h;unfold Bt.cC bw at hs;unfold fK at hd;by_cases hk:r.k=4
 ·rw[if_pos hk]at hd;rcases vM h hd with rfl|⟨rfl,g1,g2,g3,g4⟩
  ·exact⟨h,.inr (List.prefix_refl _)⟩
  ·exact⟨.inr (.inr (.inr (.inr ⟨rfl,g1,g2,g3,g4,rfl,rfl⟩))),.inl rfl⟩
 rw[if_neg hk]at hd;unfold cE at hd;by_cases k1:r.k=1
 ·rw[if_pos k1]at hd;split at hd
  ·rename_i g;cases hd;exact⟨.inr (.inl ⟨rfl,by simp only;omega,by simp only;omega,rfl,rfl,rfl⟩),.inl rfl⟩
  ·cases hd
 rw[if_neg k1]at hd;by_cases k2:r.k=2
 ·rw[if_pos k2]at hd;split at hd
  ·rename_i g;cases hd;refine⟨?_,.inr (List.prefix_append _ _)⟩;unfold Bt.cC bw;simp only[Bt.more];refine .inr (.inl ⟨g.2.2, ?_⟩);omega
  ·cases hd
 rw[if_neg k2]at hd;by_cases k3:r.k=3
 ·rw[if_pos k3]at hd;split at hd
  ·rename_i g;cases hd;refine⟨?_,.inr (List.prefix_refl _)⟩;show bw 3 B.e B.f r.p B.o _;unfold bw;refine .inr (.inr (.inr (.inl ⟨rfl, ?_⟩)));omega
  ·cases hd
 rw[if_neg k3,if_neg hk]at hd;by_cases k5:r.k=5
 ·rw[if_pos k5]at hd;split at hd
  ·rename_i g;cases hd;refine⟨?_,.inr (List.prefix_append _ _)⟩;unfold Bt.cC bw;simp only[Bt.more];refine .inr (.inr (.inr (.inr ⟨g.2.2, ?_⟩)));omega
  ·cases hd
 rw[if_neg k5]at hd;by_cases k6:r.k=6
 ·rw[if_pos k6]at hd;split at hd
  ·rename_i g;cases hd;refine⟨?_,.inr (List.prefix_append _ _)⟩;show bw 1 B.e 0 B.t B.o _;unfold bw;refine .inr (.inl ⟨rfl, ?_⟩);omega
  ·cases hd
 rw[if_neg k6]at hd;split at hd
 ·rename_i g;cases hd;refine⟨?_,.inl rfl⟩;show bw 0 B.e 0 0 0 0;unfold bw;exact .inl ⟨rfl,rfl,by omega,by omega,rfl,rfl,rfl⟩
 ·cases hd
open Classical in
noncomputable def stepT(B:Bt)(r:Rec):Option Bt:=
 match fK B r with
 |none=>none
 |some D=>if D.es.length<B.es.length∧¬B.Ok then none else some D
theorem yt{B D:Bt}{r:Rec}(h:stepT B r=some D):fK B r=some D∧(D.es.length<B.es.length→B.Ok):=by
 unfold stepT at h;split at h
 ·cases h
 ·rename_i E hE;split at h
  ·cases h
  ·rename_i g;cases h;exact⟨hE,fun h1=>Classical.byContradiction fun h2=>g ⟨h1,h2⟩⟩
theorem pO{B:Bt}{r:Rec}(ok:B.Ok):stepT B r=fK B r:=by
 unfold stepT;cases h:fK B r with
 |none=>rfl
 |some D=>simp only;rw[if_neg (fun g=>g.2 ok)]
theorem Ui{B D:Bt}{r:Rec}(hs:B.cC)(hf:r.fault=0)(h:stepT B r=some D)(hD:D.Ok):B.Ok:=by
 obtain⟨h1,h2⟩:=yt h;obtain⟨_,h3⟩:=oJ hs hf h1;by_cases hl:D.es.length<B.es.length
 ·exact h2 hl
 ·have hp:B.es<+:D.es:=by
   rcases h3 with h3|h3
   ·rw[h3]at hl⊢;have:B.es=[]:=List.length_eq_zero_iff.1 (by simpa using hl);rw[this];exact List.prefix_refl _
   ·exact h3
  obtain⟨t,ht⟩:=hp;obtain⟨s,bu,hT⟩:=hD.told;have hlen:=hD.len;rw[←ht]at hT hlen;obtain⟨s0,hT0⟩:=hT.take B.es.length (by simp);rw[List.take_left']at hT0
  ·exact⟨hs,by simp at hlen;omega,s0,_,hT0⟩
  ·rfl
def At(S:List Bt)(r:Rec):Bt:=S.getD r.q.toNat Bt.zero
def put(S:List Bt)(r:Rec)(D:Bt):List Bt:=S.set r.q.toNat D
open Classical in
noncomputable def cZ(S:List Bt):List Rec→Option (List Bt)×Int
 |[]=>if∀B∈S,B.Ok then(some S,0)else(none,3)
 |r::l=>if ¬r.fault=0 then(none,r.fault)else match stepT (At S r) r with
  |none=>(none,3)
  |some D=>cZ (put S r D) l
noncomputable def ki(S:List Bt)(i:Nat):List Rec→Option (List Bt)×Nat×Int
 |[]=>(some S,0,0)
 |r::l=>if ¬r.fault=0 then(none,i,r.fault)else match dT (At S r) r with
  |(D,e)=>if e=0 then ki (put S r D) (i+1) l else(none,i,e)
theorem wU{r:Rec}(hf:r.fault=0):0≤r.q∧r.q≤3:=by
 unfold Rec.fault aC at hf;split at hf
 ·omega
 ·split at hf
  ·omega
  ·rename_i h2;have:=Decidable.not_not.1 h2;omega
theorem at_mem{S:List Bt}{r:Rec}(hl:S.length=4)(hf:r.fault=0):At S r∈S:=by
 have hq:=wU hf;have hi:r.q.toNat<S.length:=by omega
 unfold At;rw[List.getD_eq_getElem?_getD,List.getElem?_eq_getElem hi];exact List.getElem_mem hi
theorem qt{S:List Bt}{r:Rec}{D:Bt}:(put S r D).length=S.length:=List.length_set
theorem sX{P:Bt→Prop}{S:List Bt}{r:Rec}{D:Bt}(h:∀B∈S,P B)(hD:P D):∀B∈put S r D,P B:=fun B hB=>by
 rcases List.mem_or_eq_of_mem_set hB with h1|h1
 ·exact h B h1
 ·rw[h1];exact hD
theorem FA{P:Bt→Prop}{S:List Bt}{r:Rec}{D:Bt}(hl:S.length=4)(hf:r.fault=0)(h:∀B∈put S r D,P B):P D∧∀i,i≠r.q.toNat→∀hi:i<S.length,P S[i]:=by
 have hq:=wU hf;have hi:r.q.toNat<S.length:=by omega
 refine⟨h D (List.mem_set hi D),fun i fw hi'=>h _ ?_⟩;have:(put S r D)[i]'(by rw[qt];exact hi')=S[i]:=List.getElem_set_ne (fun e=>fw e.symm) _;rw[←this];exact List.getElem_mem _
theorem Kj:∀(l:List Rec) (S S':List Bt) (e:Int),S.length=4→(∀B∈S,B.cC)→cZ S l=(some S',e)→(∀B∈S,B.Ok)∧e=0
 |[],S,S',e,_,_,h=>by
  unfold cZ at h;split at h
  ·rename_i g;exact⟨g,(Prod.mk.inj h).2.symm⟩
  ·cases(Prod.mk.inj h).1
 |r::l,S,S',e,hl,hs,h=>by
  unfold cZ at h;split at h
  ·cases(Prod.mk.inj h).1
  ·rename_i GV;have hf:=Decidable.not_not.1 GV;split at h
   ·cases(Prod.mk.inj h).1
   ·rename_i D hD;have hA:=hs _ (at_mem hl hf);have hDs:=(oJ hA hf (yt hD).1).1;obtain⟨ih,he⟩:=Kj l (put S r D) S' e (by rw[qt];exact hl) (sX hs hDs) h;obtain⟨hDo,ho⟩:=FA hl hf ih;have zZ:=Ui hA hf hD hDo;refine⟨fun B hB=> ?_,he⟩;obtain⟨i,hi,rfl⟩:=List.getElem_of_mem hB;by_cases fw:i=r.q.toNat
    ·have:At S r=S[i]:=by
      unfold At;rw[List.getD_eq_getElem?_getD,←fw,List.getElem?_eq_getElem hi];rfl
     rw[←this];exact zZ
    ·exact ho i fw hi
theorem FB:∀(l:List Rec) (S S':List Bt) (i j:Nat) (e:Int),S.length=4→(∀B∈S,B.Ok)→ki S i l=(some S',j,e)→cZ S l=(some S',0)∧j=0∧e=0
 |[],S,S',i,j,e,_,ed,h=>by
  unfold ki at h;cases h;unfold cZ;rw[if_pos ed];exact⟨rfl,rfl,rfl⟩
 |r::l,S,S',i,j,e,hl,ed,h=>by
  unfold ki at h;split at h
  ·cases h
  ·rename_i GV;have hf:=Decidable.not_not.1 GV;have zZ:=ed _ (at_mem hl hf);cases hd:cE (At S r) r with
   |none=>
    rw[yr zZ hf hd]at h;simp at h
   |some D=>
    by_cases hDo:D.Ok
    ·rw[eJ zZ hf hd hDo]at h;simp only[if_true]at h;have ih:=FB l (put S r D) S' (i+1) j e (by rw[qt];exact hl) (sX ed hDo) h;unfold cZ;rw[if_neg GV,pO zZ,nc zZ,hd];exact ih
    ·rw[Bl zZ hf hd hDo]at h;simp at h
theorem Bm:∀(l:List Rec) (S:List Bt) (i j:Nat) (e:Int),S.length=4→(∀B∈S,B.Ok)→ki S i l=(none,j,e)→∃n,n<l.length∧j=i+n∧¬e=0∧(∀k,k≤n→∃S',cZ S (l.take k)=(some S',0))∧∀k,n<k→(cZ S (l.take k)).1=none∧(k=n+1→(cZ S (l.take k)).2=e)
 |[],S,i,j,e,_,_,h=>by unfold ki at h;cases h
 |r::l,S,i,j,e,hl,ed,h=>by
  have pk:∃S',cZ S ((r::l).take 0)=(some S',0):=⟨S,by simp only[List.take_zero];unfold cZ;rw[if_pos ed]⟩;have hz:∀k,k≤0→∃S',cZ S ((r::l).take k)=(some S',0):=fun k hk=>by
   rw[Nat.le_zero.1 hk];exact pk
  unfold ki at h;split at h
  ·rename_i hf;cases h;refine⟨0,by simp,rfl,hf,hz,fun k hk=> ?_⟩;obtain⟨m,rfl⟩:∃m,k=m+1:=⟨k-1,by omega⟩;rw[List.take_succ_cons];unfold cZ;rw[if_pos hf];exact⟨rfl,fun _=>rfl⟩
  ·rename_i GV;have hf:=Decidable.not_not.1 GV;have zZ:=ed _ (at_mem hl hf);cases hd:cE (At S r) r with
   |none=>
    rw[yr zZ hf hd]at h;simp at h;obtain⟨rfl,rfl⟩:=h;refine⟨0,by simp,rfl,by decide,hz,fun k hk=> ?_⟩;obtain⟨m,rfl⟩:∃m,k=m+1:=⟨k-1,by omega⟩;rw[List.take_succ_cons];unfold cZ;rw[if_neg GV,pO zZ,nc zZ,hd];exact⟨rfl,fun _=>rfl⟩
   |some D=>
    by_cases hDo:D.Ok
    ·rw[eJ zZ hf hd hDo]at h;simp only[if_true]at h;obtain⟨n,h1,h2,h3,h4,h5⟩:=Bm l (put S r D) (i+1) j e (by rw[qt];exact hl) (sX ed hDo) h;have Wy:∀m,cZ S ((r::l).take (m+1))=cZ (put S r D) (l.take m):=by
      intro m;rw[List.take_succ_cons]
      conv=>lhs;unfold cZ
      rw[if_neg GV,pO zZ,nc zZ,hd]
     refine⟨n+1,by simp;omega,by omega,h3,fun k hk=> ?_,fun k hk=> ?_⟩
     ·rcases Nat.eq_zero_or_pos k with rfl|hp
      ·exact pk
      ·obtain⟨m,rfl⟩:∃m,k=m+1:=⟨k-1,by omega⟩;rw[Wy];exact h4 m (by omega)
     ·obtain⟨m,rfl⟩:∃m,k=m+1:=⟨k-1,by omega⟩;rw[Wy];exact⟨(h5 m (by omega)).1,fun j4=>(h5 m (by omega)).2 (by omega)⟩
    ·rw[Bl zZ hf hd hDo]at h;simp at h;obtain⟨rfl,rfl⟩:=h;have aaH:∀m,(cZ S ((r::l).take (m+1))).1=none:=by
      intro m;cases hc:(cZ S ((r::l).take (m+1))).1 with
      |none=>rfl
      |some S'=>
       exfalso;have hS:=ed;have he:cZ S ((r::l).take (m+1))=(some S',(cZ S ((r::l).take (m+1))).2):=by rw[←hc]
       rw[List.take_succ_cons]at he;have hss:∀B∈S,B.cC:=fun B hB=>(ed B hB).cJ
       conv at he=>lhs;unfold cZ
       rw[if_neg GV,pO zZ,nc zZ,hd]at he;simp only at he;have hDs:=(oJ zZ.cJ hf (by rw[nc zZ];exact hd)).1;have:=(Kj _ _ _ _ (by rw[qt];exact hl) (sX hss hDs) he).1;exact hDo (FA hl hf this).1
     refine⟨0,by simp,rfl,by decide,hz,fun k hk=> ?_⟩;obtain⟨m,rfl⟩:∃m,k=m+1:=⟨k-1,by omega⟩;refine⟨aaH m,fun j4=> ?_⟩;obtain rfl:m=0:=by omega
     have:=aaH 0;rw[List.take_succ_cons,List.take_zero]at this⊢
     conv=>lhs;unfold cZ
     conv at this=>lhs;unfold cZ
     rw[if_neg GV,pO zZ,nc zZ,hd]at this⊢;simp only at this⊢;unfold cZ at this⊢;split at this
     ·cases this
     ·rename_i g;rw[if_neg g]
theorem Iu(B:Bt)(a:tB)(c:Nat)(ep fr:Int)(w:tA)(hb:iL w B a c)(ok:B.Ok)(h1:1≤ep∧ep≤1048576)(h2:0≤fr∧fr≤4)(h5:¬(B.r=1∨B.r=2∨B.r=3))(h7:¬ep≤B.e):cA 165 #[bN B.r B.e B.f B.t B.o a B.es.length c,iV ep,iV fr] w (rB (.tuple #[bN 4 ep fr 0 0 none 0 0,iV 0]) w):=by
 have HE:=fun w=>ka ep w;have HN:=fun w=>gm fr w;have HS:=fun w=>lD B.r B.e B.f B.t B.o a B.es.length c w;rw[decide_eq_true h1]at HE;rw[decide_eq_true h2]at HN;rw[decide_eq_false (show ¬(B.r=1∨B.r=2) by omega)]at HS;have H1:=ah (And.intro h1 h2);have h4:¬B.r=3:=by omega
 have h6:¬(B.r=4∧B.e=ep∧B.f=fr):=by omega
 have H3:Hid (¬(B.r=1∨B.r=2)):=ah (by omega);have H5:Hid (¬(B.r=1∨B.r=2∨B.r=3)):=ah h5;clear h1 h2 h5;go_enter Tryz.func165,Tryz.ntmps165
 go_upto_region 1 with fail
 obtain⟨W1,hW1,M1⟩:=Mb.made w B a c;rw[←hW1];clear hW1;have HC:=gh B a c W1 (hb.next M1.cL) ok;obtain⟨x0,x1,x2,x3,x4,x5⟩:=M1.b.cells;have HM:=ah M1;clear M1;have e4:(B.r==3)=false:=by simpa using h4
 go_upto_region 7 with(first|(go_at_call 176;refine HC.mono ?_;rintro x W2 ⟨rfl,b2⟩;clear HC x0 x1 x2 x3 x4 x5;have M2:=(aa HM).next b2;obtain⟨x0,x1,x2,x3,x4,x5⟩:=M2.b.cells;have TR:=ah M2;clear M2 b2 HM)|(go_at_call 178;refine(HE _).mono ?_;rintro x w3 ⟨rfl,hw3⟩;subst w3)|(go_at_call 184;refine(HN _).mono ?_;rintro x w3 ⟨rfl,hw3⟩;subst w3)|(go_at_call 205;refine(HS _).mono ?_;rintro x W3 ⟨rfl,b3⟩;have M3:=(aa TR).next b3;clear TR x0 x1 x2 x3 x4 x5;obtain⟨x0,x1,x2,x3,x4,x5⟩:=M3.b.cells;have TR:=ah M3;clear M3 b3))
 clear e4 h4 HE HN;have h6':((B.r==4)=false)∨((B.r==4)=true∧(B.e==ep)=false):=by
  by_cases g1:B.r=4
  ·exact .inr ⟨by simpa using g1,by simp;omega⟩
  ·exact .inl (by simpa using g1)
 clear h6;have zf:=(aa TR).z.free;obtain⟨z0,z1,z2,z3,z4,z5⟩:=(aa TR).z.cells;rcases h6' with g1|⟨g1,g2⟩
 all_goals
  go_wp2;obtain⟨W4,hW4,d4,b4,_⟩:=dA (aa TR).z (aa TR).cL (show w.heap.size≤w.heap.size+1 by omega) 4 ep fr 0 0 none 0 0;rw[←hW4];exact bodyPost_ret (Ic d4 rfl rfl) rfl ⟨rfl,b4⟩
def z7(w:tA)(nU v:tJ):Prop:=∀g,v.ownBlock=some g→nU.ownBlock=some g∨w.heap.size≤g
theorem z7.lower{w w1:tA}{nU v:tJ}(h:z7 w1 nU v)(hs:w.heap.size≤w1.heap.size):z7 w nU v:=fun g hg=>(h g hg).imp id (fun h=>Nat.le_trans hs h)
def yu:Value→Nat
 | .slice _ n _=>n
 |_=>0
def ft(w w':tA)(base:Nat)(nU:tJ)(x:Ending)(o:Option Bt):Prop:=
 match o with
 |none=>x= .returned (.tuple #[bN 0 0 0 0 0 none 0 0,.bool false])
 |some D=>∃a c,x= .returned (.tuple #[bN D.r D.e D.f D.t D.o a D.es.length c,.bool true])∧w'.ownsRow base 55 6 (.slice a D.es.length c) D.es.length ((ai D.es).map (Value.int .i64))∧z7 w nU (.slice a D.es.length c)∧(D.es.length<yu nU→bZ w w')
theorem ft.fresh{w w':tA}{base:Nat}{nU:tJ}{x:Ending}{o:Option Bt}(h:Fv w' w.heap.size x o)(hb:base≤w.heap.size)(cL:bZ w w'):ft w w' base nU x o:=by
 cases o with
 |none=>exact h
 |some D=>
  obtain⟨a,c,h1,h2⟩:=h;exact⟨a,c,h1,kU h2 hb,fun g hg=> .inr (h2.lt g hg).1,fun _=>cL⟩
theorem ft.lie{w w':tA}{base:Nat}{nU:tJ}{r e f t o:Int}{a:tB}{n c:Nat}{D:Bt}(h:Fv w' base (.returned (.tuple #[bN r e f t o a n c,.bool true])) (some D))(hl:z7 w nU (.slice a n c))(hn:yu nU≤n):ft w w' base nU (.returned (.tuple #[bN r e f t o a n c,.bool true])) (some D):=by
 obtain⟨a',c',h1,h2⟩:=h;have h3:=h1;simp at h3;obtain⟨_,_,_,_,_,rfl,sf,rfl⟩:=h3;refine⟨a,c,h1,h2, ?_,fun h=>by omega⟩;rw[←sf];exact hl
theorem vN{B D:Bt}{ep fr er:Int}(ok:B.bare.Ok)(h:aQ B.bare ep fr=(D,er)):(¬er=0∧D.es=[])∨(D=B.bare∧er=0∧D.e=B.e)∨(D=⟨4,ep,fr,0,0,[]⟩∧er=0∧(1≤ep∧ep≤1048576)∧(0≤fr∧fr≤4)∧¬(B.r=1∨B.r=2∨B.r=3)∧¬ep≤B.e):=by
 unfold aQ at h;rw[if_neg (fun g=>g ok)]at h;by_cases g0:¬((1≤ep∧ep≤1048576)∧(0≤fr∧fr≤4))
 ·rw[if_pos g0]at h;obtain⟨rfl,rfl⟩:=Prod.mk.inj h;exact .inl ⟨by decide,rfl⟩
 rw[if_neg g0]at h;have X7:=Decidable.not_not.1 g0;by_cases g1:B.r=1∨B.r=2∨B.r=3
 ·rw[if_pos (show B.bare.r=1∨B.bare.r=2∨B.bare.r=3 from g1)]at h;obtain⟨rfl,rfl⟩:=Prod.mk.inj h;exact .inl ⟨by decide,rfl⟩
 rw[if_neg (show ¬(B.bare.r=1∨B.bare.r=2∨B.bare.r=3) from g1)]at h;by_cases g2:B.r=4∧B.e=ep∧B.f=fr
 ·rw[if_pos (show B.bare.r=4∧B.bare.e=ep∧B.bare.f=fr from g2)]at h;obtain⟨rfl,rfl⟩:=Prod.mk.inj h;exact .inr (.inl ⟨rfl,rfl,rfl⟩)
 rw[if_neg (show ¬(B.bare.r=4∧B.bare.e=ep∧B.bare.f=fr) from g2)]at h;by_cases g3:ep≤B.e
 ·rw[if_pos (show ep≤B.bare.e from g3)]at h;obtain⟨rfl,rfl⟩:=Prod.mk.inj h;exact .inl ⟨by decide,rfl⟩
 rw[if_neg (show ¬ep≤B.bare.e from g3)]at h;obtain⟨rfl,rfl⟩:=Prod.mk.inj h;exact .inr (.inr ⟨rfl,rfl,X7.1,X7.2,g1,g3⟩)
theorem Iv(B:Bt)(a:tB)(c:Nat)(r:Rec)(w:tA)(base:Nat)(bK:w.ownsRow base 55 6 (.slice a B.es.length c) B.es.length ((ai B.es).map (Value.int .i64)))(hs:B.cC):
  cA 221 #[bN B.r B.e B.f B.t B.o a B.es.length c,lJ r] w fun x w'=>ft w w' base (.slice a B.es.length c) x (jV B r)∧bZ w w':=by
 obtain⟨D,er,hD⟩:∃D er,aQ B.bare r.e r.p=(D,er):=⟨_,_,rfl⟩;have ok:=Fz hs;have Wz:D.es=[]:=by
  rcases vN ok hD with h|⟨rfl,h,_⟩|⟨rfl,_⟩
  ·exact h.2
  ·rfl
  ·rfl
 have HB:∀w,cA 165 #[bN B.r B.e B.f B.t B.o none 0 0,iV r.e,iV r.p] w fun x w'=>∃a' c',x= .returned (.tuple #[bN D.r D.e D.f D.t D.o a' 0 c',iV er])∧(er=0→¬D.e=B.e→a'=none∧c'=0)∧bZ w w':=fun w=>by
  rcases vN ok hD with⟨h,_⟩|⟨rfl,h0,h⟩|⟨rfl,h0,g1,g2,g3,g4⟩
  ·refine(rM B.bare none 0 r.e r.p w ⟨RowK.nil _ _ _,Nat.le_refl _,fun _=>rfl⟩).mono fun x w' ⟨y,B',er',h1,h2,h3,h4⟩=> ?_;rw[hD]at h2;obtain⟨rfl,rfl⟩:=Prod.mk.inj h2;obtain⟨a',c',rfl,i3,_⟩:=h3;rw[Wz]at h1;exact⟨a',c',h1,fun h'=>absurd h' h,h4⟩
  ·refine(rM B.bare none 0 r.e r.p w ⟨RowK.nil _ _ _,Nat.le_refl _,fun _=>rfl⟩).mono fun x w' ⟨y,B',er',h1,h2,h3,h4⟩=> ?_;rw[hD]at h2;obtain⟨rfl,rfl⟩:=Prod.mk.inj h2;obtain⟨a',c',rfl,i3,_⟩:=h3;rw[Wz]at h1;exact⟨a',c',h1,fun _ h'=>absurd rfl h',h4⟩
  ·refine(Iu B.bare none 0 r.e r.p w ⟨RowK.nil _ _ _,Nat.le_refl _,fun _=>rfl⟩ ok g1 g2 g3 g4).mono fun x w' ⟨h1,h4⟩=> ?_;rw[h0];exact⟨none,0,h1,fun _ _=>⟨rfl,rfl⟩,h4⟩
 have hT:jV B r=if er=0 then some (if D.e=B.e then⟨D.r,D.e,D.f,D.t,D.o,B.es⟩else D)else none:=by unfold jV;rw[hD]
 have HT:=ah hT;have HES:=ah Wz;clear hD Wz hT ok hs;go_enter Tryz.func221,Tryz.ntmps221
 go_upto_region 1 with fail
 obtain⟨W1,hW1,M1⟩:=Mr.made w B a c r;rw[←hW1];clear hW1;obtain⟨W2,hW2,G2⟩:=Bg.made M1 bK;obtain⟨x0,x1,x2,x3,x4,x5⟩:=M1.b.cells;have xf:=M1.b.free;have Zk:=ah hW2;have HG2:=ah G2;clear hW2 G2 M1 bK
 go_upto_region 3 with fail
 rw[←aa Zk];clear Zk x0 x1 x2 x3 x4 x5 xf;have hc:=HB W2;obtain⟨x0,x1,x2,x3,x4,x5⟩:=(aa HG2).b.cells;obtain⟨r0,r1,r2,r3,r4,r5,r6,r7,r8,r9⟩:=(aa HG2).rc.cells;clear HB
 go_upto_region 4 with(go_at_call 165;refine hc.mono ?_;rintro x W3 ⟨a',c',rfl,n3,b3⟩;clear hc x0 x1 x2 x3 x4 x5 r0 r1 r2 r3 r4 r5 r6 r7 r8 r9;have X8:=ah n3;have Uj:=ah ((aa HG2).next b3);clear n3 b3)
 obtain⟨W4,hW4,d4,b4⟩:∃W4,W4=W3.alloc (.cells (dm D.r D.e D.f D.t D.o a' 0 c') 49)∧aD W4 W3.heap.size D.r D.e D.f D.t D.o a' 0 c'∧bZ W3 W4:=⟨_,rfl,aD.new _ _ _ _ _ _ _ _ _,aA _ _⟩;rw[←hW4];have G4:=(aa Uj).next b4;have aL:w.heap.size+2<W3.heap.size:=(aa Uj).z.lt;have Kk:=ah G4;have JS:=ah d4;clear hW4 Uj HG2 G4;by_cases h0:er=0
 case neg=>
  have e1:(er !=0)=true:=by simp[h0]
  have HR:jV B r=none:=by rw[aa HT,if_neg h0]
  have Zp:=ah HR;obtain⟨z0,z1,z2,z3,z4,z5⟩:=(aa Kk).z.cells;have zf:=(aa Kk).z.free;clear h0 HR b4 d4;go_wp2;obtain⟨W5,hW5,d5,b5,_⟩:=dA (aa Kk).z (aa Kk).cL (show w.heap.size≤w.heap.size+2 by omega) 0 0 0 0 0 none 0 0;rw[←hW5];refine bodyPost_ret (uP d5 rfl rfl) rfl ⟨?_,b5⟩;rw[aa Zp];exact rfl
 case pos=>
 have e1:(er !=0)=false:=by simp[h0]
 have HR:jV B r=some (if D.e=B.e then⟨D.r,D.e,D.f,D.t,D.o,B.es⟩else D):=by rw[aa HT,if_pos h0]
 have HNN:Hid (¬D.e=B.e→a'=none∧c'=0):=ah (aa X8 h0);have Zp:=ah HR;clear h0 HR b4 X8;obtain⟨x0,x1,x2,x3,x4,x5⟩:=(aa Kk).b.cells;obtain⟨k0,k1,k2,k3,k4,k5⟩:=d4.cells;have kf:=d4.free;clear d4;by_cases h1:D.e=B.e
 case neg=>
  have e2:(D.e==B.e)=false:=by simp[h1]
  obtain⟨rfl,rfl⟩:=aa HNN h1;have HD:Hid (jV B r=some D):=ah (by rw[aa Zp,if_neg h1]);obtain⟨z0,z1,z2,z3,z4,z5⟩:=(aa Kk).z.cells;have zf:=(aa Kk).z.free;clear h1 HNN Zp;go_wp2;obtain⟨W5,hW5,d5,b5,t5⟩:=dA (aa Kk).z (aa Kk).cL (show w.heap.size≤w.heap.size+2 by omega) D.r D.e D.f D.t D.o none 0 0;rw[←hW5];refine bodyPost_ret (uP d5 rfl rfl) rfl ⟨?_,b5⟩;rw[aa HD];refine⟨none,0, ?_, ?_,(fun g hg=>by cases hg),fun _=>b5⟩
  ·rw[aa HES];rfl
  ·rw[aa HES];exact World.ownsRow_nil _ _ _ _
 case pos=>
 have e2:(D.e==B.e)=true:=by simp[h1]
 have HD:Hid (jV B r=some ⟨D.r,D.e,D.f,D.t,D.o,B.es⟩):=ah (by rw[aa Zp,if_pos h1]);clear h1 HNN Zp
 go_upto_region 8 with fail
 have ag3:=(aa JS).lt;have t5:=az.set W3.heap.size 5 W4 (.slice a B.es.length c);obtain⟨W5,hW5,d5⟩:∃W5,W5=W4.setCell ⟨W3.heap.size,5,none⟩ (.slice a B.es.length c)∧aD W5 W3.heap.size D.r D.e D.f D.t D.o a B.es.length c:=by
  refine⟨_,rfl, ?_⟩;have:=aa JS;unfold aD at this⊢;rw[cy this];simp
 rw[←hW5]at t5⊢;have z5:=(aa Kk).z.dD t5 (by omega);have o5:=t5.owns (aa Kk).own (aU (aa Kk).own (aa JS) (by decide));have b5:=t5.under (aa Kk).cL (by omega);clear hW5 x0 x1 x2 x3 x4 x5 k0 k1 k2 k3 k4 k5 kf e1 e2;obtain⟨k0,k1,k2,k3,k4,k5⟩:=d5.cells;obtain⟨z0,z1,z2,z3,z4,z6⟩:=z5.cells;have zf:=z5.free;have Z5:=ah z5;have O5:=ah o5;have B5:=ah b5;clear d5 z5 o5 b5 t5 JS Kk;go_wp2;obtain⟨W6,hW6,d6,b6,t6⟩:=dA (aa Z5) (aa B5) (show w.heap.size≤w.heap.size+2 by omega) D.r D.e D.f D.t D.o a B.es.length c;rw[←hW6];refine bodyPost_ret (uP d6 rfl rfl) rfl ⟨?_,b6⟩;rw[aa HD];exact⟨a,c,rfl,t6.owns (aa O5) (aU (aa O5) (aa Z5) (by decide)),fun g hg=> .inl hg,fun _=>b6⟩
theorem Kl{W:tA}{R:Nat}{r e f t o:Int}{a:tB}{n c:Nat}{ok:Bool}{tmps:tN}(d:aD W R r e f t o a n c)(t4:tmps[6]? =some (.pointer (some ⟨R,0,none⟩)))(t5:tmps[7]? =some (.bool ok)):
  (results Tryz.f239 tmps).run Tryz.prog W= .ok (.tuple #[bN r e f t o a n c,.bool ok]) W:=by
 simp[results,Tryz.results239,t4,t5,asAddr,dX d]
def fT(o:Option Bt):Bt:=o.getD Bt.zero
theorem Mr.grown{w wx wy:tA}{B:Bt}{a:tB}{c:Nat}{r:Rec}{row:Option Nat}(h:Mr w wx B a c r)(g:wx.grownBy wy row)(hr:∀k,row=some k→k<w.heap.size):aD wy (w.heap.size+2) 0 0 0 0 0 none 0 0:=
 (g.block _ h.z.lt (fun e=>by have:=hr _ e.symm;omega)).trans h.z
def Iw(B:Bt)(r:Rec)(role:Int)(o:Option Bt):Option Bt:=if B.r=role∧B.e=r.e then o else none
theorem oK{W:tA}{R:Nat}{r e f t o:Int}{a:tB}{n c:Nat}{ok:Bool}{tmps:tN}(d:aD W R r e f t o a n c)(t4:tmps[5]? =some (.pointer (some ⟨R,0,none⟩)))(t5:tmps[6]? =some (.bool ok)):
  (results Tryz.f238 tmps).run Tryz.prog W= .ok (.tuple #[bN r e f t o a n c,.bool ok]) W:=by
 simp[results,Tryz.results238,t4,t5,asAddr,dX d]
def gH(r:Rec)(o:Option Bt):Option Bt:=if r.p=0 then o else none
theorem FC{w:tA}{B clock:Nat}{es:Array MapEntry}{z:Int}{v:tJ}(hb:w.heap[B]? =some (.map es clock))(hf:Instr.findNow (.int .i64) (iV z) es.toList 0=some none):
  (Instr.mapUpdate 273 (.map (some B)) (iV z) v).run Tryz.prog w= .ok () {w with heap:=w.heap.setIfInBounds B (.map (es.push ⟨iV z,v,clock⟩) (clock+1))}:=by
 have hc:(Instr.checkKey false 10000 3 (iV z)).run Tryz.prog w= .ok () w:=MapKept.run_checkKey (k:=iV z) Tryz.underlying3 (by simp[MapKept.IsKey]) false 9999;simp[Instr.mapUpdate,run_underlying Tryz.underlying273,MapKept.run_getObj_map hb,hc,MapKept.run_findKey Tryz.underlying3 hf,MapKept.run_setObj_map _ hb,Result.andThen]
theorem jW{ops:tL}{rest:List Oper}{o:Oper}{a:Act}{Q:tH}{w:tA}{B clock:Nat}{es:Array MapEntry}{z:Int}{v:tJ}(m k x:tP)(ho:o.op= .insert 273 m k x)(hw:Region.wanted o (yielded ops a.tmps)=true)
  (hm:a.eval m= .map (some B)) (hk:a.eval k=iV z) (hx:a.eval x=v) (hb:w.heap[B]? =some (.map es clock)) (hf:Instr.findNow (.int .i64) (iV z) es.toList 0=some none)
  (h:∀w',w'.heap[B]? =some (.map (es.push ⟨iV z,v,clock⟩) (clock+1))→az B w w'→wpList Tryz.prog ops Q rest (a.put o.dst undef) w'):wpList Tryz.prog ops Q (o::rest) a w:=
 wpList_step fun K hK=>by
  rw[if_pos hw];have rH:=FC (v:=v) hb hf;have hs:=MapKept.heap_set (o':= .map (es.push ⟨iV z,v,clock⟩) (clock+1)) hb;have:=hK _ _ (h {w with heap:=w.heap.setIfInBounds B (.map (es.push ⟨iV z,v,clock⟩) (clock+1))} hs.1 ⟨rfl,rfl,rfl,by simp,fun r hr=>hs.2 r hr⟩);unfold Oper.wp;simp only[execOp,ho,hm,hk,hx];simp[rH,Result.andThen];exact this
theorem Uk{ops:tL}{rest:List Oper}{o:Oper}{a:Act}{Q:tH}{w:tA}(ho:o.op= .makeMap 273 none)(hw:Region.wanted o (yielded ops a.tmps)=true)
  (h:∀w',w'.heap[w.heap.size]? =some (.map #[] 0)→bZ w w'→wpList Tryz.prog ops Q rest (a.put o.dst (.map (some w.heap.size))) w'):wpList Tryz.prog ops Q (o::rest) a w:=
 wpList_step fun K hK=>by
  rw[if_pos hw];have:=hK _ _ (h _ (heap_alloc_new w _) (aA _ _));unfold Oper.wp;simp only[execOp,ho];simp[run_makeMap_plain,Result.andThen];exact this
def z8(w:tA)(v:tJ)(role:Int)(N:Nat):Prop:=∃P Q,v= .func (.func 239) #[] #[.pointer (some ⟨P,0,none⟩),.pointer (some ⟨Q,0,none⟩)]∧w.cell? ⟨P,0,none⟩=some (iV role)∧w.cell? ⟨Q,0,none⟩=some (.func (.func N) #[] #[])
def MB(w:tA)(v:tJ)(N:Nat):Prop:=∃Q,v= .func (.func 238) #[] #[.pointer (some ⟨Q,0,none⟩)]∧w.cell? ⟨Q,0,none⟩=some (.func (.func N) #[] #[])
def Df(w:tA)(v:tJ)(role:Int)(N:Nat):Prop:=∃Q u,v= .func (.func 238) #[] #[.pointer (some ⟨Q,0,none⟩)]∧w.cell? ⟨Q,0,none⟩=some u∧z8 w u role N
theorem z8.keep{w w':tA}{v:tJ}{role:Int}{N:Nat}(h:z8 w v role N)(k:∀X x,w.cell? ⟨X,0,none⟩=some x→w'.cell? ⟨X,0,none⟩=some x):z8 w' v role N:=by
 obtain⟨P,Q,rfl,h1,h2⟩:=h;exact⟨P,Q,rfl,k _ _ h1,k _ _ h2⟩
theorem MB.keep{w w':tA}{v:tJ}{N:Nat}(h:MB w v N)(k:∀X x,w.cell? ⟨X,0,none⟩=some x→w'.cell? ⟨X,0,none⟩=some x):MB w' v N:=by
 obtain⟨Q,rfl,h2⟩:=h;exact⟨Q,rfl,k _ _ h2⟩
theorem Df.keep{w w':tA}{v:tJ}{role:Int}{N:Nat}(h:Df w v role N)(k:∀X x,w.cell? ⟨X,0,none⟩=some x→w'.cell? ⟨X,0,none⟩=some x):Df w' v role N:=by
 obtain⟨Q,u,rfl,h1,h2⟩:=h;exact⟨Q,u,rfl,k _ _ h1,h2.keep k⟩
theorem aE{w w':tA}(b:bZ w w'):∀X x,w.cell? ⟨X,0,none⟩=some x→w'.cell? ⟨X,0,none⟩=some x:=
 fun X _ h=>(b.cell (p:=⟨X,0,none⟩) (World.block_lt_of_cell? w _ h)).trans h
theorem bM{w w':tA}{M clock:Nat}{es:Array MapEntry}(t:az M w w')(h:w.heap[M]? =some (.map es clock)):∀X x,w.cell? ⟨X,0,none⟩=some x→w'.cell? ⟨X,0,none⟩=some x:=by
 intro X _ hx;have fw:X≠M:=by
  rintro rfl;simp[World.cell?,h]at hx
 exact(World.cell?_of_block (a:=⟨X,0,none⟩) (t.block X fw)).trans hx
theorem oL(w:tA)(v:tJ)(t:tT):(w.alloc (.cells #[v] t)).cell? ⟨w.heap.size,0,none⟩=some v:=by
 have:=heap_alloc_new w (.cells #[v] t);unfold World.cell?;rw[this];rfl
theorem Ix(w:tA)(o:Obj)(v:tJ)(t:tT):((w.alloc o).alloc (.cells #[v] t)).cell? ⟨w.heap.size+1,0,none⟩=some v:=by
 have h:=oL (w.alloc o) v t;have e:(w.alloc o).heap.size=w.heap.size+1:=by simp
 rw[e]at h;exact h
theorem Iy:∀(fn:Fn) (first cap:tN) (w:tA),(Instr.makeFunc fn first cap).run Tryz.prog w= .ok (.func fn first cap) w:=fun _ _ _ _=>rfl
theorem yv(role:Int)(N:Nat)(w:tA):cA 218 #[iV role,.func (.func N) #[] #[]] w fun e w'=>∃v,e= .returned v∧z8 w' v role N∧bZ w w':=by
 have hmf:=Iy;go_enter Tryz.func218,Tryz.ntmps218;go_wp2;go_ret;refine⟨_,rfl,⟨w.heap.size,w.heap.size+1,rfl, ?_, ?_⟩, ?_⟩
 ·exact aE (aA _ _) _ _ (oL _ _ _)
 ·exact Ix _ _ _ _
 ·exact Below.next (aA _ _) (aA _ _)
theorem MC(N:Nat)(w:tA):cA 216 #[.func (.func N) #[] #[]] w fun e w'=>∃v,e= .returned v∧MB w' v N∧bZ w w':=by
 have hmf:=Iy;go_enter Tryz.func216,Tryz.ntmps216;go_wp2;go_ret;refine⟨_,rfl,⟨w.heap.size,rfl, ?_⟩, ?_⟩
 ·exact oL _ _ _
 ·exact aA _ _
theorem sY(v:tJ)(role:Int)(N:Nat)(w:tA)(h:z8 w v role N):cA 216 #[v] w fun e w'=>∃v,e= .returned v∧Df w' v role N∧bZ w w':=by
 have hmf:=Iy;obtain⟨P,Q,rfl,h1,h2⟩:=h;have H:Hid (∀o,z8 (w.alloc o) (.func (.func 239) #[] #[.pointer (some ⟨P,0,none⟩),.pointer (some ⟨Q,0,none⟩)]) role N):=ah fun o=>z8.keep ⟨P,Q,rfl,h1,h2⟩ (aE (aA w o));clear h1 h2;go_enter Tryz.func216,Tryz.ntmps216;go_wp2;go_ret;refine⟨_,rfl,⟨w.heap.size,_,rfl, ?_,aa H _⟩, ?_⟩
 ·exact oL _ _ _
 ·exact aA _ _
structure Table(w:tA)(M:Nat)(v1 v2 v3 v5 v6 v7:tJ):Prop where
 pg:w.heap[M]? =some (.map #[⟨iV 1,v1,0⟩,⟨iV 2,v2,1⟩,⟨iV 3,v3,2⟩,⟨iV 4,.func (.func 221) #[] #[],3⟩,⟨iV 5,v5,4⟩,⟨iV 6,v6,5⟩,⟨iV 7,v7,6⟩] 7)
 d1:MB w v1 217
 d2:Df w v2 1 219
 d3:z8 w v3 1 220
 d5:Df w v5 4 219
 d6:Df w v6 4 222
 d7:Df w v7 3 223
structure Tb(w wx:tA)(es:Array MapEntry)(clock:Nat):Prop where
 pg:wx.heap[w.heap.size]? =some (.map es clock)
 cL:bZ w wx
theorem Tb.next{w wx wy:tA}{es:Array MapEntry}{clock:Nat}(h:Tb w wx es clock)(b:bZ wx wy):Tb w wy es clock:=⟨(b.block _ (cj h.pg)).trans h.pg,Below.next h.cL b⟩
theorem MD(w:tA):cA 190 #[] w fun e w'=>∃v1 v2 v3 v5 v6 v7,e= .returned (.map (some w.heap.size))∧Table w' w.heap.size v1 v2 v3 v5 v6 v7∧bZ w w':=by
 go_enter Tryz.func190,Tryz.ntmps190
 go_wp2_with (first
  |(refine Uk rfl rfl ?_;intro W0 m0 b0;have T0:=ah (Tb.mk (w:=w) m0 b0);clear b0 m0)
  |(go_at_call 216;refine(MC 217 _).mono ?_;rintro _ W1 ⟨v1,rfl,dv1,b1⟩;have T1:=ah ((aa T0).next b1);have qM:=ah dv1;clear dv1 b1 T0)
  |(refine jW (es:= #[]) (clock:=0) (z:=1) (v:=v1) _ _ _ rfl rfl rfl rfl rfl (aa T1).pg rfl ?_;intro W2 m2 t2;replace qM:=ah ((aa qM).keep (bM t2 (aa T1).pg));have T2:=ah (Tb.mk (w:=w) m2 (t2.under (aa T1).cL (Nat.le_refl _)));clear m2 t2 T1)
  |(go_at_call 218;refine(yv 1 219 _).mono ?_;rintro _ W3 ⟨u2,rfl,du2,b3⟩;have T3:=ah ((aa T2).next b3);have Du2:=ah du2;replace qM:=ah ((aa qM).keep (aE b3));clear du2 b3 T2)
  |(go_at_call 216;refine(sY u2 1 219 _ (aa Du2)).mono ?_;rintro _ W4 ⟨v2,rfl,dv2,b4⟩;have T4:=ah ((aa T3).next b4);have uQ:=ah dv2;replace qM:=ah ((aa qM).keep (aE b4));clear dv2 b4 T3 Du2)
  |(refine jW (es:= #[(⟨iV 1,v1,0⟩:tU)]) (clock:=1) (z:=2) (v:=v2) _ _ _ rfl rfl rfl rfl rfl (aa T4).pg rfl ?_;intro W5 m5 t5;replace qM:=ah ((aa qM).keep (bM t5 (aa T4).pg));replace uQ:=ah ((aa uQ).keep (bM t5 (aa T4).pg));have T5:=ah (Tb.mk (w:=w) m5 (t5.under (aa T4).cL (Nat.le_refl _)));clear m5 t5 T4)
  |(go_at_call 218;refine(yv 1 220 _).mono ?_;rintro _ W6 ⟨v3,rfl,dv3,b6⟩;have T6:=ah ((aa T5).next b6);have yw:=ah dv3;replace qM:=ah ((aa qM).keep (aE b6));replace uQ:=ah ((aa uQ).keep (aE b6));clear dv3 b6 T5)
  |(refine jW (es:= #[(⟨iV 1,v1,0⟩:tU),(⟨iV 2,v2,1⟩:tU)]) (clock:=2) (z:=3) (v:=v3) _ _ _ rfl rfl rfl rfl rfl (aa T6).pg rfl ?_;intro W7 m7 t7;replace qM:=ah ((aa qM).keep (bM t7 (aa T6).pg));replace uQ:=ah ((aa uQ).keep (bM t7 (aa T6).pg));replace yw:=ah ((aa yw).keep (bM t7 (aa T6).pg));have T7:=ah (Tb.mk (w:=w) m7 (t7.under (aa T6).cL (Nat.le_refl _)));clear m7 t7 T6)
  |(refine jW (es:= #[(⟨iV 1,v1,0⟩:tU),(⟨iV 2,v2,1⟩:tU),(⟨iV 3,v3,2⟩:tU)]) (clock:=3) (z:=4) (v:=(.func (.func 221) #[] #[])) _ _ _ rfl rfl rfl rfl rfl (aa T7).pg rfl ?_;intro W8 m8 t8;replace qM:=ah ((aa qM).keep (bM t8 (aa T7).pg));replace uQ:=ah ((aa uQ).keep (bM t8 (aa T7).pg));replace yw:=ah ((aa yw).keep (bM t8 (aa T7).pg));have T8:=ah (Tb.mk (w:=w) m8 (t8.under (aa T7).cL (Nat.le_refl _)));clear m8 t8 T7)
  |(go_at_call 218;refine(yv 4 219 _).mono ?_;rintro _ W9 ⟨u5,rfl,du5,b9⟩;have T9:=ah ((aa T8).next b9);have Du5:=ah du5;replace qM:=ah ((aa qM).keep (aE b9));replace uQ:=ah ((aa uQ).keep (aE b9));replace yw:=ah ((aa yw).keep (aE b9));clear du5 b9 T8)
  |(go_at_call 216;refine(sY u5 4 219 _ (aa Du5)).mono ?_;rintro _ W10 ⟨v5,rfl,dv5,b10⟩;have X9:=ah ((aa T9).next b10);have Iz:=ah dv5;replace qM:=ah ((aa qM).keep (aE b10));replace uQ:=ah ((aa uQ).keep (aE b10));replace yw:=ah ((aa yw).keep (aE b10));clear dv5 b10 T9 Du5)
  |(refine jW (es:= #[(⟨iV 1,v1,0⟩:tU),(⟨iV 2,v2,1⟩:tU),(⟨iV 3,v3,2⟩:tU),(⟨iV 4,(.func (.func 221) #[] #[]),3⟩:tU)]) (clock:=4) (z:=5) (v:=v5) _ _ _ rfl rfl rfl rfl rfl (aa X9).pg rfl ?_;intro W11 m11 t11;replace qM:=ah ((aa qM).keep (bM t11 (aa X9).pg));replace uQ:=ah ((aa uQ).keep (bM t11 (aa X9).pg));replace yw:=ah ((aa yw).keep (bM t11 (aa X9).pg));replace Iz:=ah ((aa Iz).keep (bM t11 (aa X9).pg));have T11:=ah (Tb.mk (w:=w) m11 (t11.under (aa X9).cL (Nat.le_refl _)));clear m11 t11 X9)
  |(go_at_call 218;refine(yv 4 222 _).mono ?_;rintro _ W12 ⟨u6,rfl,du6,b12⟩;have T12:=ah ((aa T11).next b12);have Du6:=ah du6;replace qM:=ah ((aa qM).keep (aE b12));replace uQ:=ah ((aa uQ).keep (aE b12));replace yw:=ah ((aa yw).keep (aE b12));replace Iz:=ah ((aa Iz).keep (aE b12));clear du6 b12 T11)
  |(go_at_call 216;refine(sY u6 4 222 _ (aa Du6)).mono ?_;rintro _ W13 ⟨v6,rfl,dv6,b13⟩;have WB:=ah ((aa T12).next b13);have Ul:=ah dv6;replace qM:=ah ((aa qM).keep (aE b13));replace uQ:=ah ((aa uQ).keep (aE b13));replace yw:=ah ((aa yw).keep (aE b13));replace Iz:=ah ((aa Iz).keep (aE b13));clear dv6 b13 T12 Du6)
  |(refine jW (es:= #[(⟨iV 1,v1,0⟩:tU),(⟨iV 2,v2,1⟩:tU),(⟨iV 3,v3,2⟩:tU),(⟨iV 4,(.func (.func 221) #[] #[]),3⟩:tU),(⟨iV 5,v5,4⟩:tU)]) (clock:=5) (z:=6) (v:=v6) _ _ _ rfl rfl rfl rfl rfl (aa WB).pg rfl ?_;intro W14 m14 t14;replace qM:=ah ((aa qM).keep (bM t14 (aa WB).pg));replace uQ:=ah ((aa uQ).keep (bM t14 (aa WB).pg));replace yw:=ah ((aa yw).keep (bM t14 (aa WB).pg));replace Iz:=ah ((aa Iz).keep (bM t14 (aa WB).pg));replace Ul:=ah ((aa Ul).keep (bM t14 (aa WB).pg));have T14:=ah (Tb.mk (w:=w) m14 (t14.under (aa WB).cL (Nat.le_refl _)));clear m14 t14 WB)
  |(go_at_call 218;refine(yv 3 223 _).mono ?_;rintro _ W15 ⟨u7,rfl,du7,b15⟩;have T15:=ah ((aa T14).next b15);have Du7:=ah du7;replace qM:=ah ((aa qM).keep (aE b15));replace uQ:=ah ((aa uQ).keep (aE b15));replace yw:=ah ((aa yw).keep (aE b15));replace Iz:=ah ((aa Iz).keep (aE b15));replace Ul:=ah ((aa Ul).keep (aE b15));clear du7 b15 T14)
  |(go_at_call 216;refine(sY u7 3 223 _ (aa Du7)).mono ?_;rintro _ W16 ⟨v7,rfl,dv7,b16⟩;have Um:=ah ((aa T15).next b16);have Dv7:=ah dv7;replace qM:=ah ((aa qM).keep (aE b16));replace uQ:=ah ((aa uQ).keep (aE b16));replace yw:=ah ((aa yw).keep (aE b16));replace Iz:=ah ((aa Iz).keep (aE b16));replace Ul:=ah ((aa Ul).keep (aE b16));clear dv7 b16 T15 Du7)
  |(refine jW (es:= #[(⟨iV 1,v1,0⟩:tU),(⟨iV 2,v2,1⟩:tU),(⟨iV 3,v3,2⟩:tU),(⟨iV 4,(.func (.func 221) #[] #[]),3⟩:tU),(⟨iV 5,v5,4⟩:tU),(⟨iV 6,v6,5⟩:tU)]) (clock:=6) (z:=7) (v:=v7) _ _ _ rfl rfl rfl rfl rfl (aa Um).pg rfl ?_;intro W17 m17 t17;replace qM:=ah ((aa qM).keep (bM t17 (aa Um).pg));replace uQ:=ah ((aa uQ).keep (bM t17 (aa Um).pg));replace yw:=ah ((aa yw).keep (bM t17 (aa Um).pg));replace Iz:=ah ((aa Iz).keep (bM t17 (aa Um).pg));replace Ul:=ah ((aa Ul).keep (bM t17 (aa Um).pg));replace Dv7:=ah ((aa Dv7).keep (bM t17 (aa Um).pg));have T17:=ah (Tb.mk (w:=w) m17 (t17.under (aa Um).cL (Nat.le_refl _)));clear m17 t17 Um))
 go_ret;exact⟨_,_,_,_,_,_,rfl,⟨(aa T17).pg,aa qM,aa uQ,aa yw,aa Iz,aa Ul,aa Dv7⟩,(aa T17).cL⟩
theorem rT{w:tA}{M:Nat}{v1 v2 v3 v5 v6 v7:tJ}(h:Table w M v1 v2 v3 v5 v6 v7):
  (Instr.lookup 273 (.map (some M)) (iV 1) false).run Tryz.prog w= .ok (v1) w∧(Instr.lookup 273 (.map (some M)) (iV 2) false).run Tryz.prog w= .ok (v2) w∧(Instr.lookup 273 (.map (some M)) (iV 3) false).run Tryz.prog w= .ok (v3) w∧(Instr.lookup 273 (.map (some M)) (iV 4) false).run Tryz.prog w= .ok (.func (.func 221) #[] #[]) w∧(Instr.lookup 273 (.map (some M)) (iV 5) false).run Tryz.prog w= .ok (v5) w∧(Instr.lookup 273 (.map (some M)) (iV 6) false).run Tryz.prog w= .ok (v6) w∧(Instr.lookup 273 (.map (some M)) (iV 7) false).run Tryz.prog w= .ok (v7) w:=by
 have hc:∀k,(Instr.checkKey false 10000 3 (iV k)).run Tryz.prog w= .ok () w:=fun k=>MapKept.run_checkKey (k:=iV k) Tryz.underlying3 (by simp[MapKept.IsKey]) false 9999;have ht:=h.pg;refine⟨?_, ?_, ?_, ?_, ?_, ?_, ?_⟩
 ·have hf:Instr.findNow (.int .i64) (iV 1) [(⟨iV 1,v1,0⟩:tU),⟨iV 2,v2,1⟩,⟨iV 3,v3,2⟩,⟨iV 4,.func (.func 221) #[] #[],3⟩,⟨iV 5,v5,4⟩,⟨iV 6,v6,5⟩,⟨iV 7,v7,6⟩] 0=some (some (0,v1)):=rfl;simp[Instr.lookup,run_underlying Tryz.underlying273,MapKept.run_getObj_map ht,hc 1,MapKept.run_findKey Tryz.underlying3 hf,Result.andThen]
 ·have hf:Instr.findNow (.int .i64) (iV 2) [(⟨iV 1,v1,0⟩:tU),⟨iV 2,v2,1⟩,⟨iV 3,v3,2⟩,⟨iV 4,.func (.func 221) #[] #[],3⟩,⟨iV 5,v5,4⟩,⟨iV 6,v6,5⟩,⟨iV 7,v7,6⟩] 0=some (some (1,v2)):=rfl;simp[Instr.lookup,run_underlying Tryz.underlying273,MapKept.run_getObj_map ht,hc 2,MapKept.run_findKey Tryz.underlying3 hf,Result.andThen]
 ·have hf:Instr.findNow (.int .i64) (iV 3) [(⟨iV 1,v1,0⟩:tU),⟨iV 2,v2,1⟩,⟨iV 3,v3,2⟩,⟨iV 4,.func (.func 221) #[] #[],3⟩,⟨iV 5,v5,4⟩,⟨iV 6,v6,5⟩,⟨iV 7,v7,6⟩] 0=some (some (2,v3)):=rfl;simp[Instr.lookup,run_underlying Tryz.underlying273,MapKept.run_getObj_map ht,hc 3,MapKept.run_findKey Tryz.underlying3 hf,Result.andThen]
 ·have hf:Instr.findNow (.int .i64) (iV 4) [(⟨iV 1,v1,0⟩:tU),⟨iV 2,v2,1⟩,⟨iV 3,v3,2⟩,⟨iV 4,.func (.func 221) #[] #[],3⟩,⟨iV 5,v5,4⟩,⟨iV 6,v6,5⟩,⟨iV 7,v7,6⟩] 0=some (some (3,.func (.func 221) #[] #[])):=rfl;simp[Instr.lookup,run_underlying Tryz.underlying273,MapKept.run_getObj_map ht,hc 4,MapKept.run_findKey Tryz.underlying3 hf,Result.andThen]
 ·have hf:Instr.findNow (.int .i64) (iV 5) [(⟨iV 1,v1,0⟩:tU),⟨iV 2,v2,1⟩,⟨iV 3,v3,2⟩,⟨iV 4,.func (.func 221) #[] #[],3⟩,⟨iV 5,v5,4⟩,⟨iV 6,v6,5⟩,⟨iV 7,v7,6⟩] 0=some (some (4,v5)):=rfl;simp[Instr.lookup,run_underlying Tryz.underlying273,MapKept.run_getObj_map ht,hc 5,MapKept.run_findKey Tryz.underlying3 hf,Result.andThen]
 ·have hf:Instr.findNow (.int .i64) (iV 6) [(⟨iV 1,v1,0⟩:tU),⟨iV 2,v2,1⟩,⟨iV 3,v3,2⟩,⟨iV 4,.func (.func 221) #[] #[],3⟩,⟨iV 5,v5,4⟩,⟨iV 6,v6,5⟩,⟨iV 7,v7,6⟩] 0=some (some (5,v6)):=rfl;simp[Instr.lookup,run_underlying Tryz.underlying273,MapKept.run_getObj_map ht,hc 6,MapKept.run_findKey Tryz.underlying3 hf,Result.andThen]
 ·have hf:Instr.findNow (.int .i64) (iV 7) [(⟨iV 1,v1,0⟩:tU),⟨iV 2,v2,1⟩,⟨iV 3,v3,2⟩,⟨iV 4,.func (.func 221) #[] #[],3⟩,⟨iV 5,v5,4⟩,⟨iV 6,v6,5⟩,⟨iV 7,v7,6⟩] 0=some (some (6,v7)):=rfl;simp[Instr.lookup,run_underlying Tryz.underlying273,MapKept.run_getObj_map ht,hc 7,MapKept.run_findKey Tryz.underlying3 hf,Result.andThen]
theorem mw{w W:tA}{base n c:Nat}{a:tB}{xs:tK}(h:w.ownsRow base 55 6 (.slice a n c) n xs)(b:bZ w W):W.ownsRow base 55 6 (.slice a n c) n xs:=
 aG h (fun g hg _=>b.block g ((h.lt g hg).2))
section
variable{w:tA}{B:Bt}{a:tB}{c base:Nat}{r:Rec}
theorem jX{w W W':tA}(b:bZ w W)(b':bZ W W'):bZ w W':=Below.next b b'
end
theorem Qe(B:Bt)(a:tB)(c:Nat)(r:Rec)(w:tA)(base:Nat)(bK:w.ownsRow base 55 6 (.slice a B.es.length c) B.es.length ((ai B.es).map (Value.int .i64)))(hb:base≤w.heap.size)(hs:(B.es.length+1)*48≤140737488355328):
  cA 219 #[bN B.r B.e B.f B.t B.o a B.es.length c,lJ r] w fun x w'=>ft w w' base (.slice a B.es.length c) x (some (B.more [r.v]))∧w.grownBy w' (Value.slice a B.es.length c).ownBlock:=by
 obtain⟨i6,hi6,hz60,hz61,hz62⟩:=gZ Tryz.kV;go_enter Tryz.func219,Tryz.ntmps219
 go_upto_region 1 with fail
 obtain⟨W1,hW1,M1⟩:=Mr.made w B a c r;rw[←hW1];clear hW1;have vZ:=cj M1.z;have O1:=Ow.made M1 bK;obtain⟨x0,x1,x2,x3,x4,x5⟩:=M1.b.cells;obtain⟨r0,r1,r2,r3,r4,r5,r6,r7,r8,r9⟩:=M1.rc.cells;have g1:B.es.length+1≤maxLen:=by unfold maxLen;omega
 have g2:(B.es.length+1)*48≤140737488355328:=hs;have g3:base≤W1.heap.size:=by omega
 have g4:=Fy W1 r.v.k r.v.p r.v.i r.v.b r.v.he r.v.hn 55;have g5:=O1.own.alloc (.cells #[iV r.v.k,iV r.v.p,iV r.v.i,iV r.v.b,iV r.v.he,iV r.v.hn] 55);have G1:=ah g1;have G2:=ah g2;have G3:=ah g3;have G4:=ah g4;have G5:=ah g5;have WC:=ah O1;have HOW:=ah bK;clear g1 g2 g3 g4 g5 M1 O1 bK
 go_upto_region 2 with(at_builtin;refine wpList_append_own_at _ rfl (.tmp 7) (.tmp 10) 47 rfl base 55 i6 _ 6 48 Tryz.underlying47 hi6 hz60 hz61 hz62 rfl (by decide) (.slice a B.es.length c) B.es.length ((ai B.es).map (Value.int .i64)) rfl (aa G5) ⟨W1.heap.size,0,none⟩ 1 1 ([r.v.k,r.v.p,r.v.i,r.v.b,r.v.he,r.v.hn].map (Value.int .i64)) rfl rfl (aa G4) (ints_oneCell .i64 _) (aa G1) (aa G2) (by have:=aa G3;simp;omega) ?_;intro v2 W2 Dg grow2 _ hat2;obtain⟨a2,c2,rfl⟩:=ly Dg;have HAT:Hid (z7 w (.slice a B.es.length c) (.slice a2 (B.es.length+1) c2)):=ah (fun g hg=>by rcases hat2 with e|e<;>rw[e]at hg<;>first|exact .inl hg|(cases hg;exact .inr (by simp;omega)));clear hat2;obtain⟨k2,K2⟩:=(aa WC).added (aa HOW) Dg grow2;clear x0 x1 x2 x3 x4 x5 r0 r1 r2 r3 r4 r5 r6 r7 r8 r9 Dg grow2;have x5:=k2.cells.2.2.2.2.2;have xf:=k2.free 5;have HK:=ah k2;have D0:=ah K2;clear k2 K2)
 obtain⟨W3,hW3,O3⟩:∃W3,W3=W2.setCell ⟨w.heap.size,5,none⟩ (.slice a2 (B.es.length+1) c2)∧Ow w W3 base (Value.slice a B.es.length c).ownBlock B.r B.e B.f B.t B.o a2 (B.es.length+1) c2 (B.es++[r.v]):=by
  refine⟨_,rfl,aa D0 _ (az.set _ _ _ _) _ _ _ _ _ ?_⟩;have:=aa HK;unfold aD at this⊢;rw[cy this];simp
 rw[←hW3];clear hW3 x5 xf HK D0;obtain⟨W4,hW4,d4,D4,b4⟩:=O3.out;obtain⟨y0,y1,y2,y3,y4,y5⟩:=O3.b.cells;obtain⟨z0,z1,z2,z3,z4,z5⟩:=O3.z.cells;have zf:=O3.z.free;have D5:=ah (D4 (by simp));have JR:=ah b4;have JS:=ah d4;have X3:=ah hW4;clear hW4 d4 D4 b4 O3 WC HOW G1 G2 G3 G4 G5;go_wp2;rw[←aa X3];exact bodyPost_ret (Ug (aa JS) rfl rfl) rfl ⟨ft.lie (aa D5) (aa HAT) (by simp[yu]),aa JR⟩
theorem z_(B:Bt)(a:tB)(c:Nat)(r:Rec)(w:tA)(base:Nat)(bK:w.ownsRow base 55 6 (.slice a B.es.length c) B.es.length ((ai B.es).map (Value.int .i64)))(hb:base≤w.heap.size)(hs:(B.es.length+1)*48≤140737488355328):
  cA 222 #[bN B.r B.e B.f B.t B.o a B.es.length c,lJ r] w fun x w'=>ft w w' base (.slice a B.es.length c) x (some ⟨1,B.e,0,B.t,B.o,B.es++[Ev.brk]⟩)∧w.grownBy w' (Value.slice a B.es.length c).ownBlock:=by
 obtain⟨i6,hi6,hz60,hz61,hz62⟩:=gZ Tryz.kV;go_enter Tryz.func222,Tryz.ntmps222
 go_upto_region 1 with fail
 obtain⟨W0,hW0,M0⟩:=Mr.made w B a c r;rw[←hW0];clear hW0;have O0:=Ow.made M0 bK;obtain⟨x0,x1,x2,x3,x4,x5⟩:=M0.b.cells;have xf:=M0.b.free;have X_:=ah O0;have HOW:=ah bK;clear M0 O0 bK
 go_upto_region 2 with fail
 obtain⟨W1,hW1,O1⟩:∃W1,W1=(W0.setCell ⟨w.heap.size,0,none⟩ (iV 1)).setCell ⟨w.heap.size,2,none⟩ (iV 0)∧Ow w W1 base (Value.slice a B.es.length c).ownBlock 1 B.e 0 B.t B.o a B.es.length c B.es:=by
  refine⟨_,rfl,(aa X_).dD ((az.set _ _ _ _).trans (az.set _ _ _ _)) ?_⟩;have:=(aa X_).b;unfold aD at this⊢;rw[cy (cy this)];simp
 rw[←hW1];clear hW1 x0 x1 x2 x3 x4 x5 xf X_;have vZ:=O1.z.lt;obtain⟨x0,x1,x2,x3,x4,x5⟩:=O1.b.cells;have g1:B.es.length+1≤maxLen:=by unfold maxLen;omega
 have g2:(B.es.length+1)*48≤140737488355328:=hs;have g3:base≤W1.heap.size:=by omega
 have g4:=Fy W1 4 0 0 0 0 0 55;have g5:=O1.own.alloc (.cells #[iV 4,iV 0,iV 0,iV 0,iV 0,iV 0] 55);have G1:=ah g1;have G2:=ah g2;have G3:=ah g3;have G4:=ah g4;have G5:=ah g5;have WC:=ah O1;clear g1 g2 g3 g4 g5 O1
 go_upto_region 3 with(at_builtin;refine wpList_append_own_at _ rfl (.tmp 9) (.tmp 11) 47 rfl base 55 i6 _ 6 48 Tryz.underlying47 hi6 hz60 hz61 hz62 rfl (by decide) (.slice a B.es.length c) B.es.length ((ai B.es).map (Value.int .i64)) rfl (aa G5) ⟨W1.heap.size,0,none⟩ 1 1 ([4,0,0,0,0,0].map (Value.int .i64)) rfl rfl (aa G4) (ints_oneCell .i64 _) (aa G1) (aa G2) (by have:=aa G3;simp;omega) ?_;intro v2 W2 Dg grow2 _ hat2;obtain⟨a2,c2,rfl⟩:=ly Dg;have HAT:Hid (z7 w (.slice a B.es.length c) (.slice a2 (B.es.length+1) c2)):=ah (fun g hg=>by rcases hat2 with e|e<;>rw[e]at hg<;>first|exact .inl hg|(cases hg;exact .inr (by simp;omega)));clear hat2;obtain⟨k2,K2⟩:=(aa WC).added (x:=Ev.brk) (aa HOW) Dg grow2;clear x0 x1 x2 x3 x4 x5 Dg grow2;have x5:=k2.cells.2.2.2.2.2;have xf:=k2.free 5;have HK:=ah k2;have D0:=ah K2;clear k2 K2)
 obtain⟨W3,hW3,O3⟩:∃W3,W3=W2.setCell ⟨w.heap.size,5,none⟩ (.slice a2 (B.es.length+1) c2)∧Ow w W3 base (Value.slice a B.es.length c).ownBlock 1 B.e 0 B.t B.o a2 (B.es.length+1) c2 (B.es++[Ev.brk]):=by
  refine⟨_,rfl,aa D0 _ (az.set _ _ _ _) _ _ _ _ _ ?_⟩;have:=aa HK;unfold aD at this⊢;rw[cy this];simp
 rw[←hW3];clear hW3 x5 xf HK D0;obtain⟨W4,hW4,d4,D4,b4⟩:=O3.out;obtain⟨y0,y1,y2,y3,y4,y5⟩:=O3.b.cells;obtain⟨z0,z1,z2,z3,z4,z5⟩:=O3.z.cells;have zf:=O3.z.free;have D5:=ah (D4 (by simp));have JR:=ah b4;have JS:=ah d4;have X3:=ah hW4;clear hW4 d4 D4 b4 O3 WC HOW G1 G2 G3 G4 G5;go_wp2;rw[←aa X3];exact bodyPost_ret (De (aa JS) rfl rfl) rfl ⟨ft.lie (aa D5) (aa HAT) (by simp[yu]),aa JR⟩
theorem ME(B:Bt)(a:tB)(c:Nat)(r:Rec)(w:tA)(base:Nat)(bK:w.ownsRow base 55 6 (.slice a B.es.length c) B.es.length ((ai B.es).map (Value.int .i64))):
  cA 220 #[bN B.r B.e B.f B.t B.o a B.es.length c,lJ r] w fun x w'=>ft w w' base (.slice a B.es.length c) x (some ⟨3,B.e,B.f,r.p,B.o,B.es⟩)∧w.grownBy w' (Value.slice a B.es.length c).ownBlock:=by
 go_enter Tryz.func220,Tryz.ntmps220
 go_upto_region 1 with fail
 obtain⟨W0,hW0,M0⟩:=Mr.made w B a c r;rw[←hW0];clear hW0;have O0:=Ow.made M0 bK;obtain⟨x0,x1,x2,x3,x4,x5⟩:=M0.b.cells;obtain⟨r0,r1,r2,r3,r4,r5,r6,r7,r8,r9⟩:=M0.rc.cells;have xf:=M0.b.free;have X_:=ah O0;clear M0 O0 bK
 go_region
 obtain⟨W3,hW3,O3⟩:∃W3,W3=((W0.setCell ⟨w.heap.size,0,none⟩ (iV 3)).setCell ⟨w.heap.size,3,none⟩ (iV r.p)).drew∧Ow w W3 base (Value.slice a B.es.length c).ownBlock 3 B.e B.f r.p B.o a B.es.length c B.es:=by
  refine⟨_,rfl,(aa X_).dD (((az.set _ _ _ _).trans (az.set _ _ _ _)).trans (az.drawn _ _)) ?_⟩;have:=(aa X_).b;unfold aD at this⊢;show((W0.setCell ⟨w.heap.size,0,none⟩ (iV 3)).setCell ⟨w.heap.size,3,none⟩ (iV r.p)).heap[w.heap.size]? =_;rw[cy (cy this)];simp
 rw[←hW3];clear hW3 x0 x1 x2 x3 x4 x5 r0 r1 r2 r3 r4 r5 r6 r7 r8 r9 xf X_;obtain⟨W4,hW4,d4,D4,b4⟩:=O3.out;obtain⟨y0,y1,y2,y3,y4,y5⟩:=O3.b.cells;obtain⟨z0,z1,z2,z3,z4,z5⟩:=O3.z.cells;have zf:=O3.z.free;have D5:=ah (D4 rfl);have JR:=ah b4;have JS:=ah d4;have X3:=ah hW4;clear hW4 d4 D4 b4 O3;go_wp2;rw[←aa X3];exact bodyPost_ret (Qd (aa JS) rfl rfl) rfl ⟨ft.lie (aa D5) (fun g hg=> .inl hg) (by simp[yu]),aa JR⟩
end Go.Proofs.YtmhifeahpnkpiaaGreatDoor
