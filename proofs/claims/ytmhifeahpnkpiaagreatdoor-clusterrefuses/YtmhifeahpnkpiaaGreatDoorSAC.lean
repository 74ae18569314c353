/- Out of my texts: BeG, MoH, MpC, RvM, MpD, MpE, MpG, MpH, MpI, MpJ, MpK, BeH, BeI, MpL, MpM, DrA, DrB, DrC, DrG, DrD, PkD, PkG, PkH, PkB, TpA, TpB, PkJ, TpC, TpD, TpE, PkI, TpF, PkK, KpA, PkL, PlA, PlB, TpJ, TpK, TpL, TpM, TpG, TpH, TpQ, TpR, RdA, RdB, RdC, RdD, RdE, RlA, RlB, RlC, RlI, RlD, RdF, RdG, RdH, RdI, RdJ, RlF. -/
import Derived.BigQuiet
import Derived.Deep.CutRange
import Derived.Deep.DeepCutAuto
import Derived.Deep.QuietTactic
import Derived.Deep.RegionHeld3
import Derived.Defers
import Derived.Lib.Bytes
import Derived.Maps.AppendAt
import Derived.Recover
import Derived.WideMake
import Derived.Test.YtmhifeahpnkpiaaGreatDoorProg
import Derived.Test.YtmhifeahpnkpiaaGreatDoorSAA
import Derived.Test.YtmhifeahpnkpiaaGreatDoorSAB
set_option maxRecDepth 20000
set_option maxHeartbeats 8000000
set_option linter.unusedVariables false
namespace Go.Proofs.YtmhifeahpnkpiaaGreatDoor
open Go.RowKit
section
open Rv
theorem JL{W:tF}{R:Nat}{r e f t o:Int}{a:tG}{n c:Nat}{er:Int}{tmps:tR}(d:aG W R r e f t o a n c)(t1:tmps[6]? =some (.pointer (some ⟨R,0,none⟩)))(t2:tmps[7]? =some (iV er)):
  (results Tryz.f165 tmps).run Tryz.prog W= .ok (.tuple #[bQ r e f t o a n c,iV er]) W:=by
 simp[results,Tryz.results165,t1,t2,asAddr,ew d]
theorem sT(B:Bt)(a:tG)(c:Nat)(ep fr:Int)(w:tF)(hb:ja w B a c):cA 165 #[bQ B.r B.e B.f B.t B.o a B.es.length c,iV ep,iV fr] w fun x w'=>∃y B' er,x= .returned (.tuple #[y,iV er])∧aT B ep fr=(B',er)∧iz w w' B' y∧bZ w w':=by
 have no:=fun er w=>mD er w;refine en (H:=[]) _ [vg (bS B.r B.e B.f B.t B.o a B.es.length c),vi ep,vi fr] Tryz.func165 rfl rfl (Gy hb) (r [] rfl fun _=> ?_);unfold aT;by_cases ok:B.Ok
 case neg=>exact Rv.cb rfl (vi 6) (fun w hS=>j7 B a c w hS.now.1 ok) (r [1] rfl fun _=>Rv.cb rfl (vt [Ei,.o (iV 6)]) (fun w _=>no 6 w) (r [] rfl fun _=>fin fun w hS=>⟨_,_,_,rfl,if_pos ok,iz.zero _ _,hS.now.2⟩))
 rw[if_neg (not_not_intro ok)];refine Rv.cb rfl (vi 0) (fun w hS=>gH B a c w hS.now.1 ok) (r [0] rfl fun _=> ?_);by_cases h1:1≤ep∧ep≤1048576
 case neg=>exact Rv.cb rfl (vv (.bool false)) (fun w _=>gF false (kD ep w) (decide_eq_false h1)) (r [] rfl fun _=>Rv.cb rfl (vt [Ei,.o (iV 2)]) (fun w _=>no 2 w) (r [] rfl fun _=>fin fun w hS=>⟨_,_,_,rfl,if_pos (fun h=>h1 h.1),iz.zero _ _,hS.now.2⟩))
 refine Rv.cb rfl (vv (.bool true)) (fun w _=>gF true (kD ep w) (decide_eq_true h1)) (r [] rfl fun _=> ?_);by_cases h2:0≤fr∧fr≤4
 case neg=>exact Rv.cb rfl (vv (.bool false)) (fun w _=>gF false (gL fr w) (decide_eq_false h2)) (r [] rfl fun _=>Rv.cb rfl (vt [Ei,.o (iV 2)]) (fun w _=>no 2 w) (r [] rfl fun _=>fin fun w hS=>⟨_,_,_,rfl,if_pos (fun h=>h2 h.2),iz.zero _ _,hS.now.2⟩))
 rw[if_neg (not_not_intro ⟨h1,h2⟩)];refine Rv.cb rfl (vv (.bool true)) (fun w _=>gF true (gL fr w) (decide_eq_true h2)) (r [] rfl fun _=> ?_);by_cases h3:B.r=1∨B.r=2
 case pos=>exact Rv.cb rfl (vv (.bool true)) (fun w _=>nh true (mC B.r B.e B.f B.t B.o a B.es.length c w) (decide_eq_true h3)) (r [] rfl fun _=>Rv.cb rfl (vt [Ei,.o (iV 8)]) (fun w _=>no 8 w) (r [] rfl fun _=>fin fun w hS=>⟨_,_,_,rfl,if_pos (by omega),iz.zero _ _,hS.now.2⟩))
 refine Rv.cb rfl (vv (.bool false)) (fun w _=>nh false (mC B.r B.e B.f B.t B.o a B.es.length c w) (decide_eq_false h3)) ?_;by_cases h4:B.r=3
 case pos=>exact r [1] rfl fun _=>Rv.cb rfl (vt [Ei,.o (iV 8)]) (fun w _=>no 8 w) (r [] rfl fun _=>fin fun w hS=>⟨_,_,_,rfl,if_pos (by omega),iz.zero _ _,hS.now.2⟩)
 rw[if_neg (by omega)];by_cases h5:B.r=4∧B.e=ep∧B.f=fr
 ·rw[if_pos h5];obtain⟨k1,k2,k3⟩:=h5;refine r [0,1,1,1] rfl fun _=>Rv.cx rfl (fun y=> .s (bY B B.es.length y)) (xX w) (fun y w=>ja w B y.1 y.2) (fun w1 hS=>(sS B a c w1 hS.now.1 ok.len).mono fun _ _ h=>by obtain⟨y,h1,h2,h3,h4⟩:=Ls hS.now.2 h;exact⟨y,h1,h2,h3,h4⟩) fun y hy=> ?_;exact r [] rfl fun _=>fin fun w hS=>⟨_,_,_,rfl,rfl,⟨y.1,y.2,rfl,hS.now.1.2,hy⟩,hS.now.2⟩
 rw[if_neg h5];have fi:∀{P:Prop},(¬B.r=4→P)→(B.r=4→¬B.e=ep→P)→(B.r=4→B.e=ep→¬B.f=fr→P)→P:=fun f g h=>by
  by_cases e:B.r=4
  ·by_cases e2:B.e=ep
   ·exact h e e2 fun e3=>h5 ⟨e,e2,e3⟩
   ·exact g e e2
  ·exact f e
 refine fi (fun e=> ?_) (fun e e2=> ?_) fun e e2 e3=> ?_
 case' refine_1=>refine r [0,0] rfl fun _=> ?_
 case' refine_2=>refine r [0,1,0] rfl fun _=> ?_
 case' refine_3=>refine r [0,1,1,0] rfl fun _=> ?_
 all_goals
  by_cases h6:ep≤B.e
  ·exact r [1] rfl fun _=>Rv.cb rfl (vt [Ei,.o (iV 15)]) (fun w _=>no 15 w) (r [] rfl fun _=>fin fun w hS=>⟨_,_,_,rfl,if_pos h6,iz.zero _ _,hS.now.2⟩)
  ·rw[if_neg h6];exact r [0] rfl fun _=>fin fun w hS=>⟨_,_,_,rfl,rfl,⟨none,0,rfl,⟨RowK.nil _ _ _,Nat.le_refl _,fun _=>rfl⟩,fun x hx=>by cases hx⟩,hS.now.2⟩
end
section
variable(r e f t o:Int)(a:tG)(n c:Nat)(q:tH)(r' e' f' t' o':Int)(a':tG)(n' c':Nat)(w:tF)
theorem abu(er:Int)(h0:¬er=0):cA 143 #[js r e f t o a n c q,bQ r' e' f' t' o' a' n' c',iV er] w (rB (.tuple #[js 0 0 0 0 0 none 0 0 zQ,iV er]) w):=by
 go_enter Tryz.func143,Tryz.ntmps143
 go_wp2_with (first
  |(refine Cq _ rfl rfl rfl ?_;intro W1 m1 b1 _s1;have L1:=m1.lt;clear m1 _s1)
  |(refine XE _ rfl rfl rfl ?_;intro W2 d2 b2 _s2;have L2:=d2.lt;have B2:=b1.trans (b2.mono (by omega));clear d2 b1 b2 _s2)
  |(refine Lk rfl rfl ?_;intro W3 z3 b3 _s3;have L3:=z3.lt;have B3:=B2.trans (b3.mono (by omega));clear B2 b3 _s3)
  |(go_at_call 169;refine(jl _ _).mono ?_;rintro x W4 ⟨rfl,b4⟩;have z4:=z3.next b4;have B4:=B3.trans (b4.mono (by omega));clear z3 B3 b4)
  |(refine Lj _ _ rfl rfl rfl rfl z4 zJ ?_;intro W5 z5 t5;have B5:=t5.under B4 (by omega);clear z4 B4 t5))
 exact bodyPost_ret (Ll z5 _ rfl rfl rfl) rfl ⟨rfl,B5⟩
end
structure jW(w:tF)(B:Bt)(a:tG)(c:Nat)(q:tH):Prop where
 b:ja w B a c
 q:∃s bw,bp B.es s bw∧wD w s q
theorem jW.one{w:tF}{B:Bt}{a:tG}{c:Nat}{q:tH}(h:jW w B a c q):a7 q 41:=by
 obtain⟨s,bw,_,hq⟩:=h.q;exact hq.one
abbrev zU(B:Bt)(a:tG)(c:Nat)(q:tH):Value:=js B.r B.e B.f B.t B.o a B.es.length c q
def sU(U:tI)(w':tF)(B:Bt)(y:tN):Prop:=∃a c q,y=zU B a c q∧bU U w' fun w=>jW w B a c q
theorem GB(w:tF):wD w St.zero zQ:=⟨none,0,none,0,eT,rfl,RowK.nil _ _ _,RowK.nil _ _ _,Nat.le_refl _,Nat.le_refl _,fun _=>rfl,fun _=>rfl,jK⟩
theorem jW.dx{w:tF}{B:Bt}(h:B.es=[]):jW w B none 0 zQ:=⟨⟨by rw[h];exact RowK.nil _ _ _,by rw[h];exact Nat.le_refl _,fun _=>rfl⟩,St.zero,[],by rw[h];exact .nil,GB w⟩
theorem jW.nil{w w':tF}{B:Bt}{a:tG}{c:Nat}(h:B.es=[])(hb:ja w B a c):jW w' B a c zQ:=⟨⟨by rw[h];exact RowK.nil _ _ _,hb.cap,hb.nil⟩,St.zero,[],by rw[h];exact .nil,GB w'⟩
def Bt.dx(B:Bt):Bt:=⟨B.r,B.e,B.f,B.t,B.o,[]⟩
theorem xD{r e f t o:Int}{n m:Nat}(h:bz r e f t o n)(hm:m≤n):bz r e f t o m:=by
 unfold bz at h⊢;rcases h with⟨h1,h2,h3⟩|h|h|h|h
 ·exact .inl ⟨h1,by omega,h3⟩
 ·exact .inr (.inl h)
 ·exact .inr (.inr (.inl h))
 ·exact .inr (.inr (.inr (.inl h)))
 ·exact .inr (.inr (.inr (.inr h)))
theorem Bt.Ok.dx{B:Bt}(h:B.Ok):B.dx.Ok:=⟨xD h.cM (Nat.zero_le _),by simp[Bt.dx],St.zero,[],.nil⟩
theorem qK(w:tF)(B:Bt):ja w B.dx none 0:=⟨RowK.nil _ _ _,Nat.le_refl _,fun _=>rfl⟩
theorem Nq{B:Bt}(ok:B.Ok)(ep:Int):gP B.dx ep=gP B ep:=by
 unfold gP;rw[if_neg (nn ok),if_neg (nn ok.dx)];rfl
theorem VA{B B':Bt}{ep er:Int}(h:gP B ep=(B',er)):B'.es=[]:=by
 unfold gP at h
 repeat' split at h
 all_goals cases h;rfl
theorem GC{B:Bt}(ok:B.Ok)(ep:Int):bG B.dx ep=bG B ep:=by
 unfold bG;rw[if_neg (nn ok),if_neg (nn ok.dx)];rfl
theorem Nr{B B':Bt}{ep er:Int}(h:bG B ep=(B',er)):B'.es=[]:=by
 unfold bG at h
 repeat' split at h
 all_goals cases h;rfl
theorem jW.role{w:tF}{B B':Bt}{a:tG}{c:Nat}{q:tH}(h:jW w B a c q)(e:B'.es=B.es):jW w B' a c q:=⟨⟨by rw[e];exact h.b.row,by rw[e];exact h.b.cap,h.b.nil⟩,by rw[e];exact h.q⟩
theorem Lu(r e f t o:Int)(a:tG)(n c:Nat)(q:tH)(r' e' f' t' o':Int)(a':tG)(n' c':Nat)(er:Int)(w:tF)(hq:a7 q 41):cA 143 #[js r e f t o a n c q,bQ r' e' f' t' o' a' n' c',iV er] w fun x w'=>∃y,x= .returned (.tuple #[y,iV er])∧(er=0→y=js r' e' f' t' o' a n c q)∧(¬er=0→y=js 0 0 0 0 0 none 0 0 zQ)∧bZ w w':=by
 by_cases h0:er=0
 ·subst h0;refine(Y3 r e f t o a n c q r' e' f' t' o' a' n' c' w hq).mono ?_;rintro _ w' ⟨rfl,b⟩;exact⟨_,rfl,fun _=>rfl,fun h=>absurd rfl h,b⟩
 ·refine(abu r e f t o a n c q r' e' f' t' o' a' n' c' w er h0).mono ?_;rintro _ w' ⟨rfl,b⟩;exact⟨_,rfl,fun h=>absurd h h0,fun _=>rfl,b⟩
theorem Rm{U:tI}{w:tF}{B B1:Bt}{a:tG}{c:Nat}{q:tH}{er:Int}{y:tN}(hm:bU U w fun w=>jW w B a c q)(h1:er=0→y=js B1.r B1.e B1.f B1.t B1.o a B.es.length c q)(h2:¬er=0→y=js 0 0 0 0 0 none 0 0 zQ):sU U w (if er=0 then⟨B1.r,B1.e,B1.f,B1.t,B1.o,B.es⟩else Bt.zero) y:=by
 by_cases h0:er=0
 ·rw[if_pos h0,h1 h0];exact⟨a,c,q,rfl,fun w' hc=>(hm w' hc).role rfl⟩
 ·rw[if_neg h0,h2 h0];exact⟨none,0,zQ,rfl,fun w' _=>jW.dx rfl⟩
theorem Ns{B B1:Bt}(ok:B.Ok){nd er:Int}(h:dR B.dx nd=(B1,er)):dR B nd=((if er=0 then⟨B1.r,B1.e,B1.f,B1.t,B1.o,B.es⟩else Bt.zero),er):=by
 unfold dR at h⊢;rw[if_neg (nn ok.dx)]at h;rw[if_neg (nn ok)];by_cases g1:0≤nd∧nd≤4
 ·rw[if_neg (nn g1)]at h⊢;by_cases g2:B.r=2∨B.r=3
  ·rw[if_pos (show B.dx.r=2∨B.dx.r=3 from g2)]at h;rw[if_pos g2];cases h;rfl
  ·rw[if_neg (show ¬(B.dx.r=2∨B.dx.r=3) from g2)]at h;rw[if_neg g2];by_cases g3:B.r=1
   ·rw[if_neg (nn (show B.dx.r=1 from g3))]at h;rw[if_neg (nn g3)];by_cases g4:B.e=1048576
    ·rw[if_pos (show B.dx.e=1048576 from g4)]at h;rw[if_pos g4];cases h;rfl
    ·rw[if_neg (show ¬B.dx.e=1048576 from g4)]at h;rw[if_neg g4];cases h;rfl
   ·rw[if_pos (show ¬B.dx.r=1 from g3)]at h;rw[if_pos g3];cases h;rfl
 ·rw[if_pos g1]at h⊢;cases h;rfl
def Bt.short(B:Bt):Bt:=⟨B.r,B.e,B.f,B.t,B.o,B.es.take 1⟩
theorem Bt.Ok.short{B:Bt}(h:B.Ok):B.short.Ok:=by
 obtain⟨s,bw,ht⟩:=h.told;rcases Nat.eq_zero_or_pos B.es.length with h0|h0
 ·have e:B.es.take 1=B.es:=List.take_of_length_le (by omega);exact⟨by unfold Bt.cC Bt.short;rw[e];exact h.cM,by unfold Bt.short;rw[e];exact h.len,s,bw,by unfold Bt.short;rw[e];exact ht⟩
 ·obtain⟨s0,h1⟩:=ht.take 1 h0;exact⟨xD (m:=(B.es.take 1).length) h.cM (by rw[List.length_take];omega),by simp[Bt.short];omega,s0,_,h1⟩
def kW(hv:Int)(n:Nat):Int:=if hv<0∨(n:Int)<hv then-1 else if hv=n then((min 1 n:Nat):Int)else 0
theorem zV{B:Bt}(ok:B.Ok)(hv:Int):dq B.short (kW hv B.es.length)=dq B hv:=by
 unfold dq;rw[if_neg (nn ok),if_neg (nn ok.short)];by_cases g1:B.r=2∨B.r=3
 ·rw[if_neg (nn g1),if_neg (nn (show B.short.r=2∨B.short.r=3 from g1))];have hl:B.short.es.length=min 1 B.es.length:=by simp[Bt.short]
  rw[hl];unfold kW;by_cases g2:hv<0∨(B.es.length:Int)<hv
  ·rw[if_pos g2,if_pos (by omega),if_pos (by omega)]
  ·rw[if_neg g2,if_neg (nn (show 0≤hv∧hv≤(B.es.length:Int) by omega))];split<;>rw[if_neg (nn (by omega))]
 ·rw[if_pos g1,if_pos (show ¬(B.short.r=2∨B.short.r=3) from g1)]
theorem Ej{B B1:Bt}(ok:B.Ok){hv er:Int}(h:bh B.short (kW hv B.es.length)=(B1,er)):bh B hv=((if er=0 then⟨B1.r,B1.e,B1.f,B1.t,B1.o,B.es⟩else Bt.zero),er):=by
 unfold bh at h⊢;rw[zV ok]at h;by_cases g1:dq B hv=0
 ·rw[if_neg (nn g1)]at h⊢;have AZ:0≤hv∧hv≤(B.es.length:Int):=by
   unfold dq at g1;rw[if_neg (nn ok)]at g1;split at g1
   ·omega
   ·split at g1
    ·omega
    ·rename_i g;exact Decidable.not_not.1 g
  by_cases g2:B.r=3
  ·rw[if_pos (show B.short.r=3 from g2)]at h;rw[if_pos g2];cases h;rfl
  ·rw[if_neg (show ¬B.short.r=3 from g2)]at h;rw[if_neg g2];have hl:B.short.es.length=min 1 B.es.length:=by simp[Bt.short]
   have e:(kW hv B.es.length=(B.short.es.length:Int)∨B.short.o=4)↔(hv=(B.es.length:Int)∨B.o=4):=by
    refine or_congr ?_ Iff.rfl;rw[hl];unfold kW;rw[if_neg (by omega)];split
    ·rename_i g;simp[g]
    ·rename_i g;constructor
     ·intro hz;omega
     ·intro hz;exact absurd hz g
   by_cases g3:hv=(B.es.length:Int)∨B.o=4
   ·rw[if_pos (e.2 g3)]at h;rw[if_pos g3];cases h;rfl
   ·rw[if_neg (fun k=>g3 (e.1 k))]at h;rw[if_neg g3];cases h;rfl
 ·rw[if_pos g1]at h⊢;cases h;rw[if_neg g1]
theorem GD{B B1:Bt}(ok:B.Ok){ep fr er:Int}(h:aT B.dx ep fr=(B1,er)):(er=0∧B1.e=B.e→aT B ep fr=(B,0))∧(¬(er=0∧B1.e=B.e)→aT B ep fr=(B1,er)∧B1.es=[]):=by
 unfold aT at h⊢;rw[if_neg (nn ok.dx)]at h;rw[if_neg (nn ok)];by_cases g1:(1≤ep∧ep≤1048576)∧(0≤fr∧fr≤4)
 ·rw[if_neg (nn g1)]at h⊢;by_cases g2:B.r=1∨B.r=2∨B.r=3
  ·rw[if_pos (show B.dx.r=1∨B.dx.r=2∨B.dx.r=3 from g2)]at h;rw[if_pos g2];cases h;exact⟨fun hh=>absurd hh.1 (by decide),fun _=>⟨rfl,rfl⟩⟩
  ·rw[if_neg (show ¬(B.dx.r=1∨B.dx.r=2∨B.dx.r=3) from g2)]at h;rw[if_neg g2];by_cases g3:B.r=4∧B.e=ep∧B.f=fr
   ·rw[if_pos (show B.dx.r=4∧B.dx.e=ep∧B.dx.f=fr from g3)]at h;rw[if_pos g3];cases h;exact⟨fun _=>rfl,fun hh=>absurd ⟨rfl,rfl⟩ hh⟩
   ·rw[if_neg (show ¬(B.dx.r=4∧B.dx.e=ep∧B.dx.f=fr) from g3)]at h;rw[if_neg g3];by_cases g4:ep≤B.e
    ·rw[if_pos (show ep≤B.dx.e from g4)]at h;rw[if_pos g4];cases h;exact⟨fun hh=>absurd hh.1 (by decide),fun _=>⟨rfl,rfl⟩⟩
    ·rw[if_neg (show ¬ep≤B.dx.e from g4)]at h;rw[if_neg g4];cases h;exact⟨fun hh=>absurd hh.2 (by show ¬ep=B.e;omega),fun _=>⟨rfl,rfl⟩⟩
 ·rw[if_pos g1]at h⊢;cases h;exact⟨fun hh=>absurd hh.1 (by decide),fun _=>⟨rfl,rfl⟩⟩
theorem Rn{k:IntKind}{w:tF}{a:tG}{len:Nat}{l:tJ}(h:RowK k w a len l)(n:Nat)(hn:n≤len):RowK k w a n (l.take n):=by
 have hl:=h.cB;refine⟨by simp;omega,fun u hu=>h.wf u (List.mem_of_mem_take hu),fun i hi=> ?_⟩;obtain⟨b,off,ha,aW,hc⟩:=h.cell i (by omega);refine⟨b,off,ha,aW, ?_⟩;rw[hc];simp[List.getD_eq_getElem?_getD,hi]
theorem wF{w:tF}{B:Bt}{a:tG}{c:Nat}(h:ja w B a c):ja w B.short a c:=by
 have e:ak (B.es.take 1)=(ak B.es).take (6*(B.es.take 1).length):=by
  cases B.es with
  |nil=>rfl
  |cons v l=>simp[ak,aX]
 refine⟨?_,by simp[Bt.short];have:=h.cap;omega,h.nil⟩;show RowK .i64 w a (6*(B.es.take 1).length) (ak (B.es.take 1));rw[e];exact Rn h.row _ (by rw[List.length_take];omega)
section
open Rv
abbrev pU(B:Bt)(a:tG)(c:Nat)(q:tH):List Sg:=[.o (iV B.r),.o (iV B.e),.o (iV B.f),.o (iV B.t),.o (iV B.o),.o (.slice a B.es.length c),.f 41 q]
abbrev Nu:=Bt×Option Addr×Nat×(Nat→Value)
abbrev JM(y:Nu):SV:= .g (pU y.1 y.2.1 y.2.2.1 y.2.2.2)
abbrev Ro(y:Nu)(w:tF):Prop:=jW w y.1 y.2.1 y.2.2.1 y.2.2.2
theorem Nw(U:tI)(B:Bt)(a:tG)(c:Nat)(q:tH)(ep:Int)(w:tF)(ok:B.Ok):cA 77 #[zU B a c q,iV ep] w fun x w'=>∃y B' er,x= .returned (.tuple #[y,iV er])∧gP B ep=(B',er)∧sU U w' B' y∧bZ w w':=by
 refine en (H:=[]) _ [vg (pU B a c q),vi ep] Tryz.func77 rfl rfl (m0 w) (r [] rfl fun _=>Rv.cb rfl (vg (bS B.r B.e B.f B.t B.o none 0 0)) (fun w _=>ku B.r B.e B.f B.t B.o a B.es.length c q w) (r [] rfl fun _=> ?_));refine cx rfl (fun y:(Bt×Int)×Option Addr×Nat=>vt [bY y.1.1 y.1.1.es.length y.2,.o (iV y.1.2)]) (fun y=>gP B.dx ep=y.1) (fun y w=>ja w y.1.1 y.2.1 y.2.2) (fun w hS=>(Np B.dx none 0 ep w (qK _ _)).mono fun _ w4 ⟨_,B1,er,h0,h1,ho,b⟩=> ?_) ?_
 ·obtain⟨a1,c1,rfl,oD,BP⟩:=ho.ex;exact⟨((B1,er),a1,c1),h0,b,h1,fun hU w2 c2=>⟨cD oD.row BP hU w2 c2,oD.cap,oD.nil⟩⟩
 rintro⟨⟨B1,er⟩,a1,c1⟩ h1;exact r [] rfl fun _=>fin fun w hS=>⟨_,B1,er,rfl,(Nq ok _)▸h1,⟨a1,c1,zQ,rfl,fun _ _=>jW.nil (VA h1) hS.now.1.2⟩,hS.now.2⟩
theorem GF(U:tI)(B:Bt)(a:tG)(c:Nat)(q:tH)(ep:Int)(w:tF)(ok:B.Ok):cA 124 #[zU B a c q,iV ep] w fun x w'=>∃y B' er,x= .returned (.tuple #[y,iV er])∧bG B ep=(B',er)∧sU U w' B' y∧bZ w w':=by
 refine en (H:=[]) _ [vg (pU B a c q),vi ep] Tryz.func124 rfl rfl (m0 w) (r [] rfl fun _=>Rv.cb rfl (vg (bS B.r B.e B.f B.t B.o none 0 0)) (fun w _=>ku B.r B.e B.f B.t B.o a B.es.length c q w) (r [] rfl fun _=> ?_));refine cx rfl (fun y:(Bt×Int)×Option Addr×Nat=>vt [bY y.1.1 y.1.1.es.length y.2,.o (iV y.1.2)]) (fun y=>bG B.dx ep=y.1) (fun y w=>ja w y.1.1 y.2.1 y.2.2) (fun w hS=>(Gz B.dx none 0 ep w (qK _ _)).mono fun _ w4 ⟨_,B1,er,h0,h1,ho,b⟩=> ?_) ?_
 ·obtain⟨a1,c1,rfl,oD,BP⟩:=ho.ex;exact⟨((B1,er),a1,c1),h0,b,h1,fun hU w2 c2=>⟨cD oD.row BP hU w2 c2,oD.cap,oD.nil⟩⟩
 rintro⟨⟨B1,er⟩,a1,c1⟩ h1;exact r [] rfl fun _=>fin fun w hS=>⟨_,B1,er,rfl,(GC ok _)▸h1,⟨a1,c1,zQ,rfl,fun _ _=>jW.nil (Nr h1) hS.now.1.2⟩,hS.now.2⟩
theorem Cu(r e f t o:Int)(a:tG)(n c:Nat)(w:tF)(hc:n≤c):cA 182 #[bQ r e f t o a n c] w (rB (bQ r e f t o a (min 1 n) c) w):=by
 exact en (H:=[]) _ [vg (bS r e f t o a n c)] Tryz.func182 rfl rfl (m0 w) (rz [2] [((min 1 n:Nat):Int)] rfl fun _=>fin fun w hS=>⟨rfl,hS.now.2⟩)
theorem xE(r e f t o:Int)(a:tG)(n c:Nat)(q:tH)(hv:Int)(w:tF)(hc:n≤c):cA 167 #[js r e f t o a n c q,iV hv] w (rB (.tuple #[bQ r e f t o a (min 1 n) c,iV (kW hv n)]) w):=by
 refine en (H:=[]) _ [vg [.o (iV r),.o (iV e),.o (iV f),.o (iV t),.o (iV o),.o (.slice a n c),.f 41 q],vi hv] Tryz.func167 rfl rfl (m0 w) (Rv.r [] rfl fun _=>Rv.cb rfl (vg (bS r e f t o a (min 1 n) c)) (fun w _=>Cu r e f t o a n c w hc) ?_);unfold kW;by_cases h0:hv<0
 ·exact Rv.r [1] rfl fun _=>fin fun w hS=>⟨by rw[if_pos (.inl h0)];rfl,hS.now.2⟩
 by_cases h1:(n:Int)<hv
 ·exact Rv.r [0,1] rfl fun _=>fin fun w hS=>⟨by rw[if_pos (.inr h1)];rfl,hS.now.2⟩
 rw[if_neg (by omega)];by_cases h2:hv=n
 ·refine Rv.r [0,0,1,5,1,4] rfl fun _=> ?_
  repeat' first|refine C9 ?_ ?_|refine rs [] rfl rfl fun _=> ?_
  all_goals exact fin fun w hS=>⟨by rw[if_pos h2];rfl,hS.now.2⟩
 ·exact Rv.r [0,0,0] rfl fun _=>fin fun w hS=>⟨by rw[if_neg h2];rfl,hS.now.2⟩
theorem XF{r' e' f' t' o':Int}{a:tG}{n c:Nat}{q:tH}{er:Int}{y:tN}(hq:a7 q 41)(h1:er=0→y=js r' e' f' t' o' a n c q)(h2:¬er=0→y=js 0 0 0 0 0 none 0 0 zQ):∃yg,a7 yg 47∧y=vF yg 47:=by
 by_cases h0:er=0
 ·exact⟨_,eD hq,h1 h0⟩
 ·exact⟨_,eD zJ,h2 h0⟩
theorem GG(B:Bt)(a:tG)(c:Nat)(hv:Int)(w:tF)(hb:ja w B a c):cA 166 #[bQ B.r B.e B.f B.t B.o a (min 1 B.es.length) c,iV hv] w fun x w'=>∃y B' er,x= .returned (.tuple #[y,iV er])∧bh B.short hv=(B',er)∧iz w w' B' y∧bZ w w':=by
 have e:min 1 B.es.length=B.short.es.length:=by simp[Bt.short]
 rw[e];exact GA B.short a c hv w (wF hb)
theorem VB(U:tI)(B:Bt)(a:tG)(c:Nat)(q:tH)(nd:Int)(w:tF)(hU:∀b,U b→b<w.heap.size)(hm:bU U w fun w=>jW w B a c q)(ok:B.Ok):cA 92 #[zU B a c q,iV nd] w fun x w'=>∃y B' er,x= .returned (.tuple #[y,iV er])∧dR B nd=(B',er)∧sU U w' B' y∧bZ w w':=by
 have oq:=hm.now.one;refine en (H:=[]) _ [vg (pU B a c q),vi nd] Tryz.func92 rfl rfl (pP hU hm) (r [] rfl fun _=>Rv.cb rfl (vg (bS B.r B.e B.f B.t B.o none 0 0)) (fun w _=>ku B.r B.e B.f B.t B.o a B.es.length c q w) (r [] rfl fun _=> ?_));refine cq rfl (fun y:(Bt×Int)×Option Addr×Nat=>vt [bY y.1.1 y.1.1.es.length y.2,.o (iV y.1.2)]) (fun y=>dR B.dx nd=y.1) (fun w hS=>(Vy B.dx none 0 nd w (qK _ _)).mono fun _ w4 ⟨_,B1,er,h0,h1,ho,b⟩=> ?_) ?_
 ·obtain⟨a1,c1,rfl,oD,BP⟩:=ho.ex;exact⟨((B1,er),a1,c1),h0,b,h1⟩
 rintro⟨⟨B1,er⟩,a1,c1⟩ h1;refine r [] rfl fun _=>cq rfl (fun y:Nat→Value=>vt [.g [.f 47 y],.o (iV er)]) (fun y=>a7 y 47∧(er=0→vF y 47=js B1.r B1.e B1.f B1.t B1.o a B.es.length c q)∧(¬er=0→vF y 47=js 0 0 0 0 0 none 0 0 zQ)) (fun w hS=>(Lu B.r B.e B.f B.t B.o a B.es.length c q B1.r B1.e B1.f B1.t B1.o a1 B1.es.length c1 er w oq).mono fun _ _ ⟨y,h0,y1,y2,b⟩=> ?_) ?_
 ·obtain⟨yg,oy,rfl⟩:∃yg,a7 yg 47∧y=vF yg 47:=XF oq y1 y2;exact⟨yg,h0,b,oy,y1,y2⟩
 rintro yg ⟨oy,y1,y2⟩;exact r [] rfl fun _=>fin fun w hS=>⟨_,_,er,rfl,Ns ok h1,Rm hS.DO y1 y2,hS.now.2⟩
theorem GH(U:tI)(B:Bt)(a:tG)(c:Nat)(q:tH)(hv:Int)(w:tF)(hU:∀b,U b→b<w.heap.size)(hm:bU U w fun w=>jW w B a c q)(ok:B.Ok):cA 117 #[zU B a c q,iV hv] w fun x w'=>∃y B' er,x= .returned (.tuple #[y,iV er])∧bh B hv=(B',er)∧sU U w' B' y∧bZ w w':=by
 have oq:=hm.now.one;have hc:=hm.now.b.cap;refine en (H:=[]) _ [vg (pU B a c q),vi hv] Tryz.func117 rfl rfl (pP hU hm) (r [] rfl fun _=>Rv.cb rfl (vt [.g (bS B.r B.e B.f B.t B.o a (min 1 B.es.length) c),.o (iV (kW hv B.es.length))]) (fun w _=>xE B.r B.e B.f B.t B.o a B.es.length c q hv w hc) (r [] rfl fun _=> ?_));refine cq rfl (fun y:(Bt×Int)×Option Addr×Nat=>vt [bY y.1.1 y.1.1.es.length y.2,.o (iV y.1.2)]) (fun y=>bh B.short (kW hv B.es.length)=y.1) (fun w hS=>(GG B a c (kW hv B.es.length) w hS.now.1.b).mono fun _ w4 ⟨_,B1,er,h0,h1,ho,b⟩=> ?_) ?_
 ·obtain⟨a1,c1,rfl,oD,BP⟩:=ho.ex;exact⟨((B1,er),a1,c1),h0,b,h1⟩
 rintro⟨⟨B1,er⟩,a1,c1⟩ h1;refine r [] rfl fun _=>cq rfl (fun y:Nat→Value=>vt [.g [.f 47 y],.o (iV er)]) (fun y=>a7 y 47∧(er=0→vF y 47=js B1.r B1.e B1.f B1.t B1.o a B.es.length c q)∧(¬er=0→vF y 47=js 0 0 0 0 0 none 0 0 zQ)) (fun w hS=>(Lu B.r B.e B.f B.t B.o a B.es.length c q B1.r B1.e B1.f B1.t B1.o a1 B1.es.length c1 er w oq).mono fun _ _ ⟨y,h0,y1,y2,b⟩=> ?_) ?_
 ·obtain⟨yg,oy,rfl⟩:∃yg,a7 yg 47∧y=vF yg 47:=XF oq y1 y2;exact⟨yg,h0,b,oy,y1,y2⟩
 rintro yg ⟨oy,y1,y2⟩;exact r [] rfl fun _=>fin fun w hS=>⟨_,_,er,rfl,Ej ok h1,Rm hS.DO y1 y2,hS.now.2⟩
theorem JN(U:tI)(B:Bt)(a:tG)(c:Nat)(q:tH)(ep fr:Int)(w:tF)(hU:∀b,U b→b<w.heap.size)(hm:bU U w fun w=>jW w B a c q)(ok:B.Ok):cA 114 #[zU B a c q,iV ep,iV fr] w fun x w'=>∃y B' er,x= .returned (.tuple #[y,iV er])∧aT B ep fr=(B',er)∧sU U w' B' y∧bZ w w':=by
 have oq:=hm.now.one;refine en (H:=[]) _ [vg (pU B a c q),vi ep,vi fr] Tryz.func114 rfl rfl (pP hU hm) (r [] rfl fun _=>Rv.cb rfl (vg (bS B.r B.e B.f B.t B.o none 0 0)) (fun w _=>ku B.r B.e B.f B.t B.o a B.es.length c q w) (r [] rfl fun _=> ?_));refine cx rfl (fun y:(Bt×Int)×Option Addr×Nat=>vt [bY y.1.1 y.1.1.es.length y.2,.o (iV y.1.2)]) (fun y=>aT B.dx ep fr=y.1) (fun y w=>ja w y.1.1 y.2.1 y.2.2) (fun w hS=>(sT B.dx none 0 ep fr w (qK _ _)).mono fun _ w4 ⟨_,B1,er,h0,h1,ho,b⟩=> ?_) ?_
 ·obtain⟨a1,c1,rfl,oD,BP⟩:=ho.ex;exact⟨((B1,er),a1,c1),h0,b,h1,fun hU w2 c2=>⟨cD oD.row BP hU w2 c2,oD.cap,oD.nil⟩⟩
 rintro⟨⟨B1,er⟩,a1,c1⟩ h1;have h1:aT B.dx ep fr=(B1,er):=h1;obtain⟨e1,e2⟩:=GD ok h1;by_cases h0:er=0∧B1.e=B.e
 ·exact r [1,1] rfl fun _=>fin fun w hS=>⟨_,B,0,rfl,e1 h0,⟨a,c,q,rfl,fun w2 c2=>(hS.DO w2 c2).1⟩,hS.now.2⟩
 have cs:(er=0∧¬B1.e=B.e)∨¬er=0:=by omega
 rcases cs with⟨h2,h3⟩|h2
 case' inl=>refine r [1,0] rfl fun _=> ?_
 case' inr=>refine r [0] rfl fun _=> ?_
 all_goals exact fin fun w hS=>⟨_,B1,er,rfl,(e2 h0).1,⟨a1,c1,zQ,rfl,fun _ _=>jW.nil (e2 h0).2 hS.now.1.2⟩,hS.now.2⟩
end
theorem jW.split{U:tI}{w:tF}{B:Bt}{a:tG}{c:Nat}{q:tH}(h:bU U w fun w=>jW w B a c q):∃s bw,bp B.es s bw∧bU U w fun w=>ja w B a c∧wD w s q:=by
 obtain⟨s,bw,ht,hq⟩:=h.now.q;refine⟨s,bw,ht,fun w' c'=>⟨(h w' c').b, ?_⟩⟩;obtain⟨s',ans',Xh,yI⟩:=(h w' c').q;obtain⟨rfl,_⟩:=ht.one Xh;exact yI
def sf(U:tI)(w:tF)(B:Bt)(l:List Ev)(y:tN)(k:Bool):Prop:=
 (k=true∧B.es.length+l.length≤2000∧(∃s bw,bp (B.es++l) s bw)∧sU U w (B.more l) y)∨(k=false∧¬(B.es.length+l.length≤2000∧∃s bw,bp (B.es++l) s bw)∧y=js 0 0 0 0 0 none 0 0 zQ)
theorem Lv{es l:List Ev}{k:Nat}{v:Ev}{s s1:St}{bw:List An}{an:An}{ch:Bool}{er:Int}(ht:bp (es++l.take k) s bw)(hv:l[k]? =some v)(hd:Gq s v s1 an ch er)(h0:¬(er=0∧ch=true)):¬∃s bw,bp (es++l) s bw:=by
 rintro⟨s2,Nh,h2⟩;have hk:k<l.length:=(List.getElem?_eq_some_iff.1 hv).1;have e:(es++l).take (es.length+(k+1))=(es++l.take k)++[v]:=by
  rw[List.take_length_add_append,List.append_assoc,List.take_add_one,hv];rfl
 obtain⟨s3,h3⟩:=h2.take (es.length+(k+1)) (by simp;omega);rw[e]at h3;obtain⟨s4,ans4,an4,h4,iD,st,_⟩:=h3.last;obtain⟨rfl,_⟩:=ht.one h4;cases hd with
 |step _ st'=>
  cases ch with
  |true=>exact h0 ⟨rfl,rfl⟩
  |false=>
   have:=(st.Ur ht.wf st').2.2;cases this
 |form _ hf hn=>exact hn (by rw[←hf];exact iD)
theorem sV{l:List Ev}{k:Nat}{v:Ev}(hk:l[k]? =some v):∀j,j<6→iV ((ak l).getD (6*k+j) 0)=lF [iV v.k,iV v.p,iV v.i,iV v.b,iV v.he,iV v.hn] j:=by
 induction l generalizing k with
 |nil=>simp at hk
 |cons u l ih=>
  intro j hj;cases k with
  |zero=>
   simp at hk;subst hk
   match j,hj with
   |0,_=>rfl
   |1,_=>rfl
   |2,_=>rfl
   |3,_=>rfl
   |4,_=>rfl
   |5,_=>rfl
  |succ k=>
   have e:(ak (u::l)).getD (6*(k+1)+j) 0=(ak l).getD (6*k+j) 0:=by
    show([u.k,u.p,u.i,u.b,u.he,u.hn]++ak l).getD _ 0=_;rw[List.getD_eq_getElem?_getD,List.getD_eq_getElem?_getD,List.getElem?_append_right (by simp;omega)];congr 2;simp;omega
   rw[e];exact ih (by simpa using hk) j hj
theorem ph{w:tF}{a:tG}{len:Nat}{L:tJ}(h:RowK .i64 w a len L)(hl:0<len):∃b off,a=some ⟨b,off,none⟩:=by
 obtain⟨b,off,ha,_⟩:=h.cell 0 hl;exact⟨b,off,ha⟩
section
open Rv
theorem Nx{es l:List Ev}{k:Nat}{v:Ev}{s s1:St}{bw:List An}{an:An}(ht:bp (es++l.take k) s bw)(hv:l[k]? =some v)(hd:Gq s v s1 an true 0):bp (es++l.take (k+1)) s1 (bw++[an]):=by
 cases hd with
 |step iD st=>
  have e:es++l.take (k+1)=(es++l.take k)++[v]:=by
   rw[List.append_assoc,List.take_add_one,hv];rfl
  rw[e];exact ht.snoc iD st
theorem Rq{U:tI}{w:tF}{B:Bt}{a a2:tG}{c c2:Nat}{b:tG}{lb:Nat}{l:List Ev}{s:St}{bw:List An}{q:tH}(Ug:lb=l.length)(ht:bp (B.es++l) s bw)(h:bU U w fun w=>((ja w B a c∧RowK .i64 w b (6*lb) (ak l))∧wD w s q)∧RowK .i64 w a2 (6*(B.es.length+lb)) (ak B.es++ak l))(kz:B.es.length+lb≤c2)(rU:a2=none→c2=0):bU U w fun w=>jW w (B.more l) a2 c2 q:=fun w' c'=>by
 have hh:=h w' c';have e:(B.more l).es.length=B.es.length+lb:=by simp[Bt.more,Ug]
 refine⟨⟨?_,by rw[e];exact kz,rU⟩,s,bw,ht,hh.1.2⟩;rw[e];have e2:ak (B.more l).es=ak B.es++ak l:=by simp[Bt.more,ak]
 rw[e2];exact hh.2
theorem Cv(U:tI)(B:Bt)(a:tG)(c:Nat)(q:tH)(l:List Ev)(b:tG)(lb cb:Nat)(w:tF)(hU:∀b,U b→b<w.heap.size)(hm:bU U w fun w=>jW w B a c q)(hr:bU U w fun w=>RowK .i64 w b (6*lb) (ak l))(Ug:lb=l.length)(vU:b=none→cb=0)(hlen:B.es.length≤2000)(Q2:lb≤2000):cA 171 #[zU B a c q,.slice b lb cb] w fun x w'=>∃y k,x= .returned (.tuple #[y,.bool k])∧sf U w' B l y k∧bZ w w':=by
 obtain⟨s,bw,ht,hm2⟩:=jW.split hm;have oq:=hm.now.one;have hS0:Mem w (hs []) U (fun w=>(ja w B a c∧RowK .i64 w b (6*lb) (ak l))∧wD w s q) (fun w'=>bZ w w'):=pP hU fun w2 c2=>⟨⟨(hm2 w2 c2).1,hr w2 c2⟩,(hm2 w2 c2).2⟩;have hbo:0<lb→∃bb bo,b=some ⟨bb,bo,none⟩:=fun h=>ph hr.now (by omega);refine en (H:=[]) _ [vg (pU B a c q),vv (.slice b lb cb)] Tryz.func171 rfl rfl hS0 ?_;by_cases hbig:2000<B.es.length+lb
 ·exact rz [1,1] [((B.es.length+lb:Nat):Int)] rfl fun _=>fin fun w hS=>⟨_,false,rfl,.inr ⟨rfl,fun h=>by omega,rfl⟩,hS.now.2⟩
 refine rz [1,0] [((B.es.length+lb:Nat):Int)] rfl fun α=>iC (X:=Nat×(Nat→Value)×Go.Proofs.YtmhifeahpnkpiaaGreatDoor.St×List An) ⟨fun x=>[(1,vv (.slice b lb cb)),(2,vp 0 0 (α 0)),(4,vp 1 0 (α 1)),(21,vv (.slice b lb cb)),(22,vi (lb:Int)),(23,vi (x.1:Int))],fun x=>[⟨α 0,117,pU B a c x.2.1⟩,⟨α 1,117,pU Bt.zero none 0 zQ⟩],fun _=>U,fun x w=>(ja w B a c∧RowK .i64 w b (6*lb) (ak l))∧wD w x.2.2.1 x.2.1,fun _ w'=>bZ w w',fun x=>x.1≤lb∧bp (B.es++l.take x.1) x.2.2.1 x.2.2.2∧a7 x.2.1 41,fun x=>lb-x.1⟩ (0,q,s,bw) ⟨rfl,rfl,rfl,rfl,rfl,rfl,trivial⟩ (fun w hS=>hS) ⟨Nat.zero_le _,by simpa using ht,oq⟩ ?_;clear ht oq hm2 hS0 s bw;rintro f ⟨k,q,s,bw⟩ ⟨hk,ht,oq⟩;have hk:k≤lb:=hk;have ht:bp (B.es++l.take k) s bw:=ht;have oq:a7 q 41:=oq;by_cases aW:k<lb
 case neg=>
  rw[show l.take k=l from List.take_of_length_le (by omega)]at ht;refine r [0] rfl fun _=>cx rfl (fun y:Option Addr×Nat=>vv (.slice y.1 (B.es.length+lb) y.2)) (fun y=>B.es.length+lb≤y.2∧(y.1=none→y.2=0)) (fun y w=>RowK .i64 w y.1 (6*(B.es.length+lb)) (ak B.es++ak l)) (fun w hS=>(xA a b B.es.length c lb cb (ak B.es) (ak l) w hS.now.1.1.1.row hS.now.1.1.2 hS.now.1.1.1.nil vU (by omega)).mono ?_) fun y hy=> ?_
  ·rintro _ w3 ⟨_,rfl,ho,b1⟩;obtain⟨a2,c2,rfl,hr2,kz,rU,hf2⟩:=ho.ex;exact⟨(a2,c2),rfl,b1,⟨kz,rU⟩,fun hl=>cD hr2 hf2 hl⟩
  ·exact r [] rfl fun _=>fin fun w hS=>⟨_,true,rfl,.inl ⟨rfl,by omega,⟨s,bw,ht⟩,⟨y.1,y.2,q,by rw[zU,show(B.more l).es.length=B.es.length+lb by simp[Bt.more,Ug]];rfl,Rq Ug ht hS.DO hy.1 hy.2⟩⟩,hS.now.2⟩
 obtain⟨bb,bo,hbe⟩:=hbo (by omega);obtain⟨v,hv⟩:∃v,l[k]? =some v:=⟨l[k],List.getElem?_eq_getElem (by omega)⟩;refine sv 21 (vv (.slice (some ⟨bb,bo,none⟩) lb cb)) (congrArg (fun b=>Value.slice b lb cb) hbe) (r [1] rfl fun _=>lf (q:=bo+k*6) rfl 6 (lF [iV v.k,iV v.p,iV v.i,iV v.b,iV v.he,iV v.hn]) (fun w hS j hj=> ?_) (r [] rfl fun β=> ?_))
 ·have ee:=hS.now.1.1.2;rw[hbe]at ee;obtain⟨b0,o0,e0,_,U2⟩:=ee.cell (6*k+j) (by omega);cases e0;rw[Nat.add_assoc,Nat.mul_comm k 6,U2];exact congrArg some (sV hv j hj)
 refine cx rfl (fun y:Go.Proofs.YtmhifeahpnkpiaaGreatDoor.St×An×Bool×Int×(Nat→Value)=>vt [.g [.f 41 y.2.2.2.2],.g (Pw y.2.1),.o (.bool y.2.2.1),.o (iV y.2.2.2.1)]) (fun y=>Gq s v y.1 y.2.1 y.2.2.1 y.2.2.2.1∧a7 y.2.2.2.2 41) (fun y w=>wD w y.1 y.2.2.2.2) (fun w hS=>(Q4 hS.now.1.2 ht.wf.ok v).mono fun _ _ ⟨s1,an,ch,er,q1,h1,hd,hq1,b⟩=>⟨(s1,an,ch,er,q1),h1,b,⟨hd,(hq1 (fun _=>False) (fun _ h=>h.elim)).now.one⟩,fun hl=>hq1 _ hl⟩) ?_;rintro⟨s1,an,ch,er,q1⟩ ⟨hd,VE⟩;have hd:Gq s v s1 an ch er:=hd;have VE:a7 q1 41:=VE;rcases hd.err with rfl|⟨Du,rfl⟩
 case inr=>exact r [1] rfl fun _=>fin fun w hS=>⟨_,false,rfl,.inr ⟨rfl,fun h=>Lv ht hv hd (fun g=>Du g.1) h.2,rfl⟩,hS.now.2⟩
 cases ch
 ·exact r [0] rfl fun _=>fin fun w hS=>⟨_,false,rfl,.inr ⟨rfl,fun h=>Lv ht hv hd (fun g=>by cases g.2) h.2,rfl⟩,hS.now.2⟩
 ·exact rz [0,1] [((k+1:Nat):Int)] rfl fun _=>eJ (k+1,q1,s1,bw++[an]) ⟨rfl,rfl,rfl,(congrArg (fun b=>Value.slice b lb cb) hbe).symm,rfl,rfl,trivial⟩ (fun w hS=>(hS.take 2).said fun _ h=>⟨h.1.1,h.2⟩) ⟨(show k+1≤lb by omega),Nx ht hv hd,VE⟩ (show lb-(k+1)<lb-k by omega)
theorem Ny{w:tF}{R T:Nat}(v:Ev)(hv:∀u∈aX v,(Lit.int .i64 u).wf=true)(h:aZ w R T 6 (lF [iV v.k,iV v.p,iV v.i,iV v.b,iV v.he,iV v.hn])):RowK .i64 w (some ⟨R,0,none⟩) (6*1) (ak [v]):=by
 refine⟨rfl,by simpa[ak]using hv,fun i hi=>⟨R,0,rfl,h.lt, ?_⟩⟩;rw[Nat.zero_add,h.at i (by omega)]
 match i,hi with
 |0,_=>rfl
 |1,_=>rfl
 |2,_=>rfl
 |3,_=>rfl
 |4,_=>rfl
 |5,_=>rfl
theorem Lw{U:tI}{w:tF}{B:Bt}{l:List Ev}{y:tN}{k:Bool}(h:sf U w B l y k):∃yg,a7 yg 47∧y=vF yg 47:=by
 rcases h with⟨_,_,_,a,c,q,rfl,hm⟩|⟨_,_,rfl⟩
 ·exact⟨_,eD hm.now.one,rfl⟩
 ·exact⟨_,eD zJ,rfl⟩
theorem sf.Dc{U V:tI}{w w':tF}{B:Bt}{l:List Ev}{y:tN}{k:Bool}(h:sf U w B l y k)(c:dB U w w')(hV:∀b,V b→U b):sf V w' B l y k:=by
 rcases h with⟨h1,h2,h3,a,c',q,e,hm⟩|h
 ·exact .inl ⟨h1,h2,h3,a,c',q,e,hm.Dc c fun b _ hb=>hV b hb⟩
 ·exact .inr h
theorem Ev.Y5:∀u∈aX Ev.brk,(Lit.int .i64 u).wf=true:=by decide
theorem xF(U:tI)(B:Bt)(a:tG)(c:Nat)(q:tH)(w:tF)(hU:∀b,U b→b<w.heap.size)(hm:bU U w fun w=>jW w B a c q)(hlen:B.es.length≤2000):cA 172 #[zU B a c q] w fun x w'=>∃y k,x= .returned (.tuple #[y,.bool k])∧sf U w' ⟨1,B.e,0,0,0,B.es⟩ [Ev.brk] y k∧bZ w w':=by
 have oq:=hm.now.one;refine en (H:=[]) _ [vg (pU B a c q)] Tryz.func172 rfl rfl (pP hU hm) (r [] rfl fun _=> ?_);refine kp 2 rfl (cx rfl (fun y:(Nat→Value)×Bool=>vt [.g [.f 47 y.1],.o (.bool y.2)]) (fun y=>a7 y.1 47) (fun y w=>sf U w ⟨1,B.e,0,0,0,B.es⟩ [Ev.brk] (vF y.1 47) y.2) (fun w hS=>(Cv _ ⟨1,B.e,0,0,0,B.es⟩ a c q [Ev.brk] _ 1 1 w hS.ult (fun w2 c2=>(hS.g w2 c2).1.role rfl) (fun w2 c2=>Lc Ev.brk Ev.Y5 (hS.g w2 c2).2 (fun i hi=>by match i,hi with|0,_=>rfl|1,_=>rfl|2,_=>rfl|3,_=>rfl|4,_=>rfl|5,_=>rfl)) rfl (fun h=>by cases h) hlen (by decide)).mono fun _ _ ⟨y,k,h0,iY,b⟩=> ?_) fun y oy=> ?_)
 ·obtain⟨yg,oy,rfl⟩:=Lw iY;exact⟨(yg,k),h0,b,oy,fun _ w2 c2=>iY.Dc c2 fun _ h=> .inr h⟩
 have oy:a7 y.1 47:=oy;exact r [] rfl fun _=>fin fun w hS=>⟨_,y.2,rfl,hS.now.1.2,hS.now.2⟩
theorem zW{B:Bt}(ok:B.Ok)(hr:B.r=1∨B.r=2){U:tI}{w:tF}{y:tN}{k:Bool}(h:sf U w ⟨1,B.e,0,0,0,B.es⟩ [Ev.brk] y k):(k=true→bB B=(B.broken,0)∧sU U w B.broken y)∧(k=false→bB B=(Bt.zero,14)):=by
 have st:1≤B.e∧B.e≤1048576:=by
  have:=ok.cM;unfold Bt.cC bz at this;omega
 unfold bB;rw[if_neg (nn ok),if_neg (nn hr)];rcases h with⟨rfl,h2,⟨s,bw,h3⟩,h4⟩|⟨rfl,h2,_⟩
 ·have ob:B.broken.Ok:=⟨.inr (.inl ⟨rfl,st.1,st.2,rfl,rfl,rfl⟩),by simpa[Bt.broken]using h2,s,bw,h3⟩;exact⟨fun _=>⟨by rw[if_neg (nn ob)],h4⟩,fun h=>by cases h⟩
 ·refine⟨fun h=>(by cases h),fun _=> ?_⟩;rw[if_pos];intro ob;obtain⟨s,bw,ht⟩:=ob.told;exact h2 ⟨by simpa[Bt.broken]using ob.len,s,bw,ht⟩
theorem Nz(U:tI)(B:Bt)(a:tG)(c:Nat)(q:tH)(w:tF)(hU:∀b,U b→b<w.heap.size)(hm:bU U w fun w=>jW w B a c q)(ok:B.Ok)(hr:¬(B.r=1∨B.r=2)):cA 140 #[zU B a c q] w fun x w'=>∃y B' er,x= .returned (.tuple #[y,iV er])∧bB B=(B',er)∧sU U w' B' y∧bZ w w':=by
 have oq:=hm.now.one;exact en (H:=[]) _ [vg (pU B a c q)] Tryz.func140 rfl rfl (pP hU hm) (r [] rfl fun _=>Rv.cb rfl (vv (.bool false)) (fun w _=>nh false (kE B.r B.e B.f B.t B.o a B.es.length c q w) (decide_eq_false hr)) (r [] rfl fun _=>fin fun w hS=>⟨_,B,0,rfl,by unfold bB;rw[if_neg (nn ok),if_pos hr],⟨a,c,q,rfl,hS.DO⟩,hS.now.2⟩))
theorem NA(U:tI)(B:Bt)(a:tG)(c:Nat)(q:tH)(w:tF)(hU:∀b,U b→b<w.heap.size)(hm:bU U w fun w=>jW w B a c q)(ok:B.Ok)(hr:B.r=1∨B.r=2):cA 140 #[zU B a c q] w fun x w'=>∃y B' er,x= .returned (.tuple #[y,iV er])∧bB B=(B',er)∧sU U w' B' y∧bZ w w':=by
 have oq:=hm.now.one;refine en (H:=[]) _ [vg (pU B a c q)] Tryz.func140 rfl rfl (pP hU hm) (r [] rfl fun _=>Rv.cb rfl (vv (.bool true)) (fun w _=>nh true (kE B.r B.e B.f B.t B.o a B.es.length c q w) (decide_eq_true hr)) (r [] rfl fun _=> ?_));refine cx rfl (fun y:(Nat→Value)×Bool=>vt [.g [.f 47 y.1],.o (.bool y.2)]) (fun y=>a7 y.1 47) (fun y w=>sf U w ⟨1,B.e,0,0,0,B.es⟩ [Ev.brk] (vF y.1 47) y.2) (fun w hS=>(xF _ B a c q w hS.ult (fun w2 c2=>hS.g w2 c2) ok.len).mono fun _ _ ⟨y,k,h0,iY,b⟩=> ?_) ?_
 ·obtain⟨yg,oy,rfl⟩:=Lw iY;exact⟨(yg,k),h0,b,oy,fun _ w2 c2=>iY.Dc c2 fun _ h=> .inr h⟩
 rintro⟨yg,k⟩ oy;have oy:a7 yg 47:=oy;cases k
 ·exact r [] rfl fun _=>Rv.cb rfl (vt [.g (pU Bt.zero none 0 zQ),.o (iV 14)]) (fun w _=>jl 14 w) (r [] rfl fun _=>fin fun w hS=>⟨_,Bt.zero,14,rfl,(zW ok hr hS.now.1.2).2 rfl,⟨none,0,zQ,rfl,fun _ _=>jW.dx rfl⟩,hS.now.2⟩)
 ·exact r [] rfl fun _=>fin fun w hS=>⟨_,B.broken,0,rfl,((zW ok hr hS.now.1.2).1 rfl).1,((zW ok hr hS.now.1.2).1 rfl).2,hS.now.2⟩
theorem NC(U:tI)(B:Bt)(a:tG)(c:Nat)(q:tH)(w:tF)(hU:∀b,U b→b<w.heap.size)(hm:bU U w fun w=>jW w B a c q)(ok:B.Ok):cA 140 #[zU B a c q] w fun x w'=>∃y B' er,x= .returned (.tuple #[y,iV er])∧bB B=(B',er)∧sU U w' B' y∧bZ w w':=by
 by_cases hr:B.r=1∨B.r=2
 ·exact NA U B a c q w hU hm ok hr
 ·exact Nz U B a c q w hU hm ok hr
def vj(v:Ev):Int:=if ¬aQ v.k v.p v.i v.b v.he v.hn=0 then aQ v.k v.p v.i v.b v.he v.hn else if v.k=4 then 3 else 0
theorem JO(v:Ev)(w:tF):cA 202 #[qE v] w (rB (iV (vj v)) w):=by
 refine en (H:=[]) _ [vg (YY v)] Tryz.func202 rfl rfl (m0 w) (r [] rfl fun _=>Rv.cb rfl (vi (aQ v.k v.p v.i v.b v.he v.hn)) (fun w _=>nT v.k v.p v.i v.b v.he v.hn w) ?_);unfold vj;by_cases h0:aQ v.k v.p v.i v.b v.he v.hn=0
 case neg=>exact r [1] rfl fun _=>fin fun w hS=>⟨by rw[if_pos h0];rfl,hS.now.2⟩
 rw[if_neg (not_not_intro h0)];by_cases h4:v.k=4
 ·exact r [0,1] rfl fun _=>fin fun w hS=>⟨by rw[if_pos h4];rfl,hS.now.2⟩
 ·exact r [0,0] rfl fun _=>fin fun w hS=>⟨by rw[if_neg h4];rfl,hS.now.2⟩
inductive Uh(B:Bt)(s:St)(v:Ev):An→List Ev→Prop
 |shut (hr:B.r=3):Uh B s v ⟨12,0,0,0⟩ []
 |none (hr:¬B.r=3) (hs:¬(B.r=1∨B.r=2)):Uh B s v ⟨7,0,0,0⟩ []
 |same (hr:B.r=1∨B.r=2) (s':St) (an:An) (st:Step s v s' an false):Uh B s v an []
 |full (hr:B.r=1∨B.r=2) (s':St) (an:An) (st:Step s v s' an true) (hl:1999≤B.es.length):Uh B s v ⟨14,0,0,0⟩ []
 |done (hr:B.r=1∨B.r=2) (s':St) (an:An) (st:Step s v s' an true) (hl:B.es.length<1999):Uh B s v an [v]
theorem GI(B:Bt)(a:tG)(c:Nat)(s:St)(q:tH)(v:Ev)(w:tF)(hq:wD w s q)(h:s.Ok)(hv:v.Ok)(hvw:∀u∈aX v,(Lit.int .i64 u).wf=true):
  cA 203 #[bQ B.r B.e B.f B.t B.o a B.es.length c,vF q 41,qE v] w fun x w'=>∃an l a' c',x= .returned (.tuple #[Gm an,.slice a' l.length c'])∧Uh B s v an l∧RowK .i64 w' a' (6*l.length) (ak l)∧(a'=none→c'=0)∧(∀x,a'=some x→w.heap.size≤x.block)∧bZ w w':=by
 refine en (H:=[]) _ [vg (bS B.r B.e B.f B.t B.o a B.es.length c),vf 41 q,vg (YY v)] Tryz.func203 rfl rfl (Mem.start (M:=fun _=>False) (G:=fun w=>wD w s q) (R:=fun w'=>bZ w w') (fun _ h=>h.elim) (fun w' c=>hq.next (c.below (Nat.le_refl _) fun _ _ h=>h)) fun _ h=>h) ?_;have nil:∀{w'},RowK .i64 w' none (6*([]:List Ev).length) (ak []):=RowK.nil _ _ _;by_cases h3:B.r=3
 ·exact r [1] rfl fun _=>fin fun w hS=>⟨⟨12,0,0,0⟩,[],none,0,rfl,.shut h3,nil,fun _=>rfl,fun _ h=>(by cases h),hS.now.2⟩
 refine r [0] rfl fun _=> ?_;by_cases hr:B.r=1∨B.r=2
 case neg=>exact Rv.cb rfl (vv (.bool false)) (fun w _=>nh false (mC B.r B.e B.f B.t B.o a B.es.length c w) (decide_eq_false hr)) (r [] rfl fun _=>fin fun w hS=>⟨⟨7,0,0,0⟩,[],none,0,rfl,.none h3 hr,nil,fun _=>rfl,fun _ h=>(by cases h),hS.now.2⟩)
 refine Rv.cb rfl (vv (.bool true)) (fun w _=>nh true (mC B.r B.e B.f B.t B.o a B.es.length c w) (decide_eq_true hr)) (r [] rfl fun _=> ?_);refine cq rfl (fun y:Go.Proofs.YtmhifeahpnkpiaaGreatDoor.St×An×Bool×(Nat→Value)=>vt [.g [.f 41 y.2.2.2],.g (Pw y.2.1),.o (.bool y.2.2.1),.o (iV 0)]) (fun y=>Step s v y.1 y.2.1 y.2.2.1∧a7 y.2.2.2 41) (fun w hS=>(Q4 hS.now.1 h v).mono ?_) ?_
 ·rintro _ w2 ⟨s1,an2,ch2,er2,q1,rfl,hd,hq1,b⟩;obtain⟨rfl,st⟩:=XC hv hd;exact⟨(s1,an2,ch2,q1),rfl,b,st,(hq1 (fun _=>False) (fun _ h=>h.elim)).now.one⟩
 rintro⟨s1,an2,ch2,q1⟩ ⟨st,VE⟩;have st:Step s v s1 an2 ch2:=st;have VE:a7 q1 41:=VE;cases ch2
 ·exact r [] rfl fun _=>fin fun w hS=>⟨an2,[],none,0,rfl,.same hr s1 an2 st,nil,fun _=>rfl,fun _ h=>(by cases h),hS.now.2⟩
 by_cases h9:1999≤B.es.length
 ·exact r [1] rfl fun _=>fin fun w hS=>⟨⟨14,0,0,0⟩,[],none,0,rfl,.full hr s1 an2 st h9,nil,fun _=>rfl,fun _ h=>(by cases h),hS.now.2⟩
 refine r [0,5,3,3] rfl fun _=> ?_
 repeat' first|refine C9 ?_ ?_|refine rs [] rfl rfl fun _=> ?_
 all_goals exact fin fun w hS=>⟨an2,[v],_,_,rfl,.done hr s1 an2 st (by omega),Lc v hvw (hS.at 6 rfl) (fun i hi=>by match i,hi with|0,_=>rfl|1,_=>rfl|2,_=>rfl|3,_=>rfl|4,_=>rfl|5,_=>rfl),fun h=>(by cases h),fun x hx=>(by cases hx;exact hS.iH 6 rfl),hS.now.2⟩
theorem VF{v:Ev}(h:vj v=0):v.Ok∧¬v.k=4:=by
 unfold vj at h;by_cases h0:aQ v.k v.p v.i v.b v.he v.hn=0
 ·rw[if_neg (fun g=>g h0)]at h;by_cases h1:v.k=4
  ·rw[if_pos h1]at h;omega
  ·exact⟨h0,h1⟩
 ·rw[if_pos h0]at h;exact absurd h h0
theorem Y6{B:Bt}{v:Ev}(ok:B.Ok)(h:¬vj v=0):cQ B v Bt.zero An.zero false (vj v):=by
 unfold vj at h⊢;by_cases h0:aQ v.k v.p v.i v.b v.he v.hn=0
 ·rw[if_neg (fun g=>g h0)]at h⊢;by_cases h1:v.k=4
  ·rw[if_pos h1];exact .brk ok h0 h1
  ·rw[if_neg h1]at h;exact absurd rfl h
 ·rw[if_pos h0];exact .fault ok _ rfl h0
theorem Uh.serve{B:Bt}{v:Ev}{s:St}{bw:List An}{an:An}{l:List Ev}(h:Uh B s v an l)(ok:B.Ok)(hv:v.Ok)(hk:¬v.k=4)(ht:bp B.es s bw):cQ B v (B.more l) an (decide (0<l.length)) 0:=by
 cases h with
 |shut hr=>rw[Bt.qJ];exact .shut ok hv hk hr
 |none h3 hr=>
  rw[Bt.qJ];refine .none ok hv hk ?_;have:=ok.cM;unfold Bt.cC bz at this;omega
 |same hr s' an st=>rw[Bt.qJ];exact .same ok hv hk hr s bw ht s' an st
 |full hr s' an st hl=>rw[Bt.qJ];exact .full ok hv hk hr s bw ht s' an st hl
 |done hr s' an st hl=>exact .done ok hv hk hr s bw ht s' an st hl
theorem ND(B:Bt)(a:tG)(c:Nat)(v:Ev)(w:tF)(hb:ja w B a c)(hvw:∀u∈aX v,(Lit.int .i64 u).wf=true):
  cA 163 #[bQ B.r B.e B.f B.t B.o a B.es.length c,qE v] w fun x w'=>∃y an ch er B',x= .returned (.tuple #[y,Gm an,.bool ch,iV er])∧cQ B v B' an ch er∧iz w w' B' y∧bZ w w':=by
 refine en (H:=[]) _ [vg (bS B.r B.e B.f B.t B.o a B.es.length c),vg (YY v)] Tryz.func163 rfl rfl (Gy hb) (r [] rfl fun _=> ?_);refine cx rfl (fun y:Go.Proofs.YtmhifeahpnkpiaaGreatDoor.St×Int×(Nat→Value)=>vt [.g [.f 41 y.2.2],.o (iV y.2.1)]) (fun y=>Rb B y.1 y.2.1∧a7 y.2.2 41) (fun y w=>wD w y.1 y.2.2) (fun w hS=>(vh B a c w hS.now.1).mono ?_) ?_
 ·rintro _ w2 ⟨_,er,s,rfl,hr,ho,b⟩;obtain⟨a1,c1,a2,c2,ws,rfl,g1,g2,g3,g4,g5,g6,g7,g8,g9⟩:=ho.ex;exact⟨(s,er,qF s.ep s.nx s.gv (.slice a1 s.rn c1) (.slice a2 s.ln c2) ws),by rw[rF];rfl,b,⟨hr,(wD.mk (w:=w2) ⟨a1,c1,a2,c2,ws,rfl,g1,g2,g3,g4,g5,g6,g7⟩).one⟩,fun hU w3 c3=>⟨a1,c1,a2,c2,ws,rfl,cD g1 g8 hU w3 c3,cD g2 g9 hU w3 c3,g3,g4,g5,g6,g7⟩⟩
 rintro⟨s,er,q⟩ ⟨hr,oq⟩;have oq:a7 q 41:=oq;cases hr with
 |no hn=>exact r [0,1] rfl fun _=>fin fun w hS=>⟨_,An.zero,false,6,_,rfl,.state hn,iz.zero _ _,hS.now.2⟩
 |yes ok bw ht=>
  refine r [1] rfl fun _=>Rv.cb rfl (vi (vj v)) (fun w _=>JO v w) ?_;by_cases h0:vj v=0
  case neg=>exact r [1] rfl fun _=>fin fun w hS=>⟨_,An.zero,false,_,_,rfl,Y6 ok h0,iz.zero _ _,hS.now.2⟩
  obtain⟨hv,hk⟩:=VF h0;refine r [0] rfl fun _=>cx rfl (fun y:An×List Ev×Option Addr×Nat=>vt [.g (Pw y.1),.o (.slice y.2.2.1 y.2.1.length y.2.2.2)]) (fun y=>Uh B s v y.1 y.2.1∧(y.2.2.1=none→y.2.2.2=0)) (fun y w=>RowK .i64 w y.2.2.1 (6*y.2.1.length) (ak y.2.1)) (fun w hS=>(GI B a c s q v w hS.now.1.2 ht.wf.ok hv hvw).mono fun _ w2 ⟨an,l,a2,c2,h1,h2,h3,h4,h5,b⟩=>⟨(an,l,a2,c2),h1,b,⟨h2,h4⟩,fun hU=>cD h3 h5 hU⟩) ?_;rintro⟨an,l,a2,c2⟩ ⟨hs,n2⟩;have hsr:Uh B s v an l:=hs;clear hs;have n2:a2=none→c2=0:=n2;have Lx:=hsr.serve ok hv hk ht;have hlen:=ok.len;have hl:l=[]∨l=[v]:=by cases hsr<;>first|exact .inl rfl|exact .inr rfl
  have end_:∀{w':tF} {M:tI} {Φ:tM} {H:List En} (y:Option Addr×Nat),xX w y→Mem w' (hs H) M (fun w=>Φ w∧ja w (B.more l) y.1 y.2) (fun w'=>bZ w w')→iz w w' (B.more l) (bY (B.more l) (B.more l).es.length y).val:=fun y hy hS=>⟨y.1,y.2,rfl,hS.now.1.2,hy⟩;have wi:∀w1,bZ w w1→ja w1 B a c→RowK .i64 w1 a2 (6*l.length) (ak l)→cA 186 #[bQ B.r B.e B.f B.t B.o a B.es.length c,.slice a2 l.length c2] w1 fun x w'=>∃y:Option Addr×Nat,x= .returned (bY (B.more l) (B.more l).es.length y).val∧bZ w1 w'∧xX w y∧∀{U:tI},(∀b,U b→b<w1.heap.size)→bU U w' fun w=>ja w (B.more l) y.1 y.2:=fun w1 h0 hb hr=>(Cr B a c l a2 l.length c2 w1 hb rfl hr n2 (by rcases hl with rfl|rfl<;>simp<;>omega)).mono fun _ _ h=>Ls h0 h
  by_cases hp:0<l.length
  case' pos=>rw[decide_eq_true hp]at Lx;refine r [6,2,7,1] rfl fun _=> ?_
  case' neg=>rw[decide_eq_false hp]at Lx;refine r [6,2,7,0] rfl fun _=> ?_
  all_goals
   refine cx rfl (fun y=> .s (bY (B.more l) (B.more l).es.length y)) (xX w) (fun y w=>ja w (B.more l) y.1 y.2) (fun w1 hS=>(wi w1 hS.now.2 hS.now.1.1.1 hS.now.1.2).mono fun _ _ ⟨y,k1,k2,k3,k4⟩=>⟨y,k1,k2,k3,k4⟩) fun y hy=>r [] rfl fun _=> ?_;exact fin fun w hS=>⟨_,an,_,0,_,rfl,Lx,end_ y hy hS,hS.now.2⟩
theorem NF{B B1:Bt}(ok:B.Ok){v:Ev}{an:An}{ch:Bool}{er:Int}(h:cQ B.dx v B1 an ch er)(h0:¬er=0):cQ B v Bt.zero An.zero false er:=by
 cases h with
 |state h=>exact absurd ok.dx h
 |fault _ f hf h0=>exact .fault ok _ hf h0
 |brk _ hv hk=>exact .brk ok hv hk
 |_=>exact absurd rfl h0
theorem NG{B B1:Bt}(ok:B.Ok)(hr:¬(B.r=1∨B.r=2)){v:Ev}{an:An}{ch:Bool}(h:cQ B.dx v B1 an ch 0):cQ B v B an false 0:=by
 generalize he:(0:Int)=er at h;cases h with
 |state h=>cases he
 |fault _ f hf h0=>exact absurd he.symm h0
 |brk _ hv hk=>cases he
 |shut _ hv hk h3=>exact .shut ok hv hk h3
 |none _ hv hk h3=>exact .none ok hv hk h3
 |same _ _ _ h3=>exact absurd h3 hr
 |full _ _ _ h3=>exact absurd h3 hr
 |done _ _ _ h3=>exact absurd h3 hr
theorem Rs{B B1:Bt}{v:Ev}{an:An}{ch:Bool}(h:cQ B v B1 an ch 0):v.Ok∧¬v.k=4:=by
 generalize he:(0:Int)=er at h;cases h with
 |state h=>cases he
 |fault _ f hf h0=>exact absurd he.symm h0
 |brk _ hv hk=>cases he
 |shut _ hv hk=>exact⟨hv,hk⟩
 |none _ hv hk=>exact⟨hv,hk⟩
 |same _ hv hk=>exact⟨hv,hk⟩
 |full _ hv hk=>exact⟨hv,hk⟩
 |done _ hv hk=>exact⟨hv,hk⟩
theorem NH{U:tI}{w:tF}{B:Bt}{a2:tG}{c2:Nat}{v:Ev}{s s1:St}{bw:List An}{an:An}{q1:tH}(ht:bp B.es s bw)(hv:v.Ok)(st:Step s v s1 an true)(h1:bU U w fun w=>wD w s1 q1)(h2:bU U w fun w=>RowK .i64 w a2 (6*(B.es.length+1)) (ak B.es++ak [v]))(kz:B.es.length+1≤c2)(rU:a2=none→c2=0):bU U w fun w=>jW w (B.more [v]) a2 c2 q1:=fun w' c'=>by
 have e:(B.more [v]).es.length=B.es.length+1:=by simp[Bt.more]
 refine⟨⟨?_,by rw[e];exact kz,rU⟩,s1,bw++[an],ht.snoc hv st,h1 w' c'⟩;rw[e];have e2:ak (B.more [v]).es=ak B.es++ak [v]:=by simp[Bt.more,ak]
 rw[e2];exact h2 w' c'
theorem zX(U:tI)(B:Bt)(a:tG)(c:Nat)(q:tH)(v:Ev)(w:tF)(hU:∀b,U b→b<w.heap.size)(hm:bU U w fun w=>jW w B a c q)(ok:B.Ok)(hvw:∀u∈aX v,(Lit.int .i64 u).wf=true):cA 109 #[zU B a c q,qE v] w fun x w'=>∃y an k er B',x= .returned (.tuple #[y,Gm an,.bool k,iV er])∧cQ B v B' an k er∧sU U w' B' y∧bZ w w':=by
 have hq:a7 q 41:=(hm.now).one;obtain⟨s,bw,ht,hm⟩:=jW.split hm;have mi:∀{w},ja w B a c∧wD w s q→jW w B a c q:=fun h=>⟨h.1,s,bw,ht,h.2⟩;refine en (H:=[]) 70 [vg (pU B a c q),vg (YY v)] Tryz.func109 rfl rfl (pP hU hm) (r [] rfl fun α=> ?_);refine cut (X:=Nat×An×Int) (fun x=>[(2,vp 0 0 (α 0)),(3,vp 1 0 (α 1)),(4,vp 2 0 (α 2)),(5,vp 3 0 (α 3)),(9,vp 4 0 x.1),(11,vi x.2.2)]) (fun x=>[⟨α 0,117,pU B a c q⟩,⟨α 1,55,YY v⟩,⟨α 2,117,pU Bt.zero none 0 zQ⟩,⟨α 3,59,Pw An.zero⟩,⟨x.1,59,Pw x.2.1⟩]) (fun _=>U) (fun _ w=>ja w B a c∧wD w s q) (fun _ w'=>bZ w w') (fun x=>∃B1 ch,cQ B.dx v B1 x.2.1 ch x.2.2) ?_ (r [4] rfl fun _=> ?_)
 case refine_2=>
  repeat' first|refine C9 ?_ ?_|refine fk3 ?_ ?_ ?_|(refine cb rfl (vg (bS B.r B.e B.f B.t B.o none 0 0)) ?_ ?_;exact fun w _=>ku _ _ _ _ _ _ _ _ _ w)|(refine cq rfl (fun y:Bt×An×Bool×Int×Option Addr×Nat=>vt [.g (bS y.1.r y.1.e y.1.f y.1.t y.1.o y.2.2.2.2.1 y.1.es.length y.2.2.2.2.2),.g (Pw y.2.1),.o (.bool y.2.2.1),.o (iV y.2.2.2.1)]) (fun y=>cQ B.dx v y.1 y.2.1 y.2.2.1 y.2.2.2.1) ?_ fun y hy=> ?_;exact fun w _=>(ND B.dx none 0 v _ (qK _ _) hvw).mono fun _ _ ⟨_,an,ch,er,B1,h0,h1,ho,b⟩=>by obtain⟨a1,c1,rfl,_,_⟩:=ho.ex;exact⟨(B1,an,ch,er,a1,c1),h0,b,h1⟩)|refine rs [] rfl rfl fun _=> ?_
  all_goals first|exact eJ (_,y.2.1,y.2.2.2.1) ⟨rfl,rfl,rfl,rfl,rfl,rfl,trivial⟩ (fun w hS=>hS.IM [0,1,2,3,4] (by decide)) ⟨_,_,hy⟩ Nat.zero_lt_one|exact eJ (_,y.2.1,y.2.2.2.1) ⟨rfl,rfl,rfl,rfl,rfl,rfl,trivial⟩ (fun w hS=>hS.IM [0,1,2,3,5] (by decide)) ⟨_,_,hy⟩ Nat.zero_lt_one
 rintro f1 ⟨x,an,er⟩ ⟨B1,ch,h1⟩;have h1:cQ B.dx v B1 an ch er:=h1;by_cases h0:er=0
 ·subst h0;have hv:=Rs h1;have hs:=kE B.r B.e B.f B.t B.o a B.es.length c q;refine r [0] rfl fun _=> ?_;by_cases hr:B.r=1∨B.r=2
  ·rw[decide_eq_true hr]at hs;refine cb rfl (vv (.bool true)) (fun w _=>hs w) (r [] rfl fun _=> ?_);refine cx rfl (fun y:St×An×Bool×(Nat→Value)=>vt [.g [.f 41 y.2.2.2],.g (Pw y.2.1),.o (.bool y.2.2.1),.o (iV 0)]) (fun y=>Step s v y.1 y.2.1 y.2.2.1∧a7 y.2.2.2 41) (fun y w=>wD w y.1 y.2.2.2) (fun w hS=>(Q4 hS.now.1.2 ht.wf.ok v).mono ?_) ?_
   ·rintro _ w2 ⟨s1,an2,ch2,er2,q1,rfl,hd,hq1,b⟩;obtain⟨rfl,st⟩:=XC hv.1 hd;exact⟨(s1,an2,ch2,q1),rfl,b,⟨st,(hq1 (fun _=>False) (fun _ h=>h.elim)).now.one⟩,fun hl=>hq1 _ hl⟩
   rintro⟨s1,an2,ch2,q1⟩ ⟨st,VE⟩;have st:Step s v s1 an2 ch2:=st;have VE:a7 q1 41:=VE;cases ch2
   ·exact r [5,2,2] rfl fun _=>fin fun w hS=>⟨_,an2,false,0,B,rfl,.same ok hv.1 hv.2 hr s bw ht s1 an2 st,⟨a,c,q,rfl,fun w2 c2=>mi (hS.DO w2 c2).1⟩,hS.now.2⟩
   ·by_cases h9:1999≤B.es.length
    ·exact r [1] rfl fun _=>fin fun w hS=>⟨_,⟨14,0,0,0⟩,false,0,B,rfl,.full ok hv.1 hv.2 hr s bw ht s1 an2 st h9,⟨a,c,q,rfl,fun w2 c2=>mi (hS.DO w2 c2).1⟩,hS.now.2⟩
    ·refine r [0,8,6] rfl fun _=> ?_
     repeat' first|refine C9 ?_ ?_|(refine cx rfl (fun y:Option Addr×Nat=>vv (.slice y.1 (B.es.length+1) y.2)) (fun y=>B.es.length+1≤y.2∧(y.1=none→y.2=0)) (fun y w=>RowK .i64 w y.1 (6*(B.es.length+1)) (ak B.es++ak [v])) ?_ fun y hy=> ?_;refine fun w hS=>(xA a _ B.es.length c 1 1 (ak B.es) (ak [v]) w hS.now.1.1.1.row (Ny v hvw (hS.at 6 rfl)) hS.now.1.1.1.nil (fun h=>by cases h) (by omega)).mono ?_;rintro _ w2 ⟨_,rfl,ho,b1⟩;obtain⟨a2,c2,rfl,hr2,kz,rU,hf2⟩:=ho.ex;exact⟨(a2,c2),rfl,b1,⟨kz,rU⟩,fun hl=>cD hr2 hf2 hl⟩)|refine rs [] rfl rfl fun _=> ?_
     all_goals exact r [5,2,2] rfl fun _=>fin fun w hS=>⟨_,an2,true,0,B.more [v],rfl,.done ok hv.1 hv.2 hr s bw ht s1 an2 st (by omega),⟨y.1,y.2,q1,by rw[zU,show(B.more [v]).es.length=B.es.length+1 by simp[Bt.more]];rfl,NH ht hv.1 st (fun w2 c2=>(hS.DO w2 c2).1.2) (fun w2 c2=>(hS.DO w2 c2).2) hy.1 hy.2⟩,hS.now.2⟩
  ·rw[decide_eq_false hr]at hs;exact cb rfl (vv (.bool false)) (fun w _=>hs w) (r [5,2,2] rfl fun _=>fin fun w hS=>⟨_,an,false,0,B,rfl,NG ok hr h1,⟨a,c,q,rfl,fun w2 c2=>mi (hS.DO w2 c2)⟩,hS.now.2⟩)
 ·exact r [1] rfl fun _=>fin fun w hS=>⟨_,An.zero,false,er,Bt.zero,rfl,NF ok h1 h0,⟨none,0,zQ,rfl,fun _ _=>jW.dx rfl⟩,hS.now.2⟩
theorem GJ(B:Bt)(a:tG)(c:Nat)(w:tF)(hb:ja w B a c)(ok:B.Ok):cA 176 #[bQ B.r B.e B.f B.t B.o a (min 1 B.es.length) c] w (rB (iV 0) w):=by
 have e:min 1 B.es.length=B.short.es.length:=by simp[Bt.short]
 rw[e];exact gH B.short a c w (wF hb) ok.short
theorem VG{es:List Ev}{s:St}(h:Rv es s 0):∃bw,bp es s bw:=by
 generalize he:(0:Int)=er at h;cases h with
 |size=>cases he
 |form=>cases he
 |told bw _ ht=>exact⟨bw,ht⟩
theorem Rt{w w':tF}{s:St}{x:tN}(h:wC w w' s x):∃q,x=vF q 41∧∀U:Nat→Prop,(∀b,U b→b<w.heap.size)→bU U w' fun w=>wD w s q:=by
 obtain⟨a1,c1,a2,c2,ws',rfl,g1,g2,g3,g4,g5,g6,g7,g8,g9⟩:=h.ex;refine⟨_,rF _ _ _ _ _ _,fun U hU w2 c2'=> ?_⟩;exact⟨a1,c1,a2,c2,ws',rfl,cD g1 g8 hU w2 c2',cD g2 g9 hU w2 c2',g3,g4,g5,g6,g7⟩
theorem VH(U:tI)(B:Bt)(a:tG)(c:Nat)(w:tF)(hU:∀b,U b→b<w.heap.size)(hm:bU U w fun w=>ja w B a c)(ok:B.Ok):cA 139 #[bQ B.r B.e B.f B.t B.o a B.es.length c] w fun x w'=>∃y,x= .returned (.tuple #[y,iV 0])∧sU U w' B y∧bZ w w':=by
 refine en (H:=[]) _ [vg (bS B.r B.e B.f B.t B.o a B.es.length c)] Tryz.func139 rfl rfl (pP hU hm) (r [] rfl fun _=>Rv.cb rfl (vg (bS B.r B.e B.f B.t B.o a (min 1 B.es.length) c)) (fun w hS=>Cu B.r B.e B.f B.t B.o a B.es.length c w hS.now.1.cap) (r [] rfl fun _=>Rv.cb rfl (vi 0) (fun w hS=>GJ B a c w hS.now.1 ok) (r [0] rfl fun _=> ?_)));refine cx rfl (fun y:Go.Proofs.YtmhifeahpnkpiaaGreatDoor.St×(Nat→Value)=>vt [.g [.f 41 y.2],.o (iV 0)]) (fun y=>(∃bw,bp B.es y.1 bw)∧a7 y.2 41) (fun y w=>wD w y.1 y.2) (fun w hS=>(sR B.es a c w hS.now.1.row).mono fun _ w2 ⟨x,er,s,h0,hv,hq,b⟩=> ?_) ?_
 ·obtain rfl:er=0:=(Rv.ok (B:=B) hv ok.cM).2 ok;obtain⟨q,rfl,hq1⟩:=Rt hq;exact⟨(s,q),h0,b,⟨VG hv,(hq1 (fun _=>False) (fun _ h=>h.elim)).now.one⟩,fun hU=>hq1 _ hU⟩
 rintro⟨s,q⟩ ⟨⟨bw,ht⟩,oq⟩;have oq:a7 q 41:=oq;refine r [0,6,1,4] rfl fun _=> ?_
 repeat' first|refine C9 ?_ ?_|(refine cx rfl (fun y:Option Addr×Nat=> .s (bY B B.es.length y)) (fun y=>B.es.length≤y.2∧(y.1=none→y.2=0)) (fun y w=>RowK .i64 w y.1 (6*B.es.length) (ak B.es)) ?_ fun y hy=> ?_;refine fun w hS=>(Ln B.r B.e B.f B.t B.o a B.es.length c (ak B.es) w hS.now.1.1.row hS.now.1.1.nil (by have:=ok.len;omega)).mono ?_;rintro _ w9 ⟨x,rfl,ho,b⟩;obtain⟨a1,c1,rfl,uk,vk,uR,BP⟩:=ho.ex;exact⟨(a1,c1),rfl,b,⟨vk,uR⟩,fun hl=>cD uk BP hl⟩)|refine rs [] rfl rfl fun _=> ?_
 all_goals exact fin fun w hS=>⟨_,rfl,⟨y.1,y.2,q,rfl,fun w2 c2=>⟨⟨(hS.DO w2 c2).2,hy.1,hy.2⟩,s,bw,ht,(hS.DO w2 c2).1.2⟩⟩,hS.now.2⟩
abbrev vl(n e:Int):Value:= .agg #[iV n,iV e]
abbrev Ru(n e:tK):Array Value:= #[iV (n 0),iV (e 0),iV (n 1),iV (e 1),iV (n 2),iV (e 2),iV (n 3),iV (e 3)]
abbrev kX(n e:tK):Value:= .agg (Ru n e)
def Fx(n e:Int):Prop:=(n= -1∧e=0)∨(0≤n∧n≤4∧1≤e∧e≤1048576)
def dQ(n e:tK):Prop:=∀p,p<4→Fx (n p) (e p)
theorem yo{p:tI}(h0:p 0)(h1:p 1)(h2:p 2)(h3:p 3):∀i,i<4→p i
 |0,_=>h0
 |1,_=>h1
 |2,_=>h2
 |3,_=>h3
 |n+4,h=>absurd h (by omega)
theorem wG(n e:tK):∀p:Nat,p<4→∀w:World,(Instr.index 27 (kX n e) (iV p)).run Tryz.prog w= .ok (vl (n p) (e p)) w:=by
 refine yo ?_ ?_ ?_ ?_<;>(intro w;simp[Instr.index,run_underlying Tryz.underlying27,asIntOf,go_sem])
theorem jm(w:tF):cA 66 #[] w (rB (vl (-1) 0) w):=by
 go_enter Tryz.func66,Tryz.ntmps66;go_wp2;exact bodyPost_ret (v:=vl (-1) 0) (by simp[results,Tryz.results66,go_sem]) rfl ⟨rfl,aB _ _⟩
theorem JP(x:Int)(w:tF):cA 129 #[iV x] w fun e w'=>e= .returned (.bool (decide (0≤x∧x≤4)))∧w'=w:=by
 by_cases h1:0≤x
 ·by_cases h2:x≤4
  ·rw[decide_eq_true (show 0≤x∧x≤4 from⟨h1,h2⟩)];have h3:x<5:=by omega
   go_enter Tryz.func129,Tryz.ntmps129;go_wp2;go_ret;exact⟨rfl,rfl⟩
  ·rw[decide_eq_false (show ¬(0≤x∧x≤4) from fun h=>h2 h.2)];have h3:¬x<5:=by omega
   go_enter Tryz.func129,Tryz.ntmps129;go_wp2;go_ret;exact⟨rfl,rfl⟩
 ·rw[decide_eq_false (show ¬(0≤x∧x≤4) from fun h=>h1 h.1)];go_enter Tryz.func129,Tryz.ntmps129;go_wp2;go_ret;exact⟨rfl,rfl⟩
theorem GK(x:Int)(w:tF):cA 128 #[iV x] w fun e w'=>e= .returned (.bool (decide (0≤x∧x≤3)))∧w'=w:=by
 by_cases h1:0≤x
 ·by_cases h2:x≤3
  ·rw[decide_eq_true (show 0≤x∧x≤3 from⟨h1,h2⟩)];have h3:x<4:=by omega
   go_enter Tryz.func128,Tryz.ntmps128;go_wp2;go_ret;exact⟨rfl,rfl⟩
  ·rw[decide_eq_false (show ¬(0≤x∧x≤3) from fun h=>h2 h.2)];have h3:¬x<4:=by omega
   go_enter Tryz.func128,Tryz.ntmps128;go_wp2;go_ret;exact⟨rfl,rfl⟩
 ·rw[decide_eq_false (show ¬(0≤x∧x≤3) from fun h=>h1 h.1)];go_enter Tryz.func128,Tryz.ntmps128;go_wp2;go_ret;exact⟨rfl,rfl⟩
def sW(n e:Int):Bool:=decide (0≤n∧n≤4∧1≤e∧e≤1048576)
abbrev Bj(a b:Int):List Sg:=[.o (iV a),.o (iV b)]
abbrev yp(a b:tK):List Sg:=[.o (iV (a 0)),.o (iV (b 0)),.o (iV (a 1)),.o (iV (b 1)),.o (iV (a 2)),.o (iV (b 2)),.o (iV (a 3)),.o (iV (b 3))]
theorem pj(a b c d:Int)(w:tF):(Op.equalIn 10000 26 (vl a b) (vl c d)).run Tryz.prog w= .ok (decide (a=c∧b=d)) w:=by
 rw[run_equalIn_agg (P:=Tryz.prog) w 9999 26 _ _ Tryz.underlying26 (by kernel_rfl)];by_cases h0:a=c
 case neg=>simp[go_sem,h0]
 by_cases h1:b=d
 case neg=>simp[go_sem,h0,h1]
 simp[go_sem,h0,h1]
theorem Cw{P:tM}{x:Int}{b:Bool}(h:decide (0≤x∧x≤4)=b)(w:tF)(_:P w):cA 129 #[iV x] w (rB (.bool b) w):=(JP x w).mono fun _ _ ⟨h1,e⟩=>⟨by rw[h1,h],by rw[e];exact Below.refl _ _⟩
theorem Ly{P:tM}{x:Int}{b:Bool}(h:decide (0≤x∧x≤3)=b)(w:tF)(_:P w):cA 128 #[iV x] w (rB (.bool b) w):=(GK x w).mono fun _ _ ⟨h1,e⟩=>⟨by rw[h1,h],by rw[e];exact Below.refl _ _⟩
theorem si(n e:Int)(w:tF):cA 175 #[vl n e] w (rB (.bool (sW n e)) w):=by
 refine en (H:=[]) _ [vg (Bj n e)] Tryz.func175 rfl rfl (m0 w) (r [] rfl fun _=> ?_);by_cases h1:0≤n∧n≤4
 case neg=>exact Rv.cb rfl (vv (.bool false)) (Cw (decide_eq_false h1)) (r [] rfl fun _=>fin fun w hS=>⟨by rw[show sW n e=false from decide_eq_false fun h=>h1 ⟨h.1,h.2.1⟩];rfl,hS.now.2⟩)
 refine Rv.cb rfl (vv (.bool true)) (Cw (decide_eq_true h1)) ?_;by_cases h2:1≤e
 case neg=>exact r [0] rfl fun _=>fin fun w hS=>⟨by rw[show sW n e=false from decide_eq_false fun h=>h2 h.2.2.1];rfl,hS.now.2⟩
 by_cases h3:e≤1048576
 case neg=>exact r [1,0] rfl fun _=>fin fun w hS=>⟨by rw[show sW n e=false from decide_eq_false fun h=>h3 h.2.2.2];rfl,hS.now.2⟩
 exact r [1,1] rfl fun _=>fin fun w hS=>⟨by rw[show sW n e=true from decide_eq_true ⟨h1.1,h1.2,h2,h3⟩];rfl,hS.now.2⟩
theorem zY(n e:tK)(w:tF):cA 127 #[kX n e] w fun r w'=>((dQ n e∧r= .returned (iV 0))∨(¬dQ n e∧r= .returned (iV 6)))∧bZ w w':=by
 refine en (H:=[]) _ [vg (yp n e)] Tryz.func127 rfl rfl (m0 w) (r [] rfl fun α=> ?_);refine iC (X:=Nat) ⟨fun k=>[(6,vg (yp n e)),(7,vi (k:Int))],fun _=>[],fun _ _=>False,fun _ _=>True,fun _ w'=>bZ w w',fun k=>k≤4∧∀p,p<k→Fx (n p) (e p),fun k=>4-k⟩ 0 ⟨rfl,rfl,trivial⟩ (fun w hS=>hS.take 0) ⟨Nat.zero_le _,fun p hp=>absurd hp (Nat.not_lt_zero p)⟩ ?_;rintro f k ⟨hk,hp⟩;have hk:k≤4:=hk;by_cases aW:k<4
 case neg=>
  obtain rfl:k=4:=by omega
  exact r [0] rfl fun _=>fin fun w hS=>⟨.inl ⟨hp,rfl⟩,hS.now.2⟩
 refine r [1] rfl fun _=>ix (vg (Bj (n k) (e k))) rfl rfl (wG n e k aW) (r [2] rfl fun γ=>Rv.cb rfl (vg (Bj (-1) 0)) (fun w _=>jm w) ?_);have eq:=pj (n k) (e k) (-1) 0;have next:Fx (n k) (e k)→∀p,p<k+1→Fx (n p) (e p):=fun h p hp'=>by
  rcases Nat.lt_or_ge p k with h1|h1
  ·exact hp p h1
  ·obtain rfl:p=k:=by omega
   exact h
 by_cases h1:n k= -1∧e k=0
 ·rw[decide_eq_true h1]at eq;refine r [] rfl fun _=>eqs rfl eq rfl (rz [1] [((k+1:Nat):Int)] rfl fun _=> ?_);exact eJ (k+1) ⟨rfl,rfl,trivial⟩ (fun w hS=>hS.take 0) ⟨aW,next (.inl h1)⟩ (show 4-(k+1)<4-k by omega)
 rw[decide_eq_false h1]at eq;refine r [] rfl fun _=>eqs rfl eq rfl (r [] rfl fun _=> ?_);cases h2:sW (n k) (e k)
 ·refine Rv.cb rfl (vv (.bool false)) (fun w _=>h2▸si (n k) (e k) w) (r [] rfl fun _=>fin fun w hS=>⟨.inr ⟨fun h=> ?_,rfl⟩,hS.now.2⟩);rcases h k aW with h3|h3
  ·exact h1 h3
  ·exact absurd (decide_eq_true h3) (by rw[show decide _=sW _ _ from rfl,h2];simp)
 ·refine Rv.cb rfl (vv (.bool true)) (fun w _=>h2▸si (n k) (e k) w) (rz [1] [((k+1:Nat):Int)] rfl fun _=> ?_);exact eJ (k+1) ⟨rfl,rfl,trivial⟩ (fun w hS=>hS.take 0) ⟨aW,next (.inr (of_decide_eq_true h2))⟩ (show 4-(k+1)<4-k by omega)
theorem zZ(n e:tK)(w:tF)(h:dQ n e):cA 127 #[kX n e] w (rB (iV 0) w):=by
 refine(zY n e w).mono ?_;rintro r w' ⟨⟨_,hr⟩|⟨h',_⟩,b⟩
 ·exact⟨hr,b⟩
 ·exact absurd h h'
theorem Cx(n e:tK)(w:tF)(h:¬dQ n e):cA 127 #[kX n e] w (rB (iV 6) w):=by
 refine(zY n e w).mono ?_;rintro r w' ⟨⟨h',_⟩|⟨_,hr⟩,b⟩
 ·exact absurd h' h
 ·exact⟨hr,b⟩
section
variable{w w':tF}{R:Nat}{n e:tK}
def gq(f:tK)(k:Nat)(x:Int):Nat→Int:=fun q=>if q=k then x else f q
end
theorem GL{n e:tK}:∀k,k<4→∀i,i<2→Rv.di (yp n e) (0+k*2+i)=Rv.di (Bj (n k) (e k)) i:=by
 refine yo ?_ ?_ ?_ ?_<;>(intro i hi;obtain rfl|rfl:i=0∨i=1:=by omega)<;>rfl
theorem Y7{n e:tK}{a b:Int}:∀k,k<4→∀i,i<8→gj (Rv.di (yp n e)) (0+k*2) 2 (Rv.di (Bj a b)) i=Rv.di (yp (gq n k a) (gq e k b)) i:=by
 refine yo ?_ ?_ ?_ ?_<;>(intro i hi;obtain rfl|rfl|rfl|rfl|rfl|rfl|rfl|rfl:i=0∨i=1∨i=2∨i=3∨i=4∨i=5∨i=6∨i=7:=by omega)<;>rfl
inductive jP(n e:tK)(q:Int):Int→Int→Int→Prop
 |state (h:¬dQ n e):jP n e q 0 0 6
 |range (h:dQ n e) (hq:¬(0≤q∧q≤3)):jP n e q 0 0 2
 |none (h:dQ n e) (k:Nat) (hk:k<4) (hq:q=k) (hn:n k= -1):jP n e q 0 0 7
 |here (h:dQ n e) (k:Nat) (hk:k<4) (hq:q=k) (hn:¬n k= -1):jP n e q (n k) (e k) 0
theorem Cy(n e:tK)(q:Int)(w:tF):cA 91 #[kX n e,iV q] w fun r w'=>∃a b c,r= .returned (.tuple #[vl a b,iV c])∧jP n e q a b c∧bZ w w':=by
 refine en (H:=[]) _ [vg (yp n e),vi q] Tryz.func91 rfl rfl (m0 w) (r [] rfl fun _=> ?_);by_cases ok:dQ n e
 case neg=>exact Rv.cb rfl (vi 6) (fun w _=>Cx n e w ok) (r [1] rfl fun _=>fin fun w hS=>⟨0,0,6,rfl,.state ok,hS.now.2⟩)
 refine Rv.cb rfl (vi 0) (fun w _=>zZ n e w ok) (r [0] rfl fun _=> ?_);by_cases hq:0≤q∧q≤3
 case neg=>exact Rv.cb rfl (vv (.bool false)) (Ly (decide_eq_false hq)) (r [] rfl fun _=>fin fun w hS=>⟨0,0,2,rfl,.range ok hq,hS.now.2⟩)
 refine Rv.cb rfl (vv (.bool true)) (Ly (decide_eq_true hq)) ?_;obtain⟨k,hk,rfl⟩:∃k:Nat,k<4∧q=k:=⟨q.toNat,by omega,by omega⟩;have eq:=pj (n k) (e k) (-1) 0;by_cases hn:n k= -1
 ·rw[decide_eq_true ⟨hn,by rcases ok k hk with h|h<;>omega⟩]at eq
  exact r [2,1] rfl fun _=>lo rfl rfl 0 rfl 2 (Rv.di (Bj (n k) (e k))) (GL k hk) (r [] rfl fun _=>Rv.cb rfl (vg (Bj (-1) 0)) (fun w _=>jm w) (r [] rfl fun _=>eqs rfl eq rfl (r [] rfl fun _=>fin fun w hS=>⟨0,0,7,rfl,.none ok _ hk rfl hn,hS.now.2⟩)))
 ·rw[decide_eq_false fun h=>hn h.1]at eq;exact r [2,1] rfl fun _=>lo rfl rfl 0 rfl 2 (Rv.di (Bj (n k) (e k))) (GL k hk) (r [] rfl fun _=>Rv.cb rfl (vg (Bj (-1) 0)) (fun w _=>jm w) (r [] rfl fun _=>eqs rfl eq rfl (r [1] rfl fun _=>lo rfl rfl 0 rfl 2 (Rv.di (Bj (n k) (e k))) (GL k hk) (r [] rfl fun _=>fin fun w hS=>⟨_,_,0,rfl,.here ok _ hk rfl hn,hS.now.2⟩))))
def bH:Nat→Int:=fun _=>0
theorem GM(n e:tK)(k:Nat)(a b:Int)(w:tF)(hk:k<4):cA 130 #[kX n e,iV k,vl a b] w (rB (kX (gq n k a) (gq e k b)) w):=by
 exact en (H:=[]) _ [vg (yp n e),vi (k:Int),vg (Bj a b)] Tryz.func130 rfl rfl (m0 w) (r [1] rfl fun _=>so (m:=2) (g:=Rv.di (Bj a b)) rfl rfl rfl 0 rfl (di (yp (gq n k a) (gq e k b))) (Y7 k hk) (r [] rfl fun _=>fin fun w hS=>⟨rfl,hS.now.2⟩) (fun i hi=>by obtain rfl|rfl:i=0∨i=1:=(by omega)<;>rfl))
def yM(x y ep node:Int):Int:=if ¬(0≤node∧node≤4)then 2 else if ¬y=ep then 15 else if x=node then 8 else if y=1048576 then 14 else 0
theorem NJ(x y ep node:Int)(w:tF):cA 174 #[vl x y,iV ep,iV node] w (rB (iV (yM x y ep node)) w):=by
 unfold yM;refine en (H:=[]) _ [vg (Bj x y),vi ep,vi node] Tryz.func174 rfl rfl (m0 w) (r [] rfl fun _=> ?_);by_cases h1:0≤node∧node≤4
 case neg=>exact Rv.cb rfl (vv (.bool false)) (Cw (decide_eq_false h1)) (r [] rfl fun _=>fin fun w hS=>⟨by rw[if_pos h1];rfl,hS.now.2⟩)
 rw[if_neg fun h=>h h1];refine Rv.cb rfl (vv (.bool true)) (Cw (decide_eq_true h1)) ?_;by_cases h2:y=ep
 case neg=>exact r [1] rfl fun _=>fin fun w hS=>⟨by rw[if_pos h2];rfl,hS.now.2⟩
 by_cases h3:x=node
 ·exact r [0,1] rfl fun _=>fin fun w hS=>⟨by rw[if_neg fun h=>h h2,if_pos h3];rfl,hS.now.2⟩
 by_cases h4:y=1048576
 ·exact r [0,0,1] rfl fun _=>fin fun w hS=>⟨by rw[if_neg fun h=>h h2,if_neg h3,if_pos h4];rfl,hS.now.2⟩
 ·exact r [0,0,0] rfl fun _=>fin fun w hS=>⟨by rw[if_neg fun h=>h h2,if_neg h3,if_neg h4];rfl,hS.now.2⟩
inductive nW(n e:tK)(q node:Int):(Nat→Int)→(Nat→Int)→Int→Prop
 |state (h:¬dQ n e):nW n e q node bH bH 6
 |range (h:dQ n e) (hq:¬((0≤q∧q≤3)∧(0≤node∧node≤4))):nW n e q node bH bH 2
 |z7 (h:dQ n e) (k:Nat) (hk:k<4) (hq:q=k) (hd:0≤node∧node≤4) (hn:¬n k= -1):nW n e q node bH bH 8
 |made (h:dQ n e) (k:Nat) (hk:k<4) (hq:q=k) (hd:0≤node∧node≤4) (hn:n k= -1):nW n e q node (gq n k node) (gq e k 1) 0
theorem nW.one{n e:tK}{q node:Int}{a b:tK}{c:Int}{a' b':tK}{c':Int}(h:nW n e q node a b c)(h':nW n e q node a' b' c'):a=a'∧b=b'∧c=c':=by
 cases h with
 |state h1=>cases h' with
  |state=>exact⟨rfl,rfl,rfl⟩
  |range h2=>exact absurd h2 h1
  |z7 h2=>exact absurd h2 h1
  |made h2=>exact absurd h2 h1
 |range h1 hq=>cases h' with
  |state h2=>exact absurd h1 h2
  |range h2=>exact⟨rfl,rfl,rfl⟩
  |z7 h2 k hk yI=>omega
  |made h2 k hk yI=>omega
 |z7 h1 k hk hq hd hn=>cases h' with
  |state h2=>exact absurd h1 h2
  |range h2=>omega
  |z7 h2 k hk yI=>exact⟨rfl,rfl,rfl⟩
  |made h2 k' k_ yI hd' tf=>
   obtain rfl:k=k':=by omega
   exact absurd tf hn
 |made h1 k hk hq hd hn=>cases h' with
  |state h2=>exact absurd h1 h2
  |range h2=>omega
  |z7 h2 k' k_ yI hd' tf=>
   obtain rfl:k=k':=by omega
   exact absurd hn tf
  |made h2 k' k_ yI hd' tf=>
   obtain rfl:k=k':=by omega
   exact⟨rfl,rfl,rfl⟩
theorem Rw(n e:tK)(q node:Int)(w:tF):cA 76 #[kX n e,iV q,iV node] w fun r w'=>∃a b c,r= .returned (.tuple #[kX a b,iV c])∧nW n e q node a b c∧bZ w w':=by
 refine en (H:=[]) _ [vg (yp n e),vi q,vi node] Tryz.func76 rfl rfl (m0 w) (r [] rfl fun _=> ?_);by_cases ok:dQ n e
 case neg=>exact Rv.cb rfl (vi 6) (fun w _=>Cx n e w ok) (r [1] rfl fun _=>fin fun w hS=>⟨bH,bH,6,rfl,.state ok,hS.now.2⟩)
 refine Rv.cb rfl (vi 0) (fun w _=>zZ n e w ok) (r [0] rfl fun _=> ?_);by_cases hq:0≤q∧q≤3
 case neg=>exact Rv.cb rfl (vv (.bool false)) (Ly (decide_eq_false hq)) (r [] rfl fun _=>fin fun w hS=>⟨bH,bH,2,rfl,.range ok (fun h=>hq h.1),hS.now.2⟩)
 refine Rv.cb rfl (vv (.bool true)) (Ly (decide_eq_true hq)) (r [] rfl fun _=> ?_);by_cases hd:0≤node∧node≤4
 case neg=>exact Rv.cb rfl (vv (.bool false)) (Cw (decide_eq_false hd)) (r [] rfl fun _=>fin fun w hS=>⟨bH,bH,2,rfl,.range ok (fun h=>hd h.2),hS.now.2⟩)
 refine Rv.cb rfl (vv (.bool true)) (Cw (decide_eq_true hd)) ?_;obtain⟨k,hk,rfl⟩:∃k:Nat,k<4∧q=k:=⟨q.toNat,by omega,by omega⟩;have eq:=pj (n k) (e k) (-1) 0;by_cases hn:n k= -1
 ·rw[decide_eq_true ⟨hn,by rcases ok k hk with h|h<;>omega⟩]at eq
  exact r [2,1] rfl fun _=>lo rfl rfl 0 rfl 2 (Rv.di (Bj (n k) (e k))) (GL k hk) (r [] rfl fun _=>Rv.cb rfl (vg (Bj (-1) 0)) (fun w _=>jm w) (r [] rfl fun _=>eqs rfl eq rfl (r [] rfl fun _=>Rv.cb rfl (vg (yp (gq n _ node) (gq e _ 1))) (fun w _=>GM n e _ node 1 w hk) (r [] rfl fun _=>fin fun w hS=>⟨_,_,0,rfl,.made ok _ hk rfl hd hn,hS.now.2⟩))))
 ·rw[decide_eq_false fun h=>hn h.1]at eq;exact r [2,1] rfl fun _=>lo rfl rfl 0 rfl 2 (Rv.di (Bj (n k) (e k))) (GL k hk) (r [] rfl fun _=>Rv.cb rfl (vg (Bj (-1) 0)) (fun w _=>jm w) (r [] rfl fun _=>eqs rfl eq rfl (r [] rfl fun _=>fin fun w hS=>⟨bH,bH,8,rfl,.z7 ok _ hk rfl hd hn,hS.now.2⟩)))
def fS(k:Nat):Nat→Int:=fun p=>if p<k then-1 else 0
def nwF(k:Nat):Nat→Value:=fun i=>iV (if i % 2=0 then fS k (i/2)else 0)
theorem Y9:∀k,k<4→∀i,i<8→gj (Rv.di [.f 8 (nwF k)]) (0+k*2) 2 (Rv.di (Bj (-1) 0)) i=nwF (k+1) i:=by
 refine yo ?_ ?_ ?_ ?_<;>(intro i hi;obtain rfl|rfl|rfl|rfl|rfl|rfl|rfl|rfl:i=0∨i=1∨i=2∨i=3∨i=4∨i=5∨i=6∨i=7:=by omega)<;>rfl
theorem LA(w:tF):cA 40 #[] w (rB (kX (fS 4) bH) w):=by
 refine en (H:=[]) _ [] Tryz.func40 rfl rfl (m0 w) (r [] rfl fun α=>gn 1 (nwF 0) ?_);refine iC (X:=Nat) ⟨fun k=>[(0,vp 0 0 (α 0)),(1,vp 1 0 (α 1)),(3,vi (k:Int))],fun k=>[⟨α 0,29,yp bH bH⟩,⟨α 1,27,[.f 8 (nwF k)]⟩],fun _ _=>False,fun _ _=>True,fun _ w'=>bZ w w',fun k=>k≤4,fun k=>4-k⟩ 0 ⟨rfl,rfl,rfl,trivial⟩ (fun w hS=>hS) (Nat.zero_le _) ?_;rintro f k hk;have hk:k≤4:=hk;by_cases aW:k<4
 case neg=>
  obtain rfl:k=4:=by omega
  exact r [0] rfl fun _=>fin fun w hS=>⟨rfl,hS.now.2⟩
 refine r [1] rfl fun _=>Rv.cb rfl (vg (Bj (-1) 0)) (fun w _=>jm w) (r [1] rfl fun _=>so (m:=2) (g:=di (Bj (-1) 0)) rfl rfl rfl 1 rfl (nwF (k+1)) (Y9 k aW) (rz [1] [((k+1:Nat):Int)] rfl fun _=> ?_) (fun i hi=>by obtain rfl|rfl:i=0∨i=1:=(by omega)<;>rfl))
 exact eJ (k+1) ⟨rfl,rfl,rfl,trivial⟩ (fun w hS=>hS) aW (show 4-(k+1)<4-k by omega)
inductive vm(n e:tK)(q ep node:Int):(Nat→Int)→(Nat→Int)→Int→Prop
 |off (a b c:Int) (h:jP n e q a b c) (hc:¬c=0):vm n e q ep node bH bH c
 |no (a b:Int) (h:jP n e q a b 0) (hc:¬yM a b ep node=0):vm n e q ep node bH bH (yM a b ep node)
 |flip (h:dQ n e) (k:Nat) (hk:k<4) (hq:q=k) (hn:¬n k= -1) (hc:yM (n k) (e k) ep node=0):vm n e q ep node (gq n k node) (gq e k (e k+1)) 0
theorem jP.at{n e:tK}{q a b:Int}(h:jP n e q a b 0):dQ n e∧∃k:Nat,k<4∧q=k∧¬n k= -1∧a=n k∧b=e k:=by
 obtain⟨c,hc⟩:∃c:Int,c=0:=⟨0,rfl⟩;rw[←hc]at h;cases h with
 |state h=>omega
 |range h=>omega
 |none h=>omega
 |here h k hk hq hn=>exact⟨h,k,hk,hq,hn,rfl,rfl⟩
theorem Rx(n e:tK)(q ep node:Int)(w:tF):cA 126 #[kX n e,iV q,iV ep,iV node] w fun r w'=>∃a b c,r= .returned (.tuple #[kX a b,iV c])∧vm n e q ep node a b c∧bZ w w':=by
 refine en (H:=[]) _ [vg (yp n e),vi q,vi ep,vi node] Tryz.func126 rfl rfl (m0 w) (r [] rfl fun _=> ?_);refine cq rfl (fun y:Int×Int×Int=>vt [.g (Bj y.1 y.2.1),.o (iV y.2.2)]) (fun y=>jP n e q y.1 y.2.1 y.2.2) (fun w _=>(Cy n e q w).mono fun _ _ ⟨a,b,c,h1,h2,h3⟩=>⟨(a,b,c),h1,h3,h2⟩) ?_;rintro⟨a,b,c⟩ hw;have hw:jP n e q a b c:=hw;by_cases hc:c=0
 case neg=>exact r [1] rfl fun _=>fin fun w hS=>⟨bH,bH,c,rfl,.off a b c hw hc,hS.now.2⟩
 subst hc;refine r [0] rfl fun _=>Rv.cb rfl (vi (yM a b ep node)) (fun w _=>NJ a b ep node w) ?_;by_cases hg:yM a b ep node=0
 case neg=>exact r [1] rfl fun _=>fin fun w hS=>⟨bH,bH,_,rfl,.no a b hw hg,hS.now.2⟩
 obtain⟨ok,k,hk,rfl,hn,rfl,rfl⟩:=hw.at;have hb:0≤e k∧e k≤1048576:=by rcases ok k hk with h|h<;>omega
 exact rz [0,1] [e k+1] rfl fun _=>Rv.cb rfl (vg (yp (gq n k node) (gq e k (e k+1)))) (fun w _=>GM n e k node (e k+1) w hk) (r [] rfl fun _=>fin fun w hS=>⟨_,_,0,rfl,.flip ok k hk rfl hn hg,hS.now.2⟩)
end
theorem Ue(x m:Int):x<0∨(¬x≤m∧0≤x)∨(0≤x∧x≤m):=by omega
def aE(k q ep pe ek p i b he hn:Int):Int:=
 if ¬(1≤k∧k≤7)then 3
 else if ¬(0≤q∧q≤3∧0≤ep∧ep≤1048576∧0≤pe∧pe≤4)then 2
 else if k=2∨k=5 then aQ ek p i b he hn else gM ek p i b he hn
theorem GN(k q ep pe:Int):(k<1∧¬1≤k)∨(¬k≤7∧1≤k)∨((1≤k∧k≤7)∧(q<0∨(¬q≤3∧0≤q)∨(0≤q∧q≤3)∧(ep<0∨(¬ep≤1048576∧0≤ep)∨(0≤ep∧ep≤1048576)∧
  (pe<0∨(¬pe≤4∧0≤pe)∨(0≤pe∧pe≤4)∧(k=2∨k=5∨(k==2)=false∧(k==5)=false))))):=by
 by_cases h:k<1
 ·exact .inl ⟨h,by omega⟩
 by_cases h':¬k≤7
 ·exact .inr (.inl ⟨h',by omega⟩)
 refine .inr (.inr ⟨by omega, ?_⟩);rcases Ue q 3 with h|h|h
 ·exact .inl h
 ·exact .inr (.inl h)
 refine .inr (.inr ⟨h, ?_⟩);rcases Ue ep 1048576 with h|h|h
 ·exact .inl h
 ·exact .inr (.inl h)
 refine .inr (.inr ⟨h, ?_⟩);rcases Ue pe 4 with h|h|h
 ·exact .inl h
 ·exact .inr (.inl h)
 refine .inr (.inr ⟨h, ?_⟩);by_cases h2:k=2
 ·exact .inl h2
 by_cases h5:k=5
 ·exact .inr (.inl h5)
 exact .inr (.inr ⟨by simpa using h2,by simpa using h5⟩)
theorem j8(k q ep pe ek p i b he hn:Int)(w:tF):
  cA 191 #[.agg #[iV k,iV q,iV ep,iV pe,iV ek,iV p,iV i,iV b,iV he,iV hn]] w fun e w'=>
   e= .returned (iV (aE k q ep pe ek p i b he hn))∧bZ w w':=by
 obtain⟨v,hv⟩:∃v,aE k q ep pe ek p i b he hn=v:=⟨_,rfl⟩;rw[hv];have HV:Hid (aE k q ep pe ek p i b he hn=v):=hv;clear hv;rcases GN k q ep pe with⟨h1,h2⟩|⟨h1,h2⟩|⟨⟨h1,h2⟩,h3|⟨h3,h4⟩|⟨⟨h3,h4⟩,h5|⟨h5,h6⟩|⟨⟨h5,h6⟩,h7|⟨h7,h8⟩|⟨⟨h7,h8⟩,rfl|rfl|⟨h9,xS⟩⟩⟩⟩⟩
 all_goals
  go_enter Tryz.func191,Tryz.ntmps191
  go_wp2_with (first|(go_at_call 102;refine(xx _ _ _ _ _ _ _).mono ?_;rintro e w1 ⟨rfl,hb⟩)|(go_at_call 59;refine(nT _ _ _ _ _ _ _).mono ?_;rintro e w1 ⟨rfl,hb⟩)|(go_at_call 101;go_in)|(go_at_call 209;go_in))
  go_ret;refine⟨Eb ?_, ?_⟩
  ·have h:=HV.out;subst h;clear HV;unfold aE
   repeat' split
   all_goals first|rfl|omega|(simp at h9 xS;omega)
  ·first|exact aB _ _|exact oR hb
theorem bD{p:Prop}(h:p):Hid p:=h
theorem ae{p:Prop}(h:Hid p):p:=h
theorem Tryz.XG:(Tryz.prog.info? 3).map (fun i=>(i.zero,i.size,i.bytes))=some (some (iV 0),1,8):=by kernel_rfl
abbrev d_(b:Nat):Array Value:= #[.pointer (some ⟨b,0,none⟩),.pointer (some ⟨b,1,none⟩),.pointer (some ⟨b,2,none⟩),.pointer (some ⟨b,3,none⟩),.pointer (some ⟨b,4,none⟩),.pointer (some ⟨b,5,none⟩),.pointer (some ⟨b,6,none⟩),.pointer (some ⟨b,7,none⟩),.pointer (some ⟨b,8,none⟩),.pointer (some ⟨b,9,none⟩)]
theorem jn(b:Nat)(w:tF):
  cA 208 #[.pointer (some ⟨b,0,none⟩)] w (rB (.agg (d_ b)) w):=by
 go_enter Tryz.func208,Tryz.ntmps208;go_wp2
 go_region
 all_goals
  go_wp2;exact bodyPost_ret (v:= .agg (d_ b)) (by simp[results,Tryz.results208,go_sem]) rfl ⟨rfl,(aB _ _).drew⟩
theorem j9{k q ep pe ek p i b he hn:Int}(h:aE k q ep pe ek p i b he hn=0):∀n∈[k,q,ep,pe,ek,p,i,b,he,hn],0≤n∧n≤2147483647:=by
 unfold aE at h;split at h
 ·omega
 split at h
 ·omega
 have hE:(0≤ek∧ek≤4)∧(0≤p∧p≤3)∧(0≤i∧i≤1073741824)∧(0≤b∧b≤1000000)∧(0≤he∧he≤1048576)∧(0≤hn∧hn≤1073741824):=by
  split at h
  ·unfold aQ at h
   repeat' split at h
   all_goals omega
  ·unfold gM at h;split at h<;>omega
 intro n tf;simp only[List.mem_cons,List.not_mem_nil,or_false]at tf;rcases tf with rfl|rfl|rfl|rfl|rfl|rfl|rfl|rfl|rfl|rfl<;>omega
theorem aac(k q ep pe ek p i b he hn:Int)(w:tF)(h:¬aE k q ep pe ek p i b he hn=0):
  cA 179 #[.agg #[iV k,iV q,iV ep,iV pe,iV ek,iV p,iV i,iV b,iV he,iV hn]] w fun e w'=>
   e= .returned (.tuple #[.slice none 0 0,iV (aE k q ep pe ek p i b he hn)])∧bZ w w':=by
 go_enter Tryz.func179,Tryz.ntmps179
 go_wp2_with fail
 refine(j8 _ _ _ _ _ _ _ _ _ _ _).mono ?_;rintro e w1 ⟨rfl,b1⟩;have fJ:(aE k q ep pe ek p i b he hn !=0)=true:=by simpa using h
 clear h;go_wp2;go_ret2;exact⟨rfl,oR b1⟩
theorem vn(k:Int)(w:tF)(h:k=2∨k=5):cA 209 #[iV k] w fun e w'=>e= .returned (.bool true)∧w=w':=by
 rcases h with rfl|rfl
 all_goals
  go_enter Tryz.func209,Tryz.ntmps209;go_wp2;go_ret;exact⟨rfl,rfl⟩
theorem xG(k:Int)(w:tF)(h:¬(k=2∨k=5)):cA 209 #[iV k] w fun e w'=>e= .returned (.bool false)∧w=w':=by
 have h2:(k==2)=false:=by simp;omega
 have h5:(k==5)=false:=by simp;omega
 clear h;go_enter Tryz.func209,Tryz.ntmps209;go_wp2;go_ret;exact⟨rfl,rfl⟩
theorem Cz(l:tJ)(j:Nat)(h:j<l.length):l.take (j+1)=l.take j++[l.getD j 0]:=by
 rw[List.take_succ_eq_append_getElem h];simp[h]
theorem wH(w:tF)(b o:Nat)(ho:o<10):(w.alloc (.cells (d_ b) 294)).cell? ⟨w.heap.size,o,none⟩=some (.pointer (some ⟨b,o,none⟩)):=by
 match o,ho with
 |0,_|1,_|2,_|3,_|4,_|5,_|6,_|7,_|8,_|9,_=>simp[d_]
theorem CA(w:tF)(l:tJ)(t o:Nat)(ho:o<l.length):(w.alloc (.cells (l.map (Value.int .i64)).toArray t)).cell? ⟨w.heap.size,o,none⟩=some (iV (l.getD o 0)):=by
 simp[ho]
theorem LB{w:tF}{base e n:Nat}{v:tN}{l:tJ}(h:w.ownsRow base e 1 v n (l.map (Value.int .i64)))(h0:0<n):
  ∃g cap,v= .slice (some ⟨g,0,none⟩) n cap∧base≤g∧g<w.heap.size∧∀k,k<n→w.cell? ⟨g,0+k,none⟩=some (iV (l.getD k 0)):=by
 have hl:l.length=n:=by have:=h.1;simpa using this
 rcases h.2 with⟨_,rfl⟩|⟨g,cap,cur,rfl,hb,hg,hc,hm,_⟩
 ·omega
 ·refine⟨g,cap,rfl,hb,(h.lt g rfl).2,fun k hk=> ?_⟩;rw[Nat.zero_add,h.cellAt k (by omega),List.getElem?_map,List.getElem?_eq_getElem (by omega)];simp[List.getElem?_eq_getElem (show k<l.length by omega)]
theorem JQ(k q ep pe ek p i b he hn:Int)(w:tF)(h:aE k q ep pe ek p i b he hn=0)(hk:k=2∨k=5):
  cA 179 #[.agg #[iV k,iV q,iV ep,iV pe,iV ek,iV p,iV i,iV b,iV he,iV hn]] w fun e w'=>
   ∃g,e= .returned (.tuple #[.slice (some ⟨g,0,none⟩) 40 40,iV 0])∧w.heap.size≤g∧RowK .u8 w' (some ⟨g,0,none⟩) 40 (eF [k,q,ep,pe,ek,p,i,b,he,hn])∧bZ w w':=by
 have HR:Hid (∀n∈[k,q,ep,pe,ek,p,i,b,he,hn],0≤n∧n≤2147483647):=j9 h;have HF:Hid (aE k q ep pe ek p i b he hn=0):=h;have HK:Hid (k=2∨k=5):=hk;clear h hk;obtain⟨i0,hi,Cg,xV,wj⟩:=info_parts Tryz.XG;go_enter Tryz.func179,Tryz.ntmps179
 go_wp2_with fail
 refine(j8 _ _ _ _ _ _ _ _ _ _ _).mono ?_;rintro e w1 ⟨rfl,b1⟩;rw[HF.out];have vk:∀o,w1.cell? ⟨w.heap.size,o,none⟩=_:=fun o=>b1.cell (p:=⟨w.heap.size,o,none⟩) (by simp);have hz:w.heap.size<w1.heap.size:=by have:=b1.size;simp at this;omega
 go_wp2_with fail
 refine(jn _ _).mono ?_;rintro e w2 ⟨rfl,b2⟩;have kz:∀o,w2.cell? ⟨w.heap.size,o,none⟩=_:=fun o=>(b2.cell (p:=⟨w.heap.size,o,none⟩) (by simpa using hz)).trans (vk o);have hz3:w.heap.size<w2.heap.size:=by have:=b2.size;omega
 go_wp2_with (go_at_call 209;refine(vn _ _ HK.out).mono ?_;rintro e w3 ⟨rfl,rfl⟩)
 have hP:∀o,o<10→(w2.alloc (.cells (d_ w.heap.size) 294)).cell? ⟨w2.heap.size,o,none⟩=some (.pointer (some ⟨w.heap.size,o,none⟩)):=fun o ho=>wH w2 _ o ho;have hQ:∀o,o<10→(w2.alloc (.cells (d_ w.heap.size) 294)).cell? ⟨w.heap.size,o,none⟩=some (iV ([k,q,ep,pe,ek,p,i,b,he,hn].getD o 0)):=fun o ho=>by
  rw[(aB w2 _).cell (p:=⟨w.heap.size,o,none⟩) hz3,kz o];exact CA w [k,q,ep,pe,ek,p,i,b,he,hn] _ o ho
 have BB:Below w.heap.size w (w2.alloc (.cells (d_ w.heap.size) 294)):=Below.next (Below.next (oR b1) b2) (aB w2 _);clear vk kz b1 b2;have HP:=bD hP;have HQ:=bD hQ;have HB:=bD BB;clear hP hQ BB
 go_loopw [7,22] (fun v t wr=>∃j:Nat,j≤10∧t=iV j∧wr.ownsRow (w2.heap.size+1) 3 1 v j (([k,q,ep,pe,ek,p,i,b,he,hn].take j).map (Value.int .i64))∧Below (w2.heap.size+1) (w2.alloc (.cells (d_ w.heap.size) 294)) wr)
  (fun _ t _=>10-(intOf t).toNat)
 case atStart=>exact⟨0,Nat.zero_le _,rfl,World.ownsRow_nil _ _ _ _,Below.refl _ _⟩
 case round=>
  obtain⟨j,hj,rfl,bN,gS⟩:=hrel;by_cases aW:j<10
  ·have kp:wr.cell? ⟨w2.heap.size,j,none⟩=some (.pointer (some ⟨w.heap.size,j,none⟩)):=(gS.cell (by simp)).trans (ae HP j (by omega));have kq:wr.cell? ⟨w.heap.size,j,none⟩=some (iV ([k,q,ep,pe,ek,p,i,b,he,hn].getD j 0)):=(gS.cell (by simp;omega)).trans (ae HQ j (by omega));obtain⟨x,hx⟩:∃x,[k,q,ep,pe,ek,p,i,b,he,hn].getD j 0=x:=⟨_,rfl⟩;rw[hx]at kq;have HX:=bD hx;clear hx;have lq:w2.heap.size+1≤wr.heap.size:=by have:=gS.size;simpa using this
   go_wp2_with (at_builtin;refine wpList_append_own _ rfl _ _ 71 rfl (w2.heap.size+1) 3 i0 (iV 0) 1 8 Tryz.underlying71 hi Cg xV wj rfl (by decide) _ _ _ rfl (bN.alloc _) ⟨wr.heap.size,0,none⟩ 1 1 [iV x] rfl rfl (cell_one_new _ _ _) (ints_oneCell .i64 [x]) (by unfold maxLen;omega) (by omega) (by simp;omega) ?_;intro v' w4 hown4 hgrow4 _)
   have R1:Hid (w4.ownsRow (w2.heap.size+1) 3 1 v' (j+1) (([k,q,ep,pe,ek,p,i,b,he,hn].take (j+1)).map (Value.int .i64))):=by
    have ht:[k,q,ep,pe,ek,p,i,b,he,hn].take (j+1)=[k,q,ep,pe,ek,p,i,b,he,hn].take j++[x]:=by
     rw[←ae HX];exact Cz [k,q,ep,pe,ek,p,i,b,he,hn] j (by simp;omega)
    rw[ht,List.map_append];exact hown4
   have R2:Below (w2.heap.size+1) (w2.alloc (.cells (d_ w.heap.size) 294)) w4:=(gS.alloc lq _).grown hgrow4 (by simp;omega) (by intro t ht;exact(bN.lt t ht).1);clear hown4 hgrow4 bN kp kq;go_wp2
   go_roundw
   case rel=>exact⟨j+1,by omega,by go_num,R1.out,R2⟩
   case measure=>simp[intOf];omega
  ·have Q7:j=10:=by omega
   subst Q7;obtain⟨g,cap,hv,Uc,DN,hg3⟩:=LB bN (by omega);subst hv;clear bN
   go_wp2_with fail
   refine(K1 g 0 cap [k,q,ep,pe,ek,p,i,b,he,hn] _ DN (by simp) ?_ hg3).mono ?_
   ·intro n tf;exact HR.out n (by simp at tf⊢;exact tf)
   rintro e w5 ⟨rfl,hr5,Pu⟩;go_wp2;go_ret2;refine⟨_,rfl, ?_,hr5, ?_⟩
   ·have:=gS.size;simp at this;omega
   ·exact Below.next (Below.next (ae HB) (gS.mono (by simp))) Pu
theorem GO(k q ep pe ek p i b he hn:Int)(w:tF)(h:aE k q ep pe ek p i b he hn=0)(hk:¬(k=2∨k=5)):
  cA 179 #[.agg #[iV k,iV q,iV ep,iV pe,iV ek,iV p,iV i,iV b,iV he,iV hn]] w fun e w'=>
   ∃g,e= .returned (.tuple #[.slice (some ⟨g,0,none⟩) 16 16,iV 0])∧w.heap.size≤g∧RowK .u8 w' (some ⟨g,0,none⟩) 16 (eF [k,q,ep,pe])∧bZ w w':=by
 have HR:Hid (∀n∈[k,q,ep,pe,ek,p,i,b,he,hn],0≤n∧n≤2147483647):=j9 h;have HF:Hid (aE k q ep pe ek p i b he hn=0):=h;have HK:Hid (¬(k=2∨k=5)):=hk;clear h hk;obtain⟨i0,hi,Cg,xV,wj⟩:=info_parts Tryz.XG;go_enter Tryz.func179,Tryz.ntmps179
 go_wp2_with fail
 refine(j8 _ _ _ _ _ _ _ _ _ _ _).mono ?_;rintro e w1 ⟨rfl,b1⟩;rw[HF.out];have vk:∀o,w1.cell? ⟨w.heap.size,o,none⟩=_:=fun o=>b1.cell (p:=⟨w.heap.size,o,none⟩) (by simp);have hz:w.heap.size<w1.heap.size:=by have:=b1.size;simp at this;omega
 go_wp2_with fail
 refine(jn _ _).mono ?_;rintro e w2 ⟨rfl,b2⟩;have kz:∀o,w2.cell? ⟨w.heap.size,o,none⟩=_:=fun o=>(b2.cell (p:=⟨w.heap.size,o,none⟩) (by simpa using hz)).trans (vk o);have hz3:w.heap.size<w2.heap.size:=by have:=b2.size;omega
 go_wp2_with (go_at_call 209;refine(xG _ _ HK.out).mono ?_;rintro e w3 ⟨rfl,rfl⟩)
 have hP:∀o,o<10→(w2.alloc (.cells (d_ w.heap.size) 294)).cell? ⟨w2.heap.size,o,none⟩=some (.pointer (some ⟨w.heap.size,o,none⟩)):=fun o ho=>wH w2 _ o ho;have hQ:∀o,o<10→(w2.alloc (.cells (d_ w.heap.size) 294)).cell? ⟨w.heap.size,o,none⟩=some (iV ([k,q,ep,pe,ek,p,i,b,he,hn].getD o 0)):=fun o ho=>by
  rw[(aB w2 _).cell (p:=⟨w.heap.size,o,none⟩) hz3,kz o];exact CA w [k,q,ep,pe,ek,p,i,b,he,hn] _ o ho
 have BB:Below w.heap.size w (w2.alloc (.cells (d_ w.heap.size) 294)):=Below.next (Below.next (oR b1) b2) (aB w2 _);clear vk kz b1 b2;have HP:=bD hP;have HQ:=bD hQ;have HB:=bD BB;clear hP hQ BB
 go_loopw [7,22] (fun v t wr=>∃j:Nat,j≤4∧t=iV j∧wr.ownsRow (w2.heap.size+1) 3 1 v j (([k,q,ep,pe,ek,p,i,b,he,hn].take j).map (Value.int .i64))∧Below (w2.heap.size+1) (w2.alloc (.cells (d_ w.heap.size) 294)) wr)
  (fun _ t _=>4-(intOf t).toNat)
 case atStart=>exact⟨0,Nat.zero_le _,rfl,World.ownsRow_nil _ _ _ _,Below.refl _ _⟩
 case round=>
  obtain⟨j,hj,rfl,bN,gS⟩:=hrel;by_cases aW:j<4
  ·have kp:wr.cell? ⟨w2.heap.size,j,none⟩=some (.pointer (some ⟨w.heap.size,j,none⟩)):=(gS.cell (by simp)).trans (ae HP j (by omega));have kq:wr.cell? ⟨w.heap.size,j,none⟩=some (iV ([k,q,ep,pe,ek,p,i,b,he,hn].getD j 0)):=(gS.cell (by simp;omega)).trans (ae HQ j (by omega));obtain⟨x,hx⟩:∃x,[k,q,ep,pe,ek,p,i,b,he,hn].getD j 0=x:=⟨_,rfl⟩;rw[hx]at kq;have HX:=bD hx;clear hx;have lq:w2.heap.size+1≤wr.heap.size:=by have:=gS.size;simpa using this
   go_wp2_with (at_builtin;refine wpList_append_own _ rfl _ _ 71 rfl (w2.heap.size+1) 3 i0 (iV 0) 1 8 Tryz.underlying71 hi Cg xV wj rfl (by decide) _ _ _ rfl (bN.alloc _) ⟨wr.heap.size,0,none⟩ 1 1 [iV x] rfl rfl (cell_one_new _ _ _) (ints_oneCell .i64 [x]) (by unfold maxLen;omega) (by omega) (by simp;omega) ?_;intro v' w4 hown4 hgrow4 _)
   have R1:Hid (w4.ownsRow (w2.heap.size+1) 3 1 v' (j+1) (([k,q,ep,pe,ek,p,i,b,he,hn].take (j+1)).map (Value.int .i64))):=by
    have ht:[k,q,ep,pe,ek,p,i,b,he,hn].take (j+1)=[k,q,ep,pe,ek,p,i,b,he,hn].take j++[x]:=by
     rw[←ae HX];exact Cz [k,q,ep,pe,ek,p,i,b,he,hn] j (by simp;omega)
    rw[ht,List.map_append];exact hown4
   have R2:Below (w2.heap.size+1) (w2.alloc (.cells (d_ w.heap.size) 294)) w4:=(gS.alloc lq _).grown hgrow4 (by simp;omega) (by intro t ht;exact(bN.lt t ht).1);clear hown4 hgrow4 bN kp kq;go_wp2
   go_roundw
   case rel=>exact⟨j+1,by omega,by go_num,R1.out,R2⟩
   case measure=>simp[intOf];omega
  ·have Q7:j=4:=by omega
   subst Q7;obtain⟨g,cap,hv,Uc,DN,hg3⟩:=LB bN (by omega);subst hv;clear bN
   go_wp2_with fail
   refine(K1 g 0 cap [k,q,ep,pe] _ DN (by simp) ?_ hg3).mono ?_
   ·intro n tf;exact HR.out n (by simp at tf⊢;rcases tf with h|h|h|h<;>simp[h])
   rintro e w5 ⟨rfl,hr5,Pu⟩;go_wp2;go_ret2;refine⟨_,rfl, ?_,hr5, ?_⟩
   ·have:=gS.size;simp at this;omega
   ·exact Below.next (Below.next (ae HB) (gS.mono (by simp))) Pu
theorem ma(n:Int)(ahA:0≤n)(ahB:n<2^62):IntKind.i64.wrap n=n:=by rw[IntKind.wrap_i64];omega
theorem aeg(c0 c1:Int)(r0:0≤c0)(s0:c0≤255)(r1:0≤c1)(s1:c1≤255):bits .or .i64 (c0*16777216) (c1*65536)=c0*16777216+c1*65536:=
 bits_join .i64 62 (by decide) ma 24 _ _ (by omega) (by omega) (by omega) (by omega) (by omega) (by omega)
theorem aeh(c0 c1 c2:Int)(r0:0≤c0)(s0:c0≤255)(r1:0≤c1)(s1:c1≤255)(r2:0≤c2)(s2:c2≤255):bits .or .i64 (c0*16777216+c1*65536) (c2*256)=c0*16777216+c1*65536+c2*256:=
 bits_join .i64 62 (by decide) ma 16 _ _ (by omega) (by omega) (by omega) (by omega) (by omega) (by omega)
theorem or8(c0 c1 c2 c3:Int)(r0:0≤c0)(s0:c0≤255)(r1:0≤c1)(s1:c1≤255)(r2:0≤c2)(s2:c2≤255)(r3:0≤c3)(s3:c3≤255):bits .or .i64 (c0*16777216+c1*65536+c2*256) c3=c0*16777216+c1*65536+c2*256+c3:=
 bits_join .i64 62 (by decide) ma 8 _ _ (by omega) (by omega) (by omega) (by omega) (by omega) (by omega)
def ia(l:tJ):Int×Int:=
 if l.length<4 then(0,4)
 else if 127<l.getD 0 0 then(0,2)
 else(16777216*l.getD 0 0+65536*l.getD 1 0+256*l.getD 2 0+l.getD 3 0,0)
theorem JR(b off len cap:Nat)(c0 c1 c2 c3:Int)(w:tF)(hl:4≤len)
  (k0:w.cell? ⟨b,off,none⟩=some (.int .u8 c0)) (k1:w.cell? ⟨b,off+1,none⟩=some (.int .u8 c1)) (k2:w.cell? ⟨b,off+2,none⟩=some (.int .u8 c2)) (k3:w.cell? ⟨b,off+3,none⟩=some (.int .u8 c3))
  (r0:0≤c0) (s0:c0≤255) (r1:0≤c1) (s1:c1≤255) (r2:0≤c2) (s2:c2≤255) (r3:0≤c3) (s3:c3≤255):
  cA 237 #[.slice (some ⟨b,off,none⟩) len cap] w fun e w'=>
   e= .returned (if 127<c0 then .tuple #[iV 0,iV 2]else .tuple #[iV (16777216*c0+65536*c1+256*c2+c3),iV 0])∧∃n,w'=w.drewN n:=by
 have J1:=aeg c0 c1 r0 s0 r1 s1;have J2:=aeh c0 c1 c2 r0 s0 r1 s1 r2 s2;have J3:=or8 c0 c1 c2 c3 r0 s0 r1 s1 r2 s2 r3 s3;by_cases hc:127<c0
 ·rw[if_pos hc];go_enter Tryz.func237,Tryz.ntmps237;go_wp2
  go_quiet (fail)
  go_wp2;go_ret2;exact⟨rfl,_,rfl⟩
 ·rw[if_neg hc];go_enter Tryz.func237,Tryz.ntmps237;go_wp2
  go_quiet (fail)
  go_wp2;go_ret2;refine⟨?_,_,rfl⟩;rw[show 16777216*c0+65536*c1+256*c2+c3=c0*16777216+c1*65536+c2*256+c3 by omega];rfl
theorem JS(a:tG)(len cap:Nat)(w:tF)(hl:len<4):cA 237 #[.slice a len cap] w fun e w'=>e= .returned (.tuple #[iV 0,iV 4])∧w=w':=by
 go_enter Tryz.func237,Tryz.ntmps237;go_wp2;go_ret2;exact⟨rfl,rfl⟩
theorem fq{l:tJ}(hw:∀u∈l,(Lit.int .u8 u).wf=true)(k:Nat):0≤l.getD k 0∧l.getD k 0≤255:=by
 by_cases h:k<l.length
 ·have:=bounds_u8 (hw _ (F7 l k h));omega
 ·rw[List.getD_eq_getElem?_getD,List.getElem?_eq_none (by omega)];simp
theorem ni{l:tJ}(h:l.length<4):ia l=(0,4):=by simp[ia,h]
theorem Ek{l:tJ}(h:¬l.length<4):Value.tuple #[iV (ia l).1,iV (ia l).2]=if 127<l.getD 0 0 then .tuple #[iV 0,iV 2]else .tuple #[iV (16777216*l.getD 0 0+65536*l.getD 1 0+256*l.getD 2 0+l.getD 3 0),iV 0]:=by
 unfold ia;rw[if_neg h];split<;>rfl
theorem Ry(a:tG)(len cap:Nat)(l:tJ)(w:tF)(h:RowK .u8 w a len l):
  cA 237 #[.slice a len cap] w fun e w'=>e= .returned (.tuple #[iV (ia l).1,iV (ia l).2])∧∃n,w'=w.drewN n:=by
 by_cases h4:l.length<4
 ·rw[ni h4];refine(JS a len cap w (by rw[←h.cB];exact h4)).mono ?_;rintro e w' ⟨rfl,rfl⟩;exact⟨rfl,0,rfl⟩
 ·rw[Ek h4];have hl:=h.cB;obtain⟨b,off,rfl⟩:=h.form (by omega);have b0:=fq h.wf 0;have b1:=fq h.wf 1;have b2:=fq h.wf 2;have b3:=fq h.wf 3;exact JR b off len cap _ _ _ _ w (by omega) (h.at 0 (by omega)) (h.at 1 (by omega)) (h.at 2 (by omega)) (h.at 3 (by omega)) b0.1 b0.2 b1.1 b1.2 b2.1 b2.2 b3.1 b3.2
def iZ(p:Int×Int)(b:Int):Int×Int:=((p.1+b) % 65521,(p.2+(p.1+b) % 65521) % 65521)
def eK(l:tJ):Int×Int:=l.foldl iZ (1,0)
def sumOf(l:tJ):Int:=(eK l).2*65536+(eK l).1
theorem El(l:tJ)(k:Nat)(h:k<l.length):eK (l.take (k+1))=iZ (eK (l.take k)) (l.getD k 0):=by
 rw[List.take_succ_eq_append_getElem h];simp only[eK,List.foldl_append,List.foldl_cons,List.foldl_nil];simp[h]
theorem Em(l:tJ)(p:Int×Int)(h0:0≤p.1)(h1:p.1<65521)(h2:0≤p.2)(h3:p.2<65521):
  0≤(l.foldl iZ p).1∧(l.foldl iZ p).1<65521∧0≤(l.foldl iZ p).2∧(l.foldl iZ p).2<65521:=by
 induction l generalizing p with
 |nil=>exact⟨h0,h1,h2,h3⟩
 |cons b l ih=>exact ih (iZ p b) (by simp only[iZ];omega) (by simp only[iZ];omega) (by simp only[iZ];omega) (by simp only[iZ];omega)
theorem qL(l:tJ):0≤(eK l).1∧(eK l).1<65521∧0≤(eK l).2∧(eK l).2<65521:=
 Em l (1,0) (by decide) (by decide) (by decide) (by decide)
theorem pk(l:tJ):0≤sumOf l∧sumOf l<4293984256:=by
 have:=qL l;unfold sumOf;omega
theorem Y_(s f:Int)(h0:0≤f)(h1:f<65521)(h2:0≤s)(h3:s<65521):bits .or .i64 (s*65536) f=s*65536+f:=
 bits_join .i64 62 (by decide) ma 16 _ _ (by omega) (by omega) (by omega) (by omega) (by omega) (by omega)
theorem VI(a:tG)(len cap:Nat)(l:tJ)(w:tF)(h:RowK .u8 w a len l)(hm:len≤140737488351232):
  cA 213 #[.slice a len cap] w fun e w'=>e= .returned (iV (sumOf l))∧w=w':=by
 have hl:=h.cB;go_enter Tryz.func213,Tryz.ntmps213;go_wp2
 go_loopw [3,4,9] (fun x y i wr=>∃k:Nat,k≤len∧i=iV k∧x=iV (eK (l.take k)).1∧y=iV (eK (l.take k)).2∧wr=w)
  (fun _ _ i _=>len-(intOf i).toNat)
 case atStart=>exact⟨0,Nat.zero_le _,rfl,rfl,rfl,rfl⟩
 case round=>
  obtain⟨k,hk,rfl,rfl,rfl,rfl⟩:=hrel;have hb:=qL (l.take k);by_cases aW:k<len
  ·have HX:Hid (eK (l.take (k+1))=iZ (eK (l.take k)) (l.getD k 0)):=El l k (by omega);obtain⟨b,off,rfl⟩:=h.form (by omega);have Z8:=h.at k aW;have hx:=fq h.wf k;generalize eK (l.take k)=p at hb HX;generalize l.getD k 0=x at Z8 hx HX;obtain⟨p,q⟩:=p;obtain⟨vU,oD,FM,M6⟩:=hb;obtain⟨hx0,hx1⟩:=hx;simp only at vU oD FM M6;clear h;go_wp2
   go_roundw
   case rel=>exact⟨k+1,by omega,by go_num,by rw[HX.out];first|done|rfl,by rw[HX.out];first|done|rfl,by first|rfl|trivial⟩
   case measure=>simp[intOf];omega
  ·have k_:k=len:=by omega
   subst k_;rw[List.take_of_length_le (by omega)]at*;have J:=Y_ (eK l).2 (eK l).1 hb.1 hb.2.1 hb.2.2.1 hb.2.2.2;have HX:Hid (sumOf l=(eK l).2*65536+(eK l).1):=rfl;generalize eK l=p at hb HX J;obtain⟨p,q⟩:=p;obtain⟨vU,oD,FM,M6⟩:=hb;simp only at vU oD FM M6 J;go_wp2;go_ret;exact⟨by rw[HX.out];rfl,rfl⟩
theorem mf(a:tG)(len cap:Nat)(s:Int)(w:tF)(h1:len≤100000)(h2:0≤s)(h3:s≤len):
  cA 136 #[.agg #[.slice a len cap,iV s]] w (rB (.bool true) w):=by
 have d1:(len:Int)≤100000:=by omega
 go_enter Tryz.func136,Tryz.ntmps136;go_wp2;go_ret;exact⟨rfl,aB _ _⟩
theorem GP(a:tG)(len cap:Nat)(s:Int)(w:tF)(hm:len≤140737488351232)(h:¬(len≤100000∧0≤s∧s≤len)):
  cA 136 #[.agg #[.slice a len cap,iV s]] w (rB (.bool false) w):=by
 by_cases h1:len≤100000
 ·have d1:(len:Int)≤100000:=by omega
  by_cases h2:0≤s
  ·have d2:¬s≤(len:Int):=by omega
   clear h;go_enter Tryz.func136,Tryz.ntmps136;go_wp2;go_ret;exact⟨rfl,aB _ _⟩
  ·clear h;go_enter Tryz.func136,Tryz.ntmps136;go_wp2;go_ret;exact⟨rfl,aB _ _⟩
 ·have d1:¬(len:Int)≤100000:=by omega
  clear h;go_enter Tryz.func136,Tryz.ntmps136;go_wp2;go_ret;exact⟨rfl,aB _ _⟩
structure Part where
 a:Option Addr
 len:Nat
 cap:Nat
 l:List Int
def db:Part:=⟨none,0,0,[]⟩
def dz(ps:List Part):Nat:=(ps.map (·.len)).sum
def ed(ps:List Part):List Int:=ps.flatMap (·.l)
theorem GQ(ps:List Part)(k:Nat)(h:k<ps.length):ps.take (k+1)=ps.take k++[ps.getD k db]:=by
 rw[List.take_succ_eq_append_getElem h];simp[h]
theorem z8(ps:List Part)(k:Nat)(h:k<ps.length):dz (ps.take (k+1))=dz (ps.take k)+(ps.getD k db).len:=by
 rw[GQ ps k h];simp[dz]
theorem Ep(ps:List Part)(k:Nat)(h:k<ps.length):ed (ps.take (k+1))=ed (ps.take k)++(ps.getD k db).l:=by
 rw[GQ ps k h];simp[ed]
theorem po(ps:List Part)(k:Nat):dz (ps.take k)≤dz ps:=by
 have h:dz (ps.take k++ps.drop k)=dz (ps.take k)+dz (ps.drop k):=by simp only[dz,List.map_append,List.sum_append]
 rw[List.take_append_drop]at h;omega
theorem z_(b off cap:Nat)(ps:List Part)(w:tF)(hlen:ps.length≤1000)(hb:b<w.heap.size)(hs:dz ps≤1000000)
  (hc:∀k,k<ps.length→w.cell? ⟨b,off+k,none⟩=some (.slice (ps.getD k db).a (ps.getD k db).len (ps.getD k db).cap))
  (hr:∀k,k<ps.length→RowK .u8 w (ps.getD k db).a (ps.getD k db).len (ps.getD k db).l∧((ps.getD k db).a=none→(ps.getD k db).cap=0)):
  cA 138 #[.slice (some ⟨b,off,none⟩) ps.length cap] w fun e w'=>
   ∃a' bg,e= .returned (.slice a' (dz ps) bg)∧RowK .u8 w' a' (dz ps) (ed ps)∧dz ps≤bg∧(a'=none→bg=0)∧bg≤9223372036854775807∧(∀x,a'=some x→w.heap.size≤x.block)∧bZ w w'∧w'.ownsRow w.heap.size 5 1 (.slice a' (dz ps) bg) (dz ps) ((ed ps).map (Value.int .u8)):=by
 obtain⟨i0,hi,Cg,xV,wj⟩:=info_parts Tryz.QI;have HC:=bD hc;have HR:=bD hr;clear hc hr;go_enter Tryz.func138,Tryz.ntmps138;go_wp2
 go_loopw [3,11] (fun v t wr=>∃j:Nat,j≤ps.length∧t=iV j∧v=iV (dz (ps.take j))∧w=wr) (fun _ t _=>ps.length-(intOf t).toNat)
 case atStart=>exact⟨0,Nat.zero_le _,rfl,rfl,rfl⟩
 case round=>
  obtain⟨j,hj,rfl,rfl,rfl⟩:=hrel;have ht:=po ps j;by_cases aW:j<ps.length
  ·have kq:=ae HC j aW;have HX:Hid (dz (ps.take (j+1))=dz (ps.take j)+(ps.getD j db).len):=z8 ps j aW;have AY:=po ps (j+1);rw[ae HX]at AY;generalize ps.getD j db=p at kq HX AY;obtain⟨pa,pl,pc,pb⟩:=p;generalize dz (ps.take j)=z at HX ht AY;simp only at kq AY;go_wp2
   go_roundw
   case rel=>exact⟨j+1,by omega,by go_num,by rw[ae HX];go_num,by first|rfl|trivial⟩
   case measure=>simp[intOf];omega
  ·have Q7:j=ps.length:=by omega
   subst Q7;rw[List.take_length]at*
   go_wp2_with (at_make;refine wpList_make_own _ rfl _ _ 122 rfl w.heap.size 5 i0 (.int .u8 0) 1 Tryz.underlying122 hi Cg xV _ _ _ (dz ps) rfl rfl (by omega) (by rw[wj];omega) (by unfold maxLen;omega) (Nat.le_refl _) ?_;intro w1 hown1 hgrow1)
   have oD:bZ w w1:=(Below.refl _ _).grown hgrow1 (Nat.le_refl _) (by simp)
   go_loopw [6,24] (fun v t wr=>∃j:Nat,j≤ps.length∧t=iV j∧wr.ownsRow w.heap.size 5 1 v (dz (ps.take j)) ((ed (ps.take j)).map (Value.int .u8))∧bZ w wr) (fun _ t _=>ps.length-(intOf t).toNat)
   case atStart=>exact⟨0,Nat.zero_le _,rfl,by simpa[dz,ed]using hown1,oD⟩
   case round=>
    obtain⟨j,hj,rfl,bN,gS⟩:=hrel;have ht:=po ps j;by_cases aW:j<ps.length
    ·have kq:=(gS.cell hb).trans (ae HC j aW);have ee:=(ae HR j aW).1.below gS;have rN:=(ae HR j aW).2;have HX:Hid (dz (ps.take (j+1))=dz (ps.take j)+(ps.getD j db).len):=z8 ps j aW;have HY:Hid (ed (ps.take (j+1))=ed (ps.take j)++(ps.getD j db).l):=Ep ps j aW;have AY:=po ps (j+1);rw[ae HX]at AY;generalize ps.getD j db=p at kq HX AY ee rN HY;obtain⟨pa,pl,pc,pb⟩:=p;simp only at kq AY ee rN;have lq:=gS.size
     go_wp2_with (at_builtin;refine mQ rfl _ _ 122 rfl w.heap.size 5 i0 (.int .u8 0) 1 Tryz.underlying122 hi Cg xV wj rfl .u8 _ _ _ rfl bN pa pl pc pb rfl ee rN (by unfold maxLen;omega) (by omega) (by omega) ?_;intro v' w4 hown4 hgrow4)
     have R1:Hid (w4.ownsRow w.heap.size 5 1 v' (dz (ps.take (j+1))) ((ed (ps.take (j+1))).map (Value.int .u8))):=by
      rw[ae HX,ae HY];exact hown4
     have R2:bZ w w4:=gS.grown hgrow4 (by omega) (by intro t ht;exact(bN.lt t ht).1);clear hown4 hgrow4 bN kq ee;go_wp2
     go_roundw
     case rel=>exact⟨j+1,by omega,by go_num,R1.out,R2⟩
     case measure=>simp[intOf];omega
    ·have Q7:j=ps.length:=by omega
     subst Q7;rw[List.take_length]at*
     obtain⟨a',bg,rfl,hr,hc',hm',tf,hx'⟩:=RowK.yS bN (by
      intro u hu;simp only[ed,List.mem_flatMap]at hu;obtain⟨p,hp,hu⟩:=hu;obtain⟨k,hk,hpk⟩:=List.getElem_of_mem hp;have:=(ae HR k hk).1.wf u;rw[List.getD_eq_getElem?_getD,List.getElem?_eq_getElem hk]at this
      exact this (by simpa[hpk]using hu))
     have HO:=bD bN;clear bN;go_wp2;go_ret;exact⟨a',bg,rfl,hr,hc',tf,by unfold maxLen at hm';exact hm',hx',gS,ae HO⟩
theorem sX(b off cap:Nat)(ps:List Part)(w:tF)(hlen:ps.length≤1000)(hb:b<w.heap.size)(hs:dz ps≤1000000)
  (hc:∀k,k<ps.length→w.cell? ⟨b,off+k,none⟩=some (.slice (ps.getD k db).a (ps.getD k db).len (ps.getD k db).cap))
  (hr:∀k,k<ps.length→RowK .u8 w (ps.getD k db).a (ps.getD k db).len (ps.getD k db).l∧((ps.getD k db).a=none→(ps.getD k db).cap=0)):
  cA 138 #[.slice (some ⟨b,off,none⟩) ps.length cap] w fun e w'=>
   ∃a' bg,e= .returned (.slice a' (dz ps) bg)∧RowK .u8 w' a' (dz ps) (ed ps)∧dz ps≤bg∧(a'=none→bg=0)∧bg≤9223372036854775807∧(∀x,a'=some x→w.heap.size≤x.block)∧bZ w w':=by
 refine(z_ b off cap ps w hlen hb hs hc hr).mono ?_;rintro e w' ⟨a',bg,h1,h2,h3,h4,h5,h6,h7,_⟩;exact⟨a',bg,h1,h2,h3,h4,h5,h6,h7⟩
def au(l:tJ)(j:Nat):Int:=(ia (l.drop (4*j))).1
def dI(l:tJ)(j:Nat):Int:=(ia (l.drop (4*j))).2
def aM(w:tF)(R:Nat)(zs:tJ):Prop:=zs.length=10∧w.heap[R]? =some (.cells (zs.map (Value.int .i64)).toArray 167 (0,0))
def Er(l zs:tJ)(s:Nat):Nat→List Int
 |0=>zs
 |j+1=>(Er l zs s j).set (s+j) (au l j)
structure aP(R:Nat)(w w':tF):Prop where
 os:w'.os=w.os
 tape:w'.tape=w.tape
 output:w'.output=w.output
 size:w'.heap.size=w.heap.size
 block:∀k,k≠R→w'.heap[k]? =w.heap[k]?
theorem aP.refl(R:Nat)(w:tF):aP R w w:=⟨rfl,rfl,rfl,rfl,fun _ _=>rfl⟩
theorem aP.trans{R:Nat}{a b c:tF}(h:aP R a b)(k:aP R b c):aP R a c:=
 ⟨k.os.trans h.os,k.tape.trans h.tape,k.output.trans h.output,k.size.trans h.size,fun x hx=>(k.block x hx).trans (h.block x hx)⟩
theorem aP.drewN(R:Nat)(w:tF)(n:Nat):aP R w (w.drewN n):=⟨rfl,rfl,rfl,rfl,fun _ _=>rfl⟩
theorem aP.cell{R:Nat}{w w':tF}(h:aP R w w'){b o:Nat}(hb:b≠R):w'.cell? ⟨b,o,none⟩=w.cell? ⟨b,o,none⟩:=World.cell?_of_block (w:=w) (h.block b hb)
theorem aP.row{R:Nat}{k:IntKind}{w w':tF}(h:aP R w w'){a:tG}{len:Nat}{l:tJ}(hr:RowK k w a len l)(fJ:∀x,a=some x→0<len→x.block≠R):RowK k w' a len l:=
 ⟨hr.cB,hr.wf,fun i hi=>by
  obtain⟨b,off,ha,aW,hc⟩:=hr.cell i hi
  exact⟨b,off,ha,by rw[h.size];exact aW,(h.cell (fJ _ ha (by omega))).trans hc⟩⟩
theorem aM.cell{w:tF}{R:Nat}{zs:tJ}(h:aM w R zs)(o:Nat)(ho:o<10):w.cell? ⟨R,o,none⟩=some (iV (zs.getD o 0)):=by
 have:=h.1;simp[World.cell?,h.2,show o<zs.length by omega]
theorem aM.free{w:tF}{R:Nat}{zs:tJ}(h:aM w R zs)(o:Nat):w.frozen? ⟨R,o,none⟩=false:=by
 simp[World.frozen?,h.2]
theorem aM.lt{w:tF}{R:Nat}{zs:tJ}(h:aM w R zs):R<w.heap.size:=by
 rcases Nat.lt_or_ge R w.heap.size with h'|h'
 ·exact h'
 ·have:=h.2;rw[Array.getElem?_eq_none h']at this;cases this
theorem aM.set{w:tF}{R:Nat}{zs:tJ}(h:aM w R zs)(o:Nat)(x:Int):aM (w.setCell ⟨R,o,none⟩ (iV x)) R (zs.set o x):=by
 refine⟨by simpa using h.1, ?_⟩;rw[setCell_eq_setRow w R o _ _ (0,0) _ h.2];rw[setRow_heap w R _ _ _ _ h.2];simp[List.map_set]
theorem aM.drewN{w:tF}{R:Nat}{zs:tJ}(h:aM w R zs)(n:Nat):aM (w.drewN n) R zs:=h
theorem aP.set(R o:Nat)(w:tF)(v:tN):aP R w (w.setCell ⟨R,o,none⟩ v):=by
 refine⟨?_, ?_, ?_, ?_,fun k hk=>Below.heap_setCell w _ v k hk⟩<;>(unfold World.setCell;split<;>simp)
theorem RowK.aby{k:IntKind}{w:tF}{b off len:Nat}{l:tJ}(h:RowK k w (some ⟨b,off,none⟩) len l)(a:tG)(h4:4≤len)(ha:4<len→a=some ⟨b,off+4,none⟩):RowK k w a (len-4) (l.drop 4):=by
 refine⟨by simp[h.cB],fun u hu=>h.wf u (List.mem_of_mem_drop hu),fun i hi=> ?_⟩;refine⟨b,off+4,ha (by omega),h.lt (by omega), ?_⟩;have:=h.at (4+i) (by omega);rw[Nat.add_assoc,this];simp[List.getD_eq_getElem?_getD]
theorem GR(N R s n abz:Nat)(a:tG)(len cap:Nat)(l zs:tJ)(w:tF)(hs:s+n≤10)(hN:N≠R)
    (hp:∀o,o<10→w.cell? ⟨N,o,none⟩=some (.pointer (some ⟨R,o,none⟩))) (hR:aM w R zs) (hb:RowK .u8 w a len l) (fJ:∀x,a=some x→0<len→x.block≠R) (vS:len≤cap) (hc:cap≤9223372036854775807):
    cA 215 #[.slice (some ⟨N,s,none⟩) n abz,.slice a len cap] w fun e w'=>
      ((∃a' bg fy,e= .returned (.slice a' fy bg)∧(∀t,t<n→dI l t=0)∧RowK .u8 w' a' fy (l.drop (4*n))∧(∀x,a'=some x→0<fy→x.block≠R)∧fy≤bg∧bg≤9223372036854775807∧aM w' R (Er l zs s n))∨
       (∃t zs',t<n∧(∀u,u<t→dI l u=0)∧dI l t≠0∧e= .panicked [{v:= .iface 35 (iV (dI l t)),recovered:=false}]∧aM w' R zs'))∧aP R w w':=by
  go_enter Tryz.func215,Tryz.ntmps215;go_wp2
  go_loopw [1,11] (fun v i wr=>∃(j fy bg:Nat) (a':tG),j≤n∧i=iV j∧v= .slice a' fy bg∧(∀t,t<j→dI l t=0)∧RowK .u8 wr a' fy (l.drop (4*j))∧(∀x,a'=some x→0<fy→x.block≠R)∧fy≤bg∧bg≤9223372036854775807∧aM wr R (Er l zs s j)∧aP R w wr)
    (fun _ i _=>n-(intOf i).toNat)
  case atStart=>exact⟨0,len,cap,a,Nat.zero_le _,rfl,rfl,fun t ht=>by omega,by simpa using hb,fJ,vS,hc,hR,aP.refl _ _⟩
  case round=>
    obtain⟨j,fy,bg,a',hj,rfl,rfl,wI,ee,hne',hlc',hc',hrec,hsame⟩:=hrel;by_cases aW:j<n
    ·have kp:wr.cell? ⟨N,s+j,none⟩=some (.pointer (some ⟨R,s+j,none⟩)):=(hsame.cell hN).trans (hp (s+j) (by omega));have HE:=bD wI;have HR:=bD ee;have HC:=bD hrec;have HS:=bD hsame;clear wI ee hrec hsame hR hb hp
     go_wp2_with fail
     refine(Ry _ _ _ _ _ (ae HR)).mono ?_;rintro e w1 ⟨rfl,q,rfl⟩;by_cases hz:dI l j=0
     ·have h4:4≤fy:=by
        have h1:=(ae HR).cB;rcases Nat.lt_or_ge (l.drop (4*j)).length 4 with h|h
        ·exfalso;have:=hz;unfold dI at this;rw[ni h]at this;simp at this
        ·omega
      obtain⟨b0,rS,rfl⟩:=(ae HR).form (by omega);have hz':((ia (l.drop (4*j))).2 !=0)=false:=by simpa[dI]using hz
      have kr:=(ae HC).cell (s+j) (by omega);have kf:=(ae HC).free (s+j);go_wp2
      go_region
      all_goals
        generalize hA:(if bg=4 then some (⟨b0,rS,none⟩:Addr)else some ⟨b0,rS+4,none⟩)=A';have HA:=bD hA;clear hA kr kf kp hz';go_wp2
        go_roundw
        case rel=>
          have hS:aP R wr ((wr.drewN (q+1)).setCell ⟨R,s+j,none⟩ (iV (ia (l.drop (4*j))).1)):=(aP.drewN R wr (q+1)).trans (aP.set R (s+j) _ _);have hdr:(l.drop (4*j)).drop 4=l.drop (4*(j+1)):=by rw[List.drop_drop];congr 1
          have hA4:4<fy→A'=some ⟨b0,rS+4,none⟩:=fun h=>by rw[←ae HA,if_neg (by omega)]
          have hAb:∀x,A'=some x→0<fy-4→x.block≠R:=fun x hx hp=>by
            have h1:=hne' _ rfl (by omega);rw[←ae HA]at hx;split at hx<;>(simp at hx;subst hx;exact h1)
          refine⟨j+1,fy-4,bg-4,A',by omega,by go_num,rfl, ?_, ?_,hAb,by omega,by omega, ?_,(ae HS).trans hS⟩
          ·intro t ht;by_cases h:t=j
           ·rw[h];exact hz
           ·exact ae HE t (by omega)
          ·rw[←hdr];exact hS.row ((ae HR).aby A' h4 hA4) hAb
          ·exact((ae HC).drewN (q+1)).set (s+j) _
        case measure=>simp[intOf];omega
     ·have hz':((ia (l.drop (4*j))).2 !=0)=true:=by simpa[dI]using hz
      go_wp2;exact⟨rfl,.inr ⟨j,_,aW,ae HE,hz,rfl,(ae HC).drewN q⟩,(ae HS).trans (aP.drewN R wr q)⟩
    ·have hjn:j=n:=by omega
     subst hjn;have HE:=bD wI;have HR:=bD ee;have HC:=bD hrec;have HS:=bD hsame;clear wI ee hrec hsame hR hb hp;go_wp2;go_ret;exact⟨.inl ⟨a',bg,fy,rfl,ae HE,ae HR,hne',hlc',hc',ae HC⟩,ae HS⟩
def aN(w:tF)(R:Nat)(a:tG)(len cap:Nat)(s:Int):Prop:=w.heap[R]? =some (.cells #[.slice a len cap,iV s] 124 (0,0))
theorem aN.cell0{w:tF}{R:Nat}{a:tG}{len cap:Nat}{s:Int}(h:aN w R a len cap s):w.cell? ⟨R,0,none⟩=some (.slice a len cap):=by
 unfold aN at h;simp[World.cell?,h]
theorem aN.lE{w:tF}{R:Nat}{a:tG}{len cap:Nat}{s:Int}(h:aN w R a len cap s):w.cell? ⟨R,1,none⟩=some (iV s):=by
 unfold aN at h;simp[World.cell?,h]
theorem aN.free{w:tF}{R:Nat}{a:tG}{len cap:Nat}{s:Int}(h:aN w R a len cap s)(o:Nat):w.frozen? ⟨R,o,none⟩=false:=by
 unfold aN at h;simp[World.frozen?,h]
theorem aN.lt{w:tF}{R:Nat}{a:tG}{len cap:Nat}{s:Int}(h:aN w R a len cap s):R<w.heap.size:=by
 unfold aN at h;rcases Nat.lt_or_ge R w.heap.size with h'|h'
 ·exact h'
 ·simp[Array.getElem?_eq_none h']at h
theorem aN.below{w w':tF}{R B:Nat}{a:tG}{len cap:Nat}{s:Int}(h:aN w R a len cap s)(hb:Below B w w')(hR:R<B):aN w' R a len cap s:=by
 unfold aN at h⊢;rw[←h];exact hb.block R hR
theorem aN.new(w:tF)(a:tG)(len cap:Nat)(s:Int):aN (w.alloc (.cells #[.slice a len cap,iV s] 124)) w.heap.size a len cap s:=heap_alloc_new w _
theorem aN.store{w:tF}{R:Nat}{a:tG}{len cap:Nat}{s:Int}(h:aN w R a len cap s)(a':tG)(fy bg:Nat)(s':Int):
  aN ((w.setCell ⟨R,0,none⟩ (.slice a' fy bg)).setCell ⟨R,1,none⟩ (iV s')) R a' fy bg s':=by
 unfold aN at h⊢;have h1:(w.setCell ⟨R,0,none⟩ (.slice a' fy bg)).heap[R]? =some (.cells #[.slice a' fy bg,iV s] 124 (0,0)):=by
  rw[setCell_eq_setRow w R 0 _ _ (0,0) _ h,setRow_heap w R _ _ _ _ h];simp
 rw[setCell_eq_setRow _ R 1 _ _ (0,0) _ h1,setRow_heap _ R _ _ _ _ h1];simp
theorem cL(w:tF)(R:Nat)(v v':tN):aP R w ((w.setCell ⟨R,0,none⟩ v).setCell ⟨R,1,none⟩ v'):=(aP.set R 0 w v).trans (aP.set R 1 _ v')
theorem aP.under{R B:Nat}{w w1 w2:tF}(hb:Below B w w1)(h:aP R w1 w2)(hR:B≤R):Below B w w2:=
 ⟨h.os.trans hb.os,h.tape.trans hb.tape,h.output.trans hb.output,by rw[h.size];exact hb.size,fun k hk=>(h.block k (by omega)).trans (hb.block k hk)⟩
theorem Rz{W:tF}{R:Nat}{a:tG}{len cap:Nat}{s:Int}{tmps:tR}(h:aN W R a len cap s)(t:tmps[2]? =some (.pointer (some ⟨R,0,none⟩))):
  (results Tryz.f137 tmps).run Tryz.prog W= .ok (.agg #[.slice a len cap,iV s]) W:=by
 have k0:=h.cell0;have k1:=h.lE;simp[results,Tryz.results137,go_sem,k0,k1,t]
theorem RB{W:tF}{R:Nat}{a:tG}{len cap:Nat}{s e:Int}{tmps:tR}(h:aN W R a len cap s)(t:tmps[2]? =some (.pointer (some ⟨R,0,none⟩)))(te:tmps[3]? =some (iV e)):
  (results Tryz.f134 tmps).run Tryz.prog W= .ok (.tuple #[.agg #[.slice a len cap,iV s],iV e]) W:=by
 have k0:=h.cell0;have k1:=h.lE;simp[results,Tryz.results134,go_sem,k0,k1,t,te]
theorem CB{W:tF}{R:Nat}{a:tG}{len cap:Nat}{s e:Int}{tmps:tR}(h:aN W R a len cap s)(t:tmps[4]? =some (.pointer (some ⟨R,0,none⟩)))(te:tmps[5]? =some (iV e)):
  (results Tryz.f84 tmps).run Tryz.prog W= .ok (.tuple #[.agg #[.slice a len cap,iV s],iV e]) W:=by
 have k0:=h.cell0;have k1:=h.lE;simp[results,Tryz.results84,go_sem,k0,k1,t,te]
theorem GS(a:tG)(len cap:Nat)(l:tJ)(w:tF)(h:RowK .u8 w a len l)(hn:a=none→cap=0)(hm:len≤1000000):
  cA 137 #[.slice a len cap] w fun e w'=>
   ∃a' bg,e= .returned (.agg #[.slice a' len bg,iV len])∧RowK .u8 w' a' len l∧len≤bg∧(a'=none→bg=0)∧bg≤9223372036854775807∧(∀x,a'=some x→w.heap.size≤x.block)∧bZ w w':=by
 go_enter Tryz.func137,Tryz.ntmps137
 go_wp2_with fail
 refine(sX (w.heap.size+1) 0 1 [⟨a,len,cap,l⟩] _ (by simp) (by simp) (by simp[dz];omega) ?_ ?_).mono ?_
 ·intro k hk
  match k,hk with
  |0,_=>simp
 ·intro k hk
  match k,hk with
  |0,_=>exact⟨h.below (mw _ _ _),hn⟩
 rintro e w1 ⟨a',bg,rfl,r1,c1,n1,m1,x1,b1⟩;have e1:dz [⟨a,len,cap,l⟩]=len:=by simp[dz]
 have e2:ed [⟨a,len,cap,l⟩]=l:=by simp[ed]
 rw[e1,e2]at r1;rw[e1]at c1⊢;clear e1 e2;have tb:aN w1 w.heap.size none 0 0 0:=(((aN.new w none 0 0 0).below (aB _ _) (by simp)).below b1 (by simp;omega));have k0:=tb.cell0;have k1:=tb.lE;have kf:=tb.free;have B1:=bD (uA b1);have X1:Hid (∀x,a'=some x→w.heap.size+1≤x.block):=bD (fun x hx=>by have:=x1 x hx;simp at this;omega);clear b1 x1;go_wp2;refine bodyPost_ret (Rz (tb.store a' len bg len) rfl) rfl ⟨a',bg,rfl,(cL w1 w.heap.size _ _).row r1 (fun x hx _=>by have:=ae X1 x hx;omega),c1,n1,m1,fun x hx=>by have:=ae X1 x hx;omega,(cL w1 w.heap.size _ _).under (ae B1) (Nat.le_refl _)⟩
theorem nY(w:tF)(a:tG)(len cap:Nat)(s:Int):∃W,W=(w.alloc (.cells #[.slice a len cap,iV s] 124)).alloc (.cells #[.slice none 0 0,iV 0] 124)∧
  aN W w.heap.size a len cap s∧aN W (w.heap.size+1) none 0 0 0∧bZ w W∧W.heap.size=w.heap.size+2:=
 ⟨_,rfl,(aN.new w a len cap s).below (aB _ _) (by simp),by have:=aN.new (w.alloc (.cells #[.slice a len cap,iV s] 124)) none 0 0 0;simpa using this,mw _ _ _,by simp⟩
theorem RC(a:tG)(len cap:Nat)(l:tJ)(s:Int)(w:tF)(h:RowK .u8 w a len l)(hn:a=none→cap=0)(h1:len≤100000)(h2:0≤s)(h3:s≤len):
  cA 134 #[.agg #[.slice a len cap,iV s]] w fun e w'=>
   ∃a' bg,e= .returned (.tuple #[.agg #[.slice a' len bg,iV len],iV 0])∧RowK .u8 w' a' len l∧len≤bg∧(a'=none→bg=0)∧bg≤9223372036854775807∧(∀x,a'=some x→w.heap.size≤x.block)∧bZ w w':=by
 go_enter Tryz.func134,Tryz.ntmps134
 go_wp2_with fail
 obtain⟨W,hW,tb0,tq,B0,S0⟩:=nY w a len cap s;rw[←hW];have r0:=h.below B0;clear hW;refine(mf a len cap s _ h1 h2 h3).mono ?_;rintro e w1 ⟨rfl,b1⟩;have r1:=r0.below b1;have z1:=b1.size;have ta:=tb0.below b1 tb0.lt;have xY:=tq.below b1 tq.lt;have B1:=Below.next B0 b1;have i0:=ta.cell0;clear tb0 tq r0 b1 B0
 go_wp2_with fail
 refine(GS a len cap l _ r1 hn (by omega)).mono ?_;rintro e w2 ⟨a',bg,rfl,r2,c2,n2,m2,x2,b2⟩;have NK:=xY.below b2 xY.lt;have B2:=Below.next B1 b2;have j0:=NK.cell0;have j1:=NK.lE;have jf:=NK.free;clear xY b2 i0 ta;go_wp2;exact bodyPost_ret (RB (NK.store a' len bg len) rfl rfl) rfl ⟨a',bg,rfl,(cL w2 _ _ _).row r2 (fun x hx _=>by have:=x2 x hx;omega),c2,n2,m2,fun x hx=>by have:=x2 x hx;omega,(cL w2 _ _ _).under B2 (by omega)⟩
theorem RowK.take{k:IntKind}{w:tF}{a:tG}{len:Nat}{l:tJ}(h:RowK k w a len l)(n:Nat)(hn:n≤len):RowK k w a n (l.take n):=by
 have hl:=h.cB;refine⟨by simp;omega,fun u hu=>h.wf u (List.mem_of_mem_take hu),fun i hi=> ?_⟩;obtain⟨b,off,ha,aW,hc⟩:=h.cell i (by omega);refine⟨b,off,ha,aW, ?_⟩;rw[hc];simp[List.getD_eq_getElem?_getD,hi]
def leftOf(len:Nat)(s keep:Int):Nat:=(if keep<len-s then s+keep else len).toNat
theorem abA(a:tG)(len cap:Nat)(s keep:Int)(w:tF)(hm:len≤140737488351232)(h:¬(len≤100000∧0≤s∧s≤len)):
  cA 84 #[.agg #[.slice a len cap,iV s],iV keep] w (rB (.tuple #[.agg #[.slice none 0 0,iV 0],iV 6]) w):=by
 go_enter Tryz.func84,Tryz.ntmps84
 go_wp2_with fail
 obtain⟨W,hW,tb0,tq,B0,S0⟩:=nY w a len cap s;rw[←hW];clear hW;refine(GP a len cap s _ hm h).mono ?_;rintro e w1 ⟨rfl,b1⟩;have xY:=tq.below b1 tq.lt;have j0:=xY.cell0;have j1:=xY.lE;have jf:=xY.free;go_wp2;exact bodyPost_ret (CB (xY.store none 0 0 0) rfl rfl) rfl ⟨rfl,(cL w1 _ _ _).under (Below.next B0 b1) (by omega)⟩
theorem NL(a:tG)(len cap:Nat)(l:tJ)(s keep:Int)(w:tF)(h:RowK .u8 w a len l)(hn:a=none→cap=0)(hc:len≤cap)(h1:len≤100000)(h2:0≤s)(h3:s≤len)(hk:0≤keep)(YS:keep≤9223372036854775807):
  cA 84 #[.agg #[.slice a len cap,iV s],iV keep] w fun e w'=>
   ∃a' bg,e= .returned (.tuple #[.agg #[.slice a' (leftOf len s keep) bg,iV (leftOf len s keep)],iV 0])∧RowK .u8 w' a' (leftOf len s keep) (l.take (leftOf len s keep))∧leftOf len s keep≤bg∧(a'=none→bg=0)∧bg≤9223372036854775807∧(∀x,a'=some x→w.heap.size≤x.block)∧bZ w w':=by
 have d0:¬keep<0:=by omega
 go_enter Tryz.func84,Tryz.ntmps84
 go_wp2_with fail
 obtain⟨W,hW,tb0,tq,B0,S0⟩:=nY w a len cap s;rw[←hW];have r0:=h.below B0;clear hW;refine(mf a len cap s _ h1 h2 h3).mono ?_;rintro e w1 ⟨rfl,b1⟩;have r1:=r0.below b1;have z1:=b1.size;have ta:=tb0.below b1 tb0.lt;have xY:=tq.below b1 tq.lt;have B1:=Below.next B0 b1;have i0:=ta.cell0;have i1:=ta.lE;clear tb0 tq r0 b1 B0;have hle:leftOf len s keep≤len:=by unfold leftOf;split<;>omega
 go_wp2_with fail
 all_goals
  first
   |rw[show(s+keep).toNat=leftOf len s keep by unfold leftOf;split<;>omega]
   |rw[show(s+(↑len-s)).toNat=leftOf len s keep by unfold leftOf;split<;>omega]
   |rw[show(s+min keep (↑len-s)).toNat=leftOf len s keep by unfold leftOf;split<;>omega]
  refine(GS a (leftOf len s keep) cap (l.take (leftOf len s keep)) _ (r1.take (leftOf len s keep) hle) hn (by omega)).mono ?_;rintro e w2 ⟨a',bg,rfl,r2,c2,n2,m2,x2,b2⟩;have NK:=xY.below b2 xY.lt;have B2:=Below.next B1 b2;have j0:=NK.cell0;have j1:=NK.lE;have jf:=NK.free;clear xY b2 i0 ta;go_wp2;exact bodyPost_ret (CB (NK.store a' (leftOf len s keep) bg (leftOf len s keep)) rfl rfl) rfl ⟨a',bg,rfl,(cL w2 _ _ _).row r2 (fun x hx _=>by have:=x2 x hx;omega),c2,n2,m2,fun x hx=>by have:=x2 x hx;omega,(cL w2 _ _ _).under B2 (by omega)⟩
theorem wJ{w w':tF}{base e size n:Nat}{v:tN}{xs:tO}(h:w.ownsRow base e size v n xs)(hb:bZ w w'):w'.ownsRow base e size v n xs:=by
 obtain⟨h1,h2⟩:=h;refine⟨h1, ?_⟩;rcases h2 with h|⟨g,cap,cur,hv,hg,hh,r⟩
 ·exact .inl h
 ·refine .inr ⟨g,cap,cur,hv,hg, ?_,r⟩;have aW:g<w.heap.size:=by
   rcases Nat.lt_or_ge g w.heap.size with h'|h'
   ·exact h'
   ·rw[Array.getElem?_eq_none h']at hh;cases hh
  rw[hb.block g aW];exact hh
def kY(l:tJ):List Int:=[(l.length:Int)/256,(l.length:Int) % 256]++l
def dN(l:tJ):List Int:=kY l++four (sumOf (kY l))
theorem Aa(l:tJ):(kY l).length=l.length+2:=by simp[kY]
theorem mV(l:tJ):(dN l).length=l.length+6:=by simp[dN,kY,four]
theorem NN(n:Int)(h0:0≤n)(h1:n<4294967296):∀u∈four n,(Lit.int .u8 u).wf=true:=by
 intro u hu;simp only[four,List.mem_cons,List.not_mem_nil,or_false]at hu;rcases hu with rfl|rfl|rfl|rfl<;>exact WalkArith.wf_u8 (by omega)
theorem RD(l:tJ):∀u∈four (sumOf l),(Lit.int .u8 u).wf=true:=NN _ (pk l).1 (by have:=(pk l).2;omega)
theorem RE(n:Nat)(h:n≤65535):∀u∈[(n:Int)/256,(n:Int) % 256],(Lit.int .u8 u).wf=true:=by
 intro u hu;simp only[List.mem_cons,List.not_mem_nil,or_false]at hu;rcases hu with rfl|rfl<;>exact WalkArith.wf_u8 (by omega)
theorem bK(w:tF)(o:Obj):(w.alloc o).heap.size=w.heap.size+1:=by simp
theorem Ab(a:tG)(len cap:Nat)(l:tJ)(w:tF)(h:RowK .u8 w a len l)(hm:len≤1000000):
  cA 188 #[.slice a len cap] w fun e w'=>
   e= .returned (.slice (some ⟨w.heap.size,0,none⟩) 4 4)∧RowK .u8 w' (some ⟨w.heap.size,0,none⟩) 4 (four (sumOf l))∧bZ w w':=by
 go_enter Tryz.func188,Tryz.ntmps188
 go_wp2_with fail
 refine(VI a len cap l _ h (by omega)).mono ?_;rintro e w1 ⟨rfl,rfl⟩;have hw:=RD l;obtain⟨s0,s1⟩:=pk l;obtain⟨s,hs⟩:∃s,sumOf l=s:=⟨_,rfl⟩;rw[hs]at hw s0 s1;rw[hs];have HS:=bD hs;have hw:=bD hw;clear hs;go_wp2;go_ret;rw[ae HS];exact⟨rfl,RowK.KN (World.ownsRow_lit (base:=w.heap.size) (e:=5) (size:=1) w ((four s).map (Value.int .u8)).toArray 4 (Nat.le_refl _) (by decide) rfl) rfl (ae hw),aB _ _⟩
theorem NO(a:tG)(len cap:Nat)(l:tJ)(w:tF)(h:RowK .u8 w a len l)(hn:a=none→cap=0)(hm:len≤65535):
  cA 180 #[.slice a len cap] w fun e w'=>
   ∃a' bg,e= .returned (.slice a' (len+6) bg)∧RowK .u8 w' a' (len+6) (dN l)∧len+6≤bg∧(a'=none→bg=0)∧bg≤9223372036854775807∧(∀x,a'=some x→w.heap.size≤x.block)∧bZ w w':=by
 obtain⟨i0,hi,Cg,xV,wj⟩:=info_parts Tryz.QI;have hl:=h.cB;go_enter Tryz.func180,Tryz.ntmps180
 go_wp2_with fail
 refine(z_ (w.heap.size+1) 0 2 [⟨some ⟨w.heap.size,0,none⟩,2,2,[(len:Int)/256,(len:Int) % 256]⟩,⟨a,len,cap,l⟩] _ (by simp) (by simp) (by simp[dz];omega) ?_ ?_).mono ?_
 ·intro k hk
  match k,hk with
  |0,_=>simp
  |1,_=>simp
 ·intro k hk
  match k,hk with
  |0,_=>exact⟨(RowK.KN (World.ownsRow_lit (base:=w.heap.size) (e:=5) (size:=1) w ([(len:Int)/256,(len:Int) % 256].map (Value.int .u8)).toArray 2 (Nat.le_refl _) (by decide) rfl) rfl (RE len hm)).below (aB _ _),by simp⟩
  |1,_=>exact⟨h.below (mw _ _ _),hn⟩
 rintro e w1 ⟨a1,cap1,rfl,r1,c1,n1,m1,x1,b1,o1⟩;have e1:dz [⟨some ⟨w.heap.size,0,none⟩,2,2,[(len:Int)/256,(len:Int) % 256]⟩,⟨a,len,cap,l⟩]=len+2:=by simp[dz];omega
 have e2:ed [⟨some ⟨w.heap.size,0,none⟩,2,2,[(len:Int)/256,(len:Int) % 256]⟩,⟨a,len,cap,l⟩]=kY l:=by simp[ed,kY,hl]
 rw[e1,e2]at r1 o1;rw[e1]at c1⊢;clear e1 e2;have B1:=bD (uA b1);have z1:w.heap.size+2≤w1.heap.size:=by have:=b1.size;rw[bK,bK]at this;omega
 rw[bK,bK]at o1;clear b1 x1
 go_wp2_with fail
 refine(Ab a1 (len+2) cap1 (kY l) _ r1 (by omega)).mono ?_;rintro e w2 ⟨rfl,r2,b2⟩;have o2:=wJ o1 b2;have z2:=b2.size
 go_wp2_with (at_builtin;refine mQ rfl _ _ 122 rfl _ 5 i0 (.int .u8 0) 1 Tryz.underlying122 hi Cg xV wj rfl .u8 _ _ _ rfl o2 _ 4 4 _ rfl r2 (by simp) (by unfold maxLen;omega) (by omega) (by omega) ?_;intro v' w3 hown3 hgrow3)
 have aW:=o2.lt
 obtain⟨a',bg,rfl,hr,hc',hm',tf,hx'⟩:=RowK.yS hown3 (fun u hu=>by
  rcases List.mem_append.1 hu with hu|hu
  ·exact r1.wf u hu
  ·exact r2.wf u hu)
 have B3:Hid (bZ w w3):=(Below.next (ae B1) b2).grown hgrow3 (by omega) (by intro t ht;have:=(aW t ht).1;omega);have HR:Hid (RowK .u8 w3 a' (len+6) (dN l)):=hr;clear hown3 hgrow3 o1 o2 r2 hr aW;go_wp2;go_ret;exact⟨a',bg,rfl,ae HR,hc',tf,by unfold maxLen at hm';exact hm',fun x hx=>by have:=hx' x hx;omega,ae B3⟩
theorem aM.zero{w:tF}{R:Nat}{zs:tJ}(h:aM w R zs):
  aM ((((((((((w.setCell ⟨R,0,none⟩ (iV 0)).setCell ⟨R,1,none⟩ (iV 0)).setCell ⟨R,2,none⟩ (iV 0)).setCell ⟨R,3,none⟩ (iV 0)).setCell ⟨R,4,none⟩ (iV 0)).setCell ⟨R,5,none⟩ (iV 0)).setCell ⟨R,6,none⟩ (iV 0)).setCell ⟨R,7,none⟩ (iV 0)).setCell ⟨R,8,none⟩ (iV 0)).setCell ⟨R,9,none⟩ (iV 0)) R [0,0,0,0,0,0,0,0,0,0]:=by
 have hl:=h.1
 match zs,hl,h with
 |[_,_,_,_,_,_,_,_,_,_],_,h=>exact(((((((((h.set 0 0).set 1 0).set 2 0).set 3 0).set 4 0).set 5 0).set 6 0).set 7 0).set 8 0).set 9 0
theorem aP.zero(w:tF)(R:Nat):
  aP R w ((((((((((w.setCell ⟨R,0,none⟩ (iV 0)).setCell ⟨R,1,none⟩ (iV 0)).setCell ⟨R,2,none⟩ (iV 0)).setCell ⟨R,3,none⟩ (iV 0)).setCell ⟨R,4,none⟩ (iV 0)).setCell ⟨R,5,none⟩ (iV 0)).setCell ⟨R,6,none⟩ (iV 0)).setCell ⟨R,7,none⟩ (iV 0)).setCell ⟨R,8,none⟩ (iV 0)).setCell ⟨R,9,none⟩ (iV 0)):=
 (((((((((aP.set R 0 w _).trans (aP.set R 1 _ _)).trans (aP.set R 2 _ _)).trans (aP.set R 3 _ _)).trans (aP.set R 4 _ _)).trans (aP.set R 5 _ _)).trans (aP.set R 6 _ _)).trans (aP.set R 7 _ _)).trans (aP.set R 8 _ _)).trans (aP.set R 9 _ _)
theorem aP.below{R B:Nat}{w w':tF}(h:aP R w w')(hB:B≤R):Below B w w':=
 ⟨h.os,h.tape,h.output,by rw[h.size];exact Nat.le_refl _,fun k hk=>h.block k (by omega)⟩
theorem aM.other{w:tF}{R E:Nat}{zs:tJ}(h:aM w R zs)(fJ:R≠E)(o:Nat)(v:tN):aM (w.setCell ⟨E,o,none⟩ v) R zs:=
 ⟨h.1,(Below.heap_setCell w _ v R fJ).trans h.2⟩
theorem Za(R E:Nat)(zs:tJ)(x y:Int)(t:tY)(w:tF)(hR:aM w R zs)(hE:w.heap[E]? =some (.cells #[iV y] t (0,0)))(fJ:R≠E):
  aM (((((((((((w.setCell ⟨R,0,none⟩ (iV 0)).setCell ⟨R,1,none⟩ (iV 0)).setCell ⟨R,2,none⟩ (iV 0)).setCell ⟨R,3,none⟩ (iV 0)).setCell ⟨R,4,none⟩ (iV 0)).setCell ⟨R,5,none⟩ (iV 0)).setCell ⟨R,6,none⟩ (iV 0)).setCell ⟨R,7,none⟩ (iV 0)).setCell ⟨R,8,none⟩ (iV 0)).setCell ⟨R,9,none⟩ (iV 0)).setCell ⟨E,0,none⟩ (iV x)).drew R [0,0,0,0,0,0,0,0,0,0]∧
  (((((((((((w.setCell ⟨R,0,none⟩ (iV 0)).setCell ⟨R,1,none⟩ (iV 0)).setCell ⟨R,2,none⟩ (iV 0)).setCell ⟨R,3,none⟩ (iV 0)).setCell ⟨R,4,none⟩ (iV 0)).setCell ⟨R,5,none⟩ (iV 0)).setCell ⟨R,6,none⟩ (iV 0)).setCell ⟨R,7,none⟩ (iV 0)).setCell ⟨R,8,none⟩ (iV 0)).setCell ⟨R,9,none⟩ (iV 0)).setCell ⟨E,0,none⟩ (iV x)).drew.cell? ⟨E,0,none⟩=some (iV x)∧
  Below (min R E) w (((((((((((w.setCell ⟨R,0,none⟩ (iV 0)).setCell ⟨R,1,none⟩ (iV 0)).setCell ⟨R,2,none⟩ (iV 0)).setCell ⟨R,3,none⟩ (iV 0)).setCell ⟨R,4,none⟩ (iV 0)).setCell ⟨R,5,none⟩ (iV 0)).setCell ⟨R,6,none⟩ (iV 0)).setCell ⟨R,7,none⟩ (iV 0)).setCell ⟨R,8,none⟩ (iV 0)).setCell ⟨R,9,none⟩ (iV 0)).setCell ⟨E,0,none⟩ (iV x)).drew:=by
 have h1:=hR.zero;have h2:=aP.zero w R;generalize((((((((((w.setCell ⟨R,0,none⟩ (iV 0)).setCell ⟨R,1,none⟩ (iV 0)).setCell ⟨R,2,none⟩ (iV 0)).setCell ⟨R,3,none⟩ (iV 0)).setCell ⟨R,4,none⟩ (iV 0)).setCell ⟨R,5,none⟩ (iV 0)).setCell ⟨R,6,none⟩ (iV 0)).setCell ⟨R,7,none⟩ (iV 0)).setCell ⟨R,8,none⟩ (iV 0)).setCell ⟨R,9,none⟩ (iV 0))=W at h1 h2;have hE':W.heap[E]? =some (.cells #[iV y] t (0,0)):=(h2.block E (Ne.symm fJ)).trans hE;refine⟨h1.other fJ 0 _, ?_,((h2.below (Nat.min_le_left _ _)).setCell (p:=⟨E,0,none⟩) (Nat.min_le_right _ _) _).drew⟩;show(W.setCell ⟨E,0,none⟩ (iV x)).cell? ⟨E,0,none⟩=_;rw[World.cell?_of_block (w:=W.setCell ⟨E,0,none⟩ (iV x)) rfl];have:=setCell_eq_setRow W E 0 _ _ (0,0) (iV x) hE';rw[this];simp[World.cell?,setRow_heap W E _ _ _ _ hE']
theorem pN(R E:Nat)(zs:tJ)(x y:Int)(t:tY)(w:tF)(hR:aM w R zs)(hE:w.heap[E]? =some (.cells #[iV y] t (0,0)))(fJ:R≠E):
  CallsD Tryz.prog 214 #[.pointer (some ⟨R,0,none⟩),.pointer (some ⟨E,0,none⟩)] (.panicking [{v:= .iface 35 (iV x),recovered:=false}]) w fun e u' w'=>
   e= .returned (.tuple #[])∧u'= .panicking [{v:= .iface 35 (iV x),recovered:=true}]∧aM w' R [0,0,0,0,0,0,0,0,0,0]∧w'.cell? ⟨E,0,none⟩=some (iV x)∧Below (min R E) w w':=by
 refine callsD_of_wpS Tryz.func214 rfl fun c₀ cs hu=> ?_;apply wpS_seq;apply wpS_region;simp[wpOpsS,go_sem,recoverD,hu,Tryz.ntmps214,Exit.thenS];have ht: #[Value.pointer (some ⟨R,0,none⟩),Value.pointer (some ⟨E,0,none⟩)]++(((Array.replicate 7 undef).setIfInBounds 1 (Value.iface 35 (iV x))).setIfInBounds 0 (Value.iface 35 (iV x)))=
   #[.pointer (some ⟨R,0,none⟩),.pointer (some ⟨E,0,none⟩),.iface 35 (iV x),.iface 35 (iV x),undef,undef,undef,undef,undef]:=rfl
 rw[ht];refine wpS_of_wp ?_;have k0:=hR.cell 0 (by omega);have k1:=hR.cell 1 (by omega);have k2:=hR.cell 2 (by omega);have k3:=hR.cell 3 (by omega);have k4:=hR.cell 4 (by omega);have k5:=hR.cell 5 (by omega);have k6:=hR.cell 6 (by omega);have k7:=hR.cell 7 (by omega);have k8:=hR.cell 8 (by omega);have k9:=hR.cell 9 (by omega);have kf:=hR.free;have ke:w.cell? ⟨E,0,none⟩=some (iV y):=by simp[World.cell?,hE]
 have NR:w.frozen? ⟨E,0,none⟩=false:=by simp[World.frozen?,hE]
 have ta:∀W:World,(Instr.typeAssert (.iface 35 (iV x)) 20 35 false).run Tryz.prog W= .ok (iV x) W:=fun _=>by kernel_rfl
 go_wp2
 go_region
 show bodyPostS _ _ _ _ _ _ _ _ _;have Z:=Za R E zs x y t w hR hE fJ;generalize(((((((((((w.setCell ⟨R,0,none⟩ (iV 0)).setCell ⟨R,1,none⟩ (iV 0)).setCell ⟨R,2,none⟩ (iV 0)).setCell ⟨R,3,none⟩ (iV 0)).setCell ⟨R,4,none⟩ (iV 0)).setCell ⟨R,5,none⟩ (iV 0)).setCell ⟨R,6,none⟩ (iV 0)).setCell ⟨R,7,none⟩ (iV 0)).setCell ⟨R,8,none⟩ (iV 0)).setCell ⟨R,9,none⟩ (iV 0)).setCell ⟨E,0,none⟩ (iV x)).drew=W at Z;clear k0 k1 k2 k3 k4 k5 k6 k7 k8 k9 kf ke NR ta hR hE;simp[bodyPostS,results,Tryz.results214];exact Z
theorem j_(p q:Addr)(w:tF):
  CallsD Tryz.prog 214 #[.pointer (some p),.pointer (some q)] .returning w fun e u' w'=>e= .returned (.tuple #[])∧u'= .returning∧w=w':=by
 refine callsD_of_wpS Tryz.func214 rfl fun c₀ cs hu=> ?_;apply wpS_seq;apply wpS_region;simp[wpOpsS,go_sem,recoverD,hu,Tryz.ntmps214,Exit.thenS];have ht: #[Value.pointer (some p),Value.pointer (some q)]++(((Array.replicate 7 undef).setIfInBounds 1 Value.nilIface).setIfInBounds 0 Value.nilIface)=
   #[.pointer (some p),.pointer (some q),.nilIface,.nilIface,undef,undef,undef,undef,undef]:=rfl
 rw[ht];refine wpS_of_wp ?_;go_wp2;show bodyPostS _ _ _ _ _ _ _ _ _;cases c₀
 simp_all [bodyPostS,results,Tryz.results214]
theorem aM.below{w w':tF}{R B:Nat}{zs:tJ}(h:aM w R zs)(hb:Below B w w')(hR:R<B):aM w' R zs:=⟨h.1,(hb.block R hR).trans h.2⟩
def iS(l:tJ):Nat→Nat→Int
 |_,0=>0
 |s,n+1=>if dI l s=0 then iS l (s+1) n else dI l s
def jr(k:Int):Bool:=decide (k=2∨k=5)
def fC(l:tJ):List Int:=
 [au l 0,au l 1,au l 2,au l 3]++(if jr (au l 0)then[au l 4,au l 5,au l 6,au l 7,au l 8,au l 9]else[0,0,0,0,0,0])
def jQ(l:tJ):Int:=aE (au l 0) (au l 1) (au l 2) (au l 3) ((fC l).getD 4 0) ((fC l).getD 5 0) ((fC l).getD 6 0) ((fC l).getD 7 0) ((fC l).getD 8 0) ((fC l).getD 9 0)
def eU:List Int:=[0,0,0,0,0,0,0,0,0,0]
def bR(l:tJ):List Int×Int:=
 if ¬iS l 0 4=0 then(eU,iS l 0 4)
 else if jr (au l 0)=true∧¬iS l 4 6=0 then(eU,iS l 4 6)
 else if ¬l.length=4*(if jr (au l 0)then 10 else 4)∨¬jQ l=0 then(eU,3)
 else(fC l,0)
def jS(zs:tJ):Value:= .agg (zs.map (Value.int .i64)).toArray
theorem nm(l:tJ):∀(n s t:Nat),t<n→(∀u,u<t→dI l (s+u)=0)→dI l (s+t)≠0→iS l s n=dI l (s+t)
 |0,_,_,h,_,_=>by omega
 |n+1,s,0,_,_,h=>by simp only[iS];rw[if_neg (by simpa using h)];rfl
 |n+1,s,t+1,ht,hu,h=>by
  simp only[iS];rw[if_pos (by simpa using hu 0 (by omega)),nm l n (s+1) t (by omega) (fun u aW=>by have:=hu (u+1) (by omega);rw[show s+1+u=s+(u+1) by omega];exact this) (by rw[show s+1+t=s+(t+1) by omega];exact h)];rw[show s+1+t=s+(t+1) by omega]
theorem iT(l:tJ):∀(n s:Nat),(∀u,u<n→dI l (s+u)=0)→iS l s n=0
 |0,_,_=>rfl
 |n+1,s,h=>by
  simp only[iS];rw[if_pos (by simpa using h 0 (by omega))];exact iT l n (s+1) (fun u hu=>by rw[show s+1+u=s+(u+1) by omega];exact h (u+1) (by omega))
theorem pq(l:tJ)(t:Nat):dI (l.drop (4*4)) t=dI l (4+t):=by
 unfold dI;rw[List.drop_drop,show 4*4+4*t=4*(4+t) by omega]
theorem ka(l:tJ)(t:Nat):au (l.drop (4*4)) t=au l (4+t):=by
 unfold au;rw[List.drop_drop,show 4*4+4*t=4*(4+t) by omega]
theorem ED{l:tJ}{t:Nat}(ht:t<4)(hu:∀u,u<t→dI l u=0)(h:dI l t≠0):bR l=(eU,dI l t):=by
 have h1:=nm l 4 0 t ht (fun u aW=>by rw[Nat.zero_add];exact hu u aW) (by rw[Nat.zero_add];exact h);rw[Nat.zero_add]at h1;unfold bR;rw[h1,if_pos h]
theorem Bk{l:tJ}{t:Nat}(h0:∀u,u<4→dI l u=0)(hk:au l 0=2∨au l 0=5)(ht:t<6)(hu:∀u,u<t→dI l (4+u)=0)(h:dI l (4+t)≠0):bR l=(eU,dI l (4+t)):=by
 have h1:=iT l 4 0 (fun u aW=>by rw[Nat.zero_add];exact h0 u aW);have h2:=nm l 6 4 t ht hu h;unfold bR;rw[h1,if_neg (by simp),h2,if_pos ⟨by simp[jr,hk],h⟩]
theorem rH{l:tJ}(h0:∀u,u<4→dI l u=0)(hk:au l 0=2∨au l 0=5)(h4:∀u,u<6→dI l (4+u)=0):bR l=if ¬l.length=40∨¬jQ l=0 then(eU,3)else(fC l,0):=by
 have h1:=iT l 4 0 (fun u aW=>by rw[Nat.zero_add];exact h0 u aW);have h2:=iT l 6 4 h4;have h3:jr (au l 0)=true:=by simp[jr,hk]
 unfold bR;rw[h1,if_neg (by simp),h2,if_neg (by simp),h3];rfl
theorem mW{l:tJ}(h0:∀u,u<4→dI l u=0)(hk:¬(au l 0=2∨au l 0=5)):bR l=if ¬l.length=16∨¬jQ l=0 then(eU,3)else(fC l,0):=by
 have h1:=iT l 4 0 (fun u aW=>by rw[Nat.zero_add];exact h0 u aW);have h3:jr (au l 0)=false:=by simp only[jr,decide_eq_false_iff_not];exact hk
 unfold bR;rw[h1,if_neg (by simp),h3,if_neg (by simp)];rfl
theorem Ac{l:tJ}{n:Nat}(h:∀u,u<n+1→dI l u=0):4*(n+1)≤l.length:=by
 have h1:=h n (by omega);rcases Nat.lt_or_ge (l.drop (4*n)).length 4 with h'|h'
 ·unfold dI at h1;rw[ni h']at h1;simp at h1
 ·simp at h';omega
theorem wK(W:tF)(E:Nat)(y x:Int)(t:tY)(hE:W.heap[E]? =some (.cells #[iV y] t (0,0))):(W.setCell ⟨E,0,none⟩ (iV x)).cell? ⟨E,0,none⟩=some (iV x):=by
 have:=setCell_eq_setRow W E 0 _ _ (0,0) (iV x) hE;rw[this];simp[World.cell?,setRow_heap W E _ _ _ _ hE]
theorem aM.LF{W:tF}{R:Nat}{zs:tJ}(v0 v1 v2 v3 v4 v5 v6 v7 v8 v9:Int)(h:aM W R zs):aM ((((((((((W.setCell ⟨R,0,none⟩ (iV v0)).setCell ⟨R,1,none⟩ (iV v1)).setCell ⟨R,2,none⟩ (iV v2)).setCell ⟨R,3,none⟩ (iV v3)).setCell ⟨R,4,none⟩ (iV v4)).setCell ⟨R,5,none⟩ (iV v5)).setCell ⟨R,6,none⟩ (iV v6)).setCell ⟨R,7,none⟩ (iV v7)).setCell ⟨R,8,none⟩ (iV v8)).setCell ⟨R,9,none⟩ (iV v9)) R [v0,v1,v2,v3,v4,v5,v6,v7,v8,v9]:=by
 have hl:=h.1
 match zs,hl,h with
 |[_,_,_,_,_,_,_,_,_,_],_,h=>exact(((((((((h.set 0 v0).set 1 v1).set 2 v2).set 3 v3).set 4 v4).set 5 v5).set 6 v6).set 7 v7).set 8 v8).set 9 v9
theorem aP.LF(W:tF)(R:Nat)(v0 v1 v2 v3 v4 v5 v6 v7 v8 v9:Int):aP R W ((((((((((W.setCell ⟨R,0,none⟩ (iV v0)).setCell ⟨R,1,none⟩ (iV v1)).setCell ⟨R,2,none⟩ (iV v2)).setCell ⟨R,3,none⟩ (iV v3)).setCell ⟨R,4,none⟩ (iV v4)).setCell ⟨R,5,none⟩ (iV v5)).setCell ⟨R,6,none⟩ (iV v6)).setCell ⟨R,7,none⟩ (iV v7)).setCell ⟨R,8,none⟩ (iV v8)).setCell ⟨R,9,none⟩ (iV v9)):=
 (((((((((aP.set R 0 W _).trans (aP.set R 1 _ _)).trans (aP.set R 2 _ _)).trans (aP.set R 3 _ _)).trans (aP.set R 4 _ _)).trans (aP.set R 5 _ _)).trans (aP.set R 6 _ _)).trans (aP.set R 7 _ _)).trans (aP.set R 8 _ _)).trans (aP.set R 9 _ _)
theorem kb{w W:tF}{zs:tJ}{y:Int}{t:tY}(v0 v1 v2 v3 v4 v5 v6 v7 v8 v9 x:Int)(hR:aM W w.heap.size zs)(hE:W.heap[w.heap.size+1]? =some (.cells #[iV y] t (0,0)))(hB:bZ w W):
  aM (((((((((((W.setCell ⟨w.heap.size,0,none⟩ (iV v0)).setCell ⟨w.heap.size,1,none⟩ (iV v1)).setCell ⟨w.heap.size,2,none⟩ (iV v2)).setCell ⟨w.heap.size,3,none⟩ (iV v3)).setCell ⟨w.heap.size,4,none⟩ (iV v4)).setCell ⟨w.heap.size,5,none⟩ (iV v5)).setCell ⟨w.heap.size,6,none⟩ (iV v6)).setCell ⟨w.heap.size,7,none⟩ (iV v7)).setCell ⟨w.heap.size,8,none⟩ (iV v8)).setCell ⟨w.heap.size,9,none⟩ (iV v9)).setCell ⟨w.heap.size+1,0,none⟩ (iV x)) w.heap.size [v0,v1,v2,v3,v4,v5,v6,v7,v8,v9]∧
  (((((((((((W.setCell ⟨w.heap.size,0,none⟩ (iV v0)).setCell ⟨w.heap.size,1,none⟩ (iV v1)).setCell ⟨w.heap.size,2,none⟩ (iV v2)).setCell ⟨w.heap.size,3,none⟩ (iV v3)).setCell ⟨w.heap.size,4,none⟩ (iV v4)).setCell ⟨w.heap.size,5,none⟩ (iV v5)).setCell ⟨w.heap.size,6,none⟩ (iV v6)).setCell ⟨w.heap.size,7,none⟩ (iV v7)).setCell ⟨w.heap.size,8,none⟩ (iV v8)).setCell ⟨w.heap.size,9,none⟩ (iV v9)).setCell ⟨w.heap.size+1,0,none⟩ (iV x)).cell? ⟨w.heap.size+1,0,none⟩=some (iV x)∧
  Below w.heap.size w (((((((((((W.setCell ⟨w.heap.size,0,none⟩ (iV v0)).setCell ⟨w.heap.size,1,none⟩ (iV v1)).setCell ⟨w.heap.size,2,none⟩ (iV v2)).setCell ⟨w.heap.size,3,none⟩ (iV v3)).setCell ⟨w.heap.size,4,none⟩ (iV v4)).setCell ⟨w.heap.size,5,none⟩ (iV v5)).setCell ⟨w.heap.size,6,none⟩ (iV v6)).setCell ⟨w.heap.size,7,none⟩ (iV v7)).setCell ⟨w.heap.size,8,none⟩ (iV v8)).setCell ⟨w.heap.size,9,none⟩ (iV v9)).setCell ⟨w.heap.size+1,0,none⟩ (iV x)):=by
 have h1:=hR.LF v0 v1 v2 v3 v4 v5 v6 v7 v8 v9;have h2:=aP.LF W w.heap.size v0 v1 v2 v3 v4 v5 v6 v7 v8 v9;generalize((((((((((W.setCell ⟨w.heap.size,0,none⟩ (iV v0)).setCell ⟨w.heap.size,1,none⟩ (iV v1)).setCell ⟨w.heap.size,2,none⟩ (iV v2)).setCell ⟨w.heap.size,3,none⟩ (iV v3)).setCell ⟨w.heap.size,4,none⟩ (iV v4)).setCell ⟨w.heap.size,5,none⟩ (iV v5)).setCell ⟨w.heap.size,6,none⟩ (iV v6)).setCell ⟨w.heap.size,7,none⟩ (iV v7)).setCell ⟨w.heap.size,8,none⟩ (iV v8)).setCell ⟨w.heap.size,9,none⟩ (iV v9))=V at h1 h2;have hE':V.heap[w.heap.size+1]? =some (.cells #[iV y] t (0,0)):=(h2.block _ (by omega)).trans hE;exact⟨h1.other (by omega) 0 _,wK V _ y x t hE',((hB.trans (h2.below (Nat.le_refl _))).setCell (p:=⟨w.heap.size+1,0,none⟩) (by simp) _)⟩
theorem im{w W:World}{zs:List Int}{x:Int}{tmps:Array Value}(h1:aM W w.heap.size zs)(h2:W.cell? ⟨w.heap.size+1,0,none⟩=some (.int .i64 x))(h3:Below w.heap.size w W)
  (t2:tmps[2]? =some (.pointer (some ⟨w.heap.size,0,none⟩))) (t3:tmps[3]? =some (.pointer (some ⟨w.heap.size+1,0,none⟩))):
  Leaves Tryz.prog Tryz.f189 tmps (fun e w'=>e= .returned (.tuple #[jS zs,.int .i64 x])∧Below w.heap.size w w') [] .returning W:=by
 have hl:=h1.1;have k0:=h1.cell 0 (by omega);have k1:=h1.cell 1 (by omega);have k2:=h1.cell 2 (by omega);have k3:=h1.cell 3 (by omega);have k4:=h1.cell 4 (by omega);have k5:=h1.cell 5 (by omega);have k6:=h1.cell 6 (by omega);have k7:=h1.cell 7 (by omega);have k8:=h1.cell 8 (by omega);have k9:=h1.cell 9 (by omega);clear h1
 match zs,hl with
 |[y0,y1,y2,y3,y4,y5,y6,y7,y8,y9],_=>
  simp at k0 k1 k2 k3 k4 k5 k6 k7 k8 k9;simp[Leaves,results,Tryz.results189,go_sem,k0,k1,k2,k3,k4,k5,k6,k7,k8,k9,h2,jS,t2,t3,h3]
theorem EE(k:Int)(t:tJ)(h0:0≤k)(h1:k≤2147483647):ia (four k++t)=(k,0):=by
 unfold ia four;have hl:¬([k/16777216,k/65536 % 256,k/256 % 256,k % 256]++t).length<4:=by simp
 rw[if_neg hl];simp only[List.cons_append,List.getD_cons_zero,List.getD_cons_succ];rw[if_neg (by omega)];congr 1;omega
theorem lt8(a b:Int)(ha0:0≤a)(ha1:a≤255)(vU:0≤b)(oD:b≤255):decide (UInt8.ofNat a.toNat<UInt8.ofNat b.toNat)=decide (a<b):=by
 rw[decide_eq_decide,UInt8.lt_iff_toNat_lt];simp only[UInt8.toNat_ofNat'];omega
theorem JT(a:tG)(len cap:Nat)(l:tJ)(w:tF)(hb:RowK .u8 w a len l)(vS:len≤cap)(hc:cap≤9223372036854775807):
  cA 189 #[.slice a len cap] w (rB (.tuple #[jS (bR l).1,iV (bR l).2]) w):=by
 have hmf:∀(fn:Fn) (first cap:tR) (w:tF),(Instr.makeFunc fn first cap).run Tryz.prog w= .ok (.func fn first cap) w:=fun _ _ _ _=>rfl;have Z0:aM ((w.alloc (.cells #[iV 0,iV 0,iV 0,iV 0,iV 0,iV 0,iV 0,iV 0,iV 0,iV 0] 167)).alloc (.cells #[iV 0] 35)) w.heap.size eU:=by
  refine⟨rfl, ?_⟩;rw[Below.heap_alloc _ _ _ (by simp)];exact heap_alloc_new w _
 have DC:((w.alloc (.cells #[iV 0,iV 0,iV 0,iV 0,iV 0,iV 0,iV 0,iV 0,iV 0,iV 0] 167)).alloc (.cells #[iV 0] 35)).heap[w.heap.size+1]? =some (.cells #[iV 0] 35 (0,0)):=by
  have:=heap_alloc_new (w.alloc (.cells #[iV 0,iV 0,iV 0,iV 0,iV 0,iV 0,iV 0,iV 0,iV 0,iV 0] 167)) (.cells #[iV 0] 35);simpa using this
 have HR0:=bD Z0;have HE0:=bD DC;have HB:=bD hb;clear Z0 DC hb
 go_enter_defers Tryz.func189,Tryz.ntmps189
 go_wp2_with fail
 refine(jn _ _).mono ?_;rintro e w1 ⟨rfl,b1⟩;have QE:w.heap.size+2≤w1.heap.size:=by have:=b1.size;simp at this;omega
 have HR1:=bD ((ae HR0).below b1 (by simp;omega));have HE1:Hid (w1.heap[w.heap.size+1]? =some (.cells #[iV 0] 35 (0,0))):=bD ((b1.block (w.heap.size+1) (by simp)).trans (ae HE0));have HB1:=bD (uA b1);have HW1:=bD ((ae HB).below (ae HB1));have hblk:∀x,a=some x→0<len→x.block≠w.heap.size:=fun x hx h0=>by
  obtain⟨b0,o0,vU,Im,_⟩:=(ae HB).cell 0 h0;rw[hx]at vU;simp at vU;subst vU;exact Nat.ne_of_lt Im
 have HK:=bD hblk;clear HR0 HE0 b1 HB hblk
 go_wp2_with fail
 have Y4:=bD ((ae HR1).below (aB w1 (.cells (d_ w.heap.size) 294)) (by omega));have zy:Hid ((w1.alloc (.cells (d_ w.heap.size) 294)).heap[w.heap.size+1]? =some (.cells #[iV 0] 35 (0,0))):=bD (((aB w1 (.cells (d_ w.heap.size) 294)).block (w.heap.size+1) (by omega)).trans (ae HE1));have HW2:=bD ((ae HW1).below (aB w1 (.cells (d_ w.heap.size) 294)));have th:=bD (Below.next (ae HB1) (aB w1 (.cells (d_ w.heap.size) 294)));have HP2:Hid (∀o,o<10→(w1.alloc (.cells (d_ w.heap.size) 294)).cell? ⟨w1.heap.size,o,none⟩=some (.pointer (some ⟨w.heap.size,o,none⟩))):=bD (fun o ho=>wH w1 _ o ho);clear HR1 HE1 HW1 HB1;refine(GR w1.heap.size w.heap.size 0 4 10 a len cap l eU _ (by omega) (by omega) (ae HP2) (ae Y4) (ae HW2) (ae HK) vS hc).mono ?_;rintro e w2 ⟨(⟨a',bg,fy,rfl,wI,ee,hne',hlc',hc',hrec⟩|⟨t,zs',ht,aW,hez,rfl,hrec⟩),hsame⟩
 rotate_left
 ·have hE3:w2.heap[w.heap.size+1]? =some (.cells #[iV 0] 35 (0,0)):=(hsame.block _ (by omega)).trans (ae zy);have Bb:=bD ((ae th).trans (hsame.below (Nat.le_refl _)));have HD:=bD (ED ht aW hez);have pT:=bD hrec;have LH:=bD hE3;clear Y4 zy HW2 th HP2 hsame hrec hE3 ht aW hez;go_wp2;refine leaves_cons (f:=214) (args:= #[.pointer (some ⟨w.heap.size,0,none⟩),.pointer (some ⟨w.heap.size+1,0,none⟩)]) (by simp) (by simp[go_sem]) ?_;refine(pN w.heap.size (w.heap.size+1) _ (dI l t) 0 35 _ (ae pT) (ae LH) (by omega)).mono ?_;rintro e u' w9 ⟨rfl,rfl,z1,z2,z3⟩;have BB:=(ae Bb).trans (z3.mono (by omega));rw[ae HD];exact im z1 z2 BB rfl rfl
 ·have hE3:w2.heap[w.heap.size+1]? =some (.cells #[iV 0] 35 (0,0)):=(hsame.block _ (by omega)).trans (ae zy);have Bb:=bD ((ae th).trans (hsame.below (Nat.le_refl _)));have HP3:Hid (∀o,o<10→w2.cell? ⟨w1.heap.size,o,none⟩=some (.pointer (some ⟨w.heap.size,o,none⟩))):=bD (fun o ho=>(hsame.cell (by omega)).trans (ae HP2 o ho));have pT:Hid (aM w2 w.heap.size [au l 0,au l 1,au l 2,au l 3,0,0,0,0,0,0]):=bD hrec;have LH:=bD hE3;have RF:=bD ee;have HX:=bD wI;have VJ:=bD hne';clear Y4 zy HW2 th HP2 hsame hrec hE3 ee wI HK hne';have kk:w2.cell? ⟨w.heap.size,0,none⟩=some (iV (au l 0)):=(ae pT).cell 0 (by omega)
  go_wp2_with fail
  by_cases hk:au l 0=2∨au l 0=5
  ·refine(vn _ _ hk).mono ?_;rintro e w3 ⟨rfl,rfl⟩;have E4:=bD hk;clear hk kk
   go_wp2_with fail
   refine(GR w1.heap.size w.heap.size 4 6 6 a' fy bg (l.drop (4*4)) [au l 0,au l 1,au l 2,au l 3,0,0,0,0,0,0] _ (by omega) (by omega) (ae HP3) (ae pT) (ae RF) (ae VJ) hlc' hc').mono ?_;rintro e w4 ⟨(⟨a4,cap4,VK,rfl,wI,ee,hne',_,_,hrec⟩|⟨t,zs',ht,aW,hez,rfl,hrec⟩),hsame⟩
   rotate_left
   ·have hE4:w4.heap[w.heap.size+1]? =some (.cells #[iV 0] 35 (0,0)):=(hsame.block _ (by omega)).trans (ae LH);have K9:=bD ((ae Bb).trans (hsame.below (Nat.le_refl _)));have HD:=bD (Bk (ae HX) (ae E4) ht (fun u hu=>by rw[←pq];exact aW u hu) (by rw[←pq];exact hez));have sj:=bD hrec;have Zb:=bD hE4;clear pT LH RF Bb HP3 hsame hrec hE4 ht aW hez;rw[pq];go_wp2;refine leaves_cons (f:=214) (args:= #[.pointer (some ⟨w.heap.size,0,none⟩),.pointer (some ⟨w.heap.size+1,0,none⟩)]) (by simp) (by simp[go_sem]) ?_;refine(pN w.heap.size (w.heap.size+1) _ (dI l (4+t)) 0 35 _ (ae sj) (ae Zb) (by omega)).mono ?_;rintro e u' w9 ⟨rfl,rfl,z1,z2,z3⟩;have BB:=(ae K9).trans (z3.mono (by omega));rw[ae HD];exact im z1 z2 BB rfl rfl
   ·have hE4:w4.heap[w.heap.size+1]? =some (.cells #[iV 0] 35 (0,0)):=(hsame.block _ (by omega)).trans (ae LH);have K9:=bD ((ae Bb).trans (hsame.below (Nat.le_refl _)));have XH:aM w4 w.heap.size [au l 0,au l 1,au l 2,au l 3,au l 4,au l 5,au l 6,au l 7,au l 8,au l 9]:=by
     have h:aM w4 w.heap.size [au l 0,au l 1,au l 2,au l 3,au (l.drop (4*4)) 0,au (l.drop (4*4)) 1,au (l.drop (4*4)) 2,au (l.drop (4*4)) 3,au (l.drop (4*4)) 4,au (l.drop (4*4)) 5]:=hrec;rw[ka,ka,ka,ka,ka,ka]at h;exact h
    have sj:=bD XH;have Zb:=bD hE4;have Zc:=bD ee;have HX4:Hid (∀u,u<6→dI l (4+u)=0):=bD (fun u hu=>by rw[←pq];exact wI u hu)
    have HX6:Hid (∀u,u<10→dI l u=0):=bD (fun u hu=>by
     by_cases h:u<4
     ·exact ae HX u h
     ·have:=ae HX4 (u-4) (by omega);rwa [show 4+(u-4)=u by omega]at this)
    clear pT LH RF Bb HP3 hsame hrec XH hE4 ee wI hne' VJ hlc' hc';have HF:Hid (jQ l=aE (au l 0) (au l 1) (au l 2) (au l 3) (au l 4) (au l 5) (au l 6) (au l 7) (au l 8) (au l 9)):=bD (by unfold jQ fC;rw[show jr (au l 0)=true from by simp only[jr,decide_eq_true_iff];exact ae E4];rfl);have HN:Hid (fC l=[au l 0,au l 1,au l 2,au l 3,au l 4,au l 5,au l 6,au l 7,au l 8,au l 9]):=bD (by unfold fC;rw[show jr (au l 0)=true from by simp only[jr,decide_eq_true_iff];exact ae E4];rfl);have HL:Hid (l.length-40=VK):=bD (by have:=(ae Zc).cB;simp at this;omega);have HL2:Hid (40≤l.length):=bD (Ac (ae HX6));by_cases Im:0<VK
    ·have HD:Hid (bR l=(eU,3)):=bD (by rw[rH (ae HX) (ae E4) (ae HX4),if_pos (.inl (by have:=ae HL;omega))]);have MI:(0:Int)<(VK:Int):=by omega
     have k0:=(ae sj).cell 0 (by omega);have k1:=(ae sj).cell 1 (by omega);have k2:=(ae sj).cell 2 (by omega);have k3:=(ae sj).cell 3 (by omega);have k4:=(ae sj).cell 4 (by omega);have k5:=(ae sj).cell 5 (by omega);have k6:=(ae sj).cell 6 (by omega);have k7:=(ae sj).cell 7 (by omega);have k8:=(ae sj).cell 8 (by omega);have k9:=(ae sj).cell 9 (by omega);simp only[List.getD_cons_zero,List.getD_cons_succ]at k0 k1 k2 k3 k4 k5 k6 k7 k8 k9;have kf:=(ae sj).free;have ke:w4.cell? ⟨w.heap.size+1,0,none⟩=some (iV 0):=by simp[World.cell?,ae Zb]
     have NR:w4.frozen? ⟨w.heap.size+1,0,none⟩=false:=by simp[World.frozen?,ae Zb]
     go_wp2;refine leaves_cons (f:=214) (args:= #[.pointer (some ⟨w.heap.size,0,none⟩),.pointer (some ⟨w.heap.size+1,0,none⟩)]) (by simp) (by simp[go_sem]) ?_;refine(j_ ⟨w.heap.size,0,none⟩ ⟨w.heap.size+1,0,none⟩ _).mono ?_;rintro e u' w9 ⟨rfl,rfl,rfl⟩;have Z:=kb 0 0 0 0 0 0 0 0 0 0 3 (ae sj) (ae Zb) (ae K9);clear k0 k1 k2 k3 k4 k5 k6 k7 k8 k9 kf ke NR;rw[ae HD];exact im Z.1 Z.2.1 Z.2.2 rfl rfl
    ·have Cg:VK=0:=by omega
     have RG:l.length=40:=by have:=ae HL;have:=ae HL2;omega
     have VL:=bD RG;clear RG Im;subst Cg;have k0:=(ae sj).cell 0 (by omega);have k1:=(ae sj).cell 1 (by omega);have k2:=(ae sj).cell 2 (by omega);have k3:=(ae sj).cell 3 (by omega);have k4:=(ae sj).cell 4 (by omega);have k5:=(ae sj).cell 5 (by omega);have k6:=(ae sj).cell 6 (by omega);have k7:=(ae sj).cell 7 (by omega);have k8:=(ae sj).cell 8 (by omega);have k9:=(ae sj).cell 9 (by omega);simp only[List.getD_cons_zero,List.getD_cons_succ]at k0 k1 k2 k3 k4 k5 k6 k7 k8 k9
     go_wp2_with fail
     refine(j8 _ _ _ _ _ _ _ _ _ _ _).mono ?_;rintro e w7 ⟨rfl,b7⟩;clear k0 k1 k2 k3 k4 k5 k6 k7 k8 k9;have lT:=bD ((ae sj).below b7 (ae sj).lt);have NS:Hid (w7.heap[w.heap.size+1]? =some (.cells #[iV 0] 35 (0,0))):=bD ((b7.block _ (lt_of_block (ae Zb))).trans (ae Zb));have QM:=bD (Below.next (ae K9) b7);by_cases hf:aE (au l 0) (au l 1) (au l 2) (au l 3) (au l 4) (au l 5) (au l 6) (au l 7) (au l 8) (au l 9)=0
     ·have HD:Hid (bR l=([au l 0,au l 1,au l 2,au l 3,au l 4,au l 5,au l 6,au l 7,au l 8,au l 9],0)):=bD (by rw[rH (ae HX) (ae E4) (ae HX4),if_neg (by rw[ae HF,ae VL,hf];simp),ae HN]);have XI:(aE (au l 0) (au l 1) (au l 2) (au l 3) (au l 4) (au l 5) (au l 6) (au l 7) (au l 8) (au l 9) !=0)=false:=by simpa using hf
      have k0:=(ae lT).cell 0 (by omega);have k1:=(ae lT).cell 1 (by omega);have k2:=(ae lT).cell 2 (by omega);have k3:=(ae lT).cell 3 (by omega);have k4:=(ae lT).cell 4 (by omega);have k5:=(ae lT).cell 5 (by omega);have k6:=(ae lT).cell 6 (by omega);have k7:=(ae lT).cell 7 (by omega);have k8:=(ae lT).cell 8 (by omega);have k9:=(ae lT).cell 9 (by omega);simp only[List.getD_cons_zero,List.getD_cons_succ]at k0 k1 k2 k3 k4 k5 k6 k7 k8 k9;have kf:=(ae lT).free;have ke:w7.cell? ⟨w.heap.size+1,0,none⟩=some (iV 0):=by simp[World.cell?,ae NS]
      have NR:w7.frozen? ⟨w.heap.size+1,0,none⟩=false:=by simp[World.frozen?,ae NS]
      go_wp2;refine leaves_cons (f:=214) (args:= #[.pointer (some ⟨w.heap.size,0,none⟩),.pointer (some ⟨w.heap.size+1,0,none⟩)]) (by simp) (by simp[go_sem]) ?_;refine(j_ ⟨w.heap.size,0,none⟩ ⟨w.heap.size+1,0,none⟩ _).mono ?_;rintro e u' w9 ⟨rfl,rfl,rfl⟩;have Z:=kb (au l 0) (au l 1) (au l 2) (au l 3) (au l 4) (au l 5) (au l 6) (au l 7) (au l 8) (au l 9) 0 (ae lT) (ae NS) (ae QM);clear k0 k1 k2 k3 k4 k5 k6 k7 k8 k9 kf ke NR;rw[ae HD];exact im Z.1 Z.2.1 Z.2.2 rfl rfl
     ·have HD:Hid (bR l=(eU,3)):=bD (by rw[rH (ae HX) (ae E4) (ae HX4),if_pos (.inr (by rw[ae HF];exact hf))]);have XI:(aE (au l 0) (au l 1) (au l 2) (au l 3) (au l 4) (au l 5) (au l 6) (au l 7) (au l 8) (au l 9) !=0)=true:=by simpa using hf
      have k0:=(ae lT).cell 0 (by omega);have k1:=(ae lT).cell 1 (by omega);have k2:=(ae lT).cell 2 (by omega);have k3:=(ae lT).cell 3 (by omega);have k4:=(ae lT).cell 4 (by omega);have k5:=(ae lT).cell 5 (by omega);have k6:=(ae lT).cell 6 (by omega);have k7:=(ae lT).cell 7 (by omega);have k8:=(ae lT).cell 8 (by omega);have k9:=(ae lT).cell 9 (by omega);simp only[List.getD_cons_zero,List.getD_cons_succ]at k0 k1 k2 k3 k4 k5 k6 k7 k8 k9;have kf:=(ae lT).free;have ke:w7.cell? ⟨w.heap.size+1,0,none⟩=some (iV 0):=by simp[World.cell?,ae NS]
      have NR:w7.frozen? ⟨w.heap.size+1,0,none⟩=false:=by simp[World.frozen?,ae NS]
      go_wp2;refine leaves_cons (f:=214) (args:= #[.pointer (some ⟨w.heap.size,0,none⟩),.pointer (some ⟨w.heap.size+1,0,none⟩)]) (by simp) (by simp[go_sem]) ?_;refine(j_ ⟨w.heap.size,0,none⟩ ⟨w.heap.size+1,0,none⟩ _).mono ?_;rintro e u' w9 ⟨rfl,rfl,rfl⟩;have Z:=kb 0 0 0 0 0 0 0 0 0 0 3 (ae lT) (ae NS) (ae QM);clear k0 k1 k2 k3 k4 k5 k6 k7 k8 k9 kf ke NR;rw[ae HD];exact im Z.1 Z.2.1 Z.2.2 rfl rfl
  ·refine(xG _ _ hk).mono ?_;rintro e w3 ⟨rfl,rfl⟩;have E4:=bD hk;clear hk kk HP3 VJ hlc' hc';have HF:Hid (jQ l=aE (au l 0) (au l 1) (au l 2) (au l 3) 0 0 0 0 0 0):=bD (by unfold jQ fC;rw[show jr (au l 0)=false from by simp only[jr,decide_eq_false_iff_not];exact ae E4];rfl);have HN:Hid (fC l=[au l 0,au l 1,au l 2,au l 3,0,0,0,0,0,0]):=bD (by unfold fC;rw[show jr (au l 0)=false from by simp only[jr,decide_eq_false_iff_not];exact ae E4];rfl);have HL:Hid (l.length-16=fy):=bD (by have:=(ae RF).cB;simp at this;omega);have HL2:Hid (16≤l.length):=bD (Ac (ae HX));by_cases Im:0<fy
   ·have HD:Hid (bR l=(eU,3)):=bD (by rw[mW (ae HX) (ae E4),if_pos (.inl (by have:=ae HL;omega))]);have MI:(0:Int)<(fy:Int):=by omega
    have k0:=(ae pT).cell 0 (by omega);have k1:=(ae pT).cell 1 (by omega);have k2:=(ae pT).cell 2 (by omega);have k3:=(ae pT).cell 3 (by omega);have k4:=(ae pT).cell 4 (by omega);have k5:=(ae pT).cell 5 (by omega);have k6:=(ae pT).cell 6 (by omega);have k7:=(ae pT).cell 7 (by omega);have k8:=(ae pT).cell 8 (by omega);have k9:=(ae pT).cell 9 (by omega);simp only[List.getD_cons_zero,List.getD_cons_succ]at k0 k1 k2 k3 k4 k5 k6 k7 k8 k9;have kf:=(ae pT).free;have ke:w2.cell? ⟨w.heap.size+1,0,none⟩=some (iV 0):=by simp[World.cell?,ae LH]
    have NR:w2.frozen? ⟨w.heap.size+1,0,none⟩=false:=by simp[World.frozen?,ae LH]
    go_wp2;refine leaves_cons (f:=214) (args:= #[.pointer (some ⟨w.heap.size,0,none⟩),.pointer (some ⟨w.heap.size+1,0,none⟩)]) (by simp) (by simp[go_sem]) ?_;refine(j_ ⟨w.heap.size,0,none⟩ ⟨w.heap.size+1,0,none⟩ _).mono ?_;rintro e u' w9 ⟨rfl,rfl,rfl⟩;have Z:=kb 0 0 0 0 0 0 0 0 0 0 3 (ae pT) (ae LH) (ae Bb);clear k0 k1 k2 k3 k4 k5 k6 k7 k8 k9 kf ke NR;rw[ae HD];exact im Z.1 Z.2.1 Z.2.2 rfl rfl
   ·have Cg:fy=0:=by omega
    have RG:l.length=16:=by have:=ae HL;have:=ae HL2;omega
    have VL:=bD RG;clear RG Im;subst Cg;have k0:=(ae pT).cell 0 (by omega);have k1:=(ae pT).cell 1 (by omega);have k2:=(ae pT).cell 2 (by omega);have k3:=(ae pT).cell 3 (by omega);have k4:=(ae pT).cell 4 (by omega);have k5:=(ae pT).cell 5 (by omega);have k6:=(ae pT).cell 6 (by omega);have k7:=(ae pT).cell 7 (by omega);have k8:=(ae pT).cell 8 (by omega);have k9:=(ae pT).cell 9 (by omega);simp only[List.getD_cons_zero,List.getD_cons_succ]at k0 k1 k2 k3 k4 k5 k6 k7 k8 k9
    go_wp2_with fail
    refine(j8 _ _ _ _ _ _ _ _ _ _ _).mono ?_;rintro e w7 ⟨rfl,b7⟩;clear k0 k1 k2 k3 k4 k5 k6 k7 k8 k9;have lT:=bD ((ae pT).below b7 (ae pT).lt);have NS:Hid (w7.heap[w.heap.size+1]? =some (.cells #[iV 0] 35 (0,0))):=bD ((b7.block _ (lt_of_block (ae LH))).trans (ae LH));have QM:=bD (Below.next (ae Bb) b7);by_cases hf:aE (au l 0) (au l 1) (au l 2) (au l 3) 0 0 0 0 0 0=0
    ·have HD:Hid (bR l=([au l 0,au l 1,au l 2,au l 3,0,0,0,0,0,0],0)):=bD (by rw[mW (ae HX) (ae E4),if_neg (by rw[ae HF,ae VL,hf];simp),ae HN]);have XI:(aE (au l 0) (au l 1) (au l 2) (au l 3) 0 0 0 0 0 0 !=0)=false:=by simpa using hf
     have k0:=(ae lT).cell 0 (by omega);have k1:=(ae lT).cell 1 (by omega);have k2:=(ae lT).cell 2 (by omega);have k3:=(ae lT).cell 3 (by omega);have k4:=(ae lT).cell 4 (by omega);have k5:=(ae lT).cell 5 (by omega);have k6:=(ae lT).cell 6 (by omega);have k7:=(ae lT).cell 7 (by omega);have k8:=(ae lT).cell 8 (by omega);have k9:=(ae lT).cell 9 (by omega);simp only[List.getD_cons_zero,List.getD_cons_succ]at k0 k1 k2 k3 k4 k5 k6 k7 k8 k9;have kf:=(ae lT).free;have ke:w7.cell? ⟨w.heap.size+1,0,none⟩=some (iV 0):=by simp[World.cell?,ae NS]
     have NR:w7.frozen? ⟨w.heap.size+1,0,none⟩=false:=by simp[World.frozen?,ae NS]
     go_wp2;refine leaves_cons (f:=214) (args:= #[.pointer (some ⟨w.heap.size,0,none⟩),.pointer (some ⟨w.heap.size+1,0,none⟩)]) (by simp) (by simp[go_sem]) ?_;refine(j_ ⟨w.heap.size,0,none⟩ ⟨w.heap.size+1,0,none⟩ _).mono ?_;rintro e u' w9 ⟨rfl,rfl,rfl⟩;have Z:=kb (au l 0) (au l 1) (au l 2) (au l 3) 0 0 0 0 0 0 0 (ae lT) (ae NS) (ae QM);clear k0 k1 k2 k3 k4 k5 k6 k7 k8 k9 kf ke NR;rw[ae HD];exact im Z.1 Z.2.1 Z.2.2 rfl rfl
    ·have HD:Hid (bR l=(eU,3)):=bD (by rw[mW (ae HX) (ae E4),if_pos (.inr (by rw[ae HF];exact hf))]);have XI:(aE (au l 0) (au l 1) (au l 2) (au l 3) 0 0 0 0 0 0 !=0)=true:=by simpa using hf
     have k0:=(ae lT).cell 0 (by omega);have k1:=(ae lT).cell 1 (by omega);have k2:=(ae lT).cell 2 (by omega);have k3:=(ae lT).cell 3 (by omega);have k4:=(ae lT).cell 4 (by omega);have k5:=(ae lT).cell 5 (by omega);have k6:=(ae lT).cell 6 (by omega);have k7:=(ae lT).cell 7 (by omega);have k8:=(ae lT).cell 8 (by omega);have k9:=(ae lT).cell 9 (by omega);simp only[List.getD_cons_zero,List.getD_cons_succ]at k0 k1 k2 k3 k4 k5 k6 k7 k8 k9;have kf:=(ae lT).free;have ke:w7.cell? ⟨w.heap.size+1,0,none⟩=some (iV 0):=by simp[World.cell?,ae NS]
     have NR:w7.frozen? ⟨w.heap.size+1,0,none⟩=false:=by simp[World.frozen?,ae NS]
     go_wp2;refine leaves_cons (f:=214) (args:= #[.pointer (some ⟨w.heap.size,0,none⟩),.pointer (some ⟨w.heap.size+1,0,none⟩)]) (by simp) (by simp[go_sem]) ?_;refine(j_ ⟨w.heap.size,0,none⟩ ⟨w.heap.size+1,0,none⟩ _).mono ?_;rintro e u' w9 ⟨rfl,rfl,rfl⟩;have Z:=kb 0 0 0 0 0 0 0 0 0 0 3 (ae lT) (ae NS) (ae QM);clear k0 k1 k2 k3 k4 k5 k6 k7 k8 k9 kf ke NR;rw[ae HD];exact im Z.1 Z.2.1 Z.2.2 rfl rfl
def bytesOf(x0 x1 x2 x3 x4 x5 x6 x7 x8 x9:Int):List Int:=if x0=2∨x0=5 then eF [x0,x1,x2,x3,x4,x5,x6,x7,x8,x9]else eF [x0,x1,x2,x3]
theorem NT(x0 x1 x2 x3 x4 x5 x6 x7 x8 x9:Int)(w:tF)(h:aE x0 x1 x2 x3 x4 x5 x6 x7 x8 x9=0):
  cA 179 #[.agg #[iV x0,iV x1,iV x2,iV x3,iV x4,iV x5,iV x6,iV x7,iV x8,iV x9]] w fun e w'=>
   ∃g n,e= .returned (.tuple #[.slice (some ⟨g,0,none⟩) n n,iV 0])∧n=(if x0=2∨x0=5 then 40 else 16)∧RowK .u8 w' (some ⟨g,0,none⟩) n (bytesOf x0 x1 x2 x3 x4 x5 x6 x7 x8 x9)∧bZ w w':=by
 by_cases hk:x0=2∨x0=5
 ·refine(JQ _ _ _ _ _ _ _ _ _ _ w h hk).mono ?_;rintro e w' ⟨g,rfl,_,hr,hb⟩;exact⟨g,40,rfl,by rw[if_pos hk],by unfold bytesOf;rw[if_pos hk];exact hr,hb⟩
 ·refine(GO _ _ _ _ _ _ _ _ _ _ w h hk).mono ?_;rintro e w' ⟨g,rfl,_,hr,hb⟩;exact⟨g,16,rfl,by rw[if_neg hk],by unfold bytesOf;rw[if_neg hk];exact hr,hb⟩
theorem Ah:∀(t:Nat) (zs:tJ),t≤zs.length→(eF zs).drop (4*t)=eF (zs.drop t)
 |0,zs,_=>by simp
 |t+1,[],h=>by simp at h
 |t+1,z::zs,h=>by
  have ih:=Ah t zs (by simpa using h);have:eF (z::zs)=four z++eF zs:=rfl;rw[this,show 4*(t+1)=4+4*t by omega,←List.drop_drop];have h4:(four z++eF zs).drop 4=eF zs:=rfl;rw[h4,ih];rfl
theorem GU(zs tail:tJ)(hr:∀n∈zs,0≤n∧n≤2147483647)(t:Nat)(ht:t<zs.length):au (eF zs++tail) t=zs.getD t 0∧dI (eF zs++tail) t=0:=by
 have hd:(eF zs++tail).drop (4*t)=eF (zs.drop t)++tail:=by
  rw[List.drop_append_of_le_length (by rw[nO];omega),Ah t zs (by omega)]
 unfold au dI;rw[hd,List.drop_eq_getElem_cons ht];have hm:=hr zs[t] (List.getElem_mem ht);have:eF (zs[t]::zs.drop (t+1))++tail=four zs[t]++(eF (zs.drop (t+1))++tail):=by
  rw[show eF (zs[t]::zs.drop (t+1))=four zs[t]++eF (zs.drop (t+1)) from rfl,List.append_assoc]
 rw[this,EE _ _ hm.1 hm.2];simp[ht]
theorem GV(x0 x1 x2 x3 x4 x5 x6 x7 x8 x9:Int)(tail:tJ)(hf:aE x0 x1 x2 x3 x4 x5 x6 x7 x8 x9=0)(hz:¬(x0=2∨x0=5)→x4=0∧x5=0∧x6=0∧x7=0∧x8=0∧x9=0):
  bR (bytesOf x0 x1 x2 x3 x4 x5 x6 x7 x8 x9++tail)=if tail=[]then([x0,x1,x2,x3,x4,x5,x6,x7,x8,x9],0)else(eU,3):=by
 have hr:=j9 hf;unfold bytesOf;by_cases hk:x0=2∨x0=5
 ·rw[if_pos hk];have A:=fun t ht=>GU [x0,x1,x2,x3,x4,x5,x6,x7,x8,x9] tail hr t ht;have hlen:(eF [x0,x1,x2,x3,x4,x5,x6,x7,x8,x9]++tail).length=40+tail.length:=by simp[nO]
  generalize eF [x0,x1,x2,x3,x4,x5,x6,x7,x8,x9]++tail=L at A hlen;have n0:au L 0=x0:=(A 0 (by simp)).1;have n1:au L 1=x1:=(A 1 (by simp)).1;have n2:au L 2=x2:=(A 2 (by simp)).1;have n3:au L 3=x3:=(A 3 (by simp)).1;have n4:au L 4=x4:=(A 4 (by simp)).1;have n5:au L 5=x5:=(A 5 (by simp)).1;have n6:au L 6=x6:=(A 6 (by simp)).1;have n7:au L 7=x7:=(A 7 (by simp)).1;have n8:au L 8=x8:=(A 8 (by simp)).1;have n9:au L 9=x9:=(A 9 (by simp)).1;have UA:jr x0=true:=by simp[jr,hk]
  have hn:fC L=[x0,x1,x2,x3,x4,x5,x6,x7,x8,x9]:=by unfold fC;rw[n0,UA,n1,n2,n3,n4,n5,n6,n7,n8,n9];rfl
  have hF:jQ L=0:=by unfold jQ;rw[hn,n0,n1,n2,n3];exact hf
  rw[rH (fun u hu=>(A u (by simp;omega)).2) (by rw[n0];exact hk) (fun u hu=>(A (4+u) (by simp;omega)).2),hF,hn,hlen];cases tail with
  |nil=>simp
  |cons y ys=>simp
 ·rw[if_neg hk];obtain⟨rfl,rfl,rfl,rfl,rfl,rfl⟩:=hz hk;have hr4:∀n∈[x0,x1,x2,x3],0≤n∧n≤2147483647:=fun n hn=>hr n (by simp at hn⊢;rcases hn with h|h|h|h<;>simp[h])
  have A:=fun t ht=>GU [x0,x1,x2,x3] tail hr4 t ht;have hlen:(eF [x0,x1,x2,x3]++tail).length=16+tail.length:=by simp[nO]
  generalize eF [x0,x1,x2,x3]++tail=L at A hlen;have n0:au L 0=x0:=(A 0 (by simp)).1;have n1:au L 1=x1:=(A 1 (by simp)).1;have n2:au L 2=x2:=(A 2 (by simp)).1;have n3:au L 3=x3:=(A 3 (by simp)).1;have UA:jr x0=false:=by simp only[jr,decide_eq_false_iff_not];exact hk
  have hn:fC L=[x0,x1,x2,x3,0,0,0,0,0,0]:=by unfold fC;rw[n0,UA,n1,n2,n3];rfl
  have hF:jQ L=0:=by unfold jQ;rw[hn,n0,n1,n2,n3];exact hf
  rw[mW (fun u hu=>(A u (by simp;omega)).2) (by rw[n0];exact hk),hF,hn,hlen];cases tail with
  |nil=>simp
  |cons y ys=>simp
def toldOf(b:tJ):Nat:=(256*b.getD 0 0+b.getD 1 0).toNat
def a_(b:tJ):Option (List Int×Nat):=
 if b.length<2 then none
 else if b.length<toldOf b+6 then none
 else if ¬four (sumOf (b.take (toldOf b+2)))=(b.drop (toldOf b+2)).take 4 then none
 else if ¬(bR ((b.drop 2).take (toldOf b))).2=0 then none
 else some ((bR ((b.drop 2).take (toldOf b))).1,toldOf b+6)
def j5:Nat→List Int→Nat→List (List Int)→List (List Int)×Nat
 |0,_,k,rs=>(rs,k)
 |f+1,b,k,rs=>match a_ (b.drop k)with
  |none=>(rs,k)
  |some (zs,m)=>j5 f b (k+m) (rs++[zs])
def bu(b:tJ):List (List Int)×Nat:=j5 (b.length+1) b 0 []
theorem rI{f:Nat}{b:tJ}{k:Nat}{rs:List (List Int)}(h:a_ (b.drop k)=none):j5 f b k rs=(rs,k):=by
 cases f with
 |zero=>rfl
 |succ f=>simp only[j5,h]
theorem pr{f:Nat}{b:tJ}{k m:Nat}{rs:List (List Int)}{zs:tJ}(h:a_ (b.drop k)=some (zs,m)):j5 (f+1) b k rs=j5 f b (k+m) (rs++[zs]):=by
 simp only[j5,h]
theorem gI{b zs:tJ}{m:Nat}(h:a_ b=some (zs,m)):
  2≤b.length∧m=toldOf b+6∧m≤b.length∧four (sumOf (b.take (toldOf b+2)))=(b.drop (toldOf b+2)).take 4∧bR ((b.drop 2).take (toldOf b))=(zs,0):=by
 unfold a_ at h;split at h
 ·cases h
 split at h
 ·cases h
 split at h
 ·cases h
 split at h
 ·cases h
 rename_i h1 h2 h3 h4;simp only[Option.some.injEq,Prod.mk.injEq]at h;refine⟨by omega,h.2.symm,by omega,Classical.not_not.1 h3, ?_⟩;exact Prod.ext h.1 (Classical.not_not.1 h4)
def CC(b:tJ)(k:Nat)(rs:List (List Int)):Prop:=k≤b.length∧∃f,b.length+1≤f+k∧j5 f b k rs=bu b
theorem xH(b:tJ):CC b 0 []:=⟨Nat.zero_le _,b.length+1,by omega,rfl⟩
theorem wM{b:tJ}{k:Nat}{rs:List (List Int)}(h:CC b k rs)(hn:a_ (b.drop k)=none):bu b=(rs,k):=by
 obtain⟨_,f,_,hf⟩:=h;rw[←hf,rI hn]
theorem Ai{b:tJ}{k m:Nat}{rs:List (List Int)}{zs:tJ}(h:CC b k rs)(hn:a_ (b.drop k)=some (zs,m)):CC b (k+m) (rs++[zs]):=by
 obtain⟨hk,f,hf,he⟩:=h;obtain⟨_,hm,hl,_⟩:=gI hn;rw[List.length_drop]at hl;cases f with
 |zero=>omega
 |succ f=>exact⟨by omega,f,by omega,by rw[←he,pr hn]⟩
theorem GW{b zs:tJ}{m:Nat}(h:a_ b=some (zs,m)):zs.length=10:=by
 obtain⟨_,_,_,_,hd⟩:=gI h;have:(bR ((b.drop 2).take (toldOf b))).1.length=10:=by
  unfold bR
  repeat' split
  all_goals first|rfl|(unfold fC;split<;>rfl)
 rw[hd]at this;exact this
theorem GX{b:tJ}(hw:∀u∈b,(Lit.int .u8 u).wf=true):(toldOf b:Int)=256*b.getD 0 0+b.getD 1 0:=by
 have h0:=fq hw 0;have h1:=fq hw 1;unfold toldOf;omega
theorem RowK.part{k:IntKind}{w:tF}{b off len:Nat}{l:tJ}(h:RowK k w (some ⟨b,off,none⟩) len l)(a:tG)(lo n:Nat)(hle:lo+n≤len)(ha:0<n→a=some ⟨b,off+lo,none⟩):RowK k w a n ((l.drop lo).take n):=by
 have hl:=h.cB;refine⟨by simp;omega,fun u hu=>h.wf u (List.mem_of_mem_drop (List.mem_of_mem_take hu)),fun i hi=> ?_⟩;refine⟨b,off+lo,ha (by omega),h.lt (by omega), ?_⟩;have:=h.at (lo+i) (by omega);rw[Nat.add_assoc,this];simp[List.getD_eq_getElem?_getD,hi]
theorem CD(a a':tG)(len fy cap bg:Nat)(l l':tJ)(w:tF)(h:RowK .u8 w a len l)(h':RowK .u8 w a' fy l'):
  cA 187 #[.slice a len cap,.slice a' fy bg] w fun e w'=>
   e= .returned (.bool ((strOfNums l).toList==(strOfNums l').toList))∧w=w':=by
 have c1:=qu (P:=Tryz.prog) 122 5 Tryz.underlying122 Tryz.underlying5 (cap:=cap) h 9 Tryz.underlying9;have c2:=qu (P:=Tryz.prog) 122 5 Tryz.underlying122 Tryz.underlying5 (cap:=bg) h' 9 Tryz.underlying9;clear h h';go_enter Tryz.func187,Tryz.ntmps187;go_wp2;go_ret;exact⟨rfl,rfl⟩
theorem N0{l l':tJ}(hw:∀u∈l,(Lit.int .u8 u).wf=true)(hw':∀u∈l',(Lit.int .u8 u).wf=true)(h:(strOfNums l).toList=(strOfNums l').toList):l=l':=by
 rw[Go.Lib.strOfNums_toList,Go.Lib.strOfNums_toList]at h;unfold Go.Lib.bytesOf at h;refine List.ext_getElem (by have:=congrArg List.length h;simpa using this) fun i h1 h2=> ?_;have e:(l.map fun n=>UInt8.ofNat n.toNat)[i]? =(l'.map fun n=>UInt8.ofNat n.toNat)[i]? :=by rw[h]
 simp only[List.getElem?_map,List.getElem?_eq_getElem h1,List.getElem?_eq_getElem h2,Option.map_some,Option.some.injEq]at e;have b1:=bounds_u8 (hw _ (List.getElem_mem h1));have b2:=bounds_u8 (hw' _ (List.getElem_mem h2));have e2:=congrArg UInt8.toNat e;simp only[UInt8.toNat_ofNat']at e2;omega
theorem kF{W:tF}{R:Nat}{zs:tJ}{m:Int}{tmps:tR}(h1:aM W R zs)(t2:tmps[2]? =some (.pointer (some ⟨R,0,none⟩)))(t3:tmps[3]? =some (iV m)):
  (results Tryz.f144 tmps).run Tryz.prog W= .ok (.tuple #[jS zs,iV m]) W:=by
 have hl:=h1.1;have k0:=h1.cell 0 (by omega);have k1:=h1.cell 1 (by omega);have k2:=h1.cell 2 (by omega);have k3:=h1.cell 3 (by omega);have k4:=h1.cell 4 (by omega);have k5:=h1.cell 5 (by omega);have k6:=h1.cell 6 (by omega);have k7:=h1.cell 7 (by omega);have k8:=h1.cell 8 (by omega);have k9:=h1.cell 9 (by omega);clear h1
 match zs,hl with
 |[y0,y1,y2,y3,y4,y5,y6,y7,y8,y9],_=>
  simp at k0 k1 k2 k3 k4 k5 k6 k7 k8 k9;simp[results,Tryz.results144,go_sem,k0,k1,k2,k3,k4,k5,k6,k7,k8,k9,jS,t2,t3]
theorem RH(w:tF):∃W,W=w.alloc (.cells #[iV 0,iV 0,iV 0,iV 0,iV 0,iV 0,iV 0,iV 0,iV 0,iV 0] 167)∧
  aM W w.heap.size eU∧bZ w W∧W.heap.size=w.heap.size+1:=
 ⟨_,rfl,⟨rfl,heap_alloc_new w _⟩,aB _ _,bK _ _⟩
theorem VM(c0 c1:Int)(r0:0≤c0)(s0:c0≤255)(r1:0≤c1)(s1:c1≤255):bits .or .i64 (c0*256) c1=c0*256+c1:=
 bits_join .i64 62 (by decide) ma 8 _ _ (by omega) (by omega) (by omega) (by omega) (by omega) (by omega)
theorem aM.Zd{w:tF}{R:Nat}{x0 x1 x2 x3 x4 x5 x6 x7 x8 x9:Int}(h:aM w R [x0,x1,x2,x3,x4,x5,x6,x7,x8,x9]):
  w.cell? ⟨R,0,none⟩=some (iV x0)∧w.cell? ⟨R,1,none⟩=some (iV x1)∧w.cell? ⟨R,2,none⟩=some (iV x2)∧w.cell? ⟨R,3,none⟩=some (iV x3)∧w.cell? ⟨R,4,none⟩=some (iV x4)∧
  w.cell? ⟨R,5,none⟩=some (iV x5)∧w.cell? ⟨R,6,none⟩=some (iV x6)∧w.cell? ⟨R,7,none⟩=some (iV x7)∧w.cell? ⟨R,8,none⟩=some (iV x8)∧w.cell? ⟨R,9,none⟩=some (iV x9):=by
 have m0:=h.cell 0 (by omega);have m1:=h.cell 1 (by omega);have m2:=h.cell 2 (by omega);have m3:=h.cell 3 (by omega);have m4:=h.cell 4 (by omega);have m5:=h.cell 5 (by omega);have m6:=h.cell 6 (by omega);have m7:=h.cell 7 (by omega);have m8:=h.cell 8 (by omega);have m9:=h.cell 9 (by omega);simp only[List.getD_cons_zero,List.getD_cons_succ]at m0 m1 m2 m3 m4 m5 m6 m7 m8 m9;exact⟨m0,m1,m2,m3,m4,m5,m6,m7,m8,m9⟩
def bX(b:tJ):List Int×Nat:=match a_ b with
 |none=>(eU,0)
 |some p=>p
theorem ko(a:tG)(len cap:Nat)(w:tF)(h:len<2):
  cA 144 #[.slice a len cap] w (rB (.tuple #[jS eU,iV 0]) w):=by
 go_enter Tryz.func144,Tryz.ntmps144;go_wp2;obtain⟨W,hW,rb,B,_⟩:=RH w;rw[←hW];exact bodyPost_ret (kF rb rfl rfl) rfl ⟨rfl,B⟩
theorem N2(w:tF)(n:Nat):∃W,W=(w.alloc (.cells #[iV 0,iV 0,iV 0,iV 0,iV 0,iV 0,iV 0,iV 0,iV 0,iV 0] 167)).drewN n∧
  aM W w.heap.size eU∧bZ w W∧W.heap.size=w.heap.size+1:=
 ⟨_,rfl,⟨rfl,heap_alloc_new w _⟩,Below.next (aB _ _) (qv _ _),bK w _⟩
theorem EF(b off len cap:Nat)(l:tJ)(w:tF)(h:RowK .u8 w (some ⟨b,off,none⟩) len l)(h2:2≤len)(vS:len≤cap)(hc:cap≤9223372036854775807)(hm:len≤1000000):
  cA 144 #[.slice (some ⟨b,off,none⟩) len cap] w (rB (.tuple #[jS (bX l).1,iV (bX l).2]) w):=by
 have hl:=h.cB;have vU:=fq h.wf 0;have oD:=fq h.wf 1;have htc:=GX h.wf;have k0:=h.at 0 (by omega);have k1:=h.at 1 (by omega);have I_:=h.lt (by omega);rw[Nat.add_zero]at k0;generalize l.getD 0 0=c0 at vU htc k0;generalize l.getD 1 0=c1 at oD htc k1;obtain⟨p0,q0⟩:=vU;obtain⟨p1,q1⟩:=oD;have J:=VM c0 c1 p0 q0 p1 q1;obtain⟨n,hn⟩:∃n,toldOf l=n:=⟨_,rfl⟩;rw[hn]at htc;have HN:=bD hn;clear hn;have e1:2+(c0*256+c1)=((n+2:Nat):Int):=by omega
 have uR:n≤65535:=by omega
 have HT:=bD htc;have HE:=bD e1;clear htc e1;go_enter Tryz.func144,Tryz.ntmps144
 go_wp2_with fail
 go_quiet (fail)
 rw[ae HE];obtain⟨W,hW,rb,B0,S0⟩:=N2 w nq;rw[←hW];have r0:=h.below B0;clear hW k0 k1 h;obtain⟨E,hE⟩:∃E:Int,((n+2:Nat):Int)=E:=⟨_,rfl⟩;rw[hE];have DC:(0:Int)≤E:=by omega
 have hE1:E≤70000:=by omega
 have EZ:IntKind.i64.wrap (E+4)=E+4:=ma _ (by omega) (by omega);have XJ:Hid (((n+2:Nat):Int)=E):=hE;clear hE;by_cases ht:len<n+6
 ·have hd:(len:Int)<E+4:=by have:=ae XJ;omega
  have HP:Hid (bX l=(eU,0)):=by
   show bX l=(eU,0);unfold bX a_;rw[ae HN,if_neg (by omega),if_pos (by omega)]
  have hT:=bD ht;clear ht
  go_wp2_with fail
  go_quiet (fail)
  obtain⟨W1,hW1,Aj,B1⟩:∃W1,W1=W.drewN nq∧aM W1 w.heap.size eU∧bZ w W1:=⟨_,rfl,rb,Below.next B0 (qv _ _)⟩;rw[←hW1];clear hW1;have kf:=Aj.free;obtain⟨m0,m1,m2,m3,m4,m5,m6,m7,m8,m9⟩:=aM.Zd Aj;go_wp2;exact bodyPost_ret (kF (Aj.LF 0 0 0 0 0 0 0 0 0 0) rfl rfl) rfl ⟨by rw[ae HP];rfl,(aP.LF W1 w.heap.size 0 0 0 0 0 0 0 0 0 0).under B1 (Nat.le_refl _)⟩
 ·have hd:decide ((len:Int)<E+4)=false:=by have:=ae XJ;simp;omega
  have KP:E≤(cap:Int):=by have:=ae XJ;omega
  have hE3:E+4≤(cap:Int):=by have:=ae XJ;omega
  have hE4:E≤E+4:=by omega
  have hT:=bD ht;clear ht
  go_wp2_with fail
  have hEt:E.toNat=n+2:=by have:=ae XJ;omega
  have hE5:(E+4).toNat-E.toNat=4:=by omega
  have hTT:=ae hT;have rs:RowK .u8 W.drew (some ⟨b,off,none⟩) E.toNat (l.take (n+2)):=by rw[hEt];exact(r0.below (qv _ 1)).take (n+2) (by omega)
  have rp:RowK .u8 W (some ⟨b,off+E.toNat,none⟩) ((E+4).toNat-E.toNat) ((l.drop (n+2)).take 4):=by
   rw[hE5,hEt];exact r0.part _ (n+2) 4 (by omega) (fun _=>rfl)
  have abC:=RD (l.take (n+2));clear hTT hEt hE5;by_cases hq:four (sumOf (l.take (n+2)))=(l.drop (n+2)).take 4
  ·have hb:((strOfNums (four (sumOf (l.take (n+2))))).toList==(strOfNums ((l.drop (n+2)).take 4)).toList)=true:=by rw[hq];simp
   have HQ:=bD hq;clear hq
   go_region_held3 (fun _=>True) (trivial) ((first|(go_at_call 188;refine(Ab _ E.toNat _ (l.take (n+2)) _ rs (by omega)).mono ?_;rintro e w1 ⟨rfl,r1,bb⟩;have b2:bZ W w1:=Below.next (qv _ 1) bb;have r2:RowK .u8 w1 (some ⟨w.heap.size+1,0,none⟩) 4 (four (sumOf (l.take (n+2)))):=(by rw[←S0];exact r1);have rp1:=rp.below b2)|(go_at_call 187;refine(CD _ _ _ _ _ _ (four (sumOf (l.take (n+2)))) ((l.drop (n+2)).take 4) _ r2 rp1).mono ?_;rintro e w2 ⟨rfl,rfl⟩)))
   have Aj:=rb.below b2 rb.lt;have B1:=Below.next B0 b2;have z2:=b2.size;have hTT:=ae hT;have hEt:E.toNat-2=n:=by have:=ae XJ;omega
   have rd:RowK .u8 w1 (some ⟨b,off+2,none⟩) (E.toNat-2) ((l.drop 2).take n):=by rw[hEt];exact(r0.below b2).part _ 2 n (by omega) (fun _=>rfl)
   have hE6:(2:Int)≤E:=by have:=ae XJ;omega
   have hcc:E.toNat-2≤cap-2:=by omega
   have hcd:cap-2≤9223372036854775807:=by omega
   have abD:(bR ((l.drop 2).take n)).1.length=10:=by
    unfold bR
    repeat' split
    all_goals first|rfl|(unfold fC;split<;>rfl)
   have HU:Hid (bX l=if ¬(bR ((l.drop 2).take n)).2=0 then(eU,0)else((bR ((l.drop 2).take n)).1,n+6)):=by
    show bX l=_;unfold bX a_;rw[ae HN,if_neg (by omega),if_neg (by omega),if_neg (not_not_intro (ae HQ))];by_cases hz:(bR ((l.drop 2).take n)).2=0
    ·rw[if_neg (not_not_intro hz),if_neg (not_not_intro hz)]
    ·rw[if_pos hz,if_pos hz]
   have HDL:=bD abD;clear rs rp rp1 r1 r2 bb b2 rb B0 r0 abC hb hEt hTT hd abD
   go_wp2_with fail
   refine(JT _ _ _ ((l.drop 2).take n) _ rd hcc hcd).mono ?_;rintro e w3 ⟨rfl,b3⟩;have Ui:=Aj.below b3 Aj.lt;have B3:=Below.next B1 b3;obtain⟨zs,er,hde⟩:∃zs er,bR ((l.drop 2).take n)=(zs,er):=⟨_,_,rfl⟩;rw[hde]at HDL HU⊢;simp only at HU;have hlz:zs.length=10:=ae HDL;clear HDL hde rd Aj B1 b3;have kf:=Ui.free;have L3:=Ui.lt;obtain⟨m0,m1,m2,m3,m4,m5,m6,m7,m8,m9⟩:=aM.Zd Ui
   match zs,hlz with
   |[x0,x1,x2,x3,x4,x5,x6,x7,x8,x9],_=>
    simp only[jS,List.map_cons,List.map_nil];have HUU:=bD (ae HU);clear HU;by_cases Du:er=0
    ·subst Du;have HP:Hid (bX l=([x0,x1,x2,x3,x4,x5,x6,x7,x8,x9],n+6)):=by show bX l=_;rw[ae HUU,if_neg (not_not_intro rfl)]
     have abE:E+4=((n+6:Nat):Int):=by have:=ae XJ;omega
     have aeo:=bD abE;clear abE;go_wp2;have SB:=aP.LF w3 w.heap.size x0 x1 x2 x3 x4 x5 x6 x7 x8 x9;have RT:=Ui.LF x0 x1 x2 x3 x4 x5 x6 x7 x8 x9;have BT:=SB.under B3 (Nat.le_refl _);exact bodyPost_ret (kF (RT.below (aB _ _) RT.lt) rfl rfl) rfl ⟨by rw[ae HP,ae aeo],BT.alloc BT.size _⟩
    ·have fJ:(er==0)=false:=by simpa using Du
     have HP:Hid (bX l=(eU,0)):=by show bX l=_;rw[ae HUU,if_pos Du]
     clear Du;go_wp2;have SB:=aP.LF w3 w.heap.size 0 0 0 0 0 0 0 0 0 0;have RT:=Ui.LF 0 0 0 0 0 0 0 0 0 0;have BT:=SB.under B3 (Nat.le_refl _);exact bodyPost_ret (kF (RT.below (aB _ _) RT.lt) rfl rfl) rfl ⟨by rw[ae HP];rfl,BT.alloc BT.size _⟩
  ·have hb:((strOfNums (four (sumOf (l.take (n+2))))).toList==(strOfNums ((l.drop (n+2)).take 4)).toList)=false:=by
    simp only[beq_eq_false_iff_ne,ne_eq];exact fun hh=>hq (N0 abC rp.wf hh)
   have HP:Hid (bX l=(eU,0)):=by
    show bX l=(eU,0);have:=ae hT;unfold bX a_;rw[ae HN,if_neg (by omega),if_neg (by omega),if_pos hq]
   clear hq
   go_region_held3 (fun _=>True) (trivial) ((first|(go_at_call 188;refine(Ab _ E.toNat _ (l.take (n+2)) _ rs (by omega)).mono ?_;rintro e w1 ⟨rfl,r1,bb⟩;have b2:bZ W w1:=Below.next (qv _ 1) bb;have r2:RowK .u8 w1 (some ⟨w.heap.size+1,0,none⟩) 4 (four (sumOf (l.take (n+2)))):=(by rw[←S0];exact r1);have rp1:=rp.below b2)|(go_at_call 187;refine(CD _ _ _ _ _ _ (four (sumOf (l.take (n+2)))) ((l.drop (n+2)).take 4) _ r2 rp1).mono ?_;rintro e w2 ⟨rfl,rfl⟩)))
   have Aj:=rb.below b2 rb.lt;have B1:=Below.next B0 b2;have kf:=Aj.free;obtain⟨m0,m1,m2,m3,m4,m5,m6,m7,m8,m9⟩:=aM.Zd Aj;go_wp2;exact bodyPost_ret (kF (Aj.LF 0 0 0 0 0 0 0 0 0 0) rfl rfl) rfl ⟨by rw[ae HP];rfl,(aP.LF _ w.heap.size 0 0 0 0 0 0 0 0 0 0).under B1 (Nat.le_refl _)⟩
theorem GY(a:tG)(len cap:Nat)(l:tJ)(w:tF)(h:RowK .u8 w a len l)(vS:len≤cap)(hc:cap≤9223372036854775807)(hm:len≤1000000):
  cA 144 #[.slice a len cap] w (rB (.tuple #[jS (bX l).1,iV (bX l).2]) w):=by
 by_cases h2:len<2
 ·have hp:bX l=(eU,0):=by
   have:=h.cB;unfold bX a_;rw[if_pos (by omega)]
  rw[hp];exact ko a len cap w h2
 ·obtain⟨b,off,rfl⟩:=h.form (by omega);exact EF b off len cap l w h (by omega) vS hc hm
theorem Tryz.VN:(Tryz.prog.info? 167).map (fun i=>(i.zero,i.size,i.bytes))=some (some (.agg #[iV 0,iV 0,iV 0,iV 0,iV 0,iV 0,iV 0,iV 0,iV 0,iV 0]),10,80):=by kernel_rfl
def mE(rs:List (List Int)):List Value:=rs.flatten.map (Value.int .i64)
theorem Bl(rs:List (List Int))(zs:tJ):mE (rs++[zs])=mE rs++zs.map (Value.int .i64):=by simp[mE]
structure jc(w:tF)(a:tG)(rs:List (List Int)):Prop where
 LF:∀z∈rs,z.length=10
 cell:∀i,i<rs.length*10→∃b off,a=some ⟨b,off,none⟩∧b<w.heap.size∧w.cell? ⟨b,off+i,none⟩=some (iV (rs.flatten.getD i 0))
theorem GZ(rs:List (List Int))(h:∀z∈rs,z.length=10):rs.flatten.length=rs.length*10:=by
 induction rs with
 |nil=>rfl
 |cons z rs ih=>
  have:=h z (by simp);have:=ih (fun y hy=>h y (by simp[hy]));simp only[List.flatten_cons,List.length_append,List.length_cons];omega
theorem jc.below{w w':tF}{a:tG}{rs:List (List Int)}(h:jc w a rs)(hb:bZ w w'):jc w' a rs:=
 ⟨h.LF,fun i hi=>by
  obtain⟨b,off,ha,aW,hc⟩:=h.cell i hi
  exact⟨b,off,ha,Nat.lt_of_lt_of_le aW hb.size,(hb.cell aW).trans hc⟩⟩
theorem jc.nil(w:tF)(a:tG):jc w a []:=⟨by simp,fun i hi=>by simp at hi⟩
theorem jc.yS{w:tF}{base n:Nat}{v:tN}{rs:List (List Int)}(h:w.ownsRow base 167 10 v n (mE rs))(hn:rs.length=n)(ht:∀z∈rs,z.length=10):
  ∃a cap,v= .slice a n cap∧jc w a rs∧n≤cap∧cap≤maxLen∧(a=none→cap=0)∧(∀x,a=some x→base≤x.block):=by
 have hf:=GZ rs ht;rcases h.2 with⟨rfl,rfl⟩|⟨g,cap,cur,rfl,hb,hg,hc,hm,_⟩
 ·have:rs=[]:=List.length_eq_zero_iff.1 hn;subst this;exact⟨none,0,rfl,jc.nil _ _,Nat.le_refl _,by unfold maxLen;omega,fun _=>rfl,fun x hx=>by cases hx⟩
 ·refine⟨some ⟨g,0,none⟩,cap,rfl,⟨ht,fun i hi=> ?_⟩,hc,hm,by simp,fun x hx=>by simp at hx;subst hx;exact hb⟩;have hci:=h.cellAt i (by omega);have I_:=(h.lt g rfl).2;refine⟨g,0,rfl,I_, ?_⟩;rw[Nat.zero_add,hci,mE,List.getElem?_map,List.getElem?_eq_getElem (by omega)];simp[List.getElem?_eq_getElem (show i<rs.flatten.length by omega)]
theorem RI{w:tF}{R:Nat}{zs:tJ}(h:aM w R zs):∀j u,(zs.map (Value.int .i64))[j]? =some u→w.cell? ((⟨R,0,none⟩:Addr).add j)=some u:=by
 intro j u hj;have hl:=h.1;have hjl:j<zs.length:=by
  rcases Nat.lt_or_ge j zs.length with h'|h'
  ·exact h'
  ·simp[List.getElem?_eq_none h']at hj
 have Qc:(⟨R,0,none⟩:Addr).add j=⟨R,j,none⟩:=by unfold Addr.add;split<;>simp_all
 rw[Qc,h.cell j (by omega)];simp[List.getElem?_eq_getElem hjl]at hj;simp[List.getElem?_eq_getElem hjl,hj]
theorem RowK.from{k:IntKind}{w:tF}{b off len:Nat}{l:tJ}(h:RowK k w (some ⟨b,off,none⟩) len l)(a:tG)(lo:Nat)(ha:lo<len→a=some ⟨b,off+lo,none⟩):RowK k w a (len-lo) (l.drop lo):=by
 have hl:=h.cB;refine⟨by simp;omega,fun u hu=>h.wf u (List.mem_of_mem_drop hu),fun i hi=> ?_⟩;refine⟨b,off+lo,ha (by omega),h.lt (by omega), ?_⟩;have:=h.at (lo+i) (by omega);rw[Nat.add_assoc,this];simp[List.getD_eq_getElem?_getD]
theorem qM{W:tF}{v:tN}{n e:Int}{tmps:tR}(t2:tmps[2]? =some v)(t3:tmps[3]? =some (iV n))(t4:tmps[4]? =some (iV e)):
  (results Tryz.f93 tmps).run Tryz.prog W= .ok (.tuple #[v,iV n,iV e]) W:=by
 simp[results,Tryz.results93,go_sem,t2,t3,t4]
theorem VO(a:tG)(len cap:Nat)(s:Int)(w:tF)(hm:len≤140737488351232)(h:¬(len≤100000∧0≤s∧s≤len)):
  cA 93 #[.agg #[.slice a len cap,iV s]] w (rB (.tuple #[.slice none 0 0,iV 0,iV 6]) w):=by
 go_enter Tryz.func93,Tryz.ntmps93
 go_wp2_with fail
 refine(GP a len cap s _ hm h).mono ?_;rintro e w1 ⟨rfl,b1⟩;go_wp2;exact bodyPost_ret (qM rfl rfl rfl) rfl ⟨rfl,oR b1⟩
theorem Ak{b zs:tJ}{m:Nat}(h:a_ b=some (zs,m)):bX b=(zs,m):=by unfold bX;rw[h]
theorem Al{b:tJ}(h:a_ b=none):bX b=(eU,0):=by unfold bX;rw[h]
theorem N3(b off len cap:Nat)(l:tJ)(s:Int)(w:tF)(h:RowK .u8 w (some ⟨b,off,none⟩) len l)(vS:len≤cap)(hc:cap≤9223372036854775807)(h1:len≤100000)(h2:0≤s)(h3:s≤len):
  cA 93 #[.agg #[.slice (some ⟨b,off,none⟩) len cap,iV s]] w fun e w'=>
   ∃a' bg,e= .returned (.tuple #[.slice a' (bu l).1.length bg,iV (bu l).2,iV 0])∧jc w' a' (bu l).1∧(bu l).1.length≤bg∧bg≤9223372036854775807∧(a'=none→bg=0)∧(∀x,a'=some x→w.heap.size≤x.block)∧bZ w w':=by
 obtain⟨i0,hi,Cg,xV,wj⟩:=info_parts Tryz.VN;have hl:=h.cB;go_enter Tryz.func93,Tryz.ntmps93
 go_wp2_with fail
 obtain⟨W,hW,tb0,B0,S0⟩:∃W,W=w.alloc (.cells #[.slice (some ⟨b,off,none⟩) len cap,iV s] 124)∧aN W w.heap.size (some ⟨b,off,none⟩) len cap s∧bZ w W∧W.heap.size=w.heap.size+1:=⟨_,rfl,aN.new w _ len cap s,aB _ _,bK _ _⟩;rw[←hW];have r0:=h.below B0;clear hW h;refine(mf (some ⟨b,off,none⟩) len cap s _ h1 h2 h3).mono ?_;rintro e w1 ⟨rfl,b1⟩;have tq:=tb0.below b1 tb0.lt;have r1:=r0.below b1;have B1:=Below.next B0 b1;have z1:=b1.size;clear tb0 r0 B0 b1;go_wp2
 go_loopw [5,6] (fun v t wr=>∃(k:Nat) (rs:List (List Int)),t=iV k∧CC l k rs∧6*rs.length≤k∧(∀z∈rs,z.length=10)∧wr.ownsRow w1.heap.size 167 10 v rs.length (mE rs)∧bZ w1 wr)
  (fun _ t _=>len-(intOf t).toNat)
 case atStart=>exact⟨0,[],rfl,xH l,Nat.le_refl _,by simp,World.ownsRow_nil _ _ _ _,Below.refl _ _⟩
 case round=>
  obtain⟨k,rs,rfl,hgo,h6,hten,bN,gS⟩:=hrel;have hk:k≤len:=by have:=hgo.1;omega
  have It:(k:Int)≤(len:Int):=by omega
  have ahJ:(len:Int)≤(cap:Int):=by omega
  have xY:=tq.below gS tq.lt;have r2:=r1.below gS;have z2:=gS.size;have c0:=xY.cell0;have vT:=r2.wf;by_cases hck:cap=k
  ·have hu:a_ (l.drop k)=none:=by unfold a_;rw[if_pos (by simp;omega)]
   have aep:=hck.symm;clear hck;subst aep
   go_wp2_with fail
   refine(ko _ _ _ _ (by omega)).mono ?_;rintro e w3 ⟨rfl,b3⟩;have B3:bZ w1 w3:=gS.trans (b3.mono z2);have o3:=wJ bN b3;clear gS b3 bN xY r2 c0;have he:=wM hgo hu;simp only[jS,eU,List.map_cons,List.map_nil];obtain⟨a',bg,hv,hr,hc',hm',tf,hx'⟩:=jc.yS o3 rfl hten;subst hv;clear o3;go_wp2;refine bodyPost_ret (qM rfl rfl rfl) rfl ?_;rw[he];exact⟨a',bg,rfl,hr.below (aB _ _),hc',by unfold maxLen at hm';exact hm',tf,fun x hx=>by have:=hx' x hx;omega,Below.next (Below.next B1 B3) (aB _ _)⟩
  ·go_wp2_with fail
   refine(GY _ _ _ (l.drop k) _ (r2.from _ k (fun IF=>by first|rfl|omega)) (by omega) (by omega) (by omega)).mono ?_;rintro e w3 ⟨rfl,b3⟩;have B3:bZ w1 w3:=gS.trans (b3.mono z2);have o3:=wJ bN b3;clear gS b3 bN xY r2 c0;cases hu:a_ (l.drop k)with
   |none=>
    rw[Al hu];have he:=wM hgo hu;simp only[jS,eU,List.map_cons,List.map_nil];obtain⟨a',bg,hv,hr,hc',hm',tf,hx'⟩:=jc.yS o3 rfl hten;subst hv;clear o3;go_wp2;refine bodyPost_ret (qM rfl rfl rfl) rfl ?_;rw[he];exact⟨a',bg,rfl,hr.below (aB _ _),hc',by unfold maxLen at hm';exact hm',tf,fun x hx=>by have:=hx' x hx;omega,Below.next (Below.next B1 B3) (aB _ _)⟩
   |some p=>
    obtain⟨zs,m⟩:=p;have QO:=GW hu;obtain⟨_,hm6,hml,_,_⟩:=gI hu;have aeq:=bD (Ai hgo hu);rw[Ak hu];rw[List.length_drop]at hml;have hms:k+m≤len:=by omega
    have hm7:6≤m:=by omega
    have ahK:((m:Int)==0)=false:=by simp;omega
    have z3:=B3.size;clear hu hm6 hml
    match zs,QO with
    |[x0,x1,x2,x3,x4,x5,x6,x7,x8,x9],_=>
     simp only[jS,List.map_cons,List.map_nil]
     have rn:Hid (aM ((w3.alloc (.cells #[iV x0,iV x1,iV x2,iV x3,iV x4,iV x5,iV x6,iV x7,iV x8,iV x9] 167)).alloc (.cells #[iV x0,iV x1,iV x2,iV x3,iV x4,iV x5,iV x6,iV x7,iV x8,iV x9] 167)) (w3.heap.size+1) [x0,x1,x2,x3,x4,x5,x6,x7,x8,x9]):=⟨rfl,by
      have:=heap_alloc_new (w3.alloc (.cells #[iV x0,iV x1,iV x2,iV x3,iV x4,iV x5,iV x6,iV x7,iV x8,iV x9] 167)) (.cells #[iV x0,iV x1,iV x2,iV x3,iV x4,iV x5,iV x6,iV x7,iV x8,iV x9] 167);rw[bK]at this
      exact this⟩
     go_wp2_with (at_builtin;refine wpList_append_own _ rfl _ _ 176 rfl w1.heap.size 167 i0 _ 10 80 Tryz.underlying176 hi Cg xV wj rfl (by decide) _ _ _ rfl ((o3.alloc _).alloc _) ⟨w3.heap.size+1,0,none⟩ 1 1 ([x0,x1,x2,x3,x4,x5,x6,x7,x8,x9].map (Value.int .i64)) rfl rfl (RI (ae rn)) (ints_oneCell .i64 _) (by unfold maxLen;omega) (by omega) (by simp;omega) ?_;intro v' w5 hown5 hgrow5 _)
     have abF:=o3.lt;have R1:Hid (w5.ownsRow w1.heap.size 167 10 v' (rs++[[x0,x1,x2,x3,x4,x5,x6,x7,x8,x9]]).length (mE (rs++[[x0,x1,x2,x3,x4,x5,x6,x7,x8,x9]]))):=by
      rw[Bl,List.length_append];exact hown5
     have R2:bZ w1 w5:=((B3.alloc z3 _).alloc (by simp;omega) _).grown hgrow5 (by simp;omega) (by intro t ht;exact(abF t ht).1)
     have R3:Hid (∀z∈rs++[[x0,x1,x2,x3,x4,x5,x6,x7,x8,x9]],z.length=10):=bD (fun z hz=>by
      rcases List.mem_append.1 hz with hz|hz
      ·exact hten z hz
      ·simp at hz;subst hz;rfl)
     clear hown5 hgrow5 o3 rn abF;go_wp2
     go_roundw
     case rel=>exact⟨k+m,_,by go_num,ae aeq,by simp;omega,ae R3,ae R1,R2⟩
     case measure=>simp[intOf];omega
theorem Am:bu []=([],0):=rfl
theorem RJ(s:Int)(w:tF)(h2:0≤s)(h3:s≤((0:Nat):Int)):
  cA 93 #[.agg #[.slice none 0 0,iV s]] w (rB (.tuple #[.slice none 0 0,iV 0,iV 0]) w):=by
 go_enter Tryz.func93,Tryz.ntmps93
 go_wp2_with fail
 obtain⟨W,hW,tb0,B0,S0⟩:∃W,W=w.alloc (.cells #[.slice none 0 0,iV s] 124)∧aN W w.heap.size none 0 0 s∧bZ w W∧W.heap.size=w.heap.size+1:=⟨_,rfl,aN.new w _ 0 0 s,aB _ _,bK _ _⟩;rw[←hW];clear hW;refine(mf none 0 0 s _ (by omega) h2 h3).mono ?_;rintro e w1 ⟨rfl,b1⟩;have tq:=tb0.below b1 tb0.lt;have B1:=Below.next B0 b1;clear tb0 B0 b1;go_wp2
 go_loopw [5,6] (fun v t wr=>t=iV 0∧v= .slice none 0 0∧w1=wr) (fun _ _ _=>0)
 case atStart=>exact⟨rfl,rfl,rfl⟩
 case round=>
  obtain⟨rfl,rfl,rfl⟩:=hrel;have c0:=tq.cell0
  go_wp2_with fail
  refine(ko _ _ _ _ (by omega)).mono ?_;rintro e w3 ⟨rfl,b3⟩;have B3:=Below.next B1 b3;clear b3 B1 c0 tq;simp only[jS,eU,List.map_cons,List.map_nil];go_wp2;exact bodyPost_ret (qM rfl rfl rfl) rfl ⟨rfl,Below.next B3 (aB _ _)⟩
theorem N4(x:Addr)(cap:Nat)(s:Int)(w:tF)(h2:0≤s)(h3:s≤((0:Nat):Int)):
  cA 93 #[.agg #[.slice (some x) 0 cap,iV s]] w (rB (.tuple #[.slice none 0 0,iV 0,iV 0]) w):=by
 go_enter Tryz.func93,Tryz.ntmps93
 go_wp2_with fail
 obtain⟨W,hW,tb0,B0,S0⟩:∃W,W=w.alloc (.cells #[.slice (some x) 0 cap,iV s] 124)∧aN W w.heap.size (some x) 0 cap s∧bZ w W∧W.heap.size=w.heap.size+1:=⟨_,rfl,aN.new w _ 0 cap s,aB _ _,bK _ _⟩;rw[←hW];clear hW;refine(mf (some x) 0 cap s _ (by omega) h2 h3).mono ?_;rintro e w1 ⟨rfl,b1⟩;have tq:=tb0.below b1 tb0.lt;have B1:=Below.next B0 b1;clear tb0 B0 b1;go_wp2
 go_loopw [5,6] (fun v t wr=>t=iV 0∧v= .slice none 0 0∧w1=wr) (fun _ _ _=>0)
 case atStart=>exact⟨rfl,rfl,rfl⟩
 case round=>
  obtain⟨rfl,rfl,rfl⟩:=hrel;have c0:=tq.cell0
  go_wp2_with fail
  all_goals
   refine(ko _ _ _ _ (by omega)).mono ?_;rintro e w3 ⟨rfl,b3⟩;have B3:=Below.next B1 b3;clear b3 B1 c0 tq;simp only[jS,eU,List.map_cons,List.map_nil];go_wp2;exact bodyPost_ret (qM rfl rfl rfl) rfl ⟨rfl,Below.next B3 (aB _ _)⟩
theorem G0(a:tG)(len cap:Nat)(l:tJ)(s:Int)(w:tF)(h:RowK .u8 w a len l)(hn:a=none→cap=0)(vS:len≤cap)(hc:cap≤9223372036854775807)(h1:len≤100000)(h2:0≤s)(h3:s≤len):
  cA 93 #[.agg #[.slice a len cap,iV s]] w fun e w'=>
   ∃a' bg,e= .returned (.tuple #[.slice a' (bu l).1.length bg,iV (bu l).2,iV 0])∧jc w' a' (bu l).1∧(bu l).1.length≤bg∧bg≤9223372036854775807∧(a'=none→bg=0)∧(∀x,a'=some x→w.heap.size≤x.block)∧bZ w w':=by
 cases a with
 |none=>
  have U2:=hn rfl;subst U2;have Im:len=0:=by omega
  subst Im;have hl:l=[]:=List.length_eq_zero_iff.1 h.cB;subst hl;rw[Am];refine(RJ s w h2 h3).mono ?_;rintro e w' ⟨rfl,hb⟩;exact⟨none,0,rfl,jc.nil _ _,Nat.le_refl _,by omega,fun _=>rfl,(fun x hx=>by cases hx),hb⟩
 |some x=>
  obtain⟨b,off,sp⟩:=x;by_cases h0:0<len
  ·obtain⟨b',off',he⟩:=h.form h0;rw[he]at h⊢;exact N3 b' off' len cap l s w h vS hc h1 h2 h3
  ·have Im:len=0:=by omega
   subst Im;have hl:l=[]:=List.length_eq_zero_iff.1 h.cB;subst hl;rw[Am];refine(N4 ⟨b,off,sp⟩ cap s w h2 h3).mono ?_;rintro e w' ⟨rfl,hb⟩;exact⟨none,0,rfl,jc.nil _ _,Nat.le_refl _,by omega,fun _=>rfl,(fun x hx=>by cases hx),hb⟩
theorem G6(w:tF)(a:tG)(len cap:Nat)(s:Int)(x0 x1 x2 x3 x4 x5 x6 x7 x8 x9:Int):
  ∃W,W=((w.alloc (.cells #[.slice a len cap,iV s] 124)).alloc (.cells #[iV x0,iV x1,iV x2,iV x3,iV x4,iV x5,iV x6,iV x7,iV x8,iV x9] 167)).alloc (.cells #[.slice none 0 0,iV 0] 124)∧
  aN W w.heap.size a len cap s∧aM W (w.heap.size+1) [x0,x1,x2,x3,x4,x5,x6,x7,x8,x9]∧aN W (w.heap.size+1+1) none 0 0 0∧bZ w W∧W.heap.size=w.heap.size+1+1+1:=by
 refine⟨_,rfl, ?_, ?_, ?_, ?_, ?_⟩
 ·exact(((aN.new w a len cap s).below (aB _ _) (by simp)).below (aB _ _) (by simp;omega))
 ·have h0:((w.alloc (.cells #[.slice a len cap,iV s] 124)).alloc (.cells #[iV x0,iV x1,iV x2,iV x3,iV x4,iV x5,iV x6,iV x7,iV x8,iV x9] 167)).heap[w.heap.size+1]? =some (.cells #[iV x0,iV x1,iV x2,iV x3,iV x4,iV x5,iV x6,iV x7,iV x8,iV x9] 167):=by
   have:=heap_alloc_new (w.alloc (.cells #[.slice a len cap,iV s] 124)) (.cells #[iV x0,iV x1,iV x2,iV x3,iV x4,iV x5,iV x6,iV x7,iV x8,iV x9] 167);rw[bK]at this;exact this
  exact⟨rfl,by rw[Below.heap_alloc _ _ _ (by rw[bK,bK];omega)];exact h0⟩
 ·have:=aN.new ((w.alloc (.cells #[.slice a len cap,iV s] 124)).alloc (.cells #[iV x0,iV x1,iV x2,iV x3,iV x4,iV x5,iV x6,iV x7,iV x8,iV x9] 167)) none 0 0 0;rw[bK,bK]at this;exact this
 ·exact(mw _ _ _).alloc (by rw[bK,bK];omega) _
 ·rw[bK,bK,bK]
theorem CE{W:tF}{R:Nat}{a:tG}{len cap:Nat}{s e:Int}{tmps:tR}(h:aN W R a len cap s)(t:tmps[4]? =some (.pointer (some ⟨R,0,none⟩)))(te:tmps[5]? =some (iV e)):
  (results Tryz.f133 tmps).run Tryz.prog W= .ok (.tuple #[.agg #[.slice a len cap,iV s],iV e]) W:=by
 have k0:=h.cell0;have k1:=h.lE;simp[results,Tryz.results133,go_sem,k0,k1,t,te]
theorem N5{W:tF}{b:Nat}{t:tY}{f:Nat×Nat}(p q:Part)(hb:W.heap[b]? =some (.cells #[.slice p.a p.len p.cap,.slice q.a q.len q.cap] t f)):
  ∀k,k<[p,q].length→W.cell? ⟨b,0+k,none⟩=some (.slice ([p,q].getD k db).a ([p,q].getD k db).len ([p,q].getD k db).cap):=by
 intro k hk
 match k,hk with
 |0,_=>simp[World.cell?,hb]
 |1,_=>simp[World.cell?,hb]
theorem RK{W:tF}(p q:Part)(hp:RowK .u8 W p.a p.len p.l)(hpn:p.a=none→p.cap=0)(hq:RowK .u8 W q.a q.len q.l)(Ze:q.a=none→q.cap=0):
  ∀k,k<[p,q].length→RowK .u8 W ([p,q].getD k db).a ([p,q].getD k db).len ([p,q].getD k db).l∧(([p,q].getD k db).a=none→([p,q].getD k db).cap=0):=by
 intro k hk
 match k,hk with
 |0,_=>exact⟨hp,hpn⟩
 |1,_=>exact⟨hq,Ze⟩
theorem xI(x0 x1 x2 x3 x4 x5 x6 x7 x8 x9:Int):(bytesOf x0 x1 x2 x3 x4 x5 x6 x7 x8 x9).length=if x0=2∨x0=5 then 40 else 16:=by
 unfold bytesOf;split<;>simp[nO]
theorem JU(b:Nat)(t:tY)(f:Nat×Nat)(a:tG)(len cap:Nat)(l:tJ)(a':tG)(fy bg:Nat)(l':tJ)(W:tF)
  (xJ:W.heap[b]? =some (.cells #[.slice a len cap,.slice a' fy bg] t f)) (hb:b<W.heap.size) (hs:len+fy≤1000000)
  (hp:RowK .u8 W a len l) (hpn:a=none→cap=0) (hq:RowK .u8 W a' fy l') (Ze:a'=none→bg=0):
  cA 138 #[.slice (some ⟨b,0,none⟩) 2 2] W fun e w'=>
   ∃a2 cap2,e= .returned (.slice a2 (len+fy) cap2)∧RowK .u8 w' a2 (len+fy) (l++l')∧len+fy≤cap2∧(a2=none→cap2=0)∧cap2≤9223372036854775807∧(∀x,a2=some x→W.heap.size≤x.block)∧bZ W w':=by
 have e1:dz [⟨a,len,cap,l⟩,⟨a',fy,bg,l'⟩]=len+fy:=by simp[dz]
 have e2:ed [⟨a,len,cap,l⟩,⟨a',fy,bg,l'⟩]=l++l':=by simp[ed]
 have h:=sX b 0 2 [⟨a,len,cap,l⟩,⟨a',fy,bg,l'⟩] W (by simp) hb (by rw[e1];exact hs) (N5 ⟨a,len,cap,l⟩ ⟨a',fy,bg,l'⟩ xJ) (RK ⟨a,len,cap,l⟩ ⟨a',fy,bg,l'⟩ hp hpn hq Ze);rw[e1,e2]at h;exact h
theorem N6(a:tG)(len cap:Nat)(l:tJ)(s x0 x1 x2 x3 x4 x5 x6 x7 x8 x9:Int)(w:tF)(h:RowK .u8 w a len l)(hn:a=none→cap=0)(h1:len≤100000)(h2:0≤s)(h3:s≤len)(hf:aE x0 x1 x2 x3 x4 x5 x6 x7 x8 x9=0):
  cA 133 #[.agg #[.slice a len cap,iV s],.agg #[iV x0,iV x1,iV x2,iV x3,iV x4,iV x5,iV x6,iV x7,iV x8,iV x9]] w fun e w'=>
   (100000<len+((bytesOf x0 x1 x2 x3 x4 x5 x6 x7 x8 x9).length+6)∧e= .returned (.tuple #[.agg #[.slice none 0 0,iV 0],iV 14])∧bZ w w')∨
   (len+((bytesOf x0 x1 x2 x3 x4 x5 x6 x7 x8 x9).length+6)≤100000∧∃a' bg,e= .returned (.tuple #[.agg #[.slice a' (len+((bytesOf x0 x1 x2 x3 x4 x5 x6 x7 x8 x9).length+6)) bg,iV s],iV 0])∧
    RowK .u8 w' a' (len+((bytesOf x0 x1 x2 x3 x4 x5 x6 x7 x8 x9).length+6)) (l++dN (bytesOf x0 x1 x2 x3 x4 x5 x6 x7 x8 x9))∧len+((bytesOf x0 x1 x2 x3 x4 x5 x6 x7 x8 x9).length+6)≤bg∧(a'=none→bg=0)∧bg≤9223372036854775807∧(∀x,a'=some x→w.heap.size≤x.block)∧bZ w w'):=by
 have HL:Hid ((bytesOf x0 x1 x2 x3 x4 x5 x6 x7 x8 x9).length=if x0=2∨x0=5 then 40 else 16):=xI x0 x1 x2 x3 x4 x5 x6 x7 x8 x9;go_enter Tryz.func133,Tryz.ntmps133
 go_wp2_with fail
 obtain⟨W,hW,tb0,rb,tq,B0,S0⟩:=G6 w a len cap s x0 x1 x2 x3 x4 x5 x6 x7 x8 x9;rw[←hW];have r0:=h.below B0;clear hW h;refine(mf a len cap s _ h1 h2 h3).mono ?_;rintro e w1 ⟨rfl,b1⟩;have ta2:=tb0.below b1 tb0.lt;have xY:=tq.below b1 tq.lt;have Aj:=rb.below b1 rb.lt;have r1:=r0.below b1;have z1:=b1.size;have m0:=Aj.cell 0 (by omega);have m1:=Aj.cell 1 (by omega);have m2:=Aj.cell 2 (by omega);have m3:=Aj.cell 3 (by omega);have m4:=Aj.cell 4 (by omega);have m5:=Aj.cell 5 (by omega);have m6:=Aj.cell 6 (by omega);have m7:=Aj.cell 7 (by omega);have m8:=Aj.cell 8 (by omega);have m9:=Aj.cell 9 (by omega);simp only[List.getD_cons_zero,List.getD_cons_succ]at m0 m1 m2 m3 m4 m5 m6 m7 m8 m9;have B1:=Below.next B0 b1;clear b1 B0 tb0 tq rb Aj r0
 go_wp2_with fail
 refine(NT x0 x1 x2 x3 x4 x5 x6 x7 x8 x9 _ hf).mono ?_;rintro e w2 ⟨g,n,rfl,hnn,r2,b2⟩;have Pv:n=(bytesOf x0 x1 x2 x3 x4 x5 x6 x7 x8 x9).length:=r2.cB.symm;have uR:n≤40:=by rw[hnn];split<;>omega
 clear hnn HL;subst Pv;generalize hbs:bytesOf x0 x1 x2 x3 x4 x5 x6 x7 x8 x9=bs at r2 uR⊢;have ta3:=ta2.below b2 ta2.lt;have NK:=xY.below b2 xY.lt;have q2:=r1.below b2;have B2:=Below.next B1 b2;have z2:=b2.size;clear m0 m1 m2 m3 m4 m5 m6 m7 m8 m9 b2 xY ta2 r1 B1 hf;have HB:=bD hbs;clear hbs
 go_wp2_with fail
 refine(NO (some ⟨g,0,none⟩) bs.length bs.length bs _ r2 (by simp) (by omega)).mono ?_;rintro e w3 ⟨a3,cap3,rfl,r3,c3,n3,_,y3,b3⟩;have ta4:=ta3.below b3 ta3.lt;have Zf:=NK.below b3 NK.lt;have q3:=q2.below b3;have B3:=Below.next B2 b3;have z3:=b3.size;have k0:=ta4.cell0;have k1:=ta4.lE;have j0:=Zf.cell0;have j1:=Zf.lE;have jf:=Zf.free;clear ta3 NK q2 B2 b3 r2;by_cases G7:100000<len+(bs.length+6)
 ·have hd:(100000:Int)<(len:Int)+((bs.length+6:Nat):Int):=by omega
  have HF:=bD G7;clear G7;obtain⟨m,hm⟩:∃m,bs.length+6=m:=⟨_,rfl⟩;rw[hm]at hd⊢;go_wp2;exact bodyPost_ret (CE (Zf.store none 0 0 0) rfl rfl) rfl (.inl ⟨by rw[ae HB];exact ae HF,rfl,(cL w3 _ _ _).under B3 (by omega)⟩)
 ·have hd:¬(100000:Int)<(len:Int)+((bs.length+6:Nat):Int):=by omega
  have hS:w.heap.size<w3.heap.size:=by omega
  have hT:w.heap.size+1+1<w3.heap.size:=by omega
  have HF:=bD G7;clear j0 j1 jf G7;obtain⟨m,hm⟩:∃m,bs.length+6=m:=⟨_,rfl⟩;rw[hm]at hd r3 c3⊢
  go_wp2_with fail
  have BW:Below w3.heap.size w3 (w3.alloc (.cells #[.slice a len cap,.slice a3 m cap3] 122)).drew:=(aB _ _).drew;have xJ:(w3.alloc (.cells #[.slice a len cap,.slice a3 m cap3] 122)).drew.heap[w3.heap.size]? =some (.cells #[.slice a len cap,.slice a3 m cap3] 122):=heap_alloc_new w3 _;have RL:w3.heap.size<(w3.alloc (.cells #[.slice a len cap,.slice a3 m cap3] 122)).drew.heap.size:=by
   have:=bK w3 (.cells #[.slice a len cap,.slice a3 m cap3] 122);show w3.heap.size<(w3.alloc (.cells #[.slice a len cap,.slice a3 m cap3] 122)).heap.size;omega
  go_region_held3 (fun w'=>w'.cell? ⟨w.heap.size,0,none⟩=some (.slice a len cap)∧w'.cell? ⟨w.heap.size,1,none⟩=some (iV s)) (first|go_keep|exact⟨(b5.cell (p:=⟨w.heap.size,0,none⟩) hS).trans k0,(b5.cell (p:=⟨w.heap.size,1,none⟩) hS).trans k1⟩|exact⟨((cL w5 _ _ _).cell (by omega)).trans ((b5.cell (p:=⟨w.heap.size,0,none⟩) hS).trans k0),((cL w5 _ _ _).cell (by omega)).trans ((b5.cell (p:=⟨w.heap.size,1,none⟩) hS).trans k1)⟩) ((go_at_call 138;refine(JU w3.heap.size _ _ a len cap l a3 m cap3 (dN bs) _ xJ RL (by omega) (q3.below BW) hn (r3.below BW) n3).mono ?_;rintro e w5 ⟨a5,cap5,rfl,r5,c5,n5,m5,y5,bb⟩;have b5:bZ w3 w5:=Below.next BW bb;have RM:=Zf.below b5 hT;have j0:=RM.cell0;have j1:=RM.lE;have jf:=RM.free;have y6:∀x,a5=some x→w3.heap.size≤x.block:=fun x hx=>Nat.le_trans (Nat.le_of_lt RL) (y5 x hx)))
  go_wp2;refine bodyPost_ret (CE (RM.store a5 (len+m) cap5 s) rfl rfl) rfl (.inr ?_);have G7:=ae HF;rw[ae HB,hm];exact⟨by omega,a5,cap5,rfl,(cL w5 _ _ _).row r5 (fun x hx _=>by have:=y6 x hx;omega),c5,n5,m5,fun x hx=>by have:=y6 x hx;omega,(cL w5 _ _ _).under (Below.next B3 b5) (by omega)⟩
theorem vo(b:tJ):∀(f k:Nat) (rs:List (List Int)),k≤b.length→6*rs.length≤k→6*(j5 f b k rs).1.length≤(j5 f b k rs).2∧(j5 f b k rs).2≤b.length
 |0,k,rs,h1,h2=>⟨h2,h1⟩
 |f+1,k,rs,h1,h2=>by
  cases hu:a_ (b.drop k)with
  |none=>rw[rI hu];exact⟨h2,h1⟩
  |some p=>
   obtain⟨zs,m⟩:=p;rw[pr hu];obtain⟨_,hm,hl,_⟩:=gI hu;rw[List.length_drop]at hl;exact vo b f (k+m) (rs++[zs]) (by omega) (by simp;omega)
theorem gN(b:tJ):6*(bu b).1.length≤(bu b).2∧(bu b).2≤b.length:=vo b _ 0 [] (Nat.zero_le _) (Nat.le_refl _)
theorem pt{W:tF}{R:Nat}{a:tG}{len cap:Nat}{s e:Int}{tmps:tR}(h:aN W R a len cap s)(t:tmps[2]? =some (.pointer (some ⟨R,0,none⟩)))(te:tmps[3]? =some (iV e)):
  (results Tryz.f85 tmps).run Tryz.prog W= .ok (.tuple #[.agg #[.slice a len cap,iV s],iV e]) W:=by
 have k0:=h.cell0;have k1:=h.lE;simp[results,Tryz.results85,go_sem,k0,k1,t,te]
theorem JV(b:Nat)(t:tY)(f:Nat×Nat)(a:tG)(len cap:Nat)(l:tJ)(W:tF)
  (xJ:W.heap[b]? =some (.cells #[.slice a len cap] t f)) (hb:b<W.heap.size) (hs:len≤1000000) (hp:RowK .u8 W a len l) (hpn:a=none→cap=0):
  cA 138 #[.slice (some ⟨b,0,none⟩) 1 1] W fun e w'=>
   ∃a2 cap2,e= .returned (.slice a2 len cap2)∧RowK .u8 w' a2 len l∧len≤cap2∧(a2=none→cap2=0)∧cap2≤9223372036854775807∧(∀x,a2=some x→W.heap.size≤x.block)∧bZ W w':=by
 have e1:dz [⟨a,len,cap,l⟩]=len:=by simp[dz]
 have e2:ed [⟨a,len,cap,l⟩]=l:=by simp[ed]
 have h:=sX b 0 1 [⟨a,len,cap,l⟩] W (by simp) hb (by rw[e1];exact hs)
  (fun k hk=>by
   match k,hk with
   |0,_=>simp[World.cell?,xJ])
  (fun k hk=>by
   match k,hk with
   |0,_=>exact⟨hp,hpn⟩)
 rw[e1,e2]at h;exact h
def qN(k:Nat)(s:Int):Int:=if(k:Int)<s then(k:Int)else s
theorem N7{k:Nat}{s:Int}(h:(k:Int)<s):qN k s=k:=if_pos h
theorem N8{k:Nat}{s:Int}(h:¬(k:Int)<s):qN k s=s:=if_neg h
theorem aaj(a:tG)(len cap:Nat)(s:Int)(w:tF)(hm:len≤140737488351232)(h:¬(len≤100000∧0≤s∧s≤len)):
  cA 85 #[.agg #[.slice a len cap,iV s]] w (rB (.tuple #[.agg #[.slice none 0 0,iV 0],iV 6]) w):=by
 go_enter Tryz.func85,Tryz.ntmps85
 go_wp2_with fail
 obtain⟨W,hW,tb0,tq,B0,S0⟩:=nY w a len cap s;rw[←hW];clear hW;refine(VO a len cap s _ hm h).mono ?_;rintro e w1 ⟨rfl,b1⟩;have xY:=tq.below b1 tq.lt;have j0:=xY.cell0;have j1:=xY.lE;have jf:=xY.free;go_wp2;exact bodyPost_ret (pt (xY.store none 0 0 0) rfl rfl) rfl ⟨rfl,(cL w1 _ _ _).under (Below.next B0 b1) (by omega)⟩
theorem JW(a:tG)(len cap:Nat)(l:tJ)(s:Int)(w:tF)(h:RowK .u8 w a len l)(hn:a=none→cap=0)(vS:len≤cap)(hc:cap≤9223372036854775807)(h1:len≤100000)(h2:0≤s)(h3:s≤len):
    cA 85 #[.agg #[.slice a len cap,iV s]] w fun e w'=>
      ∃a' bg,e= .returned (.tuple #[.agg #[.slice a' (bu l).2 bg,iV (qN (bu l).2 s)],iV 0])∧RowK .u8 w' a' (bu l).2 (l.take (bu l).2)∧(bu l).2≤bg∧(a'=none→bg=0)∧bg≤9223372036854775807∧(∀x,a'=some x→w.heap.size≤x.block)∧bZ w w':=by
  have hl:=h.cB;have hb:=gN l;go_enter Tryz.func85,Tryz.ntmps85
  go_wp2_with fail
  obtain⟨W,hW,tb0,tq,B0,S0⟩:=nY w a len cap s;rw[←hW];have r0:=h.below B0;clear hW h;refine(G0 a len cap l s _ r0 hn vS hc h1 h2 h3).mono ?_;rintro e w3 ⟨aR,capR,rfl,_,_,_,_,_,b3⟩;have ta4:=tb0.below b3 tb0.lt;have Zf:=tq.below b3 tq.lt;have q3:=r0.below b3;have B3:=Below.next B0 b3;have z3:=b3.size;have k0:=ta4.cell0;have k1:=ta4.lE;have hS:w.heap.size<w3.heap.size:=by omega
  have hT:w.heap.size+1<w3.heap.size:=by omega
  clear tb0 tq r0 b3 B0;obtain⟨rs,k,hro⟩:∃rs k,bu l=(rs,k):=⟨_,_,rfl⟩;rw[hro]at hb⊢;simp only at hb⊢;have HR:=bD hro;clear hro;have IF:k≤len:=by omega
  have hkc:(k:Int)≤(cap:Int):=by omega
  have BW:Below w3.heap.size w3 (w3.alloc (.cells #[.slice a k cap] 122)).drew:=(aB _ _).drew;have xJ:(w3.alloc (.cells #[.slice a k cap] 122)).drew.heap[w3.heap.size]? =some (.cells #[.slice a k cap] 122):=heap_alloc_new w3 _;have RL:w3.heap.size<(w3.alloc (.cells #[.slice a k cap] 122)).drew.heap.size:=by
    have:=bK w3 (.cells #[.slice a k cap] 122);show w3.heap.size<(w3.alloc (.cells #[.slice a k cap] 122)).heap.size;omega
  have HW:=bD BW;have HC:=bD xJ;have HL:=bD RL;clear BW xJ RL;by_cases hs:(k:Int)<s
  all_goals
    go_wp2_with fail
    go_region_held3 (fun w'=>w'.cell? ⟨w.heap.size,0,none⟩=some (.slice a len cap)∧w'.cell? ⟨w.heap.size,1,none⟩=some (iV s)) (first|go_keep|exact⟨(b5.cell (p:=⟨w.heap.size,0,none⟩) hS).trans k0,(b5.cell (p:=⟨w.heap.size,1,none⟩) hS).trans k1⟩) ((go_at_call 138;refine(JV w3.heap.size _ _ a k cap (l.take k) _ (ae HC) (ae HL) (by omega) ((q3.take k IF).below (ae HW)) hn).mono ?_;rintro e w5 ⟨a5,cap5,rfl,r5,c5,n5,m5,y5,bb⟩;have b5:bZ w3 w5:=Below.next (ae HW) bb;have RM:=Zf.below b5 hT;have j0:=RM.cell0;have j1:=RM.lE;have jf:=RM.free;have y6:∀x,a5=some x→w3.heap.size≤x.block:=fun x hx=>Nat.le_trans (Nat.le_of_lt (ae HL)) (y5 x hx)))
    all_goals
      go_wp2
      first
        |(exfalso;omega)
        |(refine bodyPost_ret (pt (RM.store a5 k cap5 (min s (k:Int))) rfl rfl) rfl ?_
          rw[ae HR,show qN k s=min s (k:Int) by unfold qN;split<;>omega]
          exact⟨a5,cap5,rfl,(cL w5 _ _ _).row r5 (fun x hx _=>by have:=y6 x hx;omega),c5,n5,m5,fun x hx=>by have:=y6 x hx;omega,(cL w5 _ _ _).under (Below.next B3 b5) (by omega)⟩)
        |(refine bodyPost_ret (pt (RM.store a5 k cap5 (if(k:Int)<s then(k:Int)else s)) rfl rfl) rfl ?_
          rw[ae HR]
          exact⟨a5,cap5,rfl,(cL w5 _ _ _).row r5 (fun x hx _=>by have:=y6 x hx;omega),c5,n5,m5,fun x hx=>by have:=y6 x hx;omega,(cL w5 _ _ _).under (Below.next B3 b5) (by omega)⟩)
        |(refine bodyPost_ret (pt (RM.store a5 k cap5 (k:Int)) rfl rfl) rfl ?_
          rw[ae HR,N7 hs]
          exact⟨a5,cap5,rfl,(cL w5 _ _ _).row r5 (fun x hx _=>by have:=y6 x hx;omega),c5,n5,m5,fun x hx=>by have:=y6 x hx;omega,(cL w5 _ _ _).under (Below.next B3 b5) (by omega)⟩)
        |(refine bodyPost_ret (pt (RM.store a5 k cap5 s) rfl rfl) rfl ?_
          rw[ae HR,N8 (by simp only;omega)]
          exact⟨a5,cap5,rfl,(cL w5 _ _ _).row r5 (fun x hx _=>by have:=y6 x hx;omega),c5,n5,m5,fun x hx=>by have:=y6 x hx;omega,(cL w5 _ _ _).under (Below.next B3 b5) (by omega)⟩)
structure Rec where
 k:Int
 q:Int
 e:Int
 p:Int
 v:Ev
def Rec.fault(r:Rec):Int:=aE r.k r.q r.e r.p r.v.k r.v.p r.v.i r.v.b r.v.he r.v.hn
abbrev mG(r:Rec):Value:= .agg #[iV r.k,iV r.q,iV r.e,iV r.p,iV r.v.k,iV r.v.p,iV r.v.i,iV r.v.b,iV r.v.he,iV r.v.hn]
def kt(w:tF)(R:Nat)(r:Rec):Prop:=w.heap[R]? =some (.cells #[iV r.k,iV r.q,iV r.e,iV r.p,iV r.v.k,iV r.v.p,iV r.v.i,iV r.v.b,iV r.v.he,iV r.v.hn] 167 (0,0))
theorem kt.cells{w:tF}{R:Nat}{r:Rec}(h:kt w R r):w.cell? ⟨R,0,none⟩=some (iV r.k)∧w.cell? ⟨R,1,none⟩=some (iV r.q)∧w.cell? ⟨R,2,none⟩=some (iV r.e)∧w.cell? ⟨R,3,none⟩=some (iV r.p)∧w.cell? ⟨R,4,none⟩=some (iV r.v.k)∧w.cell? ⟨R,5,none⟩=some (iV r.v.p)∧w.cell? ⟨R,6,none⟩=some (iV r.v.i)∧w.cell? ⟨R,7,none⟩=some (iV r.v.b)∧w.cell? ⟨R,8,none⟩=some (iV r.v.he)∧w.cell? ⟨R,9,none⟩=some (iV r.v.hn):=by
 unfold kt at h;simp[World.cell?,h]
open Classical in
noncomputable def cX(B:Bt)(r:Rec):Option Bt:=
 if r.k=1 then(if r.p=0∧B.r=0∧B.e<r.e then some ⟨1,r.e,0,0,0,[]⟩else none)
 else if r.k=2 then(if r.p=0∧B.e=r.e∧B.r=1 then some (B.more [r.v])else none)
 else if r.k=3 then(if B.e=r.e∧B.r=1 then some ⟨3,B.e,B.f,r.p,B.o,B.es⟩else none)
 else if r.k=4 then(if(aT B r.e r.p).2=0 then some (aT B r.e r.p).1 else none)
 else if r.k=5 then(if r.p=0∧B.e=r.e∧B.r=4 then some (B.more [r.v])else none)
 else if r.k=6 then(if r.p=0∧B.e=r.e∧B.r=4 then some ⟨1,B.e,0,B.t,B.o,B.es++[Ev.brk]⟩else none)
 else(if r.p=0∧B.e=r.e∧B.r=3 then some ⟨0,B.e,0,0,0,[]⟩else none)
open Classical in
noncomputable def dX(B:Bt)(r:Rec):Bt×Int:=
 if ¬B.Ok then(Bt.zero,6)else if ¬r.fault=0 then(Bt.zero,r.fault)else match cX B r with
  |none=>(Bt.zero,3)
  |some D=>if D.Ok then(D,0)else(Bt.zero,3)
theorem Ao{B:Bt}{r:Rec}(ok:B.Ok)(h:r.fault=0)(hd:cX B r=none):dX B r=(Bt.zero,3):=by unfold dX;rw[if_neg (fun g=>g ok),if_neg (fun g=>g h),hd]
theorem CF{B D:Bt}{r:Rec}(ok:B.Ok)(h:r.fault=0)(hd:cX B r=some D)(hD:¬D.Ok):dX B r=(Bt.zero,3):=by unfold dX;rw[if_neg (fun g=>g ok),if_neg (fun g=>g h),hd];simp[hD]
theorem fw{B D:Bt}{r:Rec}(ok:B.Ok)(h:r.fault=0)(hd:cX B r=some D)(hD:D.Ok):dX B r=(D,0):=by unfold dX;rw[if_neg (fun g=>g ok),if_neg (fun g=>g h),hd];simp[hD]
theorem Rec.kinds{r:Rec}(h:r.fault=0):r.k=1∨r.k=2∨r.k=3∨r.k=4∨r.k=5∨r.k=6∨r.k=7:=by
 unfold Rec.fault aE at h;split at h
 ·omega
 ·rename_i h1;have:=Decidable.not_not.1 h1;omega
structure Mr(w wx:tF)(B:Bt)(a:tG)(c:Nat)(r:Rec):Prop where
 b:aG wx w.heap.size B.r B.e B.f B.t B.o a B.es.length c
 rc:kt wx (w.heap.size+1) r
 z:aG wx (w.heap.size+2) 0 0 0 0 0 none 0 0
 dC:bZ w wx
theorem Mr.made(w:tF)(B:Bt)(a:tG)(c:Nat)(r:Rec):∃W,W=((w.alloc (.cells (du B.r B.e B.f B.t B.o a B.es.length c) 49)).alloc (.cells #[iV r.k,iV r.q,iV r.e,iV r.p,iV r.v.k,iV r.v.p,iV r.v.i,iV r.v.b,iV r.v.he,iV r.v.hn] 167)).alloc (.cells (du 0 0 0 0 0 none 0 0) 49)∧Mr w W B a c r:=by
 have h0:=aG.new w B.r B.e B.f B.t B.o a B.es.length c;have h1:=heap_alloc_new (w.alloc (.cells (du B.r B.e B.f B.t B.o a B.es.length c) 49)) (.cells #[iV r.k,iV r.q,iV r.e,iV r.p,iV r.v.k,iV r.v.p,iV r.v.i,iV r.v.b,iV r.v.he,iV r.v.hn] 167);have h2:=aG.new ((w.alloc (.cells (du B.r B.e B.f B.t B.o a B.es.length c) 49)).alloc (.cells #[iV r.k,iV r.q,iV r.e,iV r.p,iV r.v.k,iV r.v.p,iV r.v.i,iV r.v.b,iV r.v.he,iV r.v.hn] 167)) 0 0 0 0 0 none 0 0;have s1:(w.alloc (.cells (du B.r B.e B.f B.t B.o a B.es.length c) 49)).heap.size=w.heap.size+1:=by simp
 have s2:((w.alloc (.cells (du B.r B.e B.f B.t B.o a B.es.length c) 49)).alloc (.cells #[iV r.k,iV r.q,iV r.e,iV r.p,iV r.v.k,iV r.v.p,iV r.v.i,iV r.v.b,iV r.v.he,iV r.v.hn] 167)).heap.size=w.heap.size+2:=by simp
 rw[s1]at h1;rw[s2]at h2;exact⟨_,rfl,(h0.next (aB _ _)).next (aB _ _),((aB _ _).block _ (by rw[s2];omega)).trans h1,h2,Below.next (Below.next (aB _ _) (aB _ _)) (aB _ _)⟩
def G8(w':tF)(base:Nat)(x:Ending)(o:Option Bt):Prop:=
 match o with
 |none=>x= .returned (.tuple #[bQ 0 0 0 0 0 none 0 0,.bool false])
 |some D=>∃a c,x= .returned (.tuple #[bQ D.r D.e D.f D.t D.o a D.es.length c,.bool true])∧w'.ownsRow base 55 6 (.slice a D.es.length c) D.es.length ((ak D.es).map (Value.int .i64))
def iU(B:Bt)(r:Rec):Option Bt:=if B.r=0∧B.e<r.e then some ⟨1,r.e,0,0,0,[]⟩else none
def yq(B:Bt):Bt:=⟨0,B.e,0,0,0,[]⟩
theorem sY{W:tF}{R:Nat}{r e f t o:Int}{a:tG}{n c:Nat}{ok:Bool}{tmps:tR}(d:aG W R r e f t o a n c)(t4:tmps[4]? =some (.pointer (some ⟨R,0,none⟩)))(t5:tmps[5]? =some (.bool ok)):
  (results Tryz.f217 tmps).run Tryz.prog W= .ok (.tuple #[bQ r e f t o a n c,.bool ok]) W:=by
 simp[results,Tryz.results217,t4,t5,asAddr,ew d]
theorem JX{W:tF}{R:Nat}{r e f t o:Int}{a:tG}{n c:Nat}{ok:Bool}{tmps:tR}(d:aG W R r e f t o a n c)(t4:tmps[4]? =some (.pointer (some ⟨R,0,none⟩)))(t5:tmps[5]? =some (.bool ok)):
  (results Tryz.f223 tmps).run Tryz.prog W= .ok (.tuple #[bQ r e f t o a n c,.bool ok]) W:=by
 simp[results,Tryz.results223,t4,t5,asAddr,ew d]
theorem G9(B:Bt)(a:tG)(c:Nat)(r:Rec)(w:tF):cA 217 #[bQ B.r B.e B.f B.t B.o a B.es.length c,mG r] w fun x w'=>G8 w' w.heap.size x (iU B r)∧bZ w w':=by
 go_enter Tryz.func217,Tryz.ntmps217
 go_upto_region 1 with fail
 obtain⟨W1,hW1,M1⟩:=Mr.made w B a c r;rw[←hW1];clear hW1;obtain⟨x0,x1,x2,x3,x4,x5⟩:=M1.b.cells;obtain⟨r0,r1,r2,r3,r4,r5,r6,r7,r8,r9⟩:=M1.rc.cells;obtain⟨z0,z1,z2,z3,z4,z5⟩:=M1.z.cells;have zf:=M1.z.free;have HM:=ai M1;clear M1;by_cases h1:B.r=0
 ·have e1:(B.r !=0)=false:=by simp[h1]
  by_cases h2:B.e<r.e
  ·have e2:¬r.e≤B.e:=by omega
   have hc:iU B r=some ⟨1,r.e,0,0,0,[]⟩:=by unfold iU;rw[if_pos ⟨h1,h2⟩]
   have HCO:=ai hc;clear h1 h2 hc;go_wp2;obtain⟨W4,hW4,d4,b4,_⟩:=dF (aa HM).z (aa HM).dC (show w.heap.size≤w.heap.size+2 by omega) 1 r.e 0 0 0 none 0 0;rw[←hW4];refine bodyPost_ret (sY d4 rfl rfl) rfl ⟨?_,b4⟩;rw[aa HCO];exact⟨none,0,rfl,World.ownsRow_nil _ _ _ _⟩
  ·have e2:r.e≤B.e:=by omega
   have hc:iU B r=none:=by unfold iU;rw[if_neg (fun h=>h2 h.2)]
   have HCO:=ai hc;clear h1 h2 hc;go_wp2;obtain⟨W4,hW4,d4,b4,_⟩:=dF (aa HM).z (aa HM).dC (show w.heap.size≤w.heap.size+2 by omega) 0 0 0 0 0 none 0 0;rw[←hW4];refine bodyPost_ret (sY d4 rfl rfl) rfl ⟨?_,b4⟩;rw[aa HCO];exact rfl
 ·have e1:(B.r !=0)=true:=by simp[h1]
  have hc:iU B r=none:=by unfold iU;rw[if_neg (fun h=>h1 h.1)]
  have HCO:=ai hc;clear h1 hc;go_wp2;obtain⟨W4,hW4,d4,b4,_⟩:=dF (aa HM).z (aa HM).dC (show w.heap.size≤w.heap.size+2 by omega) 0 0 0 0 0 none 0 0;rw[←hW4];refine bodyPost_ret (sY d4 rfl rfl) rfl ⟨?_,b4⟩;rw[aa HCO];exact rfl
theorem G_(B:Bt)(a:tG)(c:Nat)(r:Rec)(w:tF):cA 223 #[bQ B.r B.e B.f B.t B.o a B.es.length c,mG r] w fun x w'=>G8 w' w.heap.size x (some (yq B))∧bZ w w':=by
 go_enter Tryz.func223,Tryz.ntmps223
 go_upto_region 1 with fail
 obtain⟨W1,hW1,M1⟩:=Mr.made w B a c r;rw[←hW1];clear hW1;obtain⟨x0,x1,x2,x3,x4,x5⟩:=M1.b.cells;obtain⟨z0,z1,z2,z3,z4,z5⟩:=M1.z.cells;have zf:=M1.z.free;have HM:=ai M1;clear M1;go_wp2;obtain⟨W4,hW4,d4,b4,_⟩:=dF (aa HM).z (aa HM).dC (show w.heap.size≤w.heap.size+2 by omega) 0 B.e 0 0 0 none 0 0;rw[←hW4];exact bodyPost_ret (JX d4 rfl rfl) rfl ⟨⟨none,0,rfl,World.ownsRow_nil _ _ _ _⟩,b4⟩
theorem VP{W:tF}{R:Nat}{r e f t o:Int}{a:tG}{n c:Nat}{ok:Bool}{tmps:tR}(d:aG W R r e f t o a n c)(t4:tmps[4]? =some (.pointer (some ⟨R,0,none⟩)))(t5:tmps[5]? =some (.bool ok)):
  (results Tryz.f219 tmps).run Tryz.prog W= .ok (.tuple #[bQ r e f t o a n c,.bool ok]) W:=by
 simp[results,Tryz.results219,t4,t5,asAddr,ew d]
theorem Ha(w:tF)(x0 x1 x2 x3 x4 x5:Int)(t:tY):∀j u,([x0,x1,x2,x3,x4,x5].map (Value.int .i64))[j]? =some u→(w.alloc (.cells #[iV x0,iV x1,iV x2,iV x3,iV x4,iV x5] t)).cell? ((⟨w.heap.size,0,none⟩:Addr).add j)=some u:=by
 intro j u hj;exact abm w x0 x1 x2 x3 x4 x5 t j u hj
theorem kG{w w1 w2:tF}{row:Option Nat}(h:w.grownBy w1 row)(g:w1.grownBy w2 row):w.grownBy w2 row:=
 ⟨g.os.trans h.os,g.tape.trans h.tape,g.output.trans h.output,Nat.le_trans h.size g.size,fun k hk fJ=>(g.block k (Nat.lt_of_lt_of_le hk h.size) fJ).trans (h.block k hk fJ)⟩
theorem iA{w w1 w2:tF}{row:Option Nat}{R:Nat}(h:w.grownBy w1 row)(t:av R w1 w2)(hR:w.heap.size≤R):w.grownBy w2 row:=
 ⟨t.os.trans h.os,t.tape.trans h.tape,t.output.trans h.output,by rw[t.size];exact h.size,fun k hk fJ=>(t.block k (by omega)).trans (h.block k hk fJ)⟩
theorem eO{w w':tF}(row:Option Nat)(b:bZ w w'):w.grownBy w' row:=⟨b.os,b.tape,b.output,b.size,fun k hk _=>b.block k hk⟩
structure Ow(w wx:tF)(base:Nat)(row:Option Nat)(r e f t o:Int)(v:tG)(n c:Nat)(es:List Ev):Prop where
 b:aG wx w.heap.size r e f t o v n c
 z:aG wx (w.heap.size+2) 0 0 0 0 0 none 0 0
 own:wx.ownsRow base 55 6 (.slice v n c) n ((ak es).map (Value.int .i64))
 dC:w.grownBy wx row
theorem Ow.made{w wx:tF}{base:Nat}{B:Bt}{a:tG}{c:Nat}{r:Rec}(h:Mr w wx B a c r)(bN:w.ownsRow base 55 6 (.slice a B.es.length c) B.es.length ((ak B.es).map (Value.int .i64))):Ow w wx base (Value.slice a B.es.length c).ownBlock B.r B.e B.f B.t B.o a B.es.length c B.es:=
 ⟨h.b,h.z,aK bN (fun g hg _=>h.dC.block g ((bN.lt g hg).2)),eO _ h.dC⟩
theorem Ow.added{w wx W:tF}{base:Nat}{r e f t o:Int}{a v:tG}{n c vc:Nat}{es:List Ev}{x:Ev}{ob:Obj}(h:Ow w wx base (Value.slice a n c).ownBlock r e f t o a n c es)(bN:w.ownsRow base 55 6 (.slice a n c) n ((ak es).map (Value.int .i64)))
  (own:W.ownsRow base 55 6 (.slice v (n+1) vc) (n+1) ((ak es).map (Value.int .i64)++[x.k,x.p,x.i,x.b,x.he,x.hn].map (Value.int .i64))) (g:(wx.alloc ob).grownBy W (Value.slice a n c).ownBlock):
  aG W w.heap.size r e f t o a n c∧(∀W3,av w.heap.size W W3→∀r' e' f' t' o',aG W3 w.heap.size r' e' f' t' o' v (n+1) vc→Ow w W3 base (Value.slice a n c).ownBlock r' e' f' t' o' v (n+1) vc (es++[x])):=by
 have h1:=h.b.next (aB wx ob);have h2:=h.z.next (aB wx ob);have o1:∀q,(Value.slice a n c).ownBlock=some q→q<w.heap.size:=fun q hq=>(bN.lt q hq).2;have k1:aG W w.heap.size r e f t o a n c:=(g.block _ h1.lt (fun e=>by have:=o1 _ e.symm;omega)).trans h1;have k2:aG W (w.heap.size+2) 0 0 0 0 0 none 0 0:=(g.block _ h2.lt (fun e=>by have:=o1 _ e.symm;omega)).trans h2;have dC:w.grownBy W (Value.slice a n c).ownBlock:=kG (kG h.dC (World.grownBy_alloc wx ob _)) g;refine⟨k1,fun W3 t3 r' e' f' t' o' b3=>⟨b3,k2.dG t3 (by omega), ?_,iA dC t3 (Nat.le_refl _)⟩⟩;have e1:(ak (es++[x])).map (Value.int .i64)=(ak es).map (Value.int .i64)++[x.k,x.p,x.i,x.b,x.he,x.hn].map (Value.int .i64):=by rw[se,List.map_append];rfl
 rw[e1];exact t3.owns own (aU own k1 (by decide))
theorem Ow.out{w wx:tF}{base:Nat}{row:Option Nat}{r e f t o:Int}{v:tG}{n c:Nat}{es:List Ev}(h:Ow w wx base row r e f t o v n c es):∃W,W=(((((wx.setCell ⟨w.heap.size+2,0,none⟩ (iV r)).setCell ⟨w.heap.size+2,1,none⟩ (iV e)).setCell ⟨w.heap.size+2,2,none⟩ (iV f)).setCell ⟨w.heap.size+2,3,none⟩ (iV t)).setCell ⟨w.heap.size+2,4,none⟩ (iV o)).setCell ⟨w.heap.size+2,5,none⟩ (.slice v n c)∧aG W (w.heap.size+2) r e f t o v n c∧(n=es.length→G8 W base (.returned (.tuple #[bQ r e f t o v n c,.bool true])) (some ⟨r,e,f,t,o,es⟩))∧w.grownBy W row:=by
 obtain⟨W4,hW4,d4,_,t4⟩:=dF h.z (Below.refl _ _) (Nat.le_refl _) r e f t o v n c;refine⟨W4,hW4,d4, ?_,iA h.dC t4 (by omega)⟩;rintro rfl;exact⟨v,c,rfl,t4.owns h.own (aU h.own h.z (by decide))⟩
theorem EG{W:tF}{R:Nat}{r e f t o:Int}{a:tG}{n c:Nat}{ok:Bool}{tmps:tR}(d:aG W R r e f t o a n c)(t4:tmps[4]? =some (.pointer (some ⟨R,0,none⟩)))(t5:tmps[5]? =some (.bool ok)):
  (results Tryz.f222 tmps).run Tryz.prog W= .ok (.tuple #[bQ r e f t o a n c,.bool ok]) W:=by
 simp[results,Tryz.results222,t4,t5,asAddr,ew d]
theorem RN{W:tF}{R:Nat}{r e f t o:Int}{a:tG}{n c:Nat}{ok:Bool}{tmps:tR}(d:aG W R r e f t o a n c)(t4:tmps[4]? =some (.pointer (some ⟨R,0,none⟩)))(t5:tmps[5]? =some (.bool ok)):
  (results Tryz.f220 tmps).run Tryz.prog W= .ok (.tuple #[bQ r e f t o a n c,.bool ok]) W:=by
 simp[results,Tryz.results220,t4,t5,asAddr,ew d]
theorem av.drawn(R:Nat)(w:tF):av R w w.drew:=⟨rfl,rfl,rfl,rfl,fun _ _=>rfl⟩
theorem Ow.dG{w wx W:tF}{base:Nat}{row:Option Nat}{r e f t o:Int}{a:tG}{n c:Nat}{es:List Ev}(h:Ow w wx base row r e f t o a n c es)(t3:av w.heap.size wx W){r' e' f' t' o':Int}(b:aG W w.heap.size r' e' f' t' o' a n c):Ow w W base row r' e' f' t' o' a n c es:=
 ⟨b,h.z.dG t3 (by omega),t3.owns h.own (aU h.own h.b (by decide)),iA h.dC t3 (Nat.le_refl _)⟩
theorem wN{W:tF}{R:Nat}{r e f t o:Int}{a:tG}{n c:Nat}{ok:Bool}{tmps:tR}(d:aG W R r e f t o a n c)(t4:tmps[4]? =some (.pointer (some ⟨R,0,none⟩)))(t5:tmps[5]? =some (.bool ok)):
  (results Tryz.f221 tmps).run Tryz.prog W= .ok (.tuple #[bQ r e f t o a n c,.bool ok]) W:=by
 simp[results,Tryz.results221,t4,t5,asAddr,ew d]
def Bt.bare(B:Bt):Bt:=⟨B.r,B.e,B.f,B.t,B.o,[]⟩
theorem VQ{B:Bt}(ok:B.Ok):B.bare.Ok:=by
 refine⟨?_,by simp[Bt.bare],St.zero,[],.nil⟩;have:=ok.cM;unfold Bt.cC bz at this;show bz B.r B.e B.f B.t B.o 0;unfold bz;rcases this with h|h|h|h|h
 ·exact .inl ⟨h.1,rfl,h.2.2⟩
 ·exact .inr (.inl h)
 ·exact .inr (.inr (.inl h))
 ·exact .inr (.inr (.inr (.inl h)))
 ·exact .inr (.inr (.inr (.inr h)))
theorem JY{B:Bt}(ok:B.Ok)(ep fr:Int):∀D er,aT B.bare ep fr=(D,er)→D.es=[]∧(¬er=0→¬(aT B ep fr).2=0)∧(er=0→(aT B ep fr).2=0∧(D.e=B.e→(aT B ep fr).1=⟨D.r,D.e,D.f,D.t,D.o,B.es⟩)∧(¬D.e=B.e→(aT B ep fr).1=D)):=by
 intro D er h;have ok0:=VQ ok;unfold aT at h⊢;rw[if_neg (fun g=>g ok0)]at h;rw[if_neg (fun g=>g ok)];by_cases g:¬((1≤ep∧ep≤1048576)∧(0≤fr∧fr≤4))
 ·rw[if_pos g]at h⊢;obtain⟨rfl,rfl⟩:=Prod.mk.inj h;exact⟨rfl,fun _=>by decide,fun g'=>by cases g'⟩
 rw[if_neg g]at h⊢;by_cases g1:B.r=1∨B.r=2∨B.r=3
 ·rw[if_pos (show B.bare.r=1∨B.bare.r=2∨B.bare.r=3 from g1)]at h;rw[if_pos g1];obtain⟨rfl,rfl⟩:=Prod.mk.inj h;exact⟨rfl,fun _=>by decide,fun g'=>by cases g'⟩
 rw[if_neg (show ¬(B.bare.r=1∨B.bare.r=2∨B.bare.r=3) from g1)]at h;rw[if_neg g1];by_cases g2:B.r=4∧B.e=ep∧B.f=fr
 ·rw[if_pos (show B.bare.r=4∧B.bare.e=ep∧B.bare.f=fr from g2)]at h;rw[if_pos g2];obtain⟨rfl,rfl⟩:=Prod.mk.inj h;exact⟨rfl,fun g'=>absurd rfl g',fun _=>⟨rfl,fun _=>rfl,fun g'=>absurd rfl g'⟩⟩
 rw[if_neg (show ¬(B.bare.r=4∧B.bare.e=ep∧B.bare.f=fr) from g2)]at h;rw[if_neg g2];by_cases g3:ep≤B.e
 ·rw[if_pos (show ep≤B.bare.e from g3)]at h;rw[if_pos g3];obtain⟨rfl,rfl⟩:=Prod.mk.inj h;exact⟨rfl,fun _=>by decide,fun g'=>by cases g'⟩
 rw[if_neg (show ¬(ep≤B.bare.e) from g3)]at h;rw[if_neg g3];obtain⟨rfl,rfl⟩:=Prod.mk.inj h;exact⟨rfl,fun g'=>absurd rfl g',fun _=>⟨rfl,fun g'=>by simp only at g';omega,fun _=>rfl⟩⟩
structure Bg(w wx:tF)(base:Nat)(B:Bt)(a:tG)(c:Nat)(r:Rec):Prop where
 b:aG wx w.heap.size B.r B.e B.f B.t B.o none 0 0
 rc:kt wx (w.heap.size+1) r
 z:aG wx (w.heap.size+2) 0 0 0 0 0 none 0 0
 own:wx.ownsRow base 55 6 (.slice a B.es.length c) B.es.length ((ak B.es).map (Value.int .i64))
 dC:bZ w wx
theorem Bg.next{w wx wy:tF}{base:Nat}{B:Bt}{a:tG}{c:Nat}{r:Rec}(h:Bg w wx base B a c r)(b:bZ wx wy):Bg w wy base B a c r:=
 ⟨h.b.next b,(b.block _ (cj h.rc)).trans h.rc,h.z.next b,aK h.own (fun g hg _=>b.block g ((h.own.lt g hg).2)),Below.trans h.dC (b.mono (by have:=h.b.lt;omega))⟩
theorem Bg.made{w wx:tF}{base:Nat}{B:Bt}{a:tG}{c:Nat}{r:Rec}(h:Mr w wx B a c r)(bN:w.ownsRow base 55 6 (.slice a B.es.length c) B.es.length ((ak B.es).map (Value.int .i64))):∃W,W=wx.setCell ⟨w.heap.size,5,none⟩ (.slice none 0 0)∧Bg w W base B a c r:=by
 have t:=av.set w.heap.size 5 wx (.slice none 0 0);refine⟨_,rfl, ?_,(t.block _ (by omega)).trans h.rc,h.z.dG t (by omega), ?_,t.under h.dC (Nat.le_refl _)⟩
 ·have:=h.b;unfold aG at this⊢;rw[cy this];simp
 ·exact aK bN (fun g hg _=>by have:=(bN.lt g hg).2;rw[t.block g (by omega)];exact h.dC.block g this)
theorem Hb{B:Bt}(h:B.cC):B.bare.Ok:=by
 refine⟨?_,by simp[Bt.bare],St.zero,[],.nil⟩;unfold Bt.cC bz at h;show bz B.r B.e B.f B.t B.o 0;unfold bz;rcases h with h|h|h|h|h
 ·exact .inl ⟨h.1,rfl,h.2.2⟩
 ·exact .inr (.inl h)
 ·exact .inr (.inr (.inl h))
 ·exact .inr (.inr (.inr (.inl h)))
 ·exact .inr (.inr (.inr (.inr h)))
open Classical in
noncomputable def kc(B:Bt)(r:Rec):Option Bt:=
 if(aT B.bare r.e r.p).2=0 then some (if(aT B.bare r.e r.p).1.e=B.e then⟨(aT B.bare r.e r.p).1.r,(aT B.bare r.e r.p).1.e,(aT B.bare r.e r.p).1.f,(aT B.bare r.e r.p).1.t,(aT B.bare r.e r.p).1.o,B.es⟩else(aT B.bare r.e r.p).1)else none
open Classical in
noncomputable def gg(B:Bt)(r:Rec):Option Bt:=if r.k=4 then kc B r else cX B r
theorem nZ{B:Bt}{r:Rec}(ok:B.Ok):gg B r=cX B r:=by
 unfold gg;by_cases hk:r.k=4
 ·rw[if_pos hk];unfold cX;rw[if_neg (by omega),if_neg (by omega),if_neg (by omega),if_pos hk];obtain⟨D,er,hD⟩:∃D er,aT B.bare r.e r.p=(D,er):=⟨_,_,rfl⟩;obtain⟨_,Pq,vq⟩:=JY ok r.e r.p D er hD;unfold kc;rw[hD];by_cases h0:er=0
  ·obtain⟨y0,y1,y2⟩:=vq h0;rw[if_pos h0,if_pos y0];by_cases h1:D.e=B.e
   ·rw[if_pos h1,y1 h1]
   ·rw[if_neg h1,y2 h1]
  ·rw[if_neg h0,if_neg (Pq h0)]
 ·rw[if_neg hk]
theorem xK{B D:Bt}{r:Rec}(h:B.cC)(hd:kc B r=some D):D=B∨(D=⟨4,r.e,r.p,0,0,[]⟩∧1≤r.e∧r.e≤1048576∧0≤r.p∧r.p≤4):=by
 have ok:=Hb h;unfold kc at hd;obtain⟨E,er,hE⟩:∃E er,aT B.bare r.e r.p=(E,er):=⟨_,_,rfl⟩;rw[hE]at hd;unfold aT at hE;rw[if_neg (fun g=>g ok)]at hE;by_cases g0:¬((1≤r.e∧r.e≤1048576)∧(0≤r.p∧r.p≤4))
 ·rw[if_pos g0]at hE;obtain⟨rfl,rfl⟩:=Prod.mk.inj hE;rw[if_neg (by decide)]at hd;cases hd
 rw[if_neg g0]at hE;have Zg:=Decidable.not_not.1 g0;by_cases g1:B.r=1∨B.r=2∨B.r=3
 ·rw[if_pos (show B.bare.r=1∨B.bare.r=2∨B.bare.r=3 from g1)]at hE;obtain⟨rfl,rfl⟩:=Prod.mk.inj hE;rw[if_neg (by decide)]at hd;cases hd
 rw[if_neg (show ¬(B.bare.r=1∨B.bare.r=2∨B.bare.r=3) from g1)]at hE;by_cases g2:B.r=4∧B.e=r.e∧B.f=r.p
 ·rw[if_pos (show B.bare.r=4∧B.bare.e=r.e∧B.bare.f=r.p from g2)]at hE;obtain⟨rfl,rfl⟩:=Prod.mk.inj hE;rw[if_pos rfl,if_pos (show B.bare.e=B.e from rfl)]at hd;cases hd;exact .inl rfl
 rw[if_neg (show ¬(B.bare.r=4∧B.bare.e=r.e∧B.bare.f=r.p) from g2)]at hE;by_cases g3:r.e≤B.e
 ·rw[if_pos (show r.e≤B.bare.e from g3)]at hE;obtain⟨rfl,rfl⟩:=Prod.mk.inj hE;rw[if_neg (by decide)]at hd;cases hd
 rw[if_neg (show ¬r.e≤B.bare.e from g3)]at hE;obtain⟨rfl,rfl⟩:=Prod.mk.inj hE;rw[if_pos rfl,if_neg (show ¬r.e=B.e by omega)]at hd;cases hd;exact .inr ⟨rfl,Zg.1.1,Zg.1.2,Zg.2.1,Zg.2.2⟩
theorem pw{B D:Bt}{r:Rec}(h:B.cC)(hf:r.fault=0)(hd:gg B r=some D):D.cC∧(D.es=[]∨B.es<+:D.es):=by
 have hr:(1≤r.k∧r.k≤7)∧(0≤r.q∧r.q≤3∧0≤r.e∧r.e≤1048576∧0≤r.p∧r.p≤4):=by
  unfold Rec.fault aE at hf;split at hf
  ·omega
  ·rename_i h1;split at hf
   ·omega
   ·rename_i h2;exact⟨Decidable.not_not.1 h1,Decidable.not_not.1 h2⟩
 have hs:=h;unfold Bt.cC bz at hs;unfold gg at hd;by_cases hk:r.k=4
 ·rw[if_pos hk]at hd;rcases xK h hd with rfl|⟨rfl,g1,g2,g3,g4⟩
  ·exact⟨h,.inr (List.prefix_refl _)⟩
  ·exact⟨.inr (.inr (.inr (.inr ⟨rfl,g1,g2,g3,g4,rfl,rfl⟩))),.inl rfl⟩
 rw[if_neg hk]at hd;unfold cX at hd;by_cases k1:r.k=1
 ·rw[if_pos k1]at hd;split at hd
  ·rename_i g;cases hd;exact⟨.inr (.inl ⟨rfl,by simp only;omega,by simp only;omega,rfl,rfl,rfl⟩),.inl rfl⟩
  ·cases hd
 rw[if_neg k1]at hd;by_cases k2:r.k=2
 ·rw[if_pos k2]at hd;split at hd
  ·rename_i g;cases hd;refine⟨?_,.inr (List.prefix_append _ _)⟩;unfold Bt.cC bz;simp only[Bt.more];refine .inr (.inl ⟨g.2.2, ?_⟩);omega
  ·cases hd
 rw[if_neg k2]at hd;by_cases k3:r.k=3
 ·rw[if_pos k3]at hd;split at hd
  ·rename_i g;cases hd;refine⟨?_,.inr (List.prefix_refl _)⟩;show bz 3 B.e B.f r.p B.o _;unfold bz;refine .inr (.inr (.inr (.inl ⟨rfl, ?_⟩)));omega
  ·cases hd
 rw[if_neg k3,if_neg hk]at hd;by_cases k5:r.k=5
 ·rw[if_pos k5]at hd;split at hd
  ·rename_i g;cases hd;refine⟨?_,.inr (List.prefix_append _ _)⟩;unfold Bt.cC bz;simp only[Bt.more];refine .inr (.inr (.inr (.inr ⟨g.2.2, ?_⟩)));omega
  ·cases hd
 rw[if_neg k5]at hd;by_cases k6:r.k=6
 ·rw[if_pos k6]at hd;split at hd
  ·rename_i g;cases hd;refine⟨?_,.inr (List.prefix_append _ _)⟩;show bz 1 B.e 0 B.t B.o _;unfold bz;refine .inr (.inl ⟨rfl, ?_⟩);omega
  ·cases hd
 rw[if_neg k6]at hd;split at hd
 ·rename_i g;cases hd;refine⟨?_,.inl rfl⟩;show bz 0 B.e 0 0 0 0;unfold bz;exact .inl ⟨rfl,rfl,by omega,by omega,rfl,rfl,rfl⟩
 ·cases hd
open Classical in
noncomputable def stepT(B:Bt)(r:Rec):Option Bt:=
 match gg B r with
 |none=>none
 |some D=>if D.es.length<B.es.length∧¬B.Ok then none else some D
theorem Ap{B D:Bt}{r:Rec}(h:stepT B r=some D):gg B r=some D∧(D.es.length<B.es.length→B.Ok):=by
 unfold stepT at h;split at h
 ·cases h
 ·rename_i E hE;split at h
  ·cases h
  ·rename_i g;cases h;exact⟨hE,fun h1=>Classical.byContradiction fun h2=>g ⟨h1,h2⟩⟩
theorem qO{B:Bt}{r:Rec}(ok:B.Ok):stepT B r=gg B r:=by
 unfold stepT;cases h:gg B r with
 |none=>rfl
 |some D=>simp only;rw[if_neg (fun g=>g.2 ok)]
theorem VR{B D:Bt}{r:Rec}(hs:B.cC)(hf:r.fault=0)(h:stepT B r=some D)(hD:D.Ok):B.Ok:=by
 obtain⟨h1,h2⟩:=Ap h;obtain⟨_,h3⟩:=pw hs hf h1;by_cases hl:D.es.length<B.es.length
 ·exact h2 hl
 ·have hp:B.es<+:D.es:=by
   rcases h3 with h3|h3
   ·rw[h3]at hl⊢;have:B.es=[]:=List.length_eq_zero_iff.1 (by simpa using hl);rw[this];exact List.prefix_refl _
   ·exact h3
  obtain⟨t,ht⟩:=hp;obtain⟨s,bw,hT⟩:=hD.told;have hlen:=hD.len;rw[←ht]at hT hlen;obtain⟨s0,hT0⟩:=hT.take B.es.length (by simp);rw[List.take_left']at hT0
  ·exact⟨hs,by simp at hlen;omega,s0,_,hT0⟩
  ·rfl
def At(S:List Bt)(r:Rec):Bt:=S.getD r.q.toNat Bt.zero
def put(S:List Bt)(r:Rec)(D:Bt):List Bt:=S.set r.q.toNat D
open Classical in
noncomputable def dh(S:List Bt):List Rec→Option (List Bt)×Int
 |[]=>if∀B∈S,B.Ok then(some S,0)else(none,3)
 |r::l=>if ¬r.fault=0 then(none,r.fault)else match stepT (At S r) r with
  |none=>(none,3)
  |some D=>dh (put S r D) l
noncomputable def kx(S:List Bt)(i:Nat):List Rec→Option (List Bt)×Nat×Int
 |[]=>(some S,0,0)
 |r::l=>if ¬r.fault=0 then(none,i,r.fault)else match dX (At S r) r with
  |(D,e)=>if e=0 then kx (put S r D) (i+1) l else(none,i,e)
theorem yr{r:Rec}(hf:r.fault=0):0≤r.q∧r.q≤3:=by
 unfold Rec.fault aE at hf;split at hf
 ·omega
 ·split at hf
  ·omega
  ·rename_i h2;have:=Decidable.not_not.1 h2;omega
theorem at_mem{S:List Bt}{r:Rec}(hl:S.length=4)(hf:r.fault=0):At S r∈S:=by
 have hq:=yr hf;have hi:r.q.toNat<S.length:=by omega
 unfold At;rw[List.getD_eq_getElem?_getD,List.getElem?_eq_getElem hi];exact List.getElem_mem hi
theorem q7{S:List Bt}{r:Rec}{D:Bt}:(put S r D).length=S.length:=List.length_set
theorem t_{P:Bt→Prop}{S:List Bt}{r:Rec}{D:Bt}(h:∀B∈S,P B)(hD:P D):∀B∈put S r D,P B:=fun B hB=>by
 rcases List.mem_or_eq_of_mem_set hB with h1|h1
 ·exact h B h1
 ·rw[h1];exact hD
theorem Hc{P:Bt→Prop}{S:List Bt}{r:Rec}{D:Bt}(hl:S.length=4)(hf:r.fault=0)(h:∀B∈put S r D,P B):P D∧∀i,i≠r.q.toNat→∀hi:i<S.length,P S[i]:=by
 have hq:=yr hf;have hi:r.q.toNat<S.length:=by omega
 refine⟨h D (List.mem_set hi D),fun i fJ hi'=>h _ ?_⟩;have:(put S r D)[i]'(by rw[q7];exact hi')=S[i]:=List.getElem_set_ne (fun e=>fJ e.symm) _;rw[←this];exact List.getElem_mem _
theorem LM:∀(l:List Rec) (S S':List Bt) (e:Int),S.length=4→(∀B∈S,B.cC)→dh S l=(some S',e)→(∀B∈S,B.Ok)∧e=0
 |[],S,S',e,_,_,h=>by
  unfold dh at h;split at h
  ·rename_i g;exact⟨g,(Prod.mk.inj h).2.symm⟩
  ·cases(Prod.mk.inj h).1
 |r::l,S,S',e,hl,hs,h=>by
  unfold dh at h;split at h
  ·cases(Prod.mk.inj h).1
  ·rename_i Il;have hf:=Decidable.not_not.1 Il;split at h
   ·cases(Prod.mk.inj h).1
   ·rename_i D hD;have hA:=hs _ (at_mem hl hf);have hDs:=(pw hA hf (Ap hD).1).1;obtain⟨ih,he⟩:=LM l (put S r D) S' e (by rw[q7];exact hl) (t_ hs hDs) h;obtain⟨hDo,ho⟩:=Hc hl hf ih;have Bm:=VR hA hf hD hDo;refine⟨fun B hB=> ?_,he⟩;obtain⟨i,hi,rfl⟩:=List.getElem_of_mem hB;by_cases fJ:i=r.q.toNat
    ·have:At S r=S[i]:=by
      unfold At;rw[List.getD_eq_getElem?_getD,←fJ,List.getElem?_eq_getElem hi];rfl
     rw[←this];exact Bm
    ·exact ho i fJ hi
theorem Hd:∀(l:List Rec) (S S':List Bt) (i j:Nat) (e:Int),S.length=4→(∀B∈S,B.Ok)→kx S i l=(some S',j,e)→dh S l=(some S',0)∧j=0∧e=0
 |[],S,S',i,j,e,_,iD,h=>by
  unfold kx at h;cases h;unfold dh;rw[if_pos iD];exact⟨rfl,rfl,rfl⟩
 |r::l,S,S',i,j,e,hl,iD,h=>by
  unfold kx at h;split at h
  ·cases h
  ·rename_i Il;have hf:=Decidable.not_not.1 Il;have Bm:=iD _ (at_mem hl hf);cases hd:cX (At S r) r with
   |none=>
    rw[Ao Bm hf hd]at h;simp at h
   |some D=>
    by_cases hDo:D.Ok
    ·rw[fw Bm hf hd hDo]at h;simp only[if_true]at h;have ih:=Hd l (put S r D) S' (i+1) j e (by rw[q7];exact hl) (t_ iD hDo) h;unfold dh;rw[if_neg Il,qO Bm,nZ Bm,hd];exact ih
    ·rw[CF Bm hf hd hDo]at h;simp at h
theorem CG:∀(l:List Rec) (S:List Bt) (i j:Nat) (e:Int),S.length=4→(∀B∈S,B.Ok)→kx S i l=(none,j,e)→∃n,n<l.length∧j=i+n∧¬e=0∧(∀k,k≤n→∃S',dh S (l.take k)=(some S',0))∧∀k,n<k→(dh S (l.take k)).1=none∧(k=n+1→(dh S (l.take k)).2=e)
 |[],S,i,j,e,_,_,h=>by unfold kx at h;cases h
 |r::l,S,i,j,e,hl,iD,h=>by
  have rN:∃S',dh S ((r::l).take 0)=(some S',0):=⟨S,by simp only[List.take_zero];unfold dh;rw[if_pos iD]⟩;have hz:∀k,k≤0→∃S',dh S ((r::l).take k)=(some S',0):=fun k hk=>by
   rw[Nat.le_zero.1 hk];exact rN
  unfold kx at h;split at h
  ·rename_i hf;cases h;refine⟨0,by simp,rfl,hf,hz,fun k hk=> ?_⟩;obtain⟨m,rfl⟩:∃m,k=m+1:=⟨k-1,by omega⟩;rw[List.take_succ_cons];unfold dh;rw[if_pos hf];exact⟨rfl,fun _=>rfl⟩
  ·rename_i Il;have hf:=Decidable.not_not.1 Il;have Bm:=iD _ (at_mem hl hf);cases hd:cX (At S r) r with
   |none=>
    rw[Ao Bm hf hd]at h;simp at h;obtain⟨rfl,rfl⟩:=h;refine⟨0,by simp,rfl,by decide,hz,fun k hk=> ?_⟩;obtain⟨m,rfl⟩:∃m,k=m+1:=⟨k-1,by omega⟩;rw[List.take_succ_cons];unfold dh;rw[if_neg Il,qO Bm,nZ Bm,hd];exact⟨rfl,fun _=>rfl⟩
   |some D=>
    by_cases hDo:D.Ok
    ·rw[fw Bm hf hd hDo]at h;simp only[if_true]at h;obtain⟨n,h1,h2,h3,h4,h5⟩:=CG l (put S r D) (i+1) j e (by rw[q7];exact hl) (t_ iD hDo) h;have XK:∀m,dh S ((r::l).take (m+1))=dh (put S r D) (l.take m):=by
      intro m;rw[List.take_succ_cons]
      conv=>lhs;unfold dh
      rw[if_neg Il,qO Bm,nZ Bm,hd]
     refine⟨n+1,by simp;omega,by omega,h3,fun k hk=> ?_,fun k hk=> ?_⟩
     ·rcases Nat.eq_zero_or_pos k with rfl|hp
      ·exact rN
      ·obtain⟨m,rfl⟩:∃m,k=m+1:=⟨k-1,by omega⟩;rw[XK];exact h4 m (by omega)
     ·obtain⟨m,rfl⟩:∃m,k=m+1:=⟨k-1,by omega⟩;rw[XK];exact⟨(h5 m (by omega)).1,fun k_=>(h5 m (by omega)).2 (by omega)⟩
    ·rw[CF Bm hf hd hDo]at h;simp at h;obtain⟨rfl,rfl⟩:=h;have abJ:∀m,(dh S ((r::l).take (m+1))).1=none:=by
      intro m;cases hc:(dh S ((r::l).take (m+1))).1 with
      |none=>rfl
      |some S'=>
       exfalso;have hS:=iD;have he:dh S ((r::l).take (m+1))=(some S',(dh S ((r::l).take (m+1))).2):=by rw[←hc]
       rw[List.take_succ_cons]at he;have hss:∀B∈S,B.cC:=fun B hB=>(iD B hB).cM
       conv at he=>lhs;unfold dh
       rw[if_neg Il,qO Bm,nZ Bm,hd]at he;simp only at he;have hDs:=(pw Bm.cM hf (by rw[nZ Bm];exact hd)).1;have:=(LM _ _ _ _ (by rw[q7];exact hl) (t_ hss hDs) he).1;exact hDo (Hc hl hf this).1
     refine⟨0,by simp,rfl,by decide,hz,fun k hk=> ?_⟩;obtain⟨m,rfl⟩:∃m,k=m+1:=⟨k-1,by omega⟩;refine⟨abJ m,fun k_=> ?_⟩;obtain rfl:m=0:=by omega
     have:=abJ 0;rw[List.take_succ_cons,List.take_zero]at this⊢
     conv=>lhs;unfold dh
     conv at this=>lhs;unfold dh
     rw[if_neg Il,qO Bm,nZ Bm,hd]at this⊢;simp only at this⊢;unfold dh at this⊢;split at this
     ·cases this
     ·rename_i g;rw[if_neg g]
theorem JZ(B:Bt)(a:tG)(c:Nat)(ep fr:Int)(w:tF)(hb:ja w B a c)(ok:B.Ok)(h1:1≤ep∧ep≤1048576)(h2:0≤fr∧fr≤4)(h5:¬(B.r=1∨B.r=2∨B.r=3))(h7:¬ep≤B.e):cA 165 #[bQ B.r B.e B.f B.t B.o a B.es.length c,iV ep,iV fr] w (rB (.tuple #[bQ 4 ep fr 0 0 none 0 0,iV 0]) w):=by
 have HE:=fun w=>kD ep w;have HN:=fun w=>gL fr w;have HS:=fun w=>mC B.r B.e B.f B.t B.o a B.es.length c w;rw[decide_eq_true h1]at HE;rw[decide_eq_true h2]at HN;rw[decide_eq_false (show ¬(B.r=1∨B.r=2) by omega)]at HS;have H1:=ai (And.intro h1 h2);have h4:¬B.r=3:=by omega
 have h6:¬(B.r=4∧B.e=ep∧B.f=fr):=by omega
 have H3:Hid (¬(B.r=1∨B.r=2)):=ai (by omega);have H5:Hid (¬(B.r=1∨B.r=2∨B.r=3)):=ai h5;clear h1 h2 h5;go_enter Tryz.func165,Tryz.ntmps165
 go_upto_region 1 with fail
 obtain⟨W1,hW1,M1⟩:=Mb.made w B a c;rw[←hW1];clear hW1;have HC:=gH B a c W1 (hb.next M1.dC) ok;obtain⟨x0,x1,x2,x3,x4,x5⟩:=M1.b.cells;have HM:=ai M1;clear M1;have e4:(B.r==3)=false:=by simpa using h4
 go_upto_region 7 with(first|(go_at_call 176;refine HC.mono ?_;rintro x W2 ⟨rfl,b2⟩;clear HC x0 x1 x2 x3 x4 x5;have M2:=(aa HM).next b2;obtain⟨x0,x1,x2,x3,x4,x5⟩:=M2.b.cells;have Vx:=ai M2;clear M2 b2 HM)|(go_at_call 178;refine(HE _).mono ?_;rintro x w3 ⟨rfl,hw3⟩;subst w3)|(go_at_call 184;refine(HN _).mono ?_;rintro x w3 ⟨rfl,hw3⟩;subst w3)|(go_at_call 205;refine(HS _).mono ?_;rintro x W3 ⟨rfl,b3⟩;have M3:=(aa Vx).next b3;clear Vx x0 x1 x2 x3 x4 x5;obtain⟨x0,x1,x2,x3,x4,x5⟩:=M3.b.cells;have Vx:=ai M3;clear M3 b3))
 clear e4 h4 HE HN;have h6':((B.r==4)=false)∨((B.r==4)=true∧(B.e==ep)=false):=by
  by_cases g1:B.r=4
  ·exact .inr ⟨by simpa using g1,by simp;omega⟩
  ·exact .inl (by simpa using g1)
 clear h6;have zf:=(aa Vx).z.free;obtain⟨z0,z1,z2,z3,z4,z5⟩:=(aa Vx).z.cells;rcases h6' with g1|⟨g1,g2⟩
 all_goals
  go_wp2;obtain⟨W4,hW4,d4,b4,_⟩:=dF (aa Vx).z (aa Vx).dC (show w.heap.size≤w.heap.size+1 by omega) 4 ep fr 0 0 none 0 0;rw[←hW4];exact bodyPost_ret (JL d4 rfl rfl) rfl ⟨rfl,b4⟩
def Bn(w:tF)(oT v:tN):Prop:=∀g,v.ownBlock=some g→oT.ownBlock=some g∨w.heap.size≤g
theorem Bn.lower{w w1:tF}{oT v:tN}(h:Bn w1 oT v)(hs:w.heap.size≤w1.heap.size):Bn w oT v:=fun g hg=>(h g hg).imp id (fun h=>Nat.le_trans hs h)
def Aq:Value→Nat
 | .slice _ n _=>n
 |_=>0
def fI(w w':tF)(base:Nat)(oT:tN)(x:Ending)(o:Option Bt):Prop:=
 match o with
 |none=>x= .returned (.tuple #[bQ 0 0 0 0 0 none 0 0,.bool false])
 |some D=>∃a c,x= .returned (.tuple #[bQ D.r D.e D.f D.t D.o a D.es.length c,.bool true])∧w'.ownsRow base 55 6 (.slice a D.es.length c) D.es.length ((ak D.es).map (Value.int .i64))∧Bn w oT (.slice a D.es.length c)∧(D.es.length<Aq oT→bZ w w')
theorem fI.fresh{w w':tF}{base:Nat}{oT:tN}{x:Ending}{o:Option Bt}(h:G8 w' w.heap.size x o)(hb:base≤w.heap.size)(dC:bZ w w'):fI w w' base oT x o:=by
 cases o with
 |none=>exact h
 |some D=>
  obtain⟨a,c,h1,h2⟩:=h;exact⟨a,c,h1,rD h2 hb,fun g hg=> .inr (h2.lt g hg).1,fun _=>dC⟩
theorem fI.lie{w w':tF}{base:Nat}{oT:tN}{r e f t o:Int}{a:tG}{n c:Nat}{D:Bt}(h:G8 w' base (.returned (.tuple #[bQ r e f t o a n c,.bool true])) (some D))(hl:Bn w oT (.slice a n c))(hn:Aq oT≤n):fI w w' base oT (.returned (.tuple #[bQ r e f t o a n c,.bool true])) (some D):=by
 obtain⟨a',c',h1,h2⟩:=h;have h3:=h1;simp at h3;obtain⟨_,_,_,_,_,rfl,tf,rfl⟩:=h3;refine⟨a,c,h1,h2, ?_,fun h=>by omega⟩;rw[←tf];exact hl
theorem xL{B D:Bt}{ep fr er:Int}(ok:B.bare.Ok)(h:aT B.bare ep fr=(D,er)):(¬er=0∧D.es=[])∨(D=B.bare∧er=0∧D.e=B.e)∨(D=⟨4,ep,fr,0,0,[]⟩∧er=0∧(1≤ep∧ep≤1048576)∧(0≤fr∧fr≤4)∧¬(B.r=1∨B.r=2∨B.r=3)∧¬ep≤B.e):=by
 unfold aT at h;rw[if_neg (fun g=>g ok)]at h;by_cases g0:¬((1≤ep∧ep≤1048576)∧(0≤fr∧fr≤4))
 ·rw[if_pos g0]at h;obtain⟨rfl,rfl⟩:=Prod.mk.inj h;exact .inl ⟨by decide,rfl⟩
 rw[if_neg g0]at h;have Zg:=Decidable.not_not.1 g0;by_cases g1:B.r=1∨B.r=2∨B.r=3
 ·rw[if_pos (show B.bare.r=1∨B.bare.r=2∨B.bare.r=3 from g1)]at h;obtain⟨rfl,rfl⟩:=Prod.mk.inj h;exact .inl ⟨by decide,rfl⟩
 rw[if_neg (show ¬(B.bare.r=1∨B.bare.r=2∨B.bare.r=3) from g1)]at h;by_cases g2:B.r=4∧B.e=ep∧B.f=fr
 ·rw[if_pos (show B.bare.r=4∧B.bare.e=ep∧B.bare.f=fr from g2)]at h;obtain⟨rfl,rfl⟩:=Prod.mk.inj h;exact .inr (.inl ⟨rfl,rfl,rfl⟩)
 rw[if_neg (show ¬(B.bare.r=4∧B.bare.e=ep∧B.bare.f=fr) from g2)]at h;by_cases g3:ep≤B.e
 ·rw[if_pos (show ep≤B.bare.e from g3)]at h;obtain⟨rfl,rfl⟩:=Prod.mk.inj h;exact .inl ⟨by decide,rfl⟩
 rw[if_neg (show ¬ep≤B.bare.e from g3)]at h;obtain⟨rfl,rfl⟩:=Prod.mk.inj h;exact .inr (.inr ⟨rfl,rfl,Zg.1,Zg.2,g1,g3⟩)
theorem J0(B:Bt)(a:tG)(c:Nat)(r:Rec)(w:tF)(base:Nat)(bN:w.ownsRow base 55 6 (.slice a B.es.length c) B.es.length ((ak B.es).map (Value.int .i64)))(hs:B.cC):
  cA 221 #[bQ B.r B.e B.f B.t B.o a B.es.length c,mG r] w fun x w'=>fI w w' base (.slice a B.es.length c) x (kc B r)∧bZ w w':=by
 obtain⟨D,er,hD⟩:∃D er,aT B.bare r.e r.p=(D,er):=⟨_,_,rfl⟩;have ok:=Hb hs;have XL:D.es=[]:=by
  rcases xL ok hD with h|⟨rfl,h,_⟩|⟨rfl,_⟩
  ·exact h.2
  ·rfl
  ·rfl
 have HB:∀w,cA 165 #[bQ B.r B.e B.f B.t B.o none 0 0,iV r.e,iV r.p] w fun x w'=>∃a' c',x= .returned (.tuple #[bQ D.r D.e D.f D.t D.o a' 0 c',iV er])∧(er=0→¬D.e=B.e→a'=none∧c'=0)∧bZ w w':=fun w=>by
  rcases xL ok hD with⟨h,_⟩|⟨rfl,h0,h⟩|⟨rfl,h0,g1,g2,g3,g4⟩
  ·refine(sT B.bare none 0 r.e r.p w ⟨RowK.nil _ _ _,Nat.le_refl _,fun _=>rfl⟩).mono fun x w' ⟨y,B',er',h1,h2,h3,h4⟩=> ?_;rw[hD]at h2;obtain⟨rfl,rfl⟩:=Prod.mk.inj h2;obtain⟨a',c',rfl,i3,_⟩:=h3;rw[XL]at h1;exact⟨a',c',h1,fun h'=>absurd h' h,h4⟩
  ·refine(sT B.bare none 0 r.e r.p w ⟨RowK.nil _ _ _,Nat.le_refl _,fun _=>rfl⟩).mono fun x w' ⟨y,B',er',h1,h2,h3,h4⟩=> ?_;rw[hD]at h2;obtain⟨rfl,rfl⟩:=Prod.mk.inj h2;obtain⟨a',c',rfl,i3,_⟩:=h3;rw[XL]at h1;exact⟨a',c',h1,fun _ h'=>absurd rfl h',h4⟩
  ·refine(JZ B.bare none 0 r.e r.p w ⟨RowK.nil _ _ _,Nat.le_refl _,fun _=>rfl⟩ ok g1 g2 g3 g4).mono fun x w' ⟨h1,h4⟩=> ?_;rw[h0];exact⟨none,0,h1,fun _ _=>⟨rfl,rfl⟩,h4⟩
 have hT:kc B r=if er=0 then some (if D.e=B.e then⟨D.r,D.e,D.f,D.t,D.o,B.es⟩else D)else none:=by unfold kc;rw[hD]
 have HT:=ai hT;have HES:=ai XL;clear hD XL hT ok hs;go_enter Tryz.func221,Tryz.ntmps221
 go_upto_region 1 with fail
 obtain⟨W1,hW1,M1⟩:=Mr.made w B a c r;rw[←hW1];clear hW1;obtain⟨W2,hW2,G2⟩:=Bg.made M1 bN;obtain⟨x0,x1,x2,x3,x4,x5⟩:=M1.b.cells;have xf:=M1.b.free;have HW2:=ai hW2;have HG2:=ai G2;clear hW2 G2 M1 bN
 go_upto_region 3 with fail
 rw[←aa HW2];clear HW2 x0 x1 x2 x3 x4 x5 xf;have hc:=HB W2;obtain⟨x0,x1,x2,x3,x4,x5⟩:=(aa HG2).b.cells;obtain⟨r0,r1,r2,r3,r4,r5,r6,r7,r8,r9⟩:=(aa HG2).rc.cells;clear HB
 go_upto_region 4 with(go_at_call 165;refine hc.mono ?_;rintro x W3 ⟨a',c',rfl,n3,b3⟩;clear hc x0 x1 x2 x3 x4 x5 r0 r1 r2 r3 r4 r5 r6 r7 r8 r9;have Zh:=ai n3;have VS:=ai ((aa HG2).next b3);clear n3 b3)
 obtain⟨W4,hW4,d4,b4⟩:∃W4,W4=W3.alloc (.cells (du D.r D.e D.f D.t D.o a' 0 c') 49)∧aG W4 W3.heap.size D.r D.e D.f D.t D.o a' 0 c'∧bZ W3 W4:=⟨_,rfl,aG.new _ _ _ _ _ _ _ _ _,aB _ _⟩;rw[←hW4];have G4:=(aa VS).next b4;have aW:w.heap.size+2<W3.heap.size:=(aa VS).z.lt;have LO:=ai G4;have K_:=ai d4;clear hW4 VS HG2 G4;by_cases h0:er=0
 case neg=>
  have e1:(er !=0)=true:=by simp[h0]
  have HR:kc B r=none:=by rw[aa HT,if_neg h0]
  have HRV:=ai HR;obtain⟨z0,z1,z2,z3,z4,z5⟩:=(aa LO).z.cells;have zf:=(aa LO).z.free;clear h0 HR b4 d4;go_wp2;obtain⟨W5,hW5,d5,b5,_⟩:=dF (aa LO).z (aa LO).dC (show w.heap.size≤w.heap.size+2 by omega) 0 0 0 0 0 none 0 0;rw[←hW5];refine bodyPost_ret (wN d5 rfl rfl) rfl ⟨?_,b5⟩;rw[aa HRV];exact rfl
 case pos=>
 have e1:(er !=0)=false:=by simp[h0]
 have HR:kc B r=some (if D.e=B.e then⟨D.r,D.e,D.f,D.t,D.o,B.es⟩else D):=by rw[aa HT,if_pos h0]
 have HNN:Hid (¬D.e=B.e→a'=none∧c'=0):=ai (aa Zh h0);have HRV:=ai HR;clear h0 HR b4 Zh;obtain⟨x0,x1,x2,x3,x4,x5⟩:=(aa LO).b.cells;obtain⟨k0,k1,k2,k3,k4,k5⟩:=d4.cells;have kf:=d4.free;clear d4;by_cases h1:D.e=B.e
 case neg=>
  have e2:(D.e==B.e)=false:=by simp[h1]
  obtain⟨rfl,rfl⟩:=aa HNN h1;have HD:Hid (kc B r=some D):=ai (by rw[aa HRV,if_neg h1]);obtain⟨z0,z1,z2,z3,z4,z5⟩:=(aa LO).z.cells;have zf:=(aa LO).z.free;clear h1 HNN HRV;go_wp2;obtain⟨W5,hW5,d5,b5,t5⟩:=dF (aa LO).z (aa LO).dC (show w.heap.size≤w.heap.size+2 by omega) D.r D.e D.f D.t D.o none 0 0;rw[←hW5];refine bodyPost_ret (wN d5 rfl rfl) rfl ⟨?_,b5⟩;rw[aa HD];refine⟨none,0, ?_, ?_,(fun g hg=>by cases hg),fun _=>b5⟩
  ·rw[aa HES];rfl
  ·rw[aa HES];exact World.ownsRow_nil _ _ _ _
 case pos=>
 have e2:(D.e==B.e)=true:=by simp[h1]
 have HD:Hid (kc B r=some ⟨D.r,D.e,D.f,D.t,D.o,B.es⟩):=ai (by rw[aa HRV,if_pos h1]);clear h1 HNN HRV
 go_upto_region 8 with fail
 have ahP:=(aa K_).lt;have t5:=av.set W3.heap.size 5 W4 (.slice a B.es.length c);obtain⟨W5,hW5,d5⟩:∃W5,W5=W4.setCell ⟨W3.heap.size,5,none⟩ (.slice a B.es.length c)∧aG W5 W3.heap.size D.r D.e D.f D.t D.o a B.es.length c:=by
  refine⟨_,rfl, ?_⟩;have:=aa K_;unfold aG at this⊢;rw[cy this];simp
 rw[←hW5]at t5⊢;have z5:=(aa LO).z.dG t5 (by omega);have o5:=t5.owns (aa LO).own (aU (aa LO).own (aa K_) (by decide));have b5:=t5.under (aa LO).dC (by omega);clear hW5 x0 x1 x2 x3 x4 x5 k0 k1 k2 k3 k4 k5 kf e1 e2;obtain⟨k0,k1,k2,k3,k4,k5⟩:=d5.cells;obtain⟨z0,z1,z2,z3,z4,z6⟩:=z5.cells;have zf:=z5.free;have Z5:=ai z5;have O5:=ai o5;have B5:=ai b5;clear d5 z5 o5 b5 t5 K_ LO;go_wp2;obtain⟨W6,hW6,d6,b6,t6⟩:=dF (aa Z5) (aa B5) (show w.heap.size≤w.heap.size+2 by omega) D.r D.e D.f D.t D.o a B.es.length c;rw[←hW6];refine bodyPost_ret (wN d6 rfl rfl) rfl ⟨?_,b6⟩;rw[aa HD];exact⟨a,c,rfl,t6.owns (aa O5) (aU (aa O5) (aa Z5) (by decide)),fun g hg=> .inl hg,fun _=>b6⟩
theorem LQ{W:tF}{R:Nat}{r e f t o:Int}{a:tG}{n c:Nat}{ok:Bool}{tmps:tR}(d:aG W R r e f t o a n c)(t4:tmps[6]? =some (.pointer (some ⟨R,0,none⟩)))(t5:tmps[7]? =some (.bool ok)):
  (results Tryz.f239 tmps).run Tryz.prog W= .ok (.tuple #[bQ r e f t o a n c,.bool ok]) W:=by
 simp[results,Tryz.results239,t4,t5,asAddr,ew d]
def gk(o:Option Bt):Bt:=o.getD Bt.zero
theorem Mr.grown{w wx wy:tF}{B:Bt}{a:tG}{c:Nat}{r:Rec}{row:Option Nat}(h:Mr w wx B a c r)(g:wx.grownBy wy row)(hr:∀k,row=some k→k<w.heap.size):aG wy (w.heap.size+2) 0 0 0 0 0 none 0 0:=
 (g.block _ h.z.lt (fun e=>by have:=hr _ e.symm;omega)).trans h.z
def J4(B:Bt)(r:Rec)(role:Int)(o:Option Bt):Option Bt:=if B.r=role∧B.e=r.e then o else none
theorem py{W:tF}{R:Nat}{r e f t o:Int}{a:tG}{n c:Nat}{ok:Bool}{tmps:tR}(d:aG W R r e f t o a n c)(t4:tmps[5]? =some (.pointer (some ⟨R,0,none⟩)))(t5:tmps[6]? =some (.bool ok)):
  (results Tryz.f238 tmps).run Tryz.prog W= .ok (.tuple #[bQ r e f t o a n c,.bool ok]) W:=by
 simp[results,Tryz.results238,t4,t5,asAddr,ew d]
def gT(r:Rec)(o:Option Bt):Option Bt:=if r.p=0 then o else none
theorem He{w:tF}{B clock:Nat}{es:Array MapEntry}{z:Int}{v:tN}(hb:w.heap[B]? =some (.map es clock))(hf:Instr.findNow (.int .i64) (iV z) es.toList 0=some none):
  (Instr.mapUpdate 273 (.map (some B)) (iV z) v).run Tryz.prog w= .ok () {w with heap:=w.heap.setIfInBounds B (.map (es.push ⟨iV z,v,clock⟩) (clock+1))}:=by
 have hc:(Instr.checkKey false 10000 3 (iV z)).run Tryz.prog w= .ok () w:=MapKept.run_checkKey (k:=iV z) Tryz.underlying3 (by simp[MapKept.IsKey]) false 9999;simp[Instr.mapUpdate,run_underlying Tryz.underlying273,MapKept.run_getObj_map hb,hc,MapKept.run_findKey Tryz.underlying3 hf,MapKept.run_setObj_map _ hb,Result.andThen]
theorem kg{ops:tP}{rest:List Oper}{o:Oper}{a:Act}{Q:tL}{w:tF}{B clock:Nat}{es:Array MapEntry}{z:Int}{v:tN}(m k x:tT)(ho:o.op= .insert 273 m k x)(hw:Region.wanted o (yielded ops a.tmps)=true)
  (hm:a.eval m= .map (some B)) (hk:a.eval k=iV z) (hx:a.eval x=v) (hb:w.heap[B]? =some (.map es clock)) (hf:Instr.findNow (.int .i64) (iV z) es.toList 0=some none)
  (h:∀w',w'.heap[B]? =some (.map (es.push ⟨iV z,v,clock⟩) (clock+1))→av B w w'→wpList Tryz.prog ops Q rest (a.put o.dst undef) w'):wpList Tryz.prog ops Q (o::rest) a w:=
 wpList_step fun K hK=>by
  rw[if_pos hw];have sD:=He (v:=v) hb hf;have hs:=MapKept.heap_set (o':= .map (es.push ⟨iV z,v,clock⟩) (clock+1)) hb;have:=hK _ _ (h {w with heap:=w.heap.setIfInBounds B (.map (es.push ⟨iV z,v,clock⟩) (clock+1))} hs.1 ⟨rfl,rfl,rfl,by simp,fun r hr=>hs.2 r hr⟩);unfold Oper.wp;simp only[execOp,ho,hm,hk,hx];simp[sD,Result.andThen];exact this
theorem VT{ops:tP}{rest:List Oper}{o:Oper}{a:Act}{Q:tL}{w:tF}(ho:o.op= .makeMap 273 none)(hw:Region.wanted o (yielded ops a.tmps)=true)
  (h:∀w',w'.heap[w.heap.size]? =some (.map #[] 0)→bZ w w'→wpList Tryz.prog ops Q rest (a.put o.dst (.map (some w.heap.size))) w'):wpList Tryz.prog ops Q (o::rest) a w:=
 wpList_step fun K hK=>by
  rw[if_pos hw];have:=hK _ _ (h _ (heap_alloc_new w _) (aB _ _));unfold Oper.wp;simp only[execOp,ho];simp[run_makeMap_plain,Result.andThen];exact this
def Bp(w:tF)(v:tN)(role:Int)(N:Nat):Prop:=∃P Q,v= .func (.func 239) #[] #[.pointer (some ⟨P,0,none⟩),.pointer (some ⟨Q,0,none⟩)]∧w.cell? ⟨P,0,none⟩=some (iV role)∧w.cell? ⟨Q,0,none⟩=some (.func (.func N) #[] #[])
def N9(w:tF)(v:tN)(N:Nat):Prop:=∃Q,v= .func (.func 238) #[] #[.pointer (some ⟨Q,0,none⟩)]∧w.cell? ⟨Q,0,none⟩=some (.func (.func N) #[] #[])
def EH(w:tF)(v:tN)(role:Int)(N:Nat):Prop:=∃Q u,v= .func (.func 238) #[] #[.pointer (some ⟨Q,0,none⟩)]∧w.cell? ⟨Q,0,none⟩=some u∧Bp w u role N
theorem Bp.keep{w w':tF}{v:tN}{role:Int}{N:Nat}(h:Bp w v role N)(k:∀X x,w.cell? ⟨X,0,none⟩=some x→w'.cell? ⟨X,0,none⟩=some x):Bp w' v role N:=by
 obtain⟨P,Q,rfl,h1,h2⟩:=h;exact⟨P,Q,rfl,k _ _ h1,k _ _ h2⟩
theorem N9.keep{w w':tF}{v:tN}{N:Nat}(h:N9 w v N)(k:∀X x,w.cell? ⟨X,0,none⟩=some x→w'.cell? ⟨X,0,none⟩=some x):N9 w' v N:=by
 obtain⟨Q,rfl,h2⟩:=h;exact⟨Q,rfl,k _ _ h2⟩
theorem EH.keep{w w':tF}{v:tN}{role:Int}{N:Nat}(h:EH w v role N)(k:∀X x,w.cell? ⟨X,0,none⟩=some x→w'.cell? ⟨X,0,none⟩=some x):EH w' v role N:=by
 obtain⟨Q,u,rfl,h1,h2⟩:=h;exact⟨Q,u,rfl,k _ _ h1,h2.keep k⟩
theorem aH{w w':tF}(b:bZ w w'):∀X x,w.cell? ⟨X,0,none⟩=some x→w'.cell? ⟨X,0,none⟩=some x:=
 fun X _ h=>(b.cell (p:=⟨X,0,none⟩) (World.block_lt_of_cell? w _ h)).trans h
theorem bO{w w':tF}{M clock:Nat}{es:Array MapEntry}(t:av M w w')(h:w.heap[M]? =some (.map es clock)):∀X x,w.cell? ⟨X,0,none⟩=some x→w'.cell? ⟨X,0,none⟩=some x:=by
 intro X _ hx;have fJ:X≠M:=by
  rintro rfl;simp[World.cell?,h]at hx
 exact(World.cell?_of_block (a:=⟨X,0,none⟩) (t.block X fJ)).trans hx
theorem pz(w:tF)(v:tN)(t:tY):(w.alloc (.cells #[v] t)).cell? ⟨w.heap.size,0,none⟩=some v:=by
 have:=heap_alloc_new w (.cells #[v] t);unfold World.cell?;rw[this];rfl
theorem J5(w:tF)(o:Obj)(v:tN)(t:tY):((w.alloc o).alloc (.cells #[v] t)).cell? ⟨w.heap.size+1,0,none⟩=some v:=by
 have h:=pz (w.alloc o) v t;have e:(w.alloc o).heap.size=w.heap.size+1:=by simp
 rw[e]at h;exact h
theorem J6:∀(fn:Fn) (first cap:tR) (w:tF),(Instr.makeFunc fn first cap).run Tryz.prog w= .ok (.func fn first cap) w:=fun _ _ _ _=>rfl
theorem Ar(role:Int)(N:Nat)(w:tF):cA 218 #[iV role,.func (.func N) #[] #[]] w fun e w'=>∃v,e= .returned v∧Bp w' v role N∧bZ w w':=by
 have hmf:=J6;go_enter Tryz.func218,Tryz.ntmps218;go_wp2;go_ret;refine⟨_,rfl,⟨w.heap.size,w.heap.size+1,rfl, ?_, ?_⟩, ?_⟩
 ·exact aH (aB _ _) _ _ (pz _ _ _)
 ·exact J5 _ _ _ _
 ·exact Below.next (aB _ _) (aB _ _)
theorem N_(N:Nat)(w:tF):cA 216 #[.func (.func N) #[] #[]] w fun e w'=>∃v,e= .returned v∧N9 w' v N∧bZ w w':=by
 have hmf:=J6;go_enter Tryz.func216,Tryz.ntmps216;go_wp2;go_ret;refine⟨_,rfl,⟨w.heap.size,rfl, ?_⟩, ?_⟩
 ·exact pz _ _ _
 ·exact aB _ _
theorem vr(v:tN)(role:Int)(N:Nat)(w:tF)(h:Bp w v role N):cA 216 #[v] w fun e w'=>∃v,e= .returned v∧EH w' v role N∧bZ w w':=by
 have hmf:=J6;obtain⟨P,Q,rfl,h1,h2⟩:=h;have H:Hid (∀o,Bp (w.alloc o) (.func (.func 239) #[] #[.pointer (some ⟨P,0,none⟩),.pointer (some ⟨Q,0,none⟩)]) role N):=ai fun o=>Bp.keep ⟨P,Q,rfl,h1,h2⟩ (aH (aB w o));clear h1 h2;go_enter Tryz.func216,Tryz.ntmps216;go_wp2;go_ret;refine⟨_,rfl,⟨w.heap.size,_,rfl, ?_,aa H _⟩, ?_⟩
 ·exact pz _ _ _
 ·exact aB _ _
structure Table(w:tF)(M:Nat)(v1 v2 v3 v5 v6 v7:tN):Prop where
 pO:w.heap[M]? =some (.map #[⟨iV 1,v1,0⟩,⟨iV 2,v2,1⟩,⟨iV 3,v3,2⟩,⟨iV 4,.func (.func 221) #[] #[],3⟩,⟨iV 5,v5,4⟩,⟨iV 6,v6,5⟩,⟨iV 7,v7,6⟩] 7)
 d1:N9 w v1 217
 d2:EH w v2 1 219
 d3:Bp w v3 1 220
 d5:EH w v5 4 219
 d6:EH w v6 4 222
 d7:EH w v7 3 223
structure Tb(w wx:tF)(es:Array MapEntry)(clock:Nat):Prop where
 pO:wx.heap[w.heap.size]? =some (.map es clock)
 dC:bZ w wx
theorem Tb.next{w wx wy:tF}{es:Array MapEntry}{clock:Nat}(h:Tb w wx es clock)(b:bZ wx wy):Tb w wy es clock:=⟨(b.block _ (cj h.pO)).trans h.pO,Below.next h.dC b⟩
theorem Oa(w:tF):cA 190 #[] w fun e w'=>∃v1 v2 v3 v5 v6 v7,e= .returned (.map (some w.heap.size))∧Table w' w.heap.size v1 v2 v3 v5 v6 v7∧bZ w w':=by
 go_enter Tryz.func190,Tryz.ntmps190
 go_wp2_with (first
  |(refine VT rfl rfl ?_;intro W0 m0 b0;have T0:=ai (Tb.mk (w:=w) m0 b0);clear b0 m0)
  |(go_at_call 216;refine(N_ 217 _).mono ?_;rintro _ W1 ⟨v1,rfl,dv1,b1⟩;have T1:=ai ((aa T0).next b1);have rV:=ai dv1;clear dv1 b1 T0)
  |(refine kg (es:= #[]) (clock:=0) (z:=1) (v:=v1) _ _ _ rfl rfl rfl rfl rfl (aa T1).pO rfl ?_;intro W2 m2 t2;replace rV:=ai ((aa rV).keep (bO t2 (aa T1).pO));have T2:=ai (Tb.mk (w:=w) m2 (t2.under (aa T1).dC (Nat.le_refl _)));clear m2 t2 T1)
  |(go_at_call 218;refine(Ar 1 219 _).mono ?_;rintro _ W3 ⟨u2,rfl,du2,b3⟩;have T3:=ai ((aa T2).next b3);have Du2:=ai du2;replace rV:=ai ((aa rV).keep (aH b3));clear du2 b3 T2)
  |(go_at_call 216;refine(vr u2 1 219 _ (aa Du2)).mono ?_;rintro _ W4 ⟨v2,rfl,dv2,b4⟩;have T4:=ai ((aa T3).next b4);have wO:=ai dv2;replace rV:=ai ((aa rV).keep (aH b4));clear dv2 b4 T3 Du2)
  |(refine kg (es:= #[(⟨iV 1,v1,0⟩:tZ)]) (clock:=1) (z:=2) (v:=v2) _ _ _ rfl rfl rfl rfl rfl (aa T4).pO rfl ?_;intro W5 m5 t5;replace rV:=ai ((aa rV).keep (bO t5 (aa T4).pO));replace wO:=ai ((aa wO).keep (bO t5 (aa T4).pO));have T5:=ai (Tb.mk (w:=w) m5 (t5.under (aa T4).dC (Nat.le_refl _)));clear m5 t5 T4)
  |(go_at_call 218;refine(Ar 1 220 _).mono ?_;rintro _ W6 ⟨v3,rfl,dv3,b6⟩;have T6:=ai ((aa T5).next b6);have As:=ai dv3;replace rV:=ai ((aa rV).keep (aH b6));replace wO:=ai ((aa wO).keep (aH b6));clear dv3 b6 T5)
  |(refine kg (es:= #[(⟨iV 1,v1,0⟩:tZ),(⟨iV 2,v2,1⟩:tZ)]) (clock:=2) (z:=3) (v:=v3) _ _ _ rfl rfl rfl rfl rfl (aa T6).pO rfl ?_;intro W7 m7 t7;replace rV:=ai ((aa rV).keep (bO t7 (aa T6).pO));replace wO:=ai ((aa wO).keep (bO t7 (aa T6).pO));replace As:=ai ((aa As).keep (bO t7 (aa T6).pO));have T7:=ai (Tb.mk (w:=w) m7 (t7.under (aa T6).dC (Nat.le_refl _)));clear m7 t7 T6)
  |(refine kg (es:= #[(⟨iV 1,v1,0⟩:tZ),(⟨iV 2,v2,1⟩:tZ),(⟨iV 3,v3,2⟩:tZ)]) (clock:=3) (z:=4) (v:=(.func (.func 221) #[] #[])) _ _ _ rfl rfl rfl rfl rfl (aa T7).pO rfl ?_;intro W8 m8 t8;replace rV:=ai ((aa rV).keep (bO t8 (aa T7).pO));replace wO:=ai ((aa wO).keep (bO t8 (aa T7).pO));replace As:=ai ((aa As).keep (bO t8 (aa T7).pO));have T8:=ai (Tb.mk (w:=w) m8 (t8.under (aa T7).dC (Nat.le_refl _)));clear m8 t8 T7)
  |(go_at_call 218;refine(Ar 4 219 _).mono ?_;rintro _ W9 ⟨u5,rfl,du5,b9⟩;have T9:=ai ((aa T8).next b9);have Du5:=ai du5;replace rV:=ai ((aa rV).keep (aH b9));replace wO:=ai ((aa wO).keep (aH b9));replace As:=ai ((aa As).keep (aH b9));clear du5 b9 T8)
  |(go_at_call 216;refine(vr u5 4 219 _ (aa Du5)).mono ?_;rintro _ W10 ⟨v5,rfl,dv5,b10⟩;have Zi:=ai ((aa T9).next b10);have J7:=ai dv5;replace rV:=ai ((aa rV).keep (aH b10));replace wO:=ai ((aa wO).keep (aH b10));replace As:=ai ((aa As).keep (aH b10));clear dv5 b10 T9 Du5)
  |(refine kg (es:= #[(⟨iV 1,v1,0⟩:tZ),(⟨iV 2,v2,1⟩:tZ),(⟨iV 3,v3,2⟩:tZ),(⟨iV 4,(.func (.func 221) #[] #[]),3⟩:tZ)]) (clock:=4) (z:=5) (v:=v5) _ _ _ rfl rfl rfl rfl rfl (aa Zi).pO rfl ?_;intro W11 m11 t11;replace rV:=ai ((aa rV).keep (bO t11 (aa Zi).pO));replace wO:=ai ((aa wO).keep (bO t11 (aa Zi).pO));replace As:=ai ((aa As).keep (bO t11 (aa Zi).pO));replace J7:=ai ((aa J7).keep (bO t11 (aa Zi).pO));have T11:=ai (Tb.mk (w:=w) m11 (t11.under (aa Zi).dC (Nat.le_refl _)));clear m11 t11 Zi)
  |(go_at_call 218;refine(Ar 4 222 _).mono ?_;rintro _ W12 ⟨u6,rfl,du6,b12⟩;have T12:=ai ((aa T11).next b12);have Du6:=ai du6;replace rV:=ai ((aa rV).keep (aH b12));replace wO:=ai ((aa wO).keep (aH b12));replace As:=ai ((aa As).keep (aH b12));replace J7:=ai ((aa J7).keep (aH b12));clear du6 b12 T11)
  |(go_at_call 216;refine(vr u6 4 222 _ (aa Du6)).mono ?_;rintro _ W13 ⟨v6,rfl,dv6,b13⟩;have XM:=ai ((aa T12).next b13);have VU:=ai dv6;replace rV:=ai ((aa rV).keep (aH b13));replace wO:=ai ((aa wO).keep (aH b13));replace As:=ai ((aa As).keep (aH b13));replace J7:=ai ((aa J7).keep (aH b13));clear dv6 b13 T12 Du6)
  |(refine kg (es:= #[(⟨iV 1,v1,0⟩:tZ),(⟨iV 2,v2,1⟩:tZ),(⟨iV 3,v3,2⟩:tZ),(⟨iV 4,(.func (.func 221) #[] #[]),3⟩:tZ),(⟨iV 5,v5,4⟩:tZ)]) (clock:=5) (z:=6) (v:=v6) _ _ _ rfl rfl rfl rfl rfl (aa XM).pO rfl ?_;intro W14 m14 t14;replace rV:=ai ((aa rV).keep (bO t14 (aa XM).pO));replace wO:=ai ((aa wO).keep (bO t14 (aa XM).pO));replace As:=ai ((aa As).keep (bO t14 (aa XM).pO));replace J7:=ai ((aa J7).keep (bO t14 (aa XM).pO));replace VU:=ai ((aa VU).keep (bO t14 (aa XM).pO));have T14:=ai (Tb.mk (w:=w) m14 (t14.under (aa XM).dC (Nat.le_refl _)));clear m14 t14 XM)
  |(go_at_call 218;refine(Ar 3 223 _).mono ?_;rintro _ W15 ⟨u7,rfl,du7,b15⟩;have T15:=ai ((aa T14).next b15);have Du7:=ai du7;replace rV:=ai ((aa rV).keep (aH b15));replace wO:=ai ((aa wO).keep (aH b15));replace As:=ai ((aa As).keep (aH b15));replace J7:=ai ((aa J7).keep (aH b15));replace VU:=ai ((aa VU).keep (aH b15));clear du7 b15 T14)
  |(go_at_call 216;refine(vr u7 3 223 _ (aa Du7)).mono ?_;rintro _ W16 ⟨v7,rfl,dv7,b16⟩;have VV:=ai ((aa T15).next b16);have Dv7:=ai dv7;replace rV:=ai ((aa rV).keep (aH b16));replace wO:=ai ((aa wO).keep (aH b16));replace As:=ai ((aa As).keep (aH b16));replace J7:=ai ((aa J7).keep (aH b16));replace VU:=ai ((aa VU).keep (aH b16));clear dv7 b16 T15 Du7)
  |(refine kg (es:= #[(⟨iV 1,v1,0⟩:tZ),(⟨iV 2,v2,1⟩:tZ),(⟨iV 3,v3,2⟩:tZ),(⟨iV 4,(.func (.func 221) #[] #[]),3⟩:tZ),(⟨iV 5,v5,4⟩:tZ),(⟨iV 6,v6,5⟩:tZ)]) (clock:=6) (z:=7) (v:=v7) _ _ _ rfl rfl rfl rfl rfl (aa VV).pO rfl ?_;intro W17 m17 t17;replace rV:=ai ((aa rV).keep (bO t17 (aa VV).pO));replace wO:=ai ((aa wO).keep (bO t17 (aa VV).pO));replace As:=ai ((aa As).keep (bO t17 (aa VV).pO));replace J7:=ai ((aa J7).keep (bO t17 (aa VV).pO));replace VU:=ai ((aa VU).keep (bO t17 (aa VV).pO));replace Dv7:=ai ((aa Dv7).keep (bO t17 (aa VV).pO));have T17:=ai (Tb.mk (w:=w) m17 (t17.under (aa VV).dC (Nat.le_refl _)));clear m17 t17 VV))
 go_ret;exact⟨_,_,_,_,_,_,rfl,⟨(aa T17).pO,aa rV,aa wO,aa As,aa J7,aa VU,aa Dv7⟩,(aa T17).dC⟩
theorem sZ{w:tF}{M:Nat}{v1 v2 v3 v5 v6 v7:tN}(h:Table w M v1 v2 v3 v5 v6 v7):
  (Instr.lookup 273 (.map (some M)) (iV 1) false).run Tryz.prog w= .ok (v1) w∧(Instr.lookup 273 (.map (some M)) (iV 2) false).run Tryz.prog w= .ok (v2) w∧(Instr.lookup 273 (.map (some M)) (iV 3) false).run Tryz.prog w= .ok (v3) w∧(Instr.lookup 273 (.map (some M)) (iV 4) false).run Tryz.prog w= .ok (.func (.func 221) #[] #[]) w∧(Instr.lookup 273 (.map (some M)) (iV 5) false).run Tryz.prog w= .ok (v5) w∧(Instr.lookup 273 (.map (some M)) (iV 6) false).run Tryz.prog w= .ok (v6) w∧(Instr.lookup 273 (.map (some M)) (iV 7) false).run Tryz.prog w= .ok (v7) w:=by
 have hc:∀k,(Instr.checkKey false 10000 3 (iV k)).run Tryz.prog w= .ok () w:=fun k=>MapKept.run_checkKey (k:=iV k) Tryz.underlying3 (by simp[MapKept.IsKey]) false 9999;have ht:=h.pO;refine⟨?_, ?_, ?_, ?_, ?_, ?_, ?_⟩
 ·have hf:Instr.findNow (.int .i64) (iV 1) [(⟨iV 1,v1,0⟩:tZ),⟨iV 2,v2,1⟩,⟨iV 3,v3,2⟩,⟨iV 4,.func (.func 221) #[] #[],3⟩,⟨iV 5,v5,4⟩,⟨iV 6,v6,5⟩,⟨iV 7,v7,6⟩] 0=some (some (0,v1)):=rfl;simp[Instr.lookup,run_underlying Tryz.underlying273,MapKept.run_getObj_map ht,hc 1,MapKept.run_findKey Tryz.underlying3 hf,Result.andThen]
 ·have hf:Instr.findNow (.int .i64) (iV 2) [(⟨iV 1,v1,0⟩:tZ),⟨iV 2,v2,1⟩,⟨iV 3,v3,2⟩,⟨iV 4,.func (.func 221) #[] #[],3⟩,⟨iV 5,v5,4⟩,⟨iV 6,v6,5⟩,⟨iV 7,v7,6⟩] 0=some (some (1,v2)):=rfl;simp[Instr.lookup,run_underlying Tryz.underlying273,MapKept.run_getObj_map ht,hc 2,MapKept.run_findKey Tryz.underlying3 hf,Result.andThen]
 ·have hf:Instr.findNow (.int .i64) (iV 3) [(⟨iV 1,v1,0⟩:tZ),⟨iV 2,v2,1⟩,⟨iV 3,v3,2⟩,⟨iV 4,.func (.func 221) #[] #[],3⟩,⟨iV 5,v5,4⟩,⟨iV 6,v6,5⟩,⟨iV 7,v7,6⟩] 0=some (some (2,v3)):=rfl;simp[Instr.lookup,run_underlying Tryz.underlying273,MapKept.run_getObj_map ht,hc 3,MapKept.run_findKey Tryz.underlying3 hf,Result.andThen]
 ·have hf:Instr.findNow (.int .i64) (iV 4) [(⟨iV 1,v1,0⟩:tZ),⟨iV 2,v2,1⟩,⟨iV 3,v3,2⟩,⟨iV 4,.func (.func 221) #[] #[],3⟩,⟨iV 5,v5,4⟩,⟨iV 6,v6,5⟩,⟨iV 7,v7,6⟩] 0=some (some (3,.func (.func 221) #[] #[])):=rfl;simp[Instr.lookup,run_underlying Tryz.underlying273,MapKept.run_getObj_map ht,hc 4,MapKept.run_findKey Tryz.underlying3 hf,Result.andThen]
 ·have hf:Instr.findNow (.int .i64) (iV 5) [(⟨iV 1,v1,0⟩:tZ),⟨iV 2,v2,1⟩,⟨iV 3,v3,2⟩,⟨iV 4,.func (.func 221) #[] #[],3⟩,⟨iV 5,v5,4⟩,⟨iV 6,v6,5⟩,⟨iV 7,v7,6⟩] 0=some (some (4,v5)):=rfl;simp[Instr.lookup,run_underlying Tryz.underlying273,MapKept.run_getObj_map ht,hc 5,MapKept.run_findKey Tryz.underlying3 hf,Result.andThen]
 ·have hf:Instr.findNow (.int .i64) (iV 6) [(⟨iV 1,v1,0⟩:tZ),⟨iV 2,v2,1⟩,⟨iV 3,v3,2⟩,⟨iV 4,.func (.func 221) #[] #[],3⟩,⟨iV 5,v5,4⟩,⟨iV 6,v6,5⟩,⟨iV 7,v7,6⟩] 0=some (some (5,v6)):=rfl;simp[Instr.lookup,run_underlying Tryz.underlying273,MapKept.run_getObj_map ht,hc 6,MapKept.run_findKey Tryz.underlying3 hf,Result.andThen]
 ·have hf:Instr.findNow (.int .i64) (iV 7) [(⟨iV 1,v1,0⟩:tZ),⟨iV 2,v2,1⟩,⟨iV 3,v3,2⟩,⟨iV 4,.func (.func 221) #[] #[],3⟩,⟨iV 5,v5,4⟩,⟨iV 6,v6,5⟩,⟨iV 7,v7,6⟩] 0=some (some (6,v7)):=rfl;simp[Instr.lookup,run_underlying Tryz.underlying273,MapKept.run_getObj_map ht,hc 7,MapKept.run_findKey Tryz.underlying3 hf,Result.andThen]
theorem mX{w W:tF}{base n c:Nat}{a:tG}{xs:tO}(h:w.ownsRow base 55 6 (.slice a n c) n xs)(b:bZ w W):W.ownsRow base 55 6 (.slice a n c) n xs:=
 aK h (fun g hg _=>b.block g ((h.lt g hg).2))
section
variable{w:tF}{B:Bt}{a:tG}{c base:Nat}{r:Rec}
theorem kh{w W W':tF}(b:bZ w W)(b':bZ W W'):bZ w W':=Below.next b b'
end
theorem RO(B:Bt)(a:tG)(c:Nat)(r:Rec)(w:tF)(base:Nat)(bN:w.ownsRow base 55 6 (.slice a B.es.length c) B.es.length ((ak B.es).map (Value.int .i64)))(hb:base≤w.heap.size)(hs:(B.es.length+1)*48≤140737488355328):
  cA 219 #[bQ B.r B.e B.f B.t B.o a B.es.length c,mG r] w fun x w'=>fI w w' base (.slice a B.es.length c) x (some (B.more [r.v]))∧w.grownBy w' (Value.slice a B.es.length c).ownBlock:=by
 obtain⟨i6,hi6,hz60,hz61,hz62⟩:=gY Tryz.l9;go_enter Tryz.func219,Tryz.ntmps219
 go_upto_region 1 with fail
 obtain⟨W1,hW1,M1⟩:=Mr.made w B a c r;rw[←hW1];clear hW1;have xV:=cj M1.z;have O1:=Ow.made M1 bN;obtain⟨x0,x1,x2,x3,x4,x5⟩:=M1.b.cells;obtain⟨r0,r1,r2,r3,r4,r5,r6,r7,r8,r9⟩:=M1.rc.cells;have g1:B.es.length+1≤maxLen:=by unfold maxLen;omega
 have g2:(B.es.length+1)*48≤140737488355328:=hs;have g3:base≤W1.heap.size:=by omega
 have g4:=Ha W1 r.v.k r.v.p r.v.i r.v.b r.v.he r.v.hn 55;have g5:=O1.own.alloc (.cells #[iV r.v.k,iV r.v.p,iV r.v.i,iV r.v.b,iV r.v.he,iV r.v.hn] 55);have G1:=ai g1;have G2:=ai g2;have G3:=ai g3;have G4:=ai g4;have G5:=ai g5;have XN:=ai O1;have HOW:=ai bN;clear g1 g2 g3 g4 g5 M1 O1 bN
 go_upto_region 2 with(at_builtin;refine wpList_append_own_at _ rfl (.tmp 7) (.tmp 10) 47 rfl base 55 i6 _ 6 48 Tryz.underlying47 hi6 hz60 hz61 hz62 rfl (by decide) (.slice a B.es.length c) B.es.length ((ak B.es).map (Value.int .i64)) rfl (aa G5) ⟨W1.heap.size,0,none⟩ 1 1 ([r.v.k,r.v.p,r.v.i,r.v.b,r.v.he,r.v.hn].map (Value.int .i64)) rfl rfl (aa G4) (ints_oneCell .i64 _) (aa G1) (aa G2) (by have:=aa G3;simp;omega) ?_;intro v2 W2 EI grow2 _ hat2;obtain⟨a2,c2,rfl⟩:=iN EI;have HAT:Hid (Bn w (.slice a B.es.length c) (.slice a2 (B.es.length+1) c2)):=ai (fun g hg=>by rcases hat2 with e|e<;>rw[e]at hg<;>first|exact .inl hg|(cases hg;exact .inr (by simp;omega)));clear hat2;obtain⟨k2,K2⟩:=(aa XN).added (aa HOW) EI grow2;clear x0 x1 x2 x3 x4 x5 r0 r1 r2 r3 r4 r5 r6 r7 r8 r9 EI grow2;have x5:=k2.cells.2.2.2.2.2;have xf:=k2.free 5;have HK:=ai k2;have E4:=ai K2;clear k2 K2)
 obtain⟨W3,hW3,O3⟩:∃W3,W3=W2.setCell ⟨w.heap.size,5,none⟩ (.slice a2 (B.es.length+1) c2)∧Ow w W3 base (Value.slice a B.es.length c).ownBlock B.r B.e B.f B.t B.o a2 (B.es.length+1) c2 (B.es++[r.v]):=by
  refine⟨_,rfl,aa E4 _ (av.set _ _ _ _) _ _ _ _ _ ?_⟩;have:=aa HK;unfold aG at this⊢;rw[cy this];simp
 rw[←hW3];clear hW3 x5 xf HK E4;obtain⟨W4,hW4,d4,D4,b4⟩:=O3.out;obtain⟨y0,y1,y2,y3,y4,y5⟩:=O3.b.cells;obtain⟨z0,z1,z2,z3,z4,z5⟩:=O3.z.cells;have zf:=O3.z.free;have D5:=ai (D4 (by simp));have K9:=ai b4;have K_:=ai d4;have Zc:=ai hW4;clear hW4 d4 D4 b4 O3 XN HOW G1 G2 G3 G4 G5;go_wp2;rw[←aa Zc];exact bodyPost_ret (VP (aa K_) rfl rfl) rfl ⟨fI.lie (aa D5) (aa HAT) (by simp[Aq]),aa K9⟩
theorem Bq(B:Bt)(a:tG)(c:Nat)(r:Rec)(w:tF)(base:Nat)(bN:w.ownsRow base 55 6 (.slice a B.es.length c) B.es.length ((ak B.es).map (Value.int .i64)))(hb:base≤w.heap.size)(hs:(B.es.length+1)*48≤140737488355328):
  cA 222 #[bQ B.r B.e B.f B.t B.o a B.es.length c,mG r] w fun x w'=>fI w w' base (.slice a B.es.length c) x (some ⟨1,B.e,0,B.t,B.o,B.es++[Ev.brk]⟩)∧w.grownBy w' (Value.slice a B.es.length c).ownBlock:=by
 obtain⟨i6,hi6,hz60,hz61,hz62⟩:=gY Tryz.l9;go_enter Tryz.func222,Tryz.ntmps222
 go_upto_region 1 with fail
 obtain⟨W0,hW0,M0⟩:=Mr.made w B a c r;rw[←hW0];clear hW0;have O0:=Ow.made M0 bN;obtain⟨x0,x1,x2,x3,x4,x5⟩:=M0.b.cells;have xf:=M0.b.free;have Zj:=ai O0;have HOW:=ai bN;clear M0 O0 bN
 go_upto_region 2 with fail
 obtain⟨W1,hW1,O1⟩:∃W1,W1=(W0.setCell ⟨w.heap.size,0,none⟩ (iV 1)).setCell ⟨w.heap.size,2,none⟩ (iV 0)∧Ow w W1 base (Value.slice a B.es.length c).ownBlock 1 B.e 0 B.t B.o a B.es.length c B.es:=by
  refine⟨_,rfl,(aa Zj).dG ((av.set _ _ _ _).trans (av.set _ _ _ _)) ?_⟩;have:=(aa Zj).b;unfold aG at this⊢;rw[cy (cy this)];simp
 rw[←hW1];clear hW1 x0 x1 x2 x3 x4 x5 xf Zj;have xV:=O1.z.lt;obtain⟨x0,x1,x2,x3,x4,x5⟩:=O1.b.cells;have g1:B.es.length+1≤maxLen:=by unfold maxLen;omega
 have g2:(B.es.length+1)*48≤140737488355328:=hs;have g3:base≤W1.heap.size:=by omega
 have g4:=Ha W1 4 0 0 0 0 0 55;have g5:=O1.own.alloc (.cells #[iV 4,iV 0,iV 0,iV 0,iV 0,iV 0] 55);have G1:=ai g1;have G2:=ai g2;have G3:=ai g3;have G4:=ai g4;have G5:=ai g5;have XN:=ai O1;clear g1 g2 g3 g4 g5 O1
 go_upto_region 3 with(at_builtin;refine wpList_append_own_at _ rfl (.tmp 9) (.tmp 11) 47 rfl base 55 i6 _ 6 48 Tryz.underlying47 hi6 hz60 hz61 hz62 rfl (by decide) (.slice a B.es.length c) B.es.length ((ak B.es).map (Value.int .i64)) rfl (aa G5) ⟨W1.heap.size,0,none⟩ 1 1 ([4,0,0,0,0,0].map (Value.int .i64)) rfl rfl (aa G4) (ints_oneCell .i64 _) (aa G1) (aa G2) (by have:=aa G3;simp;omega) ?_;intro v2 W2 EI grow2 _ hat2;obtain⟨a2,c2,rfl⟩:=iN EI;have HAT:Hid (Bn w (.slice a B.es.length c) (.slice a2 (B.es.length+1) c2)):=ai (fun g hg=>by rcases hat2 with e|e<;>rw[e]at hg<;>first|exact .inl hg|(cases hg;exact .inr (by simp;omega)));clear hat2;obtain⟨k2,K2⟩:=(aa XN).added (x:=Ev.brk) (aa HOW) EI grow2;clear x0 x1 x2 x3 x4 x5 EI grow2;have x5:=k2.cells.2.2.2.2.2;have xf:=k2.free 5;have HK:=ai k2;have E4:=ai K2;clear k2 K2)
 obtain⟨W3,hW3,O3⟩:∃W3,W3=W2.setCell ⟨w.heap.size,5,none⟩ (.slice a2 (B.es.length+1) c2)∧Ow w W3 base (Value.slice a B.es.length c).ownBlock 1 B.e 0 B.t B.o a2 (B.es.length+1) c2 (B.es++[Ev.brk]):=by
  refine⟨_,rfl,aa E4 _ (av.set _ _ _ _) _ _ _ _ _ ?_⟩;have:=aa HK;unfold aG at this⊢;rw[cy this];simp
 rw[←hW3];clear hW3 x5 xf HK E4;obtain⟨W4,hW4,d4,D4,b4⟩:=O3.out;obtain⟨y0,y1,y2,y3,y4,y5⟩:=O3.b.cells;obtain⟨z0,z1,z2,z3,z4,z5⟩:=O3.z.cells;have zf:=O3.z.free;have D5:=ai (D4 (by simp));have K9:=ai b4;have K_:=ai d4;have Zc:=ai hW4;clear hW4 d4 D4 b4 O3 XN HOW G1 G2 G3 G4 G5;go_wp2;rw[←aa Zc];exact bodyPost_ret (EG (aa K_) rfl rfl) rfl ⟨fI.lie (aa D5) (aa HAT) (by simp[Aq]),aa K9⟩
theorem Ob(B:Bt)(a:tG)(c:Nat)(r:Rec)(w:tF)(base:Nat)(bN:w.ownsRow base 55 6 (.slice a B.es.length c) B.es.length ((ak B.es).map (Value.int .i64))):
  cA 220 #[bQ B.r B.e B.f B.t B.o a B.es.length c,mG r] w fun x w'=>fI w w' base (.slice a B.es.length c) x (some ⟨3,B.e,B.f,r.p,B.o,B.es⟩)∧w.grownBy w' (Value.slice a B.es.length c).ownBlock:=by
 go_enter Tryz.func220,Tryz.ntmps220
 go_upto_region 1 with fail
 obtain⟨W0,hW0,M0⟩:=Mr.made w B a c r;rw[←hW0];clear hW0;have O0:=Ow.made M0 bN;obtain⟨x0,x1,x2,x3,x4,x5⟩:=M0.b.cells;obtain⟨r0,r1,r2,r3,r4,r5,r6,r7,r8,r9⟩:=M0.rc.cells;have xf:=M0.b.free;have Zj:=ai O0;clear M0 O0 bN
 go_region
 obtain⟨W3,hW3,O3⟩:∃W3,W3=((W0.setCell ⟨w.heap.size,0,none⟩ (iV 3)).setCell ⟨w.heap.size,3,none⟩ (iV r.p)).drew∧Ow w W3 base (Value.slice a B.es.length c).ownBlock 3 B.e B.f r.p B.o a B.es.length c B.es:=by
  refine⟨_,rfl,(aa Zj).dG (((av.set _ _ _ _).trans (av.set _ _ _ _)).trans (av.drawn _ _)) ?_⟩;have:=(aa Zj).b;unfold aG at this⊢;show((W0.setCell ⟨w.heap.size,0,none⟩ (iV 3)).setCell ⟨w.heap.size,3,none⟩ (iV r.p)).heap[w.heap.size]? =_;rw[cy (cy this)];simp
 rw[←hW3];clear hW3 x0 x1 x2 x3 x4 x5 r0 r1 r2 r3 r4 r5 r6 r7 r8 r9 xf Zj;obtain⟨W4,hW4,d4,D4,b4⟩:=O3.out;obtain⟨y0,y1,y2,y3,y4,y5⟩:=O3.b.cells;obtain⟨z0,z1,z2,z3,z4,z5⟩:=O3.z.cells;have zf:=O3.z.free;have D5:=ai (D4 rfl);have K9:=ai b4;have K_:=ai d4;have Zc:=ai hW4;clear hW4 d4 D4 b4 O3;go_wp2;rw[←aa Zc];exact bodyPost_ret (RN (aa K_) rfl rfl) rfl ⟨fI.lie (aa D5) (fun g hg=> .inl hg) (by simp[Aq]),aa K9⟩
end Go.Proofs.YtmhifeahpnkpiaaGreatDoor
