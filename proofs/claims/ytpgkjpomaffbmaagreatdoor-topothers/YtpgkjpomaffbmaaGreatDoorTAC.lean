/- Out of my texts: BeF, BeG, MoH, MpC, RvM, MpD, MpE, MpG, MpH, MpI, MpJ, MpK, BeH, BeI, MpL, MpM, DrA, DrB, DrC, DrG, DrD, PkD, PkG, PkH, PkB, TpA, TpB, PkJ, TpC, TpD, TpE, PkI, TpF, PkK, KpA, PkL, PlA, PlB, TpJ, TpK, TpL, TpM, TpG, TpH, TpQ, TpR, RdA, RdB, RdC, RdD, RdE, RlA, RlB, RlC, RlI, RlD, RdF, RdG, RdH, RdI, RdJ. -/
import Derived.BigQuiet
import Derived.Deep.CutRange
import Derived.Deep.DeepCutAuto
import Derived.Deep.QuietTactic
import Derived.Deep.RegionHeld3
import Derived.Defers
import Derived.Lib.Bytes
import Derived.Maps.AppendAt
import Derived.Recover
import Derived.WideMake
import Derived.Test.YtpgkjpomaffbmaaGreatDoorProg
import Derived.Test.YtpgkjpomaffbmaaGreatDoorTAA
import Derived.Test.YtpgkjpomaffbmaaGreatDoorTAB
set_option maxRecDepth 20000
set_option maxHeartbeats 8000000
set_option linter.unusedVariables false
namespace Go.Proofs.YtpgkjpomaffbmaaGreatDoor
open Go.RowKit
abbrev Bi:= @of_decide_eq_true
abbrev Br:= @Classical.not_not
abbrev Ch:= @List.take_add_one
abbrev Ci:= @List.take_left'
abbrev Cv:= @World.block_lt_of_cell?
section
open Rv
theorem xx(B:Bt)(a:tB)(c:Nat)(hv:Int)(w:tA)(hb:jg w B a c):cA 169 #[cg B.r B.e B.f B.t B.o a B.es.length c,iV hv] w (rB (iV (dA B hv)) w):=by
 refine en (H:=[]) _ [vg (bS B.r B.e B.f B.t B.o a B.es.length c),vi hv] Tryz.func169 rfl rfl (Ip hb) (r [] rfl fun _=> ?_);unfold dA;by_cases ok:B.Ok
 case neg=>exact Rv.cb rfl (vi 6) (fun w hS=>kx B a c w hS.now.1 ok) (r [1] rfl fun _=>fin fun w hS=>⟨by rw[Ae ok];rfl,hS.now.2⟩)
 rw[Aa (Bc ok)];refine Rv.cb rfl (vi 0) (fun w hS=>gz B a c w hS.now.1 ok) (r [0] rfl fun _=> ?_);by_cases h2:B.r=2∨B.r=3
 case neg=>exact Rv.cb rfl (vv (.bool false)) (fun w _=>nO false (l8 B.r B.e B.f B.t B.o a B.es.length c w) (Ak h2)) (r [] rfl fun _=>fin fun w hS=>⟨by rw[Ae h2];rfl,hS.now.2⟩)
 rw[Aa (Bc h2)];refine Rv.cb rfl (vv (.bool true)) (fun w _=>nO true (l8 B.r B.e B.f B.t B.o a B.es.length c w) (As h2)) (r [] rfl fun _=> ?_);by_cases h3:0≤hv∧hv≤B.es.length
 case neg=>exact Rv.cb rfl (vv (.bool false)) (fun w _=>gy false (eD hv B.es.length w) (Ak h3)) (r [] rfl fun _=>fin fun w hS=>⟨by rw[Ae h3];rfl,hS.now.2⟩)
 rw[Aa (Bc h3)];exact Rv.cb rfl (vv (.bool true)) (fun w _=>gy true (eD hv B.es.length w) (As h3)) (r [] rfl fun _=>fin fun w hS=>⟨rfl,hS.now.2⟩)
theorem EE{B:Bt}{hv:Int}(h:dA B hv=0):B.Ok∧(B.r=2∨B.r=3)∧0≤hv∧hv≤B.es.length:=by
 unfold dA at h;by_cases ok:B.Ok
 ·rw[Aa (fun h=>h ok)]at h;by_cases h1:B.r=2∨B.r=3
  ·rw[Aa (fun h=>h h1)]at h;by_cases h2:0≤hv∧hv≤B.es.length
   ·exact⟨ok,h1,h2⟩
   ·rw[Ae h2]at h;omega
  ·rw[Ae h1]at h;omega
 ·rw[Ae ok]at h;omega
theorem Wl{B:Bt}(h:B.b_):0≤B.o∧B.o≤4:=by
 unfold Bt.b_ bg at h;rcases h with h|h|h|h|h<;>omega
theorem Ir(B:Bt)(a:tB)(c:Nat)(hv:Int)(w:tA)(hb:jg w B a c):cA 133 #[cg B.r B.e B.f B.t B.o a B.es.length c,iV hv] w fun x w'=>∃y B' er,x= .returned (.tuple #[y,iV er])∧aL B hv=(B',er)∧iy w w' B' y∧bZ w w':=by
 have w0:∀(B':Bt) w1,bZ w w1→jg w1 B a c→B'.es=B.es→B.es.length≤2000→cA 154 #[cg B'.r B'.e B'.f B'.t B'.o a B.es.length c,.slice none 0 0] w1 fun x w'=>∃y:Option Addr×Nat,x= .returned (bY B' B.es.length y).val∧bZ w1 w'∧xW w y∧∀{U:tF},(∀b,U b→b<w1.heap.size)→cm U w' fun w=>jg w B' y.1 y.2:=fun B' w1 h0 hb e hl=>by
  have:=(sY B' a c w1 ⟨by rw[e];exact hb.row,by rw[e];exact hb.cap,hb.nil⟩ (by rw[e];exact hl)).mono fun _ _ h=>MV h0 h;rw[e]at this;exact this
 refine en (H:=[]) _ [vg (bS B.r B.e B.f B.t B.o a B.es.length c),vi hv] Tryz.func133 rfl rfl (Ip hb) (r [] rfl fun _=>Rv.cb rfl (vi (dA B hv)) (fun w hS=>xx B a c hv w hS.now.1) ?_);unfold aL;by_cases h0:dA B hv=0
 case neg=>exact r [1] rfl fun _=>Rv.cb rfl (vt [F8,.o (iV (dA B hv))]) (fun w _=>mM _ w) (r [] rfl fun _=>fin fun w hS=>⟨_,_,_,rfl,Ae h0,iy.zero _ _,hS.now.2⟩)
 rw[Aa (Bc h0)];obtain⟨ok,hr,hv0,N7⟩:=EE h0;have hl:=ok.len;by_cases h3:B.r=3
 ·rw[Ae h3];refine r [0,1] rfl fun _=>Rv.cx rfl (fun y=> .s (bY B B.es.length y)) (xW w) (fun y w=>jg w B y.1 y.2) (fun w1 hS=>(w0 B w1 hS.now.2 hS.now.1 rfl hl).mono fun _ _ ⟨y,k1,k2,k3,k4⟩=>⟨y,k1,k2,k3,k4⟩) fun y hy=> ?_;exact r [] rfl fun _=>fin fun w hS=>⟨_,_,_,rfl,rfl,⟨y.1,y.2,rfl,hS.now.1.2,hy⟩,hS.now.2⟩
 rw[Aa h3];by_cases h4:hv=B.es.length∨B.o=4
 ·rw[Ae h4];have fi:∀{P:Prop},(hv=B.es.length→P)→(¬hv=B.es.length→B.o=4→P)→P:=fun f g=>by
   by_cases e:hv=B.es.length
   ·exact f e
   ·exact g e (h4.resolve_left e)
  refine fi (fun e=> ?_) fun e e4=> ?_
  case' refine_1=>refine r [0,0,1] rfl fun _=> ?_
  case' refine_2=>refine r [0,0,0,1] rfl fun _=> ?_
  all_goals
   refine Rv.cx rfl (fun y=> .s (bY ⟨3,B.e,B.f,B.t,0,B.es⟩ B.es.length y)) (xW w) (fun y w=>jg w ⟨3,B.e,B.f,B.t,0,B.es⟩ y.1 y.2) (fun w1 hS=>(w0 ⟨3,B.e,B.f,B.t,0,B.es⟩ w1 hS.now.2 hS.now.1 rfl hl).mono fun _ _ ⟨y,k1,k2,k3,k4⟩=>⟨y,k1,k2,k3,k4⟩) fun y hy=> ?_;exact r [] rfl fun _=>fin fun w hS=>⟨_,_,_,rfl,rfl,⟨y.1,y.2,rfl,hS.now.1.2,hy⟩,hS.now.2⟩
 rw[Aa h4];have ho:=Wl ok.cG;refine rz [0,0,0,0,1] [B.o+1] rfl fun _=>Rv.cx rfl (fun y=> .s (bY ⟨B.r,B.e,B.f,B.t,B.o+1,B.es⟩ B.es.length y)) (xW w) (fun y w=>jg w ⟨B.r,B.e,B.f,B.t,B.o+1,B.es⟩ y.1 y.2) (fun w1 hS=>(w0 ⟨B.r,B.e,B.f,B.t,B.o+1,B.es⟩ w1 hS.now.2 hS.now.1 rfl hl).mono fun _ _ ⟨y,k1,k2,k3,k4⟩=>⟨y,k1,k2,k3,k4⟩) fun y hy=> ?_;exact r [] rfl fun _=>fin fun w hS=>⟨_,_,_,rfl,rfl,⟨y.1,y.2,rfl,hS.now.1.2,hy⟩,hS.now.2⟩
theorem KU{W:tA}{R:Nat}{r e f t o:Int}{a:tB}{n c:Nat}{er:Int}{tmps:tR}(d:aG W R r e f t o a n c)(t1:tmps[6]? =some (.pointer (some ⟨R,0,none⟩)))(t2:tmps[7]? =some (iV er)):
  (results Tryz.f132 tmps).run Tryz.prog W= .ok (.tuple #[cg r e f t o a n c,iV er]) W:=by
 simp[results,Tryz.results132,t1,t2,asAddr,eE d]
theorem sZ(B:Bt)(a:tB)(c:Nat)(ep fr:Int)(w:tA)(hb:jg w B a c):cA 132 #[cg B.r B.e B.f B.t B.o a B.es.length c,iV ep,iV fr] w fun x w'=>∃y B' er,x= .returned (.tuple #[y,iV er])∧aP B ep fr=(B',er)∧iy w w' B' y∧bZ w w':=by
 have no:=fun er w=>mM er w;refine en (H:=[]) _ [vg (bS B.r B.e B.f B.t B.o a B.es.length c),vi ep,vi fr] Tryz.func132 rfl rfl (Ip hb) (r [] rfl fun _=> ?_);unfold aP;by_cases ok:B.Ok
 case neg=>exact Rv.cb rfl (vi 6) (fun w hS=>kx B a c w hS.now.1 ok) (r [1] rfl fun _=>Rv.cb rfl (vt [F8,.o (iV 6)]) (fun w _=>no 6 w) (r [] rfl fun _=>fin fun w hS=>⟨_,_,_,rfl,Ae ok,iy.zero _ _,hS.now.2⟩))
 rw[Aa (Bc ok)];refine Rv.cb rfl (vi 0) (fun w hS=>gz B a c w hS.now.1 ok) (r [0] rfl fun _=> ?_);by_cases h1:1≤ep∧ep≤1048576
 case neg=>exact Rv.cb rfl (vv (.bool false)) (fun w _=>gy false (kP ep w) (Ak h1)) (r [] rfl fun _=>Rv.cb rfl (vt [F8,.o (iV 2)]) (fun w _=>no 2 w) (r [] rfl fun _=>fin fun w hS=>⟨_,_,_,rfl,Ae (fun h=>h1 h.1),iy.zero _ _,hS.now.2⟩))
 refine Rv.cb rfl (vv (.bool true)) (fun w _=>gy true (kP ep w) (As h1)) (r [] rfl fun _=> ?_);by_cases h2:0≤fr∧fr≤4
 case neg=>exact Rv.cb rfl (vv (.bool false)) (fun w _=>gy false (gI fr w) (Ak h2)) (r [] rfl fun _=>Rv.cb rfl (vt [F8,.o (iV 2)]) (fun w _=>no 2 w) (r [] rfl fun _=>fin fun w hS=>⟨_,_,_,rfl,Ae (fun h=>h2 h.2),iy.zero _ _,hS.now.2⟩))
 rw[Aa (Bc ⟨h1,h2⟩)];refine Rv.cb rfl (vv (.bool true)) (fun w _=>gy true (gI fr w) (As h2)) (r [] rfl fun _=> ?_);by_cases h3:B.r=1∨B.r=2
 case pos=>exact Rv.cb rfl (vv (.bool true)) (fun w _=>nO true (mL B.r B.e B.f B.t B.o a B.es.length c w) (As h3)) (r [] rfl fun _=>Rv.cb rfl (vt [F8,.o (iV 8)]) (fun w _=>no 8 w) (r [] rfl fun _=>fin fun w hS=>⟨_,_,_,rfl,Ae (by omega),iy.zero _ _,hS.now.2⟩))
 refine Rv.cb rfl (vv (.bool false)) (fun w _=>nO false (mL B.r B.e B.f B.t B.o a B.es.length c w) (Ak h3)) ?_;by_cases h4:B.r=3
 case pos=>exact r [1] rfl fun _=>Rv.cb rfl (vt [F8,.o (iV 8)]) (fun w _=>no 8 w) (r [] rfl fun _=>fin fun w hS=>⟨_,_,_,rfl,Ae (by omega),iy.zero _ _,hS.now.2⟩)
 rw[Aa (by omega)];by_cases h5:B.r=4∧B.e=ep∧B.f=fr
 ·rw[Ae h5];obtain⟨k1,k2,k3⟩:=h5;refine r [0,1,1,1] rfl fun _=>Rv.cx rfl (fun y=> .s (bY B B.es.length y)) (xW w) (fun y w=>jg w B y.1 y.2) (fun w1 hS=>(sY B a c w1 hS.now.1 ok.len).mono fun _ _ h=>by obtain⟨y,h1,h2,h3,h4⟩:=MV hS.now.2 h;exact⟨y,h1,h2,h3,h4⟩) fun y hy=> ?_;exact r [] rfl fun _=>fin fun w hS=>⟨_,_,_,rfl,rfl,⟨y.1,y.2,rfl,hS.now.1.2,hy⟩,hS.now.2⟩
 rw[Aa h5];have fi:∀{P:Prop},(¬B.r=4→P)→(B.r=4→¬B.e=ep→P)→(B.r=4→B.e=ep→¬B.f=fr→P)→P:=fun f g h=>by
  by_cases e:B.r=4
  ·by_cases e2:B.e=ep
   ·exact h e e2 fun e3=>h5 ⟨e,e2,e3⟩
   ·exact g e e2
  ·exact f e
 refine fi (fun e=> ?_) (fun e e2=> ?_) fun e e2 e3=> ?_
 case' refine_1=>refine r [0,0] rfl fun _=> ?_
 case' refine_2=>refine r [0,1,0] rfl fun _=> ?_
 case' refine_3=>refine r [0,1,1,0] rfl fun _=> ?_
 all_goals
  by_cases h6:ep≤B.e
  ·exact r [1] rfl fun _=>Rv.cb rfl (vt [F8,.o (iV 15)]) (fun w _=>no 15 w) (r [] rfl fun _=>fin fun w hS=>⟨_,_,_,rfl,Ae h6,iy.zero _ _,hS.now.2⟩)
  ·rw[Aa h6];exact r [0] rfl fun _=>fin fun w hS=>⟨_,_,_,rfl,rfl,⟨none,0,rfl,⟨RowK.nil _ _ _,Ac _,fun _=>rfl⟩,fun x hx=>by cases hx⟩,hS.now.2⟩
end
section
variable(r e f t o:Int)(a:tB)(n c:Nat)(q:tD)(r' e' f' t' o':Int)(a':tB)(n' c':Nat)(w:tA)
theorem acm(er:Int)(h0:¬er=0):cA 123 #[jG r e f t o a n c q,cg r' e' f' t' o' a' n' c',iV er] w (rB (.tuple #[jG 0 0 0 0 0 none 0 0 zQ,iV er]) w):=by
 go_enter Tryz.func123,Tryz.ntmps123
 go_wp2_with (first
  |(refine EC _ rfl rfl rfl ?_;intro W1 m1 b1 _s1;have L1:=m1.lt;clear m1 _s1)
  |(refine YL _ rfl rfl rfl ?_;intro W2 d2 b2 _s2;have L2:=d2.lt;have B2:=b1.trans (b2.mono (by omega));clear d2 b1 b2 _s2)
  |(refine MQ rfl rfl ?_;intro W3 z3 b3 _s3;have L3:=z3.lt;have B3:=B2.trans (b3.mono (by omega));clear B2 b3 _s3)
  |(go_at_call 136;refine(jx _ _).mono ?_;rintro x W4 ⟨rfl,b4⟩;have z4:=z3.next b4;have B4:=B3.trans (b4.mono (by omega));clear z3 B3 b4)
  |(refine MP _ _ rfl rfl rfl rfl z4 zz ?_;intro W5 z5 t5;have B5:=t5.under B4 (by omega);clear z4 B4 t5))
 exact Ao (MR z5 _ rfl rfl rfl) rfl ⟨rfl,B5⟩
end
structure ki(w:tA)(B:Bt)(a:tB)(c:Nat)(q:tD):Prop where
 b:jg w B a c
 q:∃s bu,bz B.es s bu∧we w s q
theorem ki.one{w:tA}{B:Bt}{a:tB}{c:Nat}{q:tD}(h:ki w B a c q):aW q 41:=by
 obtain⟨s,bu,_,hq⟩:=h.q;exact hq.one
abbrev zJ(B:Bt)(a:tB)(c:Nat)(q:tD):Value:=jG B.r B.e B.f B.t B.o a B.es.length c q
def s5(U:tF)(w':tA)(B:Bt)(y:tK):Prop:=∃a c q,y=zJ B a c q∧cm U w' fun w=>ki w B a c q
theorem Is(w:tA):we w St.zero zQ:=⟨none,0,none,0,eS,rfl,RowK.nil _ _ _,RowK.nil _ _ _,Ac _,Ac _,fun _=>rfl,fun _=>rfl,jP⟩
theorem ki.dG{w:tA}{B:Bt}(h:B.es=[]):ki w B none 0 zQ:=⟨⟨by rw[h];exact RowK.nil _ _ _,by rw[h];exact Ac _,fun _=>rfl⟩,St.zero,[],by rw[h];exact .nil,Is w⟩
theorem ki.nil{w w':tA}{B:Bt}{a:tB}{c:Nat}(h:B.es=[])(hb:jg w B a c):ki w' B a c zQ:=⟨⟨by rw[h];exact RowK.nil _ _ _,hb.cap,hb.nil⟩,St.zero,[],by rw[h];exact .nil,Is w'⟩
def Bt.dG(B:Bt):Bt:=⟨B.r,B.e,B.f,B.t,B.o,[]⟩
theorem xy{r e f t o:Int}{n m:Nat}(h:bg r e f t o n)(hm:m≤n):bg r e f t o m:=by
 unfold bg at h⊢;rcases h with⟨h1,h2,h3⟩|h|h|h|h
 ·exact .inl ⟨h1,by omega,h3⟩
 ·exact .inr (.inl h)
 ·exact .inr (.inr (.inl h))
 ·exact .inr (.inr (.inr (.inl h)))
 ·exact .inr (.inr (.inr (.inr h)))
theorem Bt.Ok.dG{B:Bt}(h:B.Ok):B.dG.Ok:=⟨xy h.cG (Al _),by simp[Bt.dG],St.zero,[],.nil⟩
theorem qu(w:tA)(B:Bt):jg w B.dG none 0:=⟨RowK.nil _ _ _,Ac _,fun _=>rfl⟩
theorem OM{B:Bt}(ok:B.Ok)(ep:Int):fh B.dG ep=fh B ep:=by
 unfold fh;rw[Aa (nn ok),Aa (nn ok.dG)];rfl
theorem Wm{B B':Bt}{ep er:Int}(h:fh B ep=(B',er)):B'.es=[]:=by
 unfold fh at h
 repeat' split at h
 all_goals cases h;rfl
theorem It{B:Bt}(ok:B.Ok)(ep:Int):bp B.dG ep=bp B ep:=by
 unfold bp;rw[Aa (nn ok),Aa (nn ok.dG)];rfl
theorem ON{B B':Bt}{ep er:Int}(h:bp B ep=(B',er)):B'.es=[]:=by
 unfold bp at h
 repeat' split at h
 all_goals cases h;rfl
theorem ki.role{w:tA}{B B':Bt}{a:tB}{c:Nat}{q:tD}(h:ki w B a c q)(e:B'.es=B.es):ki w B' a c q:=⟨⟨by rw[e];exact h.b.row,by rw[e];exact h.b.cap,h.b.nil⟩,by rw[e];exact h.q⟩
theorem MW(r e f t o:Int)(a:tB)(n c:Nat)(q:tD)(r' e' f' t' o':Int)(a':tB)(n' c':Nat)(er:Int)(w:tA)(hq:aW q 41):cA 123 #[jG r e f t o a n c q,cg r' e' f' t' o' a' n' c',iV er] w fun x w'=>∃y,x= .returned (.tuple #[y,iV er])∧(er=0→y=jG r' e' f' t' o' a n c q)∧(¬er=0→y=jG 0 0 0 0 0 none 0 0 zQ)∧bZ w w':=by
 by_cases h0:er=0
 ·subst h0;refine(ZT r e f t o a n c q r' e' f' t' o' a' n' c' w hq).mono ?_;rintro _ w' ⟨rfl,b⟩;exact⟨_,rfl,fun _=>rfl,fun h=>absurd rfl h,b⟩
 ·refine(acm r e f t o a n c q r' e' f' t' o' a' n' c' w er h0).mono ?_;rintro _ w' ⟨rfl,b⟩;exact⟨_,rfl,fun h=>absurd h h0,fun _=>rfl,b⟩
theorem Su{U:tF}{w:tA}{B B1:Bt}{a:tB}{c:Nat}{q:tD}{er:Int}{y:tK}(hm:cm U w fun w=>ki w B a c q)(h1:er=0→y=jG B1.r B1.e B1.f B1.t B1.o a B.es.length c q)(h2:¬er=0→y=jG 0 0 0 0 0 none 0 0 zQ):s5 U w (if er=0 then⟨B1.r,B1.e,B1.f,B1.t,B1.o,B.es⟩else Bt.zero) y:=by
 by_cases h0:er=0
 ·rw[Ae h0,h1 h0];exact⟨a,c,q,rfl,fun w' hc=>(hm w' hc).role rfl⟩
 ·rw[Aa h0,h2 h0];exact⟨none,0,zQ,rfl,fun w' _=>ki.dG rfl⟩
theorem OO{B B1:Bt}(ok:B.Ok){nd er:Int}(h:cW B.dG nd=(B1,er)):cW B nd=((if er=0 then⟨B1.r,B1.e,B1.f,B1.t,B1.o,B.es⟩else Bt.zero),er):=by
 unfold cW at h⊢;rw[Aa (nn ok.dG)]at h;rw[Aa (nn ok)];by_cases g1:0≤nd∧nd≤4
 ·rw[Aa (nn g1)]at h⊢;by_cases g2:B.r=2∨B.r=3
  ·rw[Ae (show B.dG.r=2∨B.dG.r=3 from g2)]at h;rw[Ae g2];cases h;rfl
  ·rw[Aa (show ¬(B.dG.r=2∨B.dG.r=3) from g2)]at h;rw[Aa g2];by_cases g3:B.r=1
   ·rw[Aa (nn (show B.dG.r=1 from g3))]at h;rw[Aa (nn g3)];by_cases g4:B.e=1048576
    ·rw[Ae (show B.dG.e=1048576 from g4)]at h;rw[Ae g4];cases h;rfl
    ·rw[Aa (show ¬B.dG.e=1048576 from g4)]at h;rw[Aa g4];cases h;rfl
   ·rw[Ae (show ¬B.dG.r=1 from g3)]at h;rw[Ae g3];cases h;rfl
 ·rw[Ae g1]at h⊢;cases h;rfl
def Bt.short(B:Bt):Bt:=⟨B.r,B.e,B.f,B.t,B.o,B.es.take 1⟩
theorem Bt.Ok.short{B:Bt}(h:B.Ok):B.short.Ok:=by
 obtain⟨s,bu,ht⟩:=h.told;rcases Cl B.es.length with h0|h0
 ·have e:B.es.take 1=B.es:=AL (by omega);exact⟨by unfold Bt.b_ Bt.short;rw[e];exact h.cG,by unfold Bt.short;rw[e];exact h.len,s,bu,by unfold Bt.short;rw[e];exact ht⟩
 ·obtain⟨s0,h1⟩:=ht.take 1 h0;exact⟨xy (m:=(B.es.take 1).length) h.cG (by rw[AM];omega),by simp[Bt.short];omega,s0,_,h1⟩
def lK(hv:Int)(n:Nat):Int:=if hv<0∨(n:Int)<hv then-1 else if hv=n then((min 1 n:Nat):Int)else 0
theorem zK{B:Bt}(ok:B.Ok)(hv:Int):dA B.short (lK hv B.es.length)=dA B hv:=by
 unfold dA;rw[Aa (nn ok),Aa (nn ok.short)];by_cases g1:B.r=2∨B.r=3
 ·rw[Aa (nn g1),Aa (nn (show B.short.r=2∨B.short.r=3 from g1))];have hl:B.short.es.length=min 1 B.es.length:=by simp[Bt.short]
  rw[hl];unfold lK;by_cases g2:hv<0∨(B.es.length:Int)<hv
  ·rw[Ae g2,Ae (by omega),Ae (by omega)]
  ·rw[Aa g2,Aa (nn (show 0≤hv∧hv≤(B.es.length:Int) by omega))];split<;>rw[Aa (nn (by omega))]
 ·rw[Ae g1,Ae (show ¬(B.short.r=2∨B.short.r=3) from g1)]
theorem F9{B B1:Bt}(ok:B.Ok){hv er:Int}(h:aL B.short (lK hv B.es.length)=(B1,er)):aL B hv=((if er=0 then⟨B1.r,B1.e,B1.f,B1.t,B1.o,B.es⟩else Bt.zero),er):=by
 unfold aL at h⊢;rw[zK ok]at h;by_cases g1:dA B hv=0
 ·rw[Aa (nn g1)]at h⊢;have J_:0≤hv∧hv≤(B.es.length:Int):=by
   unfold dA at g1;rw[Aa (nn ok)]at g1;split at g1
   ·omega
   ·split at g1
    ·omega
    ·rename_i g;exact AD.1 g
  by_cases g2:B.r=3
  ·rw[Ae (show B.short.r=3 from g2)]at h;rw[Ae g2];cases h;rfl
  ·rw[Aa (show ¬B.short.r=3 from g2)]at h;rw[Aa g2];have hl:B.short.es.length=min 1 B.es.length:=by simp[Bt.short]
   have e:(lK hv B.es.length=(B.short.es.length:Int)∨B.short.o=4)↔(hv=(B.es.length:Int)∨B.o=4):=by
    refine or_congr ?_ Iff.rfl;rw[hl];unfold lK;rw[Aa (by omega)];split
    ·rename_i g;simp[g]
    ·rename_i g;constructor
     ·intro hz;omega
     ·intro hz;exact absurd hz g
   by_cases g3:hv=(B.es.length:Int)∨B.o=4
   ·rw[Ae (e.2 g3)]at h;rw[Ae g3];cases h;rfl
   ·rw[Aa (fun k=>g3 (e.1 k))]at h;rw[Aa g3];cases h;rfl
 ·rw[Ae g1]at h⊢;cases h;rw[Aa g1]
theorem Iu{B B1:Bt}(ok:B.Ok){ep fr er:Int}(h:aP B.dG ep fr=(B1,er)):(er=0∧B1.e=B.e→aP B ep fr=(B,0))∧(¬(er=0∧B1.e=B.e)→aP B ep fr=(B1,er)∧B1.es=[]):=by
 unfold aP at h⊢;rw[Aa (nn ok.dG)]at h;rw[Aa (nn ok)];by_cases g1:(1≤ep∧ep≤1048576)∧(0≤fr∧fr≤4)
 ·rw[Aa (nn g1)]at h⊢;by_cases g2:B.r=1∨B.r=2∨B.r=3
  ·rw[Ae (show B.dG.r=1∨B.dG.r=2∨B.dG.r=3 from g2)]at h;rw[Ae g2];cases h;exact⟨fun hh=>absurd hh.1 (by decide),fun _=>⟨rfl,rfl⟩⟩
  ·rw[Aa (show ¬(B.dG.r=1∨B.dG.r=2∨B.dG.r=3) from g2)]at h;rw[Aa g2];by_cases g3:B.r=4∧B.e=ep∧B.f=fr
   ·rw[Ae (show B.dG.r=4∧B.dG.e=ep∧B.dG.f=fr from g3)]at h;rw[Ae g3];cases h;exact⟨fun _=>rfl,fun hh=>absurd ⟨rfl,rfl⟩ hh⟩
   ·rw[Aa (show ¬(B.dG.r=4∧B.dG.e=ep∧B.dG.f=fr) from g3)]at h;rw[Aa g3];by_cases g4:ep≤B.e
    ·rw[Ae (show ep≤B.dG.e from g4)]at h;rw[Ae g4];cases h;exact⟨fun hh=>absurd hh.1 (by decide),fun _=>⟨rfl,rfl⟩⟩
    ·rw[Aa (show ¬ep≤B.dG.e from g4)]at h;rw[Aa g4];cases h;exact⟨fun hh=>absurd hh.2 (by show ¬ep=B.e;omega),fun _=>⟨rfl,rfl⟩⟩
 ·rw[Ae g1]at h⊢;cases h;exact⟨fun hh=>absurd hh.1 (by decide),fun _=>⟨rfl,rfl⟩⟩
theorem Sv{k:IntKind}{w:tA}{a:tB}{len:Nat}{l:tG}(h:RowK k w a len l)(n:Nat)(hn:n≤len):RowK k w a n (l.take n):=by
 have hl:=h.bP;refine⟨by simp;omega,fun u hu=>h.wf u (AJ hu),fun i hi=> ?_⟩;obtain⟨b,off,ha,aN,hc⟩:=h.cell i (by omega);refine⟨b,off,ha,aN, ?_⟩;rw[hc];simp[List.getD_eq_getElem?_getD,hi]
theorem wh{w:tA}{B:Bt}{a:tB}{c:Nat}(h:jg w B a c):jg w B.short a c:=by
 have e:au (B.es.take 1)=(au B.es).take (6*(B.es.take 1).length):=by
  cases B.es with
  |nil=>rfl
  |cons v l=>simp[au,bf]
 refine⟨?_,by simp[Bt.short];have:=h.cap;omega,h.nil⟩;show RowK .i64 w a (6*(B.es.take 1).length) (au (B.es.take 1));rw[e];exact Sv h.row _ (by rw[AM];omega)
section
open Rv
abbrev qa(B:Bt)(a:tB)(c:Nat)(q:tD):List Sg:=[.o (iV B.r),.o (iV B.e),.o (iV B.f),.o (iV B.t),.o (iV B.o),.o (.slice a B.es.length c),.f 41 q]
abbrev OP:=Bt×Option Addr×Nat×(Nat→Value)
abbrev KV(y:OP):SV:= .g (qa y.1 y.2.1 y.2.2.1 y.2.2.2)
abbrev Sw(y:OP)(w:tA):Prop:=ki w y.1 y.2.1 y.2.2.1 y.2.2.2
theorem OQ(U:tF)(B:Bt)(a:tB)(c:Nat)(q:tD)(ep:Int)(w:tA)(ok:B.Ok):cA 67 #[zJ B a c q,iV ep] w fun x w'=>∃y B' er,x= .returned (.tuple #[y,iV er])∧fh B ep=(B',er)∧s5 U w' B' y∧bZ w w':=by
 refine en (H:=[]) _ [vg (qa B a c q),vi ep] Tryz.func67 rfl rfl (m0 w) (r [] rfl fun _=>Rv.cb rfl (vg (bS B.r B.e B.f B.t B.o none 0 0)) (fun w _=>kR B.r B.e B.f B.t B.o a B.es.length c q w) (r [] rfl fun _=> ?_));refine cx rfl (fun y:(Bt×Int)×Option Addr×Nat=>vt [bY y.1.1 y.1.1.es.length y.2,.o (iV y.1.2)]) (fun y=>fh B.dG ep=y.1) (fun y w=>jg w y.1.1 y.2.1 y.2.2) (fun w hS=>(OL B.dG none 0 ep w (qu _ _)).mono fun _ w4 ⟨_,B1,er,h0,h1,ho,b⟩=> ?_) ?_
 ·obtain⟨a1,c1,rfl,n_,pt⟩:=ho.ex;exact⟨((B1,er),a1,c1),h0,b,h1,fun hU w2 c2=>⟨bM n_.row pt hU w2 c2,n_.cap,n_.nil⟩⟩
 rintro⟨⟨B1,er⟩,a1,c1⟩ h1;exact r [] rfl fun _=>fin fun w hS=>⟨_,B1,er,rfl,(OM ok _)▸h1,⟨a1,c1,zQ,rfl,fun _ _=>ki.nil (Wm h1) hS.now.1.2⟩,hS.now.2⟩
theorem Iv(U:tF)(B:Bt)(a:tB)(c:Nat)(q:tD)(ep:Int)(w:tA)(ok:B.Ok):cA 104 #[zJ B a c q,iV ep] w fun x w'=>∃y B' er,x= .returned (.tuple #[y,iV er])∧bp B ep=(B',er)∧s5 U w' B' y∧bZ w w':=by
 refine en (H:=[]) _ [vg (qa B a c q),vi ep] Tryz.func104 rfl rfl (m0 w) (r [] rfl fun _=>Rv.cb rfl (vg (bS B.r B.e B.f B.t B.o none 0 0)) (fun w _=>kR B.r B.e B.f B.t B.o a B.es.length c q w) (r [] rfl fun _=> ?_));refine cx rfl (fun y:(Bt×Int)×Option Addr×Nat=>vt [bY y.1.1 y.1.1.es.length y.2,.o (iV y.1.2)]) (fun y=>bp B.dG ep=y.1) (fun y w=>jg w y.1.1 y.2.1 y.2.2) (fun w hS=>(Iq B.dG none 0 ep w (qu _ _)).mono fun _ w4 ⟨_,B1,er,h0,h1,ho,b⟩=> ?_) ?_
 ·obtain⟨a1,c1,rfl,n_,pt⟩:=ho.ex;exact⟨((B1,er),a1,c1),h0,b,h1,fun hU w2 c2=>⟨bM n_.row pt hU w2 c2,n_.cap,n_.nil⟩⟩
 rintro⟨⟨B1,er⟩,a1,c1⟩ h1;exact r [] rfl fun _=>fin fun w hS=>⟨_,B1,er,rfl,(It ok _)▸h1,⟨a1,c1,zQ,rfl,fun _ _=>ki.nil (ON h1) hS.now.1.2⟩,hS.now.2⟩
theorem EF(r e f t o:Int)(a:tB)(n c:Nat)(w:tA)(hc:n≤c):cA 148 #[cg r e f t o a n c] w (rB (cg r e f t o a (min 1 n) c) w):=by
 exact en (H:=[]) _ [vg (bS r e f t o a n c)] Tryz.func148 rfl rfl (m0 w) (rz [2] [((min 1 n:Nat):Int)] rfl fun _=>fin fun w hS=>⟨rfl,hS.now.2⟩)
theorem xz(r e f t o:Int)(a:tB)(n c:Nat)(q:tD)(hv:Int)(w:tA)(hc:n≤c):cA 134 #[jG r e f t o a n c q,iV hv] w (rB (.tuple #[cg r e f t o a (min 1 n) c,iV (lK hv n)]) w):=by
 refine en (H:=[]) _ [vg [.o (iV r),.o (iV e),.o (iV f),.o (iV t),.o (iV o),.o (.slice a n c),.f 41 q],vi hv] Tryz.func134 rfl rfl (m0 w) (Rv.r [] rfl fun _=>Rv.cb rfl (vg (bS r e f t o a (min 1 n) c)) (fun w _=>EF r e f t o a n c w hc) ?_);unfold lK;by_cases h0:hv<0
 ·exact Rv.r [1] rfl fun _=>fin fun w hS=>⟨by rw[Ae (.inl h0)];rfl,hS.now.2⟩
 by_cases h1:(n:Int)<hv
 ·exact Rv.r [0,1] rfl fun _=>fin fun w hS=>⟨by rw[Ae (.inr h1)];rfl,hS.now.2⟩
 rw[Aa (by omega)];by_cases h2:hv=n
 ·refine Rv.r [0,0,1,5,1,4] rfl fun _=> ?_
  repeat' first|refine FC ?_ ?_|refine rs [] rfl rfl fun _=> ?_
  all_goals exact fin fun w hS=>⟨by rw[Ae h2];rfl,hS.now.2⟩
 ·exact Rv.r [0,0,0] rfl fun _=>fin fun w hS=>⟨by rw[Aa h2];rfl,hS.now.2⟩
theorem YM{r' e' f' t' o':Int}{a:tB}{n c:Nat}{q:tD}{er:Int}{y:tK}(hq:aW q 41)(h1:er=0→y=jG r' e' f' t' o' a n c q)(h2:¬er=0→y=jG 0 0 0 0 0 none 0 0 zQ):∃yg,aW yg 47∧y=vF yg 47:=by
 by_cases h0:er=0
 ·exact⟨_,eF hq,h1 h0⟩
 ·exact⟨_,eF zz,h2 h0⟩
theorem Iw(B:Bt)(a:tB)(c:Nat)(hv:Int)(w:tA)(hb:jg w B a c):cA 133 #[cg B.r B.e B.f B.t B.o a (min 1 B.es.length) c,iV hv] w fun x w'=>∃y B' er,x= .returned (.tuple #[y,iV er])∧aL B.short hv=(B',er)∧iy w w' B' y∧bZ w w':=by
 have e:min 1 B.es.length=B.short.es.length:=by simp[Bt.short]
 rw[e];exact Ir B.short a c hv w (wh hb)
theorem Wn(U:tF)(B:Bt)(a:tB)(c:Nat)(q:tD)(nd:Int)(w:tA)(hU:∀b,U b→b<w.heap.size)(hm:cm U w fun w=>ki w B a c q)(ok:B.Ok):cA 82 #[zJ B a c q,iV nd] w fun x w'=>∃y B' er,x= .returned (.tuple #[y,iV er])∧cW B nd=(B',er)∧s5 U w' B' y∧bZ w w':=by
 have oq:=hm.now.one;refine en (H:=[]) _ [vg (qa B a c q),vi nd] Tryz.func82 rfl rfl (nZ hU hm) (r [] rfl fun _=>Rv.cb rfl (vg (bS B.r B.e B.f B.t B.o none 0 0)) (fun w _=>kR B.r B.e B.f B.t B.o a B.es.length c q w) (r [] rfl fun _=> ?_));refine cq rfl (fun y:(Bt×Int)×Option Addr×Nat=>vt [bY y.1.1 y.1.1.es.length y.2,.o (iV y.1.2)]) (fun y=>cW B.dG nd=y.1) (fun w hS=>(Wj B.dG none 0 nd w (qu _ _)).mono fun _ w4 ⟨_,B1,er,h0,h1,ho,b⟩=> ?_) ?_
 ·obtain⟨a1,c1,rfl,n_,pt⟩:=ho.ex;exact⟨((B1,er),a1,c1),h0,b,h1⟩
 rintro⟨⟨B1,er⟩,a1,c1⟩ h1;refine r [] rfl fun _=>cq rfl (fun y:Nat→Value=>vt [.g [.f 47 y],.o (iV er)]) (fun y=>aW y 47∧(er=0→vF y 47=jG B1.r B1.e B1.f B1.t B1.o a B.es.length c q)∧(¬er=0→vF y 47=jG 0 0 0 0 0 none 0 0 zQ)) (fun w hS=>(MW B.r B.e B.f B.t B.o a B.es.length c q B1.r B1.e B1.f B1.t B1.o a1 B1.es.length c1 er w oq).mono fun _ _ ⟨y,h0,y1,y2,b⟩=> ?_) ?_
 ·obtain⟨yg,oy,rfl⟩:∃yg,aW yg 47∧y=vF yg 47:=YM oq y1 y2;exact⟨yg,h0,b,oy,y1,y2⟩
 rintro yg ⟨oy,y1,y2⟩;exact r [] rfl fun _=>fin fun w hS=>⟨_,_,er,rfl,OO ok h1,Su hS.FD y1 y2,hS.now.2⟩
theorem Ix(U:tF)(B:Bt)(a:tB)(c:Nat)(q:tD)(hv:Int)(w:tA)(hU:∀b,U b→b<w.heap.size)(hm:cm U w fun w=>ki w B a c q)(ok:B.Ok):cA 97 #[zJ B a c q,iV hv] w fun x w'=>∃y B' er,x= .returned (.tuple #[y,iV er])∧aL B hv=(B',er)∧s5 U w' B' y∧bZ w w':=by
 have oq:=hm.now.one;have hc:=hm.now.b.cap;refine en (H:=[]) _ [vg (qa B a c q),vi hv] Tryz.func97 rfl rfl (nZ hU hm) (r [] rfl fun _=>Rv.cb rfl (vt [.g (bS B.r B.e B.f B.t B.o a (min 1 B.es.length) c),.o (iV (lK hv B.es.length))]) (fun w _=>xz B.r B.e B.f B.t B.o a B.es.length c q hv w hc) (r [] rfl fun _=> ?_));refine cq rfl (fun y:(Bt×Int)×Option Addr×Nat=>vt [bY y.1.1 y.1.1.es.length y.2,.o (iV y.1.2)]) (fun y=>aL B.short (lK hv B.es.length)=y.1) (fun w hS=>(Iw B a c (lK hv B.es.length) w hS.now.1.b).mono fun _ w4 ⟨_,B1,er,h0,h1,ho,b⟩=> ?_) ?_
 ·obtain⟨a1,c1,rfl,n_,pt⟩:=ho.ex;exact⟨((B1,er),a1,c1),h0,b,h1⟩
 rintro⟨⟨B1,er⟩,a1,c1⟩ h1;refine r [] rfl fun _=>cq rfl (fun y:Nat→Value=>vt [.g [.f 47 y],.o (iV er)]) (fun y=>aW y 47∧(er=0→vF y 47=jG B1.r B1.e B1.f B1.t B1.o a B.es.length c q)∧(¬er=0→vF y 47=jG 0 0 0 0 0 none 0 0 zQ)) (fun w hS=>(MW B.r B.e B.f B.t B.o a B.es.length c q B1.r B1.e B1.f B1.t B1.o a1 B1.es.length c1 er w oq).mono fun _ _ ⟨y,h0,y1,y2,b⟩=> ?_) ?_
 ·obtain⟨yg,oy,rfl⟩:∃yg,aW yg 47∧y=vF yg 47:=YM oq y1 y2;exact⟨yg,h0,b,oy,y1,y2⟩
 rintro yg ⟨oy,y1,y2⟩;exact r [] rfl fun _=>fin fun w hS=>⟨_,_,er,rfl,F9 ok h1,Su hS.FD y1 y2,hS.now.2⟩
theorem KX(U:tF)(B:Bt)(a:tB)(c:Nat)(q:tD)(ep fr:Int)(w:tA)(hU:∀b,U b→b<w.heap.size)(hm:cm U w fun w=>ki w B a c q)(ok:B.Ok):cA 94 #[zJ B a c q,iV ep,iV fr] w fun x w'=>∃y B' er,x= .returned (.tuple #[y,iV er])∧aP B ep fr=(B',er)∧s5 U w' B' y∧bZ w w':=by
 have oq:=hm.now.one;refine en (H:=[]) _ [vg (qa B a c q),vi ep,vi fr] Tryz.func94 rfl rfl (nZ hU hm) (r [] rfl fun _=>Rv.cb rfl (vg (bS B.r B.e B.f B.t B.o none 0 0)) (fun w _=>kR B.r B.e B.f B.t B.o a B.es.length c q w) (r [] rfl fun _=> ?_));refine cx rfl (fun y:(Bt×Int)×Option Addr×Nat=>vt [bY y.1.1 y.1.1.es.length y.2,.o (iV y.1.2)]) (fun y=>aP B.dG ep fr=y.1) (fun y w=>jg w y.1.1 y.2.1 y.2.2) (fun w hS=>(sZ B.dG none 0 ep fr w (qu _ _)).mono fun _ w4 ⟨_,B1,er,h0,h1,ho,b⟩=> ?_) ?_
 ·obtain⟨a1,c1,rfl,n_,pt⟩:=ho.ex;exact⟨((B1,er),a1,c1),h0,b,h1,fun hU w2 c2=>⟨bM n_.row pt hU w2 c2,n_.cap,n_.nil⟩⟩
 rintro⟨⟨B1,er⟩,a1,c1⟩ h1;have h1:aP B.dG ep fr=(B1,er):=h1;obtain⟨e1,e2⟩:=Iu ok h1;by_cases h0:er=0∧B1.e=B.e
 ·exact r [1,1] rfl fun _=>fin fun w hS=>⟨_,B,0,rfl,e1 h0,⟨a,c,q,rfl,fun w2 c2=>(hS.FD w2 c2).1⟩,hS.now.2⟩
 have cs:(er=0∧¬B1.e=B.e)∨¬er=0:=by omega
 rcases cs with⟨h2,h3⟩|h2
 case' inl=>refine r [1,0] rfl fun _=> ?_
 case' inr=>refine r [0] rfl fun _=> ?_
 all_goals exact fin fun w hS=>⟨_,B1,er,rfl,(e2 h0).1,⟨a1,c1,zQ,rfl,fun _ _=>ki.nil (e2 h0).2 hS.now.1.2⟩,hS.now.2⟩
end
theorem ki.split{U:tF}{w:tA}{B:Bt}{a:tB}{c:Nat}{q:tD}(h:cm U w fun w=>ki w B a c q):∃s bu,bz B.es s bu∧cm U w fun w=>jg w B a c∧we w s q:=by
 obtain⟨s,bu,ht,hq⟩:=h.now.q;refine⟨s,bu,ht,fun w' c'=>⟨(h w' c').b, ?_⟩⟩;obtain⟨s',ans',YN,xX⟩:=(h w' c').q;obtain⟨rfl,_⟩:=ht.one YN;exact xX
def sx(U:tF)(w:tA)(B:Bt)(l:List Ev)(y:tK)(k:Bool):Prop:=
 (k=true∧B.es.length+l.length≤2000∧(∃s bu,bz (B.es++l) s bu)∧s5 U w (B.more l) y)∨(k=false∧¬(B.es.length+l.length≤2000∧∃s bu,bz (B.es++l) s bu)∧y=jG 0 0 0 0 0 none 0 0 zQ)
theorem MX{es l:List Ev}{k:Nat}{v:Ev}{s s1:St}{bu:List An}{an:An}{ch:Bool}{er:Int}(ht:bz (es++l.take k) s bu)(hv:l[k]? =some v)(hd:Ig s v s1 an ch er)(h0:¬(er=0∧ch=true)):¬∃s bu,bz (es++l) s bu:=by
 rintro⟨s2,OG,h2⟩;have hk:k<l.length:=(Ap.1 hv).1;have e:(es++l).take (es.length+(k+1))=(es++l.take k)++[v]:=by
  rw[List.take_length_add_append,AA,Ch,hv];rfl
 obtain⟨s3,h3⟩:=h2.take (es.length+(k+1)) (by simp;omega);rw[e]at h3;obtain⟨s4,ans4,an4,h4,fw,st,_⟩:=h3.last;obtain⟨rfl,_⟩:=ht.one h4;cases hd with
 |step _ st'=>
  cases ch with
  |true=>exact h0 ⟨rfl,rfl⟩
  |false=>
   have:=(st.Wb ht.wf st').2.2;cases this
 |form _ hf hn=>exact hn (by rw[←hf];exact fw)
theorem s6{l:List Ev}{k:Nat}{v:Ev}(hk:l[k]? =some v):∀j,j<6→iV ((au l).getD (6*k+j) 0)=lF [iV v.k,iV v.p,iV v.i,iV v.b,iV v.he,iV v.hn] j:=by
 induction l generalizing k with
 |nil=>simp at hk
 |cons u l ih=>
  intro j hj;cases k with
  |zero=>
   simp at hk;subst hk
   match j,hj with
   |0,_=>rfl
   |1,_=>rfl
   |2,_=>rfl
   |3,_=>rfl
   |4,_=>rfl
   |5,_=>rfl
  |succ k=>
   have e:(au (u::l)).getD (6*(k+1)+j) 0=(au l).getD (6*k+j) 0:=by
    show([u.k,u.p,u.i,u.b,u.he,u.hn]++au l).getD _ 0=_;rw[Aw,Aw,AQ (by simp;omega)];congr 2;simp;omega
   rw[e];exact ih (by simpa using hk) j hj
theorem pw{w:tA}{a:tB}{len:Nat}{L:tG}(h:RowK .i64 w a len L)(hl:0<len):∃b off,a=some ⟨b,off,none⟩:=by
 obtain⟨b,off,ha,_⟩:=h.cell 0 hl;exact⟨b,off,ha⟩
section
open Rv
theorem OS{es l:List Ev}{k:Nat}{v:Ev}{s s1:St}{bu:List An}{an:An}(ht:bz (es++l.take k) s bu)(hv:l[k]? =some v)(hd:Ig s v s1 an true 0):bz (es++l.take (k+1)) s1 (bu++[an]):=by
 cases hd with
 |step fw st=>
  have e:es++l.take (k+1)=(es++l.take k)++[v]:=by
   rw[AA,Ch,hv];rfl
  rw[e];exact ht.snoc fw st
theorem Sy{U:tF}{w:tA}{B:Bt}{a a2:tB}{c c2:Nat}{b:tB}{lb:Nat}{l:List Ev}{s:St}{bu:List An}{q:tD}(Vn:lb=l.length)(ht:bz (B.es++l) s bu)(h:cm U w fun w=>((jg w B a c∧RowK .i64 w b (6*lb) (au l))∧we w s q)∧RowK .i64 w a2 (6*(B.es.length+lb)) (au B.es++au l))(jM:B.es.length+lb≤c2)(r_:a2=none→c2=0):cm U w fun w=>ki w (B.more l) a2 c2 q:=fun w' c'=>by
 have hh:=h w' c';have e:(B.more l).es.length=B.es.length+lb:=by simp[Bt.more,Vn]
 refine⟨⟨?_,by rw[e];exact jM,r_⟩,s,bu,ht,hh.1.2⟩;rw[e];have e2:au (B.more l).es=au B.es++au l:=by simp[Bt.more,au]
 rw[e2];exact hh.2
theorem EG(U:tF)(B:Bt)(a:tB)(c:Nat)(q:tD)(l:List Ev)(b:tB)(lb cb:Nat)(w:tA)(hU:∀b,U b→b<w.heap.size)(hm:cm U w fun w=>ki w B a c q)(hr:cm U w fun w=>RowK .i64 w b (6*lb) (au l))(Vn:lb=l.length)(vR:b=none→cb=0)(hlen:B.es.length≤2000)(DI:lb≤2000):cA 137 #[zJ B a c q,.slice b lb cb] w fun x w'=>∃y k,x= .returned (.tuple #[y,.bool k])∧sx U w' B l y k∧bZ w w':=by
 obtain⟨s,bu,ht,rX⟩:=ki.split hm;have oq:=hm.now.one;have hS0:Mem w (hs []) U (fun w=>(jg w B a c∧RowK .i64 w b (6*lb) (au l))∧we w s q) (fun w'=>bZ w w'):=nZ hU fun w2 c2=>⟨⟨(rX w2 c2).1,hr w2 c2⟩,(rX w2 c2).2⟩;have hbo:0<lb→∃bb bo,b=some ⟨bb,bo,none⟩:=fun h=>pw hr.now (by omega);refine en (H:=[]) _ [vg (qa B a c q),vv (.slice b lb cb)] Tryz.func137 rfl rfl hS0 ?_;by_cases hbig:2000<B.es.length+lb
 ·exact rz [1,1] [((B.es.length+lb:Nat):Int)] rfl fun _=>fin fun w hS=>⟨_,false,rfl,.inr ⟨rfl,fun h=>by omega,rfl⟩,hS.now.2⟩
 refine rz [1,0] [((B.es.length+lb:Nat):Int)] rfl fun α=>iD (X:=Nat×(Nat→Value)×Go.Proofs.YtpgkjpomaffbmaaGreatDoor.St×List An) ⟨fun x=>[(1,vv (.slice b lb cb)),(2,vp 0 0 (α 0)),(4,vp 1 0 (α 1)),(21,vv (.slice b lb cb)),(22,vi (lb:Int)),(23,vi (x.1:Int))],fun x=>[⟨α 0,114,qa B a c x.2.1⟩,⟨α 1,114,qa Bt.zero none 0 zQ⟩],fun _=>U,fun x w=>(jg w B a c∧RowK .i64 w b (6*lb) (au l))∧we w x.2.2.1 x.2.1,fun _ w'=>bZ w w',fun x=>x.1≤lb∧bz (B.es++l.take x.1) x.2.2.1 x.2.2.2∧aW x.2.1 41,fun x=>lb-x.1⟩ (0,q,s,bu) ⟨rfl,rfl,rfl,rfl,rfl,rfl,trivial⟩ (fun w hS=>hS) ⟨Nat.zero_le _,by simpa using ht,oq⟩ ?_;clear ht oq rX hS0 s bu;rintro f ⟨k,q,s,bu⟩ ⟨hk,ht,oq⟩;have hk:k≤lb:=hk;have ht:bz (B.es++l.take k) s bu:=ht;have oq:aW q 41:=oq;by_cases aN:k<lb
 case neg=>
  rw[show l.take k=l from AL (by omega)]at ht;refine r [0] rfl fun _=>cx rfl (fun y:Option Addr×Nat=>vv (.slice y.1 (B.es.length+lb) y.2)) (fun y=>B.es.length+lb≤y.2∧(y.1=none→y.2=0)) (fun y w=>RowK .i64 w y.1 (6*(B.es.length+lb)) (au B.es++au l)) (fun w hS=>(xv a b B.es.length c lb cb (au B.es) (au l) w hS.now.1.1.1.row hS.now.1.1.2 hS.now.1.1.1.nil vR (by omega)).mono ?_) fun y hy=> ?_
  ·rintro _ w3 ⟨_,rfl,ho,b1⟩;obtain⟨a2,c2,rfl,hr2,jM,r_,hf2⟩:=ho.ex;exact⟨(a2,c2),rfl,b1,⟨jM,r_⟩,fun hl=>bM hr2 hf2 hl⟩
  ·exact r [] rfl fun _=>fin fun w hS=>⟨_,true,rfl,.inl ⟨rfl,by omega,⟨s,bu,ht⟩,⟨y.1,y.2,q,by rw[zJ,show(B.more l).es.length=B.es.length+lb by simp[Bt.more,Vn]];rfl,Sy Vn ht hS.FD hy.1 hy.2⟩⟩,hS.now.2⟩
 obtain⟨bb,bo,hbe⟩:=hbo (by omega);obtain⟨v,hv⟩:∃v,l[k]? =some v:=⟨l[k],Ai (by omega)⟩;refine sv 21 (vv (.slice (some ⟨bb,bo,none⟩) lb cb)) (AB (fun b=>Value.slice b lb cb) hbe) (r [1] rfl fun _=>lf (q:=bo+k*6) rfl 6 (lF [iV v.k,iV v.p,iV v.i,iV v.b,iV v.he,iV v.hn]) (fun w hS j hj=> ?_) (r [] rfl fun β=> ?_))
 ·have dq:=hS.now.1.1.2;rw[hbe]at dq;obtain⟨b0,o0,e0,_,VI⟩:=dq.cell (6*k+j) (by omega);cases e0;rw[BF,Bn k 6,VI];exact AB some (s6 hv j hj)
 refine cx rfl (fun y:Go.Proofs.YtpgkjpomaffbmaaGreatDoor.St×An×Bool×Int×(Nat→Value)=>vt [.g [.f 41 y.2.2.2.2],.g (QS y.2.1),.o (.bool y.2.2.1),.o (iV y.2.2.2.1)]) (fun y=>Ig s v y.1 y.2.1 y.2.2.1 y.2.2.2.1∧aW y.2.2.2.2 41) (fun y w=>we w y.1 y.2.2.2.2) (fun w hS=>(Sc hS.now.1.2 ht.wf.ok v).mono fun _ _ ⟨s1,an,ch,er,q1,h1,hd,hq1,b⟩=>⟨(s1,an,ch,er,q1),h1,b,⟨hd,(hq1 (fun _=>False) (fun _ h=>h.elim)).now.one⟩,fun hl=>hq1 _ hl⟩) ?_;rintro⟨s1,an,ch,er,q1⟩ ⟨hd,Wo⟩;have hd:Ig s v s1 an ch er:=hd;have Wo:aW q1 41:=Wo;rcases hd.err with rfl|⟨Ik,rfl⟩
 case inr=>exact r [1] rfl fun _=>fin fun w hS=>⟨_,false,rfl,.inr ⟨rfl,fun h=>MX ht hv hd (fun g=>Ik g.1) h.2,rfl⟩,hS.now.2⟩
 cases ch
 ·exact r [0] rfl fun _=>fin fun w hS=>⟨_,false,rfl,.inr ⟨rfl,fun h=>MX ht hv hd (fun g=>by cases g.2) h.2,rfl⟩,hS.now.2⟩
 ·exact rz [0,1] [((k+1:Nat):Int)] rfl fun _=>bJ (k+1,q1,s1,bu++[an]) ⟨rfl,rfl,rfl,(AB (fun b=>Value.slice b lb cb) hbe).symm,rfl,rfl,trivial⟩ (fun w hS=>(hS.take 2).said fun _ h=>⟨h.1.1,h.2⟩) ⟨(show k+1≤lb by omega),OS ht hv hd,Wo⟩ (show lb-(k+1)<lb-k by omega)
theorem OT{w:tA}{R T:Nat}(v:Ev)(hv:∀u∈bf v,(Lit.int .i64 u).wf=true)(h:bh w R T 6 (lF [iV v.k,iV v.p,iV v.i,iV v.b,iV v.he,iV v.hn])):RowK .i64 w (some ⟨R,0,none⟩) (6*1) (au [v]):=by
 refine⟨rfl,by simpa[au]using hv,fun i hi=>⟨R,0,rfl,h.lt, ?_⟩⟩;rw[Aj,h.at i (by omega)]
 match i,hi with
 |0,_=>rfl
 |1,_=>rfl
 |2,_=>rfl
 |3,_=>rfl
 |4,_=>rfl
 |5,_=>rfl
theorem MY{U:tF}{w:tA}{B:Bt}{l:List Ev}{y:tK}{k:Bool}(h:sx U w B l y k):∃yg,aW yg 47∧y=vF yg 47:=by
 rcases h with⟨_,_,_,a,c,q,rfl,hm⟩|⟨_,_,rfl⟩
 ·exact⟨_,eF hm.now.one,rfl⟩
 ·exact⟨_,eF zz,rfl⟩
theorem sx.Fu{U V:tF}{w w':tA}{B:Bt}{l:List Ev}{y:tK}{k:Bool}(h:sx U w B l y k)(c:dB U w w')(hV:∀b,V b→U b):sx V w' B l y k:=by
 rcases h with⟨h1,h2,h3,a,c',q,e,hm⟩|h
 ·exact .inl ⟨h1,h2,h3,a,c',q,e,hm.Fu c fun b _ hb=>hV b hb⟩
 ·exact .inr h
theorem Ev.ZV:∀u∈bf Ev.brk,(Lit.int .i64 u).wf=true:=by decide
theorem xA(U:tF)(B:Bt)(a:tB)(c:Nat)(q:tD)(w:tA)(hU:∀b,U b→b<w.heap.size)(hm:cm U w fun w=>ki w B a c q)(hlen:B.es.length≤2000):cA 138 #[zJ B a c q] w fun x w'=>∃y k,x= .returned (.tuple #[y,.bool k])∧sx U w' ⟨1,B.e,0,0,0,B.es⟩ [Ev.brk] y k∧bZ w w':=by
 have oq:=hm.now.one;refine en (H:=[]) _ [vg (qa B a c q)] Tryz.func138 rfl rfl (nZ hU hm) (r [] rfl fun _=> ?_);refine kp 2 rfl (cx rfl (fun y:(Nat→Value)×Bool=>vt [.g [.f 47 y.1],.o (.bool y.2)]) (fun y=>aW y.1 47) (fun y w=>sx U w ⟨1,B.e,0,0,0,B.es⟩ [Ev.brk] (vF y.1 47) y.2) (fun w hS=>(EG _ ⟨1,B.e,0,0,0,B.es⟩ a c q [Ev.brk] _ 1 1 w hS.ult (fun w2 c2=>(hS.g w2 c2).1.role rfl) (fun w2 c2=>MJ Ev.brk Ev.ZV (hS.g w2 c2).2 (fun i hi=>by match i,hi with|0,_=>rfl|1,_=>rfl|2,_=>rfl|3,_=>rfl|4,_=>rfl|5,_=>rfl)) rfl (fun h=>by cases h) hlen (by decide)).mono fun _ _ ⟨y,k,h0,i_,b⟩=> ?_) fun y oy=> ?_)
 ·obtain⟨yg,oy,rfl⟩:=MY i_;exact⟨(yg,k),h0,b,oy,fun _ w2 c2=>i_.Fu c2 fun _ h=> .inr h⟩
 have oy:aW y.1 47:=oy;exact r [] rfl fun _=>fin fun w hS=>⟨_,y.2,rfl,hS.now.1.2,hS.now.2⟩
theorem zL{B:Bt}(ok:B.Ok)(hr:B.r=1∨B.r=2){U:tF}{w:tA}{y:tK}{k:Bool}(h:sx U w ⟨1,B.e,0,0,0,B.es⟩ [Ev.brk] y k):(k=true→aZ B=(B.broken,0)∧s5 U w B.broken y)∧(k=false→aZ B=(Bt.zero,14)):=by
 have st:1≤B.e∧B.e≤1048576:=by
  have:=ok.cG;unfold Bt.b_ bg at this;omega
 unfold aZ;rw[Aa (nn ok),Aa (nn hr)];rcases h with⟨rfl,h2,⟨s,bu,h3⟩,h4⟩|⟨rfl,h2,_⟩
 ·have ob:B.broken.Ok:=⟨.inr (.inl ⟨rfl,st.1,st.2,rfl,rfl,rfl⟩),by simpa[Bt.broken]using h2,s,bu,h3⟩;exact⟨fun _=>⟨by rw[Aa (nn ob)],h4⟩,fun h=>by cases h⟩
 ·refine⟨fun h=>(by cases h),fun _=> ?_⟩;rw[Ae];intro ob;obtain⟨s,bu,ht⟩:=ob.told;exact h2 ⟨by simpa[Bt.broken]using ob.len,s,bu,ht⟩
theorem OU(U:tF)(B:Bt)(a:tB)(c:Nat)(q:tD)(w:tA)(hU:∀b,U b→b<w.heap.size)(hm:cm U w fun w=>ki w B a c q)(ok:B.Ok)(hr:¬(B.r=1∨B.r=2)):cA 120 #[zJ B a c q] w fun x w'=>∃y B' er,x= .returned (.tuple #[y,iV er])∧aZ B=(B',er)∧s5 U w' B' y∧bZ w w':=by
 have oq:=hm.now.one;exact en (H:=[]) _ [vg (qa B a c q)] Tryz.func120 rfl rfl (nZ hU hm) (r [] rfl fun _=>Rv.cb rfl (vv (.bool false)) (fun w _=>nO false (kQ B.r B.e B.f B.t B.o a B.es.length c q w) (Ak hr)) (r [] rfl fun _=>fin fun w hS=>⟨_,B,0,rfl,by unfold aZ;rw[Aa (nn ok),Ae hr],⟨a,c,q,rfl,hS.FD⟩,hS.now.2⟩))
theorem OV(U:tF)(B:Bt)(a:tB)(c:Nat)(q:tD)(w:tA)(hU:∀b,U b→b<w.heap.size)(hm:cm U w fun w=>ki w B a c q)(ok:B.Ok)(hr:B.r=1∨B.r=2):cA 120 #[zJ B a c q] w fun x w'=>∃y B' er,x= .returned (.tuple #[y,iV er])∧aZ B=(B',er)∧s5 U w' B' y∧bZ w w':=by
 have oq:=hm.now.one;refine en (H:=[]) _ [vg (qa B a c q)] Tryz.func120 rfl rfl (nZ hU hm) (r [] rfl fun _=>Rv.cb rfl (vv (.bool true)) (fun w _=>nO true (kQ B.r B.e B.f B.t B.o a B.es.length c q w) (As hr)) (r [] rfl fun _=> ?_));refine cx rfl (fun y:(Nat→Value)×Bool=>vt [.g [.f 47 y.1],.o (.bool y.2)]) (fun y=>aW y.1 47) (fun y w=>sx U w ⟨1,B.e,0,0,0,B.es⟩ [Ev.brk] (vF y.1 47) y.2) (fun w hS=>(xA _ B a c q w hS.ult (fun w2 c2=>hS.g w2 c2) ok.len).mono fun _ _ ⟨y,k,h0,i_,b⟩=> ?_) ?_
 ·obtain⟨yg,oy,rfl⟩:=MY i_;exact⟨(yg,k),h0,b,oy,fun _ w2 c2=>i_.Fu c2 fun _ h=> .inr h⟩
 rintro⟨yg,k⟩ oy;have oy:aW yg 47:=oy;cases k
 ·exact r [] rfl fun _=>Rv.cb rfl (vt [.g (qa Bt.zero none 0 zQ),.o (iV 14)]) (fun w _=>jx 14 w) (r [] rfl fun _=>fin fun w hS=>⟨_,Bt.zero,14,rfl,(zL ok hr hS.now.1.2).2 rfl,⟨none,0,zQ,rfl,fun _ _=>ki.dG rfl⟩,hS.now.2⟩)
 ·exact r [] rfl fun _=>fin fun w hS=>⟨_,B.broken,0,rfl,((zL ok hr hS.now.1.2).1 rfl).1,((zL ok hr hS.now.1.2).1 rfl).2,hS.now.2⟩
theorem OW(U:tF)(B:Bt)(a:tB)(c:Nat)(q:tD)(w:tA)(hU:∀b,U b→b<w.heap.size)(hm:cm U w fun w=>ki w B a c q)(ok:B.Ok):cA 120 #[zJ B a c q] w fun x w'=>∃y B' er,x= .returned (.tuple #[y,iV er])∧aZ B=(B',er)∧s5 U w' B' y∧bZ w w':=by
 by_cases hr:B.r=1∨B.r=2
 ·exact OV U B a c q w hU hm ok hr
 ·exact OU U B a c q w hU hm ok hr
def uQ(v:Ev):Int:=if ¬aT v.k v.p v.i v.b v.he v.hn=0 then aT v.k v.p v.i v.b v.he v.hn else if v.k=4 then 3 else 0
theorem KY(v:Ev)(w:tA):cA 162 #[pk v] w (rB (iV (uQ v)) w):=by
 refine en (H:=[]) _ [vg (ZO v)] Tryz.func162 rfl rfl (m0 w) (r [] rfl fun _=>Rv.cb rfl (vi (aT v.k v.p v.i v.b v.he v.hn)) (fun w _=>ot v.k v.p v.i v.b v.he v.hn w) ?_);unfold uQ;by_cases h0:aT v.k v.p v.i v.b v.he v.hn=0
 case neg=>exact r [1] rfl fun _=>fin fun w hS=>⟨by rw[Ae h0];rfl,hS.now.2⟩
 rw[Aa (Bc h0)];by_cases h4:v.k=4
 ·exact r [0,1] rfl fun _=>fin fun w hS=>⟨by rw[Ae h4];rfl,hS.now.2⟩
 ·exact r [0,0] rfl fun _=>fin fun w hS=>⟨by rw[Aa h4];rfl,hS.now.2⟩
inductive Vo(B:Bt)(s:St)(v:Ev):An→List Ev→Prop
 |shut (hr:B.r=3):Vo B s v ⟨12,0,0,0⟩ []
 |none (hr:¬B.r=3) (hs:¬(B.r=1∨B.r=2)):Vo B s v ⟨7,0,0,0⟩ []
 |same (hr:B.r=1∨B.r=2) (s':St) (an:An) (st:Step s v s' an false):Vo B s v an []
 |full (hr:B.r=1∨B.r=2) (s':St) (an:An) (st:Step s v s' an true) (hl:1999≤B.es.length):Vo B s v ⟨14,0,0,0⟩ []
 |done (hr:B.r=1∨B.r=2) (s':St) (an:An) (st:Step s v s' an true) (hl:B.es.length<1999):Vo B s v an [v]
theorem Iy(B:Bt)(a:tB)(c:Nat)(s:St)(q:tD)(v:Ev)(w:tA)(hq:we w s q)(h:s.Ok)(hv:v.Ok)(hvw:∀u∈bf v,(Lit.int .i64 u).wf=true):
  cA 163 #[cg B.r B.e B.f B.t B.o a B.es.length c,vF q 41,pk v] w fun x w'=>∃an l a' c',x= .returned (.tuple #[Ib an,.slice a' l.length c'])∧Vo B s v an l∧RowK .i64 w' a' (6*l.length) (au l)∧(a'=none→c'=0)∧(∀x,a'=some x→w.heap.size≤x.block)∧bZ w w':=by
 refine en (H:=[]) _ [vg (bS B.r B.e B.f B.t B.o a B.es.length c),vf 41 q,vg (ZO v)] Tryz.func163 rfl rfl (Mem.start (M:=fun _=>False) (G:=fun w=>we w s q) (R:=fun w'=>bZ w w') (fun _ h=>h.elim) (fun w' c=>hq.next (c.below (Ac _) fun _ _ h=>h)) fun _ h=>h) ?_;have nil:∀{w'},RowK .i64 w' none (6*([]:List Ev).length) (au []):=RowK.nil _ _ _;by_cases h3:B.r=3
 ·exact r [1] rfl fun _=>fin fun w hS=>⟨⟨12,0,0,0⟩,[],none,0,rfl,.shut h3,nil,fun _=>rfl,fun _ h=>(by cases h),hS.now.2⟩
 refine r [0] rfl fun _=> ?_;by_cases hr:B.r=1∨B.r=2
 case neg=>exact Rv.cb rfl (vv (.bool false)) (fun w _=>nO false (mL B.r B.e B.f B.t B.o a B.es.length c w) (Ak hr)) (r [] rfl fun _=>fin fun w hS=>⟨⟨7,0,0,0⟩,[],none,0,rfl,.none h3 hr,nil,fun _=>rfl,fun _ h=>(by cases h),hS.now.2⟩)
 refine Rv.cb rfl (vv (.bool true)) (fun w _=>nO true (mL B.r B.e B.f B.t B.o a B.es.length c w) (As hr)) (r [] rfl fun _=> ?_);refine cq rfl (fun y:Go.Proofs.YtpgkjpomaffbmaaGreatDoor.St×An×Bool×(Nat→Value)=>vt [.g [.f 41 y.2.2.2],.g (QS y.2.1),.o (.bool y.2.2.1),.o (iV 0)]) (fun y=>Step s v y.1 y.2.1 y.2.2.1∧aW y.2.2.2 41) (fun w hS=>(Sc hS.now.1 h v).mono ?_) ?_
 ·rintro _ w2 ⟨s1,an2,ch2,er2,q1,rfl,hd,hq1,b⟩;obtain⟨rfl,st⟩:=YJ hv hd;exact⟨(s1,an2,ch2,q1),rfl,b,st,(hq1 (fun _=>False) (fun _ h=>h.elim)).now.one⟩
 rintro⟨s1,an2,ch2,q1⟩ ⟨st,Wo⟩;have st:Step s v s1 an2 ch2:=st;have Wo:aW q1 41:=Wo;cases ch2
 ·exact r [] rfl fun _=>fin fun w hS=>⟨an2,[],none,0,rfl,.same hr s1 an2 st,nil,fun _=>rfl,fun _ h=>(by cases h),hS.now.2⟩
 by_cases h9:1999≤B.es.length
 ·exact r [1] rfl fun _=>fin fun w hS=>⟨⟨14,0,0,0⟩,[],none,0,rfl,.full hr s1 an2 st h9,nil,fun _=>rfl,fun _ h=>(by cases h),hS.now.2⟩
 refine r [0,5,3,3] rfl fun _=> ?_
 repeat' first|refine FC ?_ ?_|refine rs [] rfl rfl fun _=> ?_
 all_goals exact fin fun w hS=>⟨an2,[v],_,_,rfl,.done hr s1 an2 st (by omega),MJ v hvw (hS.at 6 rfl) (fun i hi=>by match i,hi with|0,_=>rfl|1,_=>rfl|2,_=>rfl|3,_=>rfl|4,_=>rfl|5,_=>rfl),fun h=>(by cases h),fun x hx=>(by cases hx;exact hS.jN 6 rfl),hS.now.2⟩
theorem Wp{v:Ev}(h:uQ v=0):v.Ok∧¬v.k=4:=by
 unfold uQ at h;by_cases h0:aT v.k v.p v.i v.b v.he v.hn=0
 ·rw[Aa (fun g=>g h0)]at h;by_cases h1:v.k=4
  ·rw[Ae h1]at h;omega
  ·exact⟨h0,h1⟩
 ·rw[Ae h0]at h;exact absurd h h0
theorem ZW{B:Bt}{v:Ev}(ok:B.Ok)(h:¬uQ v=0):cY B v Bt.zero An.zero false (uQ v):=by
 unfold uQ at h⊢;by_cases h0:aT v.k v.p v.i v.b v.he v.hn=0
 ·rw[Aa (fun g=>g h0)]at h⊢;by_cases h1:v.k=4
  ·rw[Ae h1];exact .brk ok h0 h1
  ·rw[Aa h1]at h;exact absurd rfl h
 ·rw[Ae h0];exact .fault ok _ rfl h0
theorem Vo.serve{B:Bt}{v:Ev}{s:St}{bu:List An}{an:An}{l:List Ev}(h:Vo B s v an l)(ok:B.Ok)(hv:v.Ok)(hk:¬v.k=4)(ht:bz B.es s bu):cY B v (B.more l) an (decide (0<l.length)) 0:=by
 cases h with
 |shut hr=>rw[Bt.qt];exact .shut ok hv hk hr
 |none h3 hr=>
  rw[Bt.qt];refine .none ok hv hk ?_;have:=ok.cG;unfold Bt.b_ bg at this;omega
 |same hr s' an st=>rw[Bt.qt];exact .same ok hv hk hr s bu ht s' an st
 |full hr s' an st hl=>rw[Bt.qt];exact .full ok hv hk hr s bu ht s' an st hl
 |done hr s' an st hl=>exact .done ok hv hk hr s bu ht s' an st hl
theorem OX(B:Bt)(a:tB)(c:Nat)(v:Ev)(w:tA)(hb:jg w B a c)(hvw:∀u∈bf v,(Lit.int .i64 u).wf=true):
  cA 129 #[cg B.r B.e B.f B.t B.o a B.es.length c,pk v] w fun x w'=>∃y an ch er B',x= .returned (.tuple #[y,Ib an,.bool ch,iV er])∧cY B v B' an ch er∧iy w w' B' y∧bZ w w':=by
 refine en (H:=[]) _ [vg (bS B.r B.e B.f B.t B.o a B.es.length c),vg (ZO v)] Tryz.func129 rfl rfl (Ip hb) (r [] rfl fun _=> ?_);refine cx rfl (fun y:Go.Proofs.YtpgkjpomaffbmaaGreatDoor.St×Int×(Nat→Value)=>vt [.g [.f 41 y.2.2],.o (iV y.2.1)]) (fun y=>Rb B y.1 y.2.1∧aW y.2.2 41) (fun y w=>we w y.1 y.2.2) (fun w hS=>(uP B a c w hS.now.1).mono ?_) ?_
 ·rintro _ w2 ⟨_,er,s,rfl,hr,ho,b⟩;obtain⟨a1,c1,a2,c2,ws,rfl,g1,g2,g3,g4,g5,g6,g7,g8,g9⟩:=ho.ex;exact⟨(s,er,qF s.ep s.nx s.gv (.slice a1 s.rn c1) (.slice a2 s.ln c2) ws),by rw[rE];rfl,b,⟨hr,(we.mk (w:=w2) ⟨a1,c1,a2,c2,ws,rfl,g1,g2,g3,g4,g5,g6,g7⟩).one⟩,fun hU w3 c3=>⟨a1,c1,a2,c2,ws,rfl,bM g1 g8 hU w3 c3,bM g2 g9 hU w3 c3,g3,g4,g5,g6,g7⟩⟩
 rintro⟨s,er,q⟩ ⟨hr,oq⟩;have oq:aW q 41:=oq;cases hr with
 |no hn=>exact r [0,1] rfl fun _=>fin fun w hS=>⟨_,An.zero,false,6,_,rfl,.state hn,iy.zero _ _,hS.now.2⟩
 |yes ok bu ht=>
  refine r [1] rfl fun _=>Rv.cb rfl (vi (uQ v)) (fun w _=>KY v w) ?_;by_cases h0:uQ v=0
  case neg=>exact r [1] rfl fun _=>fin fun w hS=>⟨_,An.zero,false,_,_,rfl,ZW ok h0,iy.zero _ _,hS.now.2⟩
  obtain⟨hv,hk⟩:=Wp h0;refine r [0] rfl fun _=>cx rfl (fun y:An×List Ev×Option Addr×Nat=>vt [.g (QS y.1),.o (.slice y.2.2.1 y.2.1.length y.2.2.2)]) (fun y=>Vo B s v y.1 y.2.1∧(y.2.2.1=none→y.2.2.2=0)) (fun y w=>RowK .i64 w y.2.2.1 (6*y.2.1.length) (au y.2.1)) (fun w hS=>(Iy B a c s q v w hS.now.1.2 ht.wf.ok hv hvw).mono fun _ w2 ⟨an,l,a2,c2,h1,h2,h3,h4,h5,b⟩=>⟨(an,l,a2,c2),h1,b,⟨h2,h4⟩,fun hU=>bM h3 h5 hU⟩) ?_;rintro⟨an,l,a2,c2⟩ ⟨hs,n2⟩;have hsr:Vo B s v an l:=hs;clear hs;have n2:a2=none→c2=0:=n2;have G9:=hsr.serve ok hv hk ht;have hlen:=ok.len;have hl:l=[]∨l=[v]:=by cases hsr<;>first|exact .inl rfl|exact .inr rfl
  have end_:∀{w':tA} {M:tF} {Φ:tJ} {H:List En} (y:Option Addr×Nat),xW w y→Mem w' (hs H) M (fun w=>Φ w∧jg w (B.more l) y.1 y.2) (fun w'=>bZ w w')→iy w w' (B.more l) (bY (B.more l) (B.more l).es.length y).val:=fun y hy hS=>⟨y.1,y.2,rfl,hS.now.1.2,hy⟩;have wi:∀w1,bZ w w1→jg w1 B a c→RowK .i64 w1 a2 (6*l.length) (au l)→cA 154 #[cg B.r B.e B.f B.t B.o a B.es.length c,.slice a2 l.length c2] w1 fun x w'=>∃y:Option Addr×Nat,x= .returned (bY (B.more l) (B.more l).es.length y).val∧bZ w1 w'∧xW w y∧∀{U:tF},(∀b,U b→b<w1.heap.size)→cm U w' fun w=>jg w (B.more l) y.1 y.2:=fun w1 h0 hb hr=>(ED B a c l a2 l.length c2 w1 hb rfl hr n2 (by rcases hl with rfl|rfl<;>simp<;>omega)).mono fun _ _ h=>MV h0 h
  by_cases hp:0<l.length
  case' pos=>rw[As hp]at G9;refine r [6,2,7,1] rfl fun _=> ?_
  case' neg=>rw[Ak hp]at G9;refine r [6,2,7,0] rfl fun _=> ?_
  all_goals
   refine cx rfl (fun y=> .s (bY (B.more l) (B.more l).es.length y)) (xW w) (fun y w=>jg w (B.more l) y.1 y.2) (fun w1 hS=>(wi w1 hS.now.2 hS.now.1.1.1 hS.now.1.2).mono fun _ _ ⟨y,k1,k2,k3,k4⟩=>⟨y,k1,k2,k3,k4⟩) fun y hy=>r [] rfl fun _=> ?_;exact fin fun w hS=>⟨_,an,_,0,_,rfl,G9,end_ y hy hS,hS.now.2⟩
theorem OY{B B1:Bt}(ok:B.Ok){v:Ev}{an:An}{ch:Bool}{er:Int}(h:cY B.dG v B1 an ch er)(h0:¬er=0):cY B v Bt.zero An.zero false er:=by
 cases h with
 |state h=>exact absurd ok.dG h
 |fault _ f hf h0=>exact .fault ok _ hf h0
 |brk _ hv hk=>exact .brk ok hv hk
 |_=>exact absurd rfl h0
theorem OZ{B B1:Bt}(ok:B.Ok)(hr:¬(B.r=1∨B.r=2)){v:Ev}{an:An}{ch:Bool}(h:cY B.dG v B1 an ch 0):cY B v B an false 0:=by
 generalize he:(0:Int)=er at h;cases h with
 |state h=>cases he
 |fault _ f hf h0=>exact absurd he.symm h0
 |brk _ hv hk=>cases he
 |shut _ hv hk h3=>exact .shut ok hv hk h3
 |none _ hv hk h3=>exact .none ok hv hk h3
 |same _ _ _ h3=>exact absurd h3 hr
 |full _ _ _ h3=>exact absurd h3 hr
 |done _ _ _ h3=>exact absurd h3 hr
theorem Sz{B B1:Bt}{v:Ev}{an:An}{ch:Bool}(h:cY B v B1 an ch 0):v.Ok∧¬v.k=4:=by
 generalize he:(0:Int)=er at h;cases h with
 |state h=>cases he
 |fault _ f hf h0=>exact absurd he.symm h0
 |brk _ hv hk=>cases he
 |shut _ hv hk=>exact⟨hv,hk⟩
 |none _ hv hk=>exact⟨hv,hk⟩
 |same _ hv hk=>exact⟨hv,hk⟩
 |full _ hv hk=>exact⟨hv,hk⟩
 |done _ hv hk=>exact⟨hv,hk⟩
theorem O4{U:tF}{w:tA}{B:Bt}{a2:tB}{c2:Nat}{v:Ev}{s s1:St}{bu:List An}{an:An}{q1:tD}(ht:bz B.es s bu)(hv:v.Ok)(st:Step s v s1 an true)(h1:cm U w fun w=>we w s1 q1)(h2:cm U w fun w=>RowK .i64 w a2 (6*(B.es.length+1)) (au B.es++au [v]))(jM:B.es.length+1≤c2)(r_:a2=none→c2=0):cm U w fun w=>ki w (B.more [v]) a2 c2 q1:=fun w' c'=>by
 have e:(B.more [v]).es.length=B.es.length+1:=by simp[Bt.more]
 refine⟨⟨?_,by rw[e];exact jM,r_⟩,s1,bu++[an],ht.snoc hv st,h1 w' c'⟩;rw[e];have e2:au (B.more [v]).es=au B.es++au [v]:=by simp[Bt.more,au]
 rw[e2];exact h2 w' c'
theorem zM(U:tF)(B:Bt)(a:tB)(c:Nat)(q:tD)(v:Ev)(w:tA)(hU:∀b,U b→b<w.heap.size)(hm:cm U w fun w=>ki w B a c q)(ok:B.Ok)(hvw:∀u∈bf v,(Lit.int .i64 u).wf=true):cA 89 #[zJ B a c q,pk v] w fun x w'=>∃y an k er B',x= .returned (.tuple #[y,Ib an,.bool k,iV er])∧cY B v B' an k er∧s5 U w' B' y∧bZ w w':=by
 have hq:aW q 41:=(hm.now).one;obtain⟨s,bu,ht,hm⟩:=ki.split hm;have mi:∀{w},jg w B a c∧we w s q→ki w B a c q:=fun h=>⟨h.1,s,bu,ht,h.2⟩;refine en (H:=[]) 70 [vg (qa B a c q),vg (ZO v)] Tryz.func89 rfl rfl (nZ hU hm) (r [] rfl fun α=> ?_);refine cut (X:=Nat×An×Int) (fun x=>[(2,vp 0 0 (α 0)),(3,vp 1 0 (α 1)),(4,vp 2 0 (α 2)),(5,vp 3 0 (α 3)),(9,vp 4 0 x.1),(11,vi x.2.2)]) (fun x=>[⟨α 0,114,qa B a c q⟩,⟨α 1,56,ZO v⟩,⟨α 2,114,qa Bt.zero none 0 zQ⟩,⟨α 3,59,QS An.zero⟩,⟨x.1,59,QS x.2.1⟩]) (fun _=>U) (fun _ w=>jg w B a c∧we w s q) (fun _ w'=>bZ w w') (fun x=>∃B1 ch,cY B.dG v B1 x.2.1 ch x.2.2) ?_ (r [4] rfl fun _=> ?_)
 case refine_2=>
  repeat' first|refine FC ?_ ?_|refine fk3 ?_ ?_ ?_|(refine cb rfl (vg (bS B.r B.e B.f B.t B.o none 0 0)) ?_ ?_;exact fun w _=>kR _ _ _ _ _ _ _ _ _ w)|(refine cq rfl (fun y:Bt×An×Bool×Int×Option Addr×Nat=>vt [.g (bS y.1.r y.1.e y.1.f y.1.t y.1.o y.2.2.2.2.1 y.1.es.length y.2.2.2.2.2),.g (QS y.2.1),.o (.bool y.2.2.1),.o (iV y.2.2.2.1)]) (fun y=>cY B.dG v y.1 y.2.1 y.2.2.1 y.2.2.2.1) ?_ fun y hy=> ?_;exact fun w _=>(OX B.dG none 0 v _ (qu _ _) hvw).mono fun _ _ ⟨_,an,ch,er,B1,h0,h1,ho,b⟩=>by obtain⟨a1,c1,rfl,_,_⟩:=ho.ex;exact⟨(B1,an,ch,er,a1,c1),h0,b,h1⟩)|refine rs [] rfl rfl fun _=> ?_
  all_goals first|exact bJ (_,y.2.1,y.2.2.2.1) ⟨rfl,rfl,rfl,rfl,rfl,rfl,trivial⟩ (fun w hS=>hS.Kj [0,1,2,3,4] (by decide)) ⟨_,_,hy⟩ Bp|exact bJ (_,y.2.1,y.2.2.2.1) ⟨rfl,rfl,rfl,rfl,rfl,rfl,trivial⟩ (fun w hS=>hS.Kj [0,1,2,3,5] (by decide)) ⟨_,_,hy⟩ Bp
 rintro f1 ⟨x,an,er⟩ ⟨B1,ch,h1⟩;have h1:cY B.dG v B1 an ch er:=h1;by_cases h0:er=0
 ·subst h0;have hv:=Sz h1;have hs:=kQ B.r B.e B.f B.t B.o a B.es.length c q;refine r [0] rfl fun _=> ?_;by_cases hr:B.r=1∨B.r=2
  ·rw[As hr]at hs;refine cb rfl (vv (.bool true)) (fun w _=>hs w) (r [] rfl fun _=> ?_);refine cx rfl (fun y:St×An×Bool×(Nat→Value)=>vt [.g [.f 41 y.2.2.2],.g (QS y.2.1),.o (.bool y.2.2.1),.o (iV 0)]) (fun y=>Step s v y.1 y.2.1 y.2.2.1∧aW y.2.2.2 41) (fun y w=>we w y.1 y.2.2.2) (fun w hS=>(Sc hS.now.1.2 ht.wf.ok v).mono ?_) ?_
   ·rintro _ w2 ⟨s1,an2,ch2,er2,q1,rfl,hd,hq1,b⟩;obtain⟨rfl,st⟩:=YJ hv.1 hd;exact⟨(s1,an2,ch2,q1),rfl,b,⟨st,(hq1 (fun _=>False) (fun _ h=>h.elim)).now.one⟩,fun hl=>hq1 _ hl⟩
   rintro⟨s1,an2,ch2,q1⟩ ⟨st,Wo⟩;have st:Step s v s1 an2 ch2:=st;have Wo:aW q1 41:=Wo;cases ch2
   ·exact r [5,2,2] rfl fun _=>fin fun w hS=>⟨_,an2,false,0,B,rfl,.same ok hv.1 hv.2 hr s bu ht s1 an2 st,⟨a,c,q,rfl,fun w2 c2=>mi (hS.FD w2 c2).1⟩,hS.now.2⟩
   ·by_cases h9:1999≤B.es.length
    ·exact r [1] rfl fun _=>fin fun w hS=>⟨_,⟨14,0,0,0⟩,false,0,B,rfl,.full ok hv.1 hv.2 hr s bu ht s1 an2 st h9,⟨a,c,q,rfl,fun w2 c2=>mi (hS.FD w2 c2).1⟩,hS.now.2⟩
    ·refine r [0,8,6] rfl fun _=> ?_
     repeat' first|refine FC ?_ ?_|(refine cx rfl (fun y:Option Addr×Nat=>vv (.slice y.1 (B.es.length+1) y.2)) (fun y=>B.es.length+1≤y.2∧(y.1=none→y.2=0)) (fun y w=>RowK .i64 w y.1 (6*(B.es.length+1)) (au B.es++au [v])) ?_ fun y hy=> ?_;refine fun w hS=>(xv a _ B.es.length c 1 1 (au B.es) (au [v]) w hS.now.1.1.1.row (OT v hvw (hS.at 6 rfl)) hS.now.1.1.1.nil (fun h=>by cases h) (by omega)).mono ?_;rintro _ w2 ⟨_,rfl,ho,b1⟩;obtain⟨a2,c2,rfl,hr2,jM,r_,hf2⟩:=ho.ex;exact⟨(a2,c2),rfl,b1,⟨jM,r_⟩,fun hl=>bM hr2 hf2 hl⟩)|refine rs [] rfl rfl fun _=> ?_
     all_goals exact r [5,2,2] rfl fun _=>fin fun w hS=>⟨_,an2,true,0,B.more [v],rfl,.done ok hv.1 hv.2 hr s bu ht s1 an2 st (by omega),⟨y.1,y.2,q1,by rw[zJ,show(B.more [v]).es.length=B.es.length+1 by simp[Bt.more]];rfl,O4 ht hv.1 st (fun w2 c2=>(hS.FD w2 c2).1.2) (fun w2 c2=>(hS.FD w2 c2).2) hy.1 hy.2⟩,hS.now.2⟩
  ·rw[Ak hr]at hs;exact cb rfl (vv (.bool false)) (fun w _=>hs w) (r [5,2,2] rfl fun _=>fin fun w hS=>⟨_,an,false,0,B,rfl,OZ ok hr h1,⟨a,c,q,rfl,fun w2 c2=>mi (hS.FD w2 c2)⟩,hS.now.2⟩)
 ·exact r [1] rfl fun _=>fin fun w hS=>⟨_,An.zero,false,er,Bt.zero,rfl,OY ok h1 h0,⟨none,0,zQ,rfl,fun _ _=>ki.dG rfl⟩,hS.now.2⟩
theorem Iz(B:Bt)(a:tB)(c:Nat)(w:tA)(hb:jg w B a c)(ok:B.Ok):cA 142 #[cg B.r B.e B.f B.t B.o a (min 1 B.es.length) c] w (rB (iV 0) w):=by
 have e:min 1 B.es.length=B.short.es.length:=by simp[Bt.short]
 rw[e];exact gz B.short a c w (wh hb) ok.short
theorem Wq{es:List Ev}{s:St}(h:Rv es s 0):∃bu,bz es s bu:=by
 generalize he:(0:Int)=er at h;cases h with
 |size=>cases he
 |form=>cases he
 |told bu _ ht=>exact⟨bu,ht⟩
theorem SA{w w':tA}{s:St}{x:tK}(h:v_ w w' s x):∃q,x=vF q 41∧∀U:Nat→Prop,(∀b,U b→b<w.heap.size)→cm U w' fun w=>we w s q:=by
 obtain⟨a1,c1,a2,c2,ws',rfl,g1,g2,g3,g4,g5,g6,g7,g8,g9⟩:=h.ex;refine⟨_,rE _ _ _ _ _ _,fun U hU w2 c2'=> ?_⟩;exact⟨a1,c1,a2,c2,ws',rfl,bM g1 g8 hU w2 c2',bM g2 g9 hU w2 c2',g3,g4,g5,g6,g7⟩
theorem Wt(U:tF)(B:Bt)(a:tB)(c:Nat)(w:tA)(hU:∀b,U b→b<w.heap.size)(hm:cm U w fun w=>jg w B a c)(ok:B.Ok):cA 119 #[cg B.r B.e B.f B.t B.o a B.es.length c] w fun x w'=>∃y,x= .returned (.tuple #[y,iV 0])∧s5 U w' B y∧bZ w w':=by
 refine en (H:=[]) _ [vg (bS B.r B.e B.f B.t B.o a B.es.length c)] Tryz.func119 rfl rfl (nZ hU hm) (r [] rfl fun _=>Rv.cb rfl (vg (bS B.r B.e B.f B.t B.o a (min 1 B.es.length) c)) (fun w hS=>EF B.r B.e B.f B.t B.o a B.es.length c w hS.now.1.cap) (r [] rfl fun _=>Rv.cb rfl (vi 0) (fun w hS=>Iz B a c w hS.now.1 ok) (r [0] rfl fun _=> ?_)));refine cx rfl (fun y:Go.Proofs.YtpgkjpomaffbmaaGreatDoor.St×(Nat→Value)=>vt [.g [.f 41 y.2],.o (iV 0)]) (fun y=>(∃bu,bz B.es y.1 bu)∧aW y.2 41) (fun y w=>we w y.1 y.2) (fun w hS=>(sX B.es a c w hS.now.1.row).mono fun _ w2 ⟨x,er,s,h0,hv,hq,b⟩=> ?_) ?_
 ·obtain rfl:er=0:=(Rv.ok (B:=B) hv ok.cG).2 ok;obtain⟨q,rfl,hq1⟩:=SA hq;exact⟨(s,q),h0,b,⟨Wq hv,(hq1 (fun _=>False) (fun _ h=>h.elim)).now.one⟩,fun hU=>hq1 _ hU⟩
 rintro⟨s,q⟩ ⟨⟨bu,ht⟩,oq⟩;have oq:aW q 41:=oq;refine r [0,6,1,4] rfl fun _=> ?_
 repeat' first|refine FC ?_ ?_|(refine cx rfl (fun y:Option Addr×Nat=> .s (bY B B.es.length y)) (fun y=>B.es.length≤y.2∧(y.1=none→y.2=0)) (fun y w=>RowK .i64 w y.1 (6*B.es.length) (au B.es)) ?_ fun y hy=> ?_;refine fun w hS=>(MT B.r B.e B.f B.t B.o a B.es.length c (au B.es) w hS.now.1.1.row hS.now.1.1.nil (by have:=ok.len;omega)).mono ?_;rintro _ w9 ⟨x,rfl,ho,b⟩;obtain⟨a1,c1,rfl,uR,my,uG,pt⟩:=ho.ex;exact⟨(a1,c1),rfl,b,⟨my,uG⟩,fun hl=>bM uR pt hl⟩)|refine rs [] rfl rfl fun _=> ?_
 all_goals exact fin fun w hS=>⟨_,rfl,⟨y.1,y.2,q,rfl,fun w2 c2=>⟨⟨(hS.FD w2 c2).2,hy.1,hy.2⟩,s,bu,ht,(hS.FD w2 c2).1.2⟩⟩,hS.now.2⟩
abbrev uS(n e:Int):Value:= .agg #[iV n,iV e]
abbrev SC(n e:tH):Array Value:= #[iV (n 0),iV (e 0),iV (n 1),iV (e 1),iV (n 2),iV (e 2),iV (n 3),iV (e 3)]
abbrev lL(n e:tH):Value:= .agg (SC n e)
def kS(n e:Int):Prop:=(n= -1∧e=0)∨(0≤n∧n≤4∧1≤e∧e≤1048576)
def bN(n e:tH):Prop:=∀p,p<4→kS (n p) (e p)
theorem yy{p:tF}(h0:p 0)(h1:p 1)(h2:p 2)(h3:p 3):∀i,i<4→p i
 |0,_=>h0
 |1,_=>h1
 |2,_=>h2
 |3,_=>h3
 |n+4,h=>absurd h (by omega)
theorem wj(n e:tH):∀p:Nat,p<4→∀w:World,(Instr.index 33 (lL n e) (iV p)).run Tryz.prog w= .ok (uS (n p) (e p)) w:=by
 refine yy ?_ ?_ ?_ ?_<;>(intro w;simp[Instr.index,run_underlying Tryz.underlying33,asIntOf,go_sem])
theorem jy(w:tA):cA 56 #[] w (rB (uS (-1) 0) w):=by
 go_enter Tryz.func56,Tryz.ntmps56;go_wp2;exact Ao (v:=uS (-1) 0) (by simp[results,Tryz.results56,go_sem]) rfl ⟨rfl,aC _ _⟩
theorem KZ(x:Int)(w:tA):cA 109 #[iV x] w fun e w'=>e= .returned (.bool (decide (0≤x∧x≤4)))∧w'=w:=by
 by_cases h1:0≤x
 ·by_cases h2:x≤4
  ·rw[As (show 0≤x∧x≤4 from⟨h1,h2⟩)];have h3:x<5:=by omega
   go_enter Tryz.func109,Tryz.ntmps109;go_wp2;go_ret;exact⟨rfl,rfl⟩
  ·rw[Ak (show ¬(0≤x∧x≤4) from fun h=>h2 h.2)];have h3:¬x<5:=by omega
   go_enter Tryz.func109,Tryz.ntmps109;go_wp2;go_ret;exact⟨rfl,rfl⟩
 ·rw[Ak (show ¬(0≤x∧x≤4) from fun h=>h1 h.1)];go_enter Tryz.func109,Tryz.ntmps109;go_wp2;go_ret;exact⟨rfl,rfl⟩
theorem IA(x:Int)(w:tA):cA 108 #[iV x] w fun e w'=>e= .returned (.bool (decide (0≤x∧x≤3)))∧w'=w:=by
 by_cases h1:0≤x
 ·by_cases h2:x≤3
  ·rw[As (show 0≤x∧x≤3 from⟨h1,h2⟩)];have h3:x<4:=by omega
   go_enter Tryz.func108,Tryz.ntmps108;go_wp2;go_ret;exact⟨rfl,rfl⟩
  ·rw[Ak (show ¬(0≤x∧x≤3) from fun h=>h2 h.2)];have h3:¬x<4:=by omega
   go_enter Tryz.func108,Tryz.ntmps108;go_wp2;go_ret;exact⟨rfl,rfl⟩
 ·rw[Ak (show ¬(0≤x∧x≤3) from fun h=>h1 h.1)];go_enter Tryz.func108,Tryz.ntmps108;go_wp2;go_ret;exact⟨rfl,rfl⟩
def s7(n e:Int):Bool:=decide (0≤n∧n≤4∧1≤e∧e≤1048576)
abbrev DJ(a b:Int):List Sg:=[.o (iV a),.o (iV b)]
abbrev yz(a b:tH):List Sg:=[.o (iV (a 0)),.o (iV (b 0)),.o (iV (a 1)),.o (iV (b 1)),.o (iV (a 2)),.o (iV (b 2)),.o (iV (a 3)),.o (iV (b 3))]
theorem px(a b c d:Int)(w:tA):(Op.equalIn 10000 32 (uS a b) (uS c d)).run Tryz.prog w= .ok (decide (a=c∧b=d)) w:=by
 rw[run_equalIn_agg (P:=Tryz.prog) w 9999 32 _ _ Tryz.underlying32 (by kernel_rfl)];by_cases h0:a=c
 case neg=>simp[go_sem,h0]
 by_cases h1:b=d
 case neg=>simp[go_sem,h0,h1]
 simp[go_sem,h0,h1]
theorem EH{P:tJ}{x:Int}{b:Bool}(h:decide (0≤x∧x≤4)=b)(w:tA)(_:P w):cA 109 #[iV x] w (rB (.bool b) w):=(KZ x w).mono fun _ _ ⟨h1,e⟩=>⟨by rw[h1,h],by rw[e];exact Bm _ _⟩
theorem MZ{P:tJ}{x:Int}{b:Bool}(h:decide (0≤x∧x≤3)=b)(w:tA)(_:P w):cA 108 #[iV x] w (rB (.bool b) w):=(IA x w).mono fun _ _ ⟨h1,e⟩=>⟨by rw[h1,h],by rw[e];exact Bm _ _⟩
theorem sA(n e:Int)(w:tA):cA 141 #[uS n e] w (rB (.bool (s7 n e)) w):=by
 refine en (H:=[]) _ [vg (DJ n e)] Tryz.func141 rfl rfl (m0 w) (r [] rfl fun _=> ?_);by_cases h1:0≤n∧n≤4
 case neg=>exact Rv.cb rfl (vv (.bool false)) (EH (Ak h1)) (r [] rfl fun _=>fin fun w hS=>⟨by rw[show s7 n e=false from Ak fun h=>h1 ⟨h.1,h.2.1⟩];rfl,hS.now.2⟩)
 refine Rv.cb rfl (vv (.bool true)) (EH (As h1)) ?_;by_cases h2:1≤e
 case neg=>exact r [0] rfl fun _=>fin fun w hS=>⟨by rw[show s7 n e=false from Ak fun h=>h2 h.2.2.1];rfl,hS.now.2⟩
 by_cases h3:e≤1048576
 case neg=>exact r [1,0] rfl fun _=>fin fun w hS=>⟨by rw[show s7 n e=false from Ak fun h=>h3 h.2.2.2];rfl,hS.now.2⟩
 exact r [1,1] rfl fun _=>fin fun w hS=>⟨by rw[show s7 n e=true from As ⟨h1.1,h1.2,h2,h3⟩];rfl,hS.now.2⟩
theorem zN(n e:tH)(w:tA):cA 107 #[lL n e] w fun r w'=>((bN n e∧r= .returned (iV 0))∨(¬bN n e∧r= .returned (iV 6)))∧bZ w w':=by
 refine en (H:=[]) _ [vg (yz n e)] Tryz.func107 rfl rfl (m0 w) (r [] rfl fun α=> ?_);refine iD (X:=Nat) ⟨fun k=>[(6,vg (yz n e)),(7,vi (k:Int))],fun _=>[],fun _ _=>False,fun _ _=>True,fun _ w'=>bZ w w',fun k=>k≤4∧∀p,p<k→kS (n p) (e p),fun k=>4-k⟩ 0 ⟨rfl,rfl,trivial⟩ (fun w hS=>hS.take 0) ⟨Al _,fun p hp=>absurd hp (AF p)⟩ ?_;rintro f k ⟨hk,hp⟩;have hk:k≤4:=hk;by_cases aN:k<4
 case neg=>
  obtain rfl:k=4:=by omega
  exact r [0] rfl fun _=>fin fun w hS=>⟨.inl ⟨hp,rfl⟩,hS.now.2⟩
 refine r [1] rfl fun _=>ix (vg (DJ (n k) (e k))) rfl rfl (wj n e k aN) (r [2] rfl fun γ=>Rv.cb rfl (vg (DJ (-1) 0)) (fun w _=>jy w) ?_);have eq:=px (n k) (e k) (-1) 0;have next:kS (n k) (e k)→∀p,p<k+1→kS (n p) (e p):=fun h p hp'=>by
  rcases AG p k with h1|h1
  ·exact hp p h1
  ·obtain rfl:p=k:=by omega
   exact h
 by_cases h1:n k= -1∧e k=0
 ·rw[As h1]at eq;refine r [] rfl fun _=>eqs rfl eq rfl (rz [1] [((k+1:Nat):Int)] rfl fun _=> ?_);exact bJ (k+1) ⟨rfl,rfl,trivial⟩ (fun w hS=>hS.take 0) ⟨aN,next (.inl h1)⟩ (show 4-(k+1)<4-k by omega)
 rw[Ak h1]at eq;refine r [] rfl fun _=>eqs rfl eq rfl (r [] rfl fun _=> ?_);cases h2:s7 (n k) (e k)
 ·refine Rv.cb rfl (vv (.bool false)) (fun w _=>h2▸sA (n k) (e k) w) (r [] rfl fun _=>fin fun w hS=>⟨.inr ⟨fun h=> ?_,rfl⟩,hS.now.2⟩);rcases h k aN with h3|h3
  ·exact h1 h3
  ·exact absurd (As h3) (by rw[show decide _=s7 _ _ from rfl,h2];simp)
 ·refine Rv.cb rfl (vv (.bool true)) (fun w _=>h2▸sA (n k) (e k) w) (rz [1] [((k+1:Nat):Int)] rfl fun _=> ?_);exact bJ (k+1) ⟨rfl,rfl,trivial⟩ (fun w hS=>hS.take 0) ⟨aN,next (.inr (Bi h2))⟩ (show 4-(k+1)<4-k by omega)
theorem zR(n e:tH)(w:tA)(h:bN n e):cA 107 #[lL n e] w (rB (iV 0) w):=by
 refine(zN n e w).mono ?_;rintro r w' ⟨⟨_,hr⟩|⟨h',_⟩,b⟩
 ·exact⟨hr,b⟩
 ·exact absurd h h'
theorem EI(n e:tH)(w:tA)(h:¬bN n e):cA 107 #[lL n e] w (rB (iV 6) w):=by
 refine(zN n e w).mono ?_;rintro r w' ⟨⟨h',_⟩|⟨_,hr⟩,b⟩
 ·exact absurd h' h
 ·exact⟨hr,b⟩
section
variable{w w':tA}{R:Nat}{n e:tH}
def bw(f:tH)(k:Nat)(x:Int):Nat→Int:=fun q=>if q=k then x else f q
end
theorem IB{n e:tH}:∀k,k<4→∀i,i<2→Rv.cy (yz n e) (0+k*2+i)=Rv.cy (DJ (n k) (e k)) i:=by
 refine yy ?_ ?_ ?_ ?_<;>(intro i hi;obtain rfl|rfl:i=0∨i=1:=by omega)<;>rfl
theorem ZX{n e:tH}{a b:Int}:∀k,k<4→∀i,i<8→gh (Rv.cy (yz n e)) (0+k*2) 2 (Rv.cy (DJ a b)) i=Rv.cy (yz (bw n k a) (bw e k b)) i:=by
 refine yy ?_ ?_ ?_ ?_<;>(intro i hi;obtain rfl|rfl|rfl|rfl|rfl|rfl|rfl|rfl:i=0∨i=1∨i=2∨i=3∨i=4∨i=5∨i=6∨i=7:=by omega)<;>rfl
inductive jS(n e:tH)(q:Int):Int→Int→Int→Prop
 |state (h:¬bN n e):jS n e q 0 0 6
 |range (h:bN n e) (hq:¬(0≤q∧q≤3)):jS n e q 0 0 2
 |none (h:bN n e) (k:Nat) (hk:k<4) (hq:q=k) (hn:n k= -1):jS n e q 0 0 7
 |here (h:bN n e) (k:Nat) (hk:k<4) (hq:q=k) (hn:¬n k= -1):jS n e q (n k) (e k) 0
theorem EJ(n e:tH)(q:Int)(w:tA):cA 81 #[lL n e,iV q] w fun r w'=>∃a b c,r= .returned (.tuple #[uS a b,iV c])∧jS n e q a b c∧bZ w w':=by
 refine en (H:=[]) _ [vg (yz n e),vi q] Tryz.func81 rfl rfl (m0 w) (r [] rfl fun _=> ?_);by_cases ok:bN n e
 case neg=>exact Rv.cb rfl (vi 6) (fun w _=>EI n e w ok) (r [1] rfl fun _=>fin fun w hS=>⟨0,0,6,rfl,.state ok,hS.now.2⟩)
 refine Rv.cb rfl (vi 0) (fun w _=>zR n e w ok) (r [0] rfl fun _=> ?_);by_cases hq:0≤q∧q≤3
 case neg=>exact Rv.cb rfl (vv (.bool false)) (MZ (Ak hq)) (r [] rfl fun _=>fin fun w hS=>⟨0,0,2,rfl,.range ok hq,hS.now.2⟩)
 refine Rv.cb rfl (vv (.bool true)) (MZ (As hq)) ?_;obtain⟨k,hk,rfl⟩:∃k:Nat,k<4∧q=k:=⟨q.toNat,by omega,by omega⟩;have eq:=px (n k) (e k) (-1) 0;by_cases hn:n k= -1
 ·rw[As ⟨hn,by rcases ok k hk with h|h<;>omega⟩]at eq
  exact r [2,1] rfl fun _=>lo rfl rfl 0 rfl 2 (Rv.cy (DJ (n k) (e k))) (IB k hk) (r [] rfl fun _=>Rv.cb rfl (vg (DJ (-1) 0)) (fun w _=>jy w) (r [] rfl fun _=>eqs rfl eq rfl (r [] rfl fun _=>fin fun w hS=>⟨0,0,7,rfl,.none ok _ hk rfl hn,hS.now.2⟩)))
 ·rw[Ak fun h=>hn h.1]at eq;exact r [2,1] rfl fun _=>lo rfl rfl 0 rfl 2 (Rv.cy (DJ (n k) (e k))) (IB k hk) (r [] rfl fun _=>Rv.cb rfl (vg (DJ (-1) 0)) (fun w _=>jy w) (r [] rfl fun _=>eqs rfl eq rfl (r [1] rfl fun _=>lo rfl rfl 0 rfl 2 (Rv.cy (DJ (n k) (e k))) (IB k hk) (r [] rfl fun _=>fin fun w hS=>⟨_,_,0,rfl,.here ok _ hk rfl hn,hS.now.2⟩))))
def bK:Nat→Int:=fun _=>0
theorem IC(n e:tH)(k:Nat)(a b:Int)(w:tA)(hk:k<4):cA 110 #[lL n e,iV k,uS a b] w (rB (lL (bw n k a) (bw e k b)) w):=by
 exact en (H:=[]) _ [vg (yz n e),vi (k:Int),vg (DJ a b)] Tryz.func110 rfl rfl (m0 w) (r [1] rfl fun _=>so (m:=2) (g:=Rv.cy (DJ a b)) rfl rfl rfl 0 rfl (cy (yz (bw n k a) (bw e k b))) (ZX k hk) (r [] rfl fun _=>fin fun w hS=>⟨rfl,hS.now.2⟩) (fun i hi=>by obtain rfl|rfl:i=0∨i=1:=(by omega)<;>rfl))
def wm(x y ep node:Int):Int:=if ¬(0≤node∧node≤4)then 2 else if ¬y=ep then 15 else if x=node then 8 else if y=1048576 then 14 else 0
theorem O8(x y ep node:Int)(w:tA):cA 140 #[uS x y,iV ep,iV node] w (rB (iV (wm x y ep node)) w):=by
 unfold wm;refine en (H:=[]) _ [vg (DJ x y),vi ep,vi node] Tryz.func140 rfl rfl (m0 w) (r [] rfl fun _=> ?_);by_cases h1:0≤node∧node≤4
 case neg=>exact Rv.cb rfl (vv (.bool false)) (EH (Ak h1)) (r [] rfl fun _=>fin fun w hS=>⟨by rw[Ae h1];rfl,hS.now.2⟩)
 rw[Aa fun h=>h h1];refine Rv.cb rfl (vv (.bool true)) (EH (As h1)) ?_;by_cases h2:y=ep
 case neg=>exact r [1] rfl fun _=>fin fun w hS=>⟨by rw[Ae h2];rfl,hS.now.2⟩
 by_cases h3:x=node
 ·exact r [0,1] rfl fun _=>fin fun w hS=>⟨by rw[Aa fun h=>h h2,Ae h3];rfl,hS.now.2⟩
 by_cases h4:y=1048576
 ·exact r [0,0,1] rfl fun _=>fin fun w hS=>⟨by rw[Aa fun h=>h h2,Aa h3,Ae h4];rfl,hS.now.2⟩
 ·exact r [0,0,0] rfl fun _=>fin fun w hS=>⟨by rw[Aa fun h=>h h2,Aa h3,Aa h4];rfl,hS.now.2⟩
inductive oC(n e:tH)(q node:Int):(Nat→Int)→(Nat→Int)→Int→Prop
 |state (h:¬bN n e):oC n e q node bK bK 6
 |range (h:bN n e) (hq:¬((0≤q∧q≤3)∧(0≤node∧node≤4))):oC n e q node bK bK 2
 |zT (h:bN n e) (k:Nat) (hk:k<4) (hq:q=k) (hd:0≤node∧node≤4) (hn:¬n k= -1):oC n e q node bK bK 8
 |made (h:bN n e) (k:Nat) (hk:k<4) (hq:q=k) (hd:0≤node∧node≤4) (hn:n k= -1):oC n e q node (bw n k node) (bw e k 1) 0
theorem oC.one{n e:tH}{q node:Int}{a b:tH}{c:Int}{a' b':tH}{c':Int}(h:oC n e q node a b c)(h':oC n e q node a' b' c'):a=a'∧b=b'∧c=c':=by
 cases h with
 |state h1=>cases h' with
  |state=>exact⟨rfl,rfl,rfl⟩
  |range h2=>exact absurd h2 h1
  |zT h2=>exact absurd h2 h1
  |made h2=>exact absurd h2 h1
 |range h1 hq=>cases h' with
  |state h2=>exact absurd h1 h2
  |range h2=>exact⟨rfl,rfl,rfl⟩
  |zT h2 k hk xX=>omega
  |made h2 k hk xX=>omega
 |zT h1 k hk hq hd hn=>cases h' with
  |state h2=>exact absurd h1 h2
  |range h2=>omega
  |zT h2 k hk xX=>exact⟨rfl,rfl,rfl⟩
  |made h2 k' kg xX hd' pS=>
   obtain rfl:k=k':=by omega
   exact absurd pS hn
 |made h1 k hk hq hd hn=>cases h' with
  |state h2=>exact absurd h1 h2
  |range h2=>omega
  |zT h2 k' kg xX hd' pS=>
   obtain rfl:k=k':=by omega
   exact absurd hn pS
  |made h2 k' kg xX hd' pS=>
   obtain rfl:k=k':=by omega
   exact⟨rfl,rfl,rfl⟩
theorem SD(n e:tH)(q node:Int)(w:tA):cA 66 #[lL n e,iV q,iV node] w fun r w'=>∃a b c,r= .returned (.tuple #[lL a b,iV c])∧oC n e q node a b c∧bZ w w':=by
 refine en (H:=[]) _ [vg (yz n e),vi q,vi node] Tryz.func66 rfl rfl (m0 w) (r [] rfl fun _=> ?_);by_cases ok:bN n e
 case neg=>exact Rv.cb rfl (vi 6) (fun w _=>EI n e w ok) (r [1] rfl fun _=>fin fun w hS=>⟨bK,bK,6,rfl,.state ok,hS.now.2⟩)
 refine Rv.cb rfl (vi 0) (fun w _=>zR n e w ok) (r [0] rfl fun _=> ?_);by_cases hq:0≤q∧q≤3
 case neg=>exact Rv.cb rfl (vv (.bool false)) (MZ (Ak hq)) (r [] rfl fun _=>fin fun w hS=>⟨bK,bK,2,rfl,.range ok (fun h=>hq h.1),hS.now.2⟩)
 refine Rv.cb rfl (vv (.bool true)) (MZ (As hq)) (r [] rfl fun _=> ?_);by_cases hd:0≤node∧node≤4
 case neg=>exact Rv.cb rfl (vv (.bool false)) (EH (Ak hd)) (r [] rfl fun _=>fin fun w hS=>⟨bK,bK,2,rfl,.range ok (fun h=>hd h.2),hS.now.2⟩)
 refine Rv.cb rfl (vv (.bool true)) (EH (As hd)) ?_;obtain⟨k,hk,rfl⟩:∃k:Nat,k<4∧q=k:=⟨q.toNat,by omega,by omega⟩;have eq:=px (n k) (e k) (-1) 0;by_cases hn:n k= -1
 ·rw[As ⟨hn,by rcases ok k hk with h|h<;>omega⟩]at eq
  exact r [2,1] rfl fun _=>lo rfl rfl 0 rfl 2 (Rv.cy (DJ (n k) (e k))) (IB k hk) (r [] rfl fun _=>Rv.cb rfl (vg (DJ (-1) 0)) (fun w _=>jy w) (r [] rfl fun _=>eqs rfl eq rfl (r [] rfl fun _=>Rv.cb rfl (vg (yz (bw n _ node) (bw e _ 1))) (fun w _=>IC n e _ node 1 w hk) (r [] rfl fun _=>fin fun w hS=>⟨_,_,0,rfl,.made ok _ hk rfl hd hn,hS.now.2⟩))))
 ·rw[Ak fun h=>hn h.1]at eq;exact r [2,1] rfl fun _=>lo rfl rfl 0 rfl 2 (Rv.cy (DJ (n k) (e k))) (IB k hk) (r [] rfl fun _=>Rv.cb rfl (vg (DJ (-1) 0)) (fun w _=>jy w) (r [] rfl fun _=>eqs rfl eq rfl (r [] rfl fun _=>fin fun w hS=>⟨bK,bK,8,rfl,.zT ok _ hk rfl hd hn,hS.now.2⟩)))
def dX(k:Nat):Nat→Int:=fun p=>if p<k then-1 else 0
def nwF(k:Nat):Nat→Value:=fun i=>iV (if i % 2=0 then dX k (i/2)else 0)
theorem ZY:∀k,k<4→∀i,i<8→gh (Rv.cy [.f 8 (nwF k)]) (0+k*2) 2 (Rv.cy (DJ (-1) 0)) i=nwF (k+1) i:=by
 refine yy ?_ ?_ ?_ ?_<;>(intro i hi;obtain rfl|rfl|rfl|rfl|rfl|rfl|rfl|rfl:i=0∨i=1∨i=2∨i=3∨i=4∨i=5∨i=6∨i=7:=by omega)<;>rfl
theorem M4(w:tA):cA 40 #[] w (rB (lL (dX 4) bK) w):=by
 refine en (H:=[]) _ [] Tryz.func40 rfl rfl (m0 w) (r [] rfl fun α=>gn 1 (nwF 0) ?_);refine iD (X:=Nat) ⟨fun k=>[(0,vp 0 0 (α 0)),(1,vp 1 0 (α 1)),(3,vi (k:Int))],fun k=>[⟨α 0,35,yz bK bK⟩,⟨α 1,33,[.f 8 (nwF k)]⟩],fun _ _=>False,fun _ _=>True,fun _ w'=>bZ w w',fun k=>k≤4,fun k=>4-k⟩ 0 ⟨rfl,rfl,rfl,trivial⟩ (fun w hS=>hS) (Al _) ?_;rintro f k hk;have hk:k≤4:=hk;by_cases aN:k<4
 case neg=>
  obtain rfl:k=4:=by omega
  exact r [0] rfl fun _=>fin fun w hS=>⟨rfl,hS.now.2⟩
 refine r [1] rfl fun _=>Rv.cb rfl (vg (DJ (-1) 0)) (fun w _=>jy w) (r [1] rfl fun _=>so (m:=2) (g:=cy (DJ (-1) 0)) rfl rfl rfl 1 rfl (nwF (k+1)) (ZY k aN) (rz [1] [((k+1:Nat):Int)] rfl fun _=> ?_) (fun i hi=>by obtain rfl|rfl:i=0∨i=1:=(by omega)<;>rfl))
 exact bJ (k+1) ⟨rfl,rfl,rfl,trivial⟩ (fun w hS=>hS) aN (show 4-(k+1)<4-k by omega)
inductive uT(n e:tH)(q ep node:Int):(Nat→Int)→(Nat→Int)→Int→Prop
 |off (a b c:Int) (h:jS n e q a b c) (hc:¬c=0):uT n e q ep node bK bK c
 |no (a b:Int) (h:jS n e q a b 0) (hc:¬wm a b ep node=0):uT n e q ep node bK bK (wm a b ep node)
 |flip (h:bN n e) (k:Nat) (hk:k<4) (hq:q=k) (hn:¬n k= -1) (hc:wm (n k) (e k) ep node=0):uT n e q ep node (bw n k node) (bw e k (e k+1)) 0
theorem jS.at{n e:tH}{q a b:Int}(h:jS n e q a b 0):bN n e∧∃k:Nat,k<4∧q=k∧¬n k= -1∧a=n k∧b=e k:=by
 obtain⟨c,hc⟩:∃c:Int,c=0:=⟨0,rfl⟩;rw[←hc]at h;cases h with
 |state h=>omega
 |range h=>omega
 |none h=>omega
 |here h k hk hq hn=>exact⟨h,k,hk,hq,hn,rfl,rfl⟩
theorem SE(n e:tH)(q ep node:Int)(w:tA):cA 106 #[lL n e,iV q,iV ep,iV node] w fun r w'=>∃a b c,r= .returned (.tuple #[lL a b,iV c])∧uT n e q ep node a b c∧bZ w w':=by
 refine en (H:=[]) _ [vg (yz n e),vi q,vi ep,vi node] Tryz.func106 rfl rfl (m0 w) (r [] rfl fun _=> ?_);refine cq rfl (fun y:Int×Int×Int=>vt [.g (DJ y.1 y.2.1),.o (iV y.2.2)]) (fun y=>jS n e q y.1 y.2.1 y.2.2) (fun w _=>(EJ n e q w).mono fun _ _ ⟨a,b,c,h1,h2,h3⟩=>⟨(a,b,c),h1,h3,h2⟩) ?_;rintro⟨a,b,c⟩ hw;have hw:jS n e q a b c:=hw;by_cases hc:c=0
 case neg=>exact r [1] rfl fun _=>fin fun w hS=>⟨bK,bK,c,rfl,.off a b c hw hc,hS.now.2⟩
 subst hc;refine r [0] rfl fun _=>Rv.cb rfl (vi (wm a b ep node)) (fun w _=>O8 a b ep node w) ?_;by_cases hg:wm a b ep node=0
 case neg=>exact r [1] rfl fun _=>fin fun w hS=>⟨bK,bK,_,rfl,.no a b hw hg,hS.now.2⟩
 obtain⟨ok,k,hk,rfl,hn,rfl,rfl⟩:=hw.at;have hb:0≤e k∧e k≤1048576:=by rcases ok k hk with h|h<;>omega
 exact rz [0,1] [e k+1] rfl fun _=>Rv.cb rfl (vg (yz (bw n k node) (bw e k (e k+1)))) (fun w _=>IC n e k node (e k+1) w hk) (r [] rfl fun _=>fin fun w hS=>⟨_,_,0,rfl,.flip ok k hk rfl hn hg,hS.now.2⟩)
end
theorem Vl(x m:Int):x<0∨(¬x≤m∧0≤x)∨(0≤x∧x≤m):=by omega
def aE(k q ep pe ek p i b he hn:Int):Int:=
 if ¬(1≤k∧k≤7)then 3
 else if ¬(0≤q∧q≤3∧0≤ep∧ep≤1048576∧0≤pe∧pe≤4)then 2
 else if k=2∨k=5 then aT ek p i b he hn else gM ek p i b he hn
theorem ID(k q ep pe:Int):(k<1∧¬1≤k)∨(¬k≤7∧1≤k)∨((1≤k∧k≤7)∧(q<0∨(¬q≤3∧0≤q)∨(0≤q∧q≤3)∧(ep<0∨(¬ep≤1048576∧0≤ep)∨(0≤ep∧ep≤1048576)∧
  (pe<0∨(¬pe≤4∧0≤pe)∨(0≤pe∧pe≤4)∧(k=2∨k=5∨(k==2)=false∧(k==5)=false))))):=by
 by_cases h:k<1
 ·exact .inl ⟨h,by omega⟩
 by_cases h':¬k≤7
 ·exact .inr (.inl ⟨h',by omega⟩)
 refine .inr (.inr ⟨by omega, ?_⟩);rcases Vl q 3 with h|h|h
 ·exact .inl h
 ·exact .inr (.inl h)
 refine .inr (.inr ⟨h, ?_⟩);rcases Vl ep 1048576 with h|h|h
 ·exact .inl h
 ·exact .inr (.inl h)
 refine .inr (.inr ⟨h, ?_⟩);rcases Vl pe 4 with h|h|h
 ·exact .inl h
 ·exact .inr (.inl h)
 refine .inr (.inr ⟨h, ?_⟩);by_cases h2:k=2
 ·exact .inl h2
 by_cases h5:k=5
 ·exact .inr (.inl h5)
 exact .inr (.inr ⟨by simpa using h2,by simpa using h5⟩)
theorem ky(k q ep pe ek p i b he hn:Int)(w:tA):
  cA 159 #[.agg #[iV k,iV q,iV ep,iV pe,iV ek,iV p,iV i,iV b,iV he,iV hn]] w fun e w'=>
   e= .returned (iV (aE k q ep pe ek p i b he hn))∧bZ w w':=by
 obtain⟨v,hv⟩:∃v,aE k q ep pe ek p i b he hn=v:=⟨_,rfl⟩;rw[hv];have HV:Hid (aE k q ep pe ek p i b he hn=v):=hv;clear hv;rcases ID k q ep pe with⟨h1,h2⟩|⟨h1,h2⟩|⟨⟨h1,h2⟩,h3|⟨h3,h4⟩|⟨⟨h3,h4⟩,h5|⟨h5,h6⟩|⟨⟨h5,h6⟩,h7|⟨h7,h8⟩|⟨⟨h7,h8⟩,rfl|rfl|⟨h9,xP⟩⟩⟩⟩⟩
 all_goals
  go_enter Tryz.func159,Tryz.ntmps159
  go_wp2_with (first|(go_at_call 88;refine(xq _ _ _ _ _ _ _).mono ?_;rintro e w1 ⟨rfl,hb⟩)|(go_at_call 55;refine(ot _ _ _ _ _ _ _).mono ?_;rintro e w1 ⟨rfl,hb⟩)|(go_at_call 87;go_in)|(go_at_call 172;go_in))
  go_ret;refine⟨FU ?_, ?_⟩
  ·have h:=HV.out;subst h;clear HV;unfold aE
   repeat' split
   all_goals first|rfl|omega|(simp at h9 xP;omega)
  ·first|exact aC _ _|exact oW hb
theorem bG{p:Prop}(h:p):Hid p:=h
theorem ae{p:Prop}(h:Hid p):p:=h
theorem Tryz.YO:(Tryz.prog.info? 3).map (fun i=>(i.zero,i.size,i.bytes))=some (some (iV 0),1,8):=by kernel_rfl
abbrev et(b:Nat):Array Value:= #[.pointer (some ⟨b,0,none⟩),.pointer (some ⟨b,1,none⟩),.pointer (some ⟨b,2,none⟩),.pointer (some ⟨b,3,none⟩),.pointer (some ⟨b,4,none⟩),.pointer (some ⟨b,5,none⟩),.pointer (some ⟨b,6,none⟩),.pointer (some ⟨b,7,none⟩),.pointer (some ⟨b,8,none⟩),.pointer (some ⟨b,9,none⟩)]
theorem jz(b:Nat)(w:tA):
  cA 171 #[.pointer (some ⟨b,0,none⟩)] w (rB (.agg (et b)) w):=by
 go_enter Tryz.func171,Tryz.ntmps171;go_wp2
 go_region
 all_goals
  go_wp2;exact Ao (v:= .agg (et b)) (by simp[results,Tryz.results171,go_sem]) rfl ⟨rfl,(aC _ _).drew⟩
theorem kz{k q ep pe ek p i b he hn:Int}(h:aE k q ep pe ek p i b he hn=0):∀n∈[k,q,ep,pe,ek,p,i,b,he,hn],0≤n∧n≤2147483647:=by
 unfold aE at h;split at h
 ·omega
 split at h
 ·omega
 have hE:(0≤ek∧ek≤4)∧(0≤p∧p≤3)∧(0≤i∧i≤1073741824)∧(0≤b∧b≤1000000)∧(0≤he∧he≤1048576)∧(0≤hn∧hn≤1073741824):=by
  split at h
  ·unfold aT at h
   repeat' split at h
   all_goals omega
  ·unfold gM at h;split at h<;>omega
 intro n pS;simp only[List.mem_cons,List.not_mem_nil,or_false]at pS;rcases pS with rfl|rfl|rfl|rfl|rfl|rfl|rfl|rfl|rfl|rfl<;>omega
theorem abd(k q ep pe ek p i b he hn:Int)(w:tA)(h:¬aE k q ep pe ek p i b he hn=0):
  cA 145 #[.agg #[iV k,iV q,iV ep,iV pe,iV ek,iV p,iV i,iV b,iV he,iV hn]] w fun e w'=>
   e= .returned (.tuple #[.slice none 0 0,iV (aE k q ep pe ek p i b he hn)])∧bZ w w':=by
 go_enter Tryz.func145,Tryz.ntmps145
 go_wp2_with fail
 refine(ky _ _ _ _ _ _ _ _ _ _ _).mono ?_;rintro e w1 ⟨rfl,b1⟩;have fR:(aE k q ep pe ek p i b he hn !=0)=true:=by simpa using h
 clear h;go_wp2;go_ret2;exact⟨rfl,oW b1⟩
theorem uU(k:Int)(w:tA)(h:k=2∨k=5):cA 172 #[iV k] w fun e w'=>e= .returned (.bool true)∧w=w':=by
 rcases h with rfl|rfl
 all_goals
  go_enter Tryz.func172,Tryz.ntmps172;go_wp2;go_ret;exact⟨rfl,rfl⟩
theorem xB(k:Int)(w:tA)(h:¬(k=2∨k=5)):cA 172 #[iV k] w fun e w'=>e= .returned (.bool false)∧w=w':=by
 have h2:(k==2)=false:=by simp;omega
 have h5:(k==5)=false:=by simp;omega
 clear h;go_enter Tryz.func172,Tryz.ntmps172;go_wp2;go_ret;exact⟨rfl,rfl⟩
theorem EK(l:tG)(j:Nat)(h:j<l.length):l.take (j+1)=l.take j++[l.getD j 0]:=by
 rw[Bo h];simp[h]
theorem wu(w:tA)(b o:Nat)(ho:o<10):(w.alloc (.cells (et b) 259)).cell? ⟨w.heap.size,o,none⟩=some (.pointer (some ⟨b,o,none⟩)):=by
 match o,ho with
 |0,_|1,_|2,_|3,_|4,_|5,_|6,_|7,_|8,_|9,_=>simp[et]
theorem EL(w:tA)(l:tG)(t o:Nat)(ho:o<l.length):(w.alloc (.cells (l.map (Value.int .i64)).toArray t)).cell? ⟨w.heap.size,o,none⟩=some (iV (l.getD o 0)):=by
 simp[ho]
theorem M6{w:tA}{base e n:Nat}{v:tK}{l:tG}(h:w.ownsRow base e 1 v n (l.map (Value.int .i64)))(h0:0<n):
  ∃g cap,v= .slice (some ⟨g,0,none⟩) n cap∧base≤g∧g<w.heap.size∧∀k,k<n→w.cell? ⟨g,0+k,none⟩=some (iV (l.getD k 0)):=by
 have hl:l.length=n:=by have:=h.1;simpa using this
 rcases h.2 with⟨_,rfl⟩|⟨g,cap,cur,rfl,hb,hg,hc,hm,_⟩
 ·omega
 ·refine⟨g,cap,rfl,hb,(h.lt g rfl).2,fun k hk=> ?_⟩;rw[Aj,h.cellAt k (by omega),Ax,Ai (by omega)];simp[List.getElem?_eq_getElem (show k<l.length by omega)]
theorem K0(k q ep pe ek p i b he hn:Int)(w:tA)(h:aE k q ep pe ek p i b he hn=0)(hk:k=2∨k=5):
  cA 145 #[.agg #[iV k,iV q,iV ep,iV pe,iV ek,iV p,iV i,iV b,iV he,iV hn]] w fun e w'=>
   ∃g,e= .returned (.tuple #[.slice (some ⟨g,0,none⟩) 40 40,iV 0])∧w.heap.size≤g∧RowK .u8 w' (some ⟨g,0,none⟩) 40 (eH [k,q,ep,pe,ek,p,i,b,he,hn])∧bZ w w':=by
 have HR:Hid (∀n∈[k,q,ep,pe,ek,p,i,b,he,hn],0≤n∧n≤2147483647):=kz h;have HF:Hid (aE k q ep pe ek p i b he hn=0):=h;have HK:Hid (k=2∨k=5):=hk;clear h hk;obtain⟨i0,hi,Es,xT,vU⟩:=info_parts Tryz.YO;go_enter Tryz.func145,Tryz.ntmps145
 go_wp2_with fail
 refine(ky _ _ _ _ _ _ _ _ _ _ _).mono ?_;rintro e w1 ⟨rfl,b1⟩;rw[HF.out];have my:∀o,w1.cell? ⟨w.heap.size,o,none⟩=_:=fun o=>b1.cell (p:=⟨w.heap.size,o,none⟩) (by simp);have hz:w.heap.size<w1.heap.size:=by have:=b1.size;simp at this;omega
 go_wp2_with fail
 refine(jz _ _).mono ?_;rintro e w2 ⟨rfl,b2⟩;have jM:∀o,w2.cell? ⟨w.heap.size,o,none⟩=_:=fun o=>(b2.cell (p:=⟨w.heap.size,o,none⟩) (by simpa using hz)).trans (my o);have hz3:w.heap.size<w2.heap.size:=by have:=b2.size;omega
 go_wp2_with (go_at_call 172;refine(uU _ _ HK.out).mono ?_;rintro e w3 ⟨rfl,rfl⟩)
 have hP:∀o,o<10→(w2.alloc (.cells (et w.heap.size) 259)).cell? ⟨w2.heap.size,o,none⟩=some (.pointer (some ⟨w.heap.size,o,none⟩)):=fun o ho=>wu w2 _ o ho;have hQ:∀o,o<10→(w2.alloc (.cells (et w.heap.size) 259)).cell? ⟨w.heap.size,o,none⟩=some (iV ([k,q,ep,pe,ek,p,i,b,he,hn].getD o 0)):=fun o ho=>by
  rw[(aC w2 _).cell (p:=⟨w.heap.size,o,none⟩) hz3,jM o];exact EL w [k,q,ep,pe,ek,p,i,b,he,hn] _ o ho
 have BB:Below w.heap.size w (w2.alloc (.cells (et w.heap.size) 259)):=Below.next (Below.next (oW b1) b2) (aC w2 _);clear my jM b1 b2;have HP:=bG hP;have HQ:=bG hQ;have HB:=bG BB;clear hP hQ BB
 go_loopw [7,22] (fun v t wr=>∃j:Nat,j≤10∧t=iV j∧wr.ownsRow (w2.heap.size+1) 3 1 v j (([k,q,ep,pe,ek,p,i,b,he,hn].take j).map (Value.int .i64))∧Below (w2.heap.size+1) (w2.alloc (.cells (et w.heap.size) 259)) wr)
  (fun _ t _=>10-(intOf t).toNat)
 case atStart=>exact⟨0,Al _,rfl,BA _ _ _ _,Bm _ _⟩
 case round=>
  obtain⟨j,hj,rfl,bU,gQ⟩:=hrel;by_cases aN:j<10
  ·have kp:wr.cell? ⟨w2.heap.size,j,none⟩=some (.pointer (some ⟨w.heap.size,j,none⟩)):=(gQ.cell (by simp)).trans (ae HP j (by omega));have kq:wr.cell? ⟨w.heap.size,j,none⟩=some (iV ([k,q,ep,pe,ek,p,i,b,he,hn].getD j 0)):=(gQ.cell (by simp;omega)).trans (ae HQ j (by omega));obtain⟨x,hx⟩:∃x,[k,q,ep,pe,ek,p,i,b,he,hn].getD j 0=x:=⟨_,rfl⟩;rw[hx]at kq;have HX:=bG hx;clear hx;have js:w2.heap.size+1≤wr.heap.size:=by have:=gQ.size;simpa using this
   go_wp2_with (at_builtin;refine Cr _ rfl _ _ 262 rfl (w2.heap.size+1) 3 i0 (iV 0) 1 8 Tryz.underlying262 hi Es xT vU rfl (by decide) _ _ _ rfl (bU.alloc _) ⟨wr.heap.size,0,none⟩ 1 1 [iV x] rfl rfl (cell_one_new _ _ _) (Cw .i64 [x]) (by unfold maxLen;omega) (by omega) (by simp;omega) ?_;intro v' w4 hown4 hgrow4 _)
   have R1:Hid (w4.ownsRow (w2.heap.size+1) 3 1 v' (j+1) (([k,q,ep,pe,ek,p,i,b,he,hn].take (j+1)).map (Value.int .i64))):=by
    have ht:[k,q,ep,pe,ek,p,i,b,he,hn].take (j+1)=[k,q,ep,pe,ek,p,i,b,he,hn].take j++[x]:=by
     rw[←ae HX];exact EK [k,q,ep,pe,ek,p,i,b,he,hn] j (by simp;omega)
    rw[ht,AE];exact hown4
   have R2:Below (w2.heap.size+1) (w2.alloc (.cells (et w.heap.size) 259)) w4:=(gQ.alloc js _).grown hgrow4 (by simp;omega) (by intro t ht;exact(bU.lt t ht).1);clear hown4 hgrow4 bU kp kq;go_wp2
   go_roundw
   case rel=>exact⟨j+1,by omega,by go_num,R1.out,R2⟩
   case measure=>simp[intOf];omega
  ·have Sf:j=10:=by omega
   subst Sf;obtain⟨g,cap,hv,Vi,FB,hg3⟩:=M6 bU (by omega);subst hv;clear bU
   go_wp2_with fail
   refine(Mz g 0 cap [k,q,ep,pe,ek,p,i,b,he,hn] _ FB (by simp) ?_ hg3).mono ?_
   ·intro n pS;exact HR.out n (by simp at pS⊢;exact pS)
   rintro e w5 ⟨rfl,hr5,QQ⟩;go_wp2;go_ret2;refine⟨_,rfl, ?_,hr5, ?_⟩
   ·have:=gQ.size;simp at this;omega
   ·exact Below.next (Below.next (ae HB) (gQ.mono (by simp))) QQ
theorem IE(k q ep pe ek p i b he hn:Int)(w:tA)(h:aE k q ep pe ek p i b he hn=0)(hk:¬(k=2∨k=5)):
  cA 145 #[.agg #[iV k,iV q,iV ep,iV pe,iV ek,iV p,iV i,iV b,iV he,iV hn]] w fun e w'=>
   ∃g,e= .returned (.tuple #[.slice (some ⟨g,0,none⟩) 16 16,iV 0])∧w.heap.size≤g∧RowK .u8 w' (some ⟨g,0,none⟩) 16 (eH [k,q,ep,pe])∧bZ w w':=by
 have HR:Hid (∀n∈[k,q,ep,pe,ek,p,i,b,he,hn],0≤n∧n≤2147483647):=kz h;have HF:Hid (aE k q ep pe ek p i b he hn=0):=h;have HK:Hid (¬(k=2∨k=5)):=hk;clear h hk;obtain⟨i0,hi,Es,xT,vU⟩:=info_parts Tryz.YO;go_enter Tryz.func145,Tryz.ntmps145
 go_wp2_with fail
 refine(ky _ _ _ _ _ _ _ _ _ _ _).mono ?_;rintro e w1 ⟨rfl,b1⟩;rw[HF.out];have my:∀o,w1.cell? ⟨w.heap.size,o,none⟩=_:=fun o=>b1.cell (p:=⟨w.heap.size,o,none⟩) (by simp);have hz:w.heap.size<w1.heap.size:=by have:=b1.size;simp at this;omega
 go_wp2_with fail
 refine(jz _ _).mono ?_;rintro e w2 ⟨rfl,b2⟩;have jM:∀o,w2.cell? ⟨w.heap.size,o,none⟩=_:=fun o=>(b2.cell (p:=⟨w.heap.size,o,none⟩) (by simpa using hz)).trans (my o);have hz3:w.heap.size<w2.heap.size:=by have:=b2.size;omega
 go_wp2_with (go_at_call 172;refine(xB _ _ HK.out).mono ?_;rintro e w3 ⟨rfl,rfl⟩)
 have hP:∀o,o<10→(w2.alloc (.cells (et w.heap.size) 259)).cell? ⟨w2.heap.size,o,none⟩=some (.pointer (some ⟨w.heap.size,o,none⟩)):=fun o ho=>wu w2 _ o ho;have hQ:∀o,o<10→(w2.alloc (.cells (et w.heap.size) 259)).cell? ⟨w.heap.size,o,none⟩=some (iV ([k,q,ep,pe,ek,p,i,b,he,hn].getD o 0)):=fun o ho=>by
  rw[(aC w2 _).cell (p:=⟨w.heap.size,o,none⟩) hz3,jM o];exact EL w [k,q,ep,pe,ek,p,i,b,he,hn] _ o ho
 have BB:Below w.heap.size w (w2.alloc (.cells (et w.heap.size) 259)):=Below.next (Below.next (oW b1) b2) (aC w2 _);clear my jM b1 b2;have HP:=bG hP;have HQ:=bG hQ;have HB:=bG BB;clear hP hQ BB
 go_loopw [7,22] (fun v t wr=>∃j:Nat,j≤4∧t=iV j∧wr.ownsRow (w2.heap.size+1) 3 1 v j (([k,q,ep,pe,ek,p,i,b,he,hn].take j).map (Value.int .i64))∧Below (w2.heap.size+1) (w2.alloc (.cells (et w.heap.size) 259)) wr)
  (fun _ t _=>4-(intOf t).toNat)
 case atStart=>exact⟨0,Al _,rfl,BA _ _ _ _,Bm _ _⟩
 case round=>
  obtain⟨j,hj,rfl,bU,gQ⟩:=hrel;by_cases aN:j<4
  ·have kp:wr.cell? ⟨w2.heap.size,j,none⟩=some (.pointer (some ⟨w.heap.size,j,none⟩)):=(gQ.cell (by simp)).trans (ae HP j (by omega));have kq:wr.cell? ⟨w.heap.size,j,none⟩=some (iV ([k,q,ep,pe,ek,p,i,b,he,hn].getD j 0)):=(gQ.cell (by simp;omega)).trans (ae HQ j (by omega));obtain⟨x,hx⟩:∃x,[k,q,ep,pe,ek,p,i,b,he,hn].getD j 0=x:=⟨_,rfl⟩;rw[hx]at kq;have HX:=bG hx;clear hx;have js:w2.heap.size+1≤wr.heap.size:=by have:=gQ.size;simpa using this
   go_wp2_with (at_builtin;refine Cr _ rfl _ _ 262 rfl (w2.heap.size+1) 3 i0 (iV 0) 1 8 Tryz.underlying262 hi Es xT vU rfl (by decide) _ _ _ rfl (bU.alloc _) ⟨wr.heap.size,0,none⟩ 1 1 [iV x] rfl rfl (cell_one_new _ _ _) (Cw .i64 [x]) (by unfold maxLen;omega) (by omega) (by simp;omega) ?_;intro v' w4 hown4 hgrow4 _)
   have R1:Hid (w4.ownsRow (w2.heap.size+1) 3 1 v' (j+1) (([k,q,ep,pe,ek,p,i,b,he,hn].take (j+1)).map (Value.int .i64))):=by
    have ht:[k,q,ep,pe,ek,p,i,b,he,hn].take (j+1)=[k,q,ep,pe,ek,p,i,b,he,hn].take j++[x]:=by
     rw[←ae HX];exact EK [k,q,ep,pe,ek,p,i,b,he,hn] j (by simp;omega)
    rw[ht,AE];exact hown4
   have R2:Below (w2.heap.size+1) (w2.alloc (.cells (et w.heap.size) 259)) w4:=(gQ.alloc js _).grown hgrow4 (by simp;omega) (by intro t ht;exact(bU.lt t ht).1);clear hown4 hgrow4 bU kp kq;go_wp2
   go_roundw
   case rel=>exact⟨j+1,by omega,by go_num,R1.out,R2⟩
   case measure=>simp[intOf];omega
  ·have Sf:j=4:=by omega
   subst Sf;obtain⟨g,cap,hv,Vi,FB,hg3⟩:=M6 bU (by omega);subst hv;clear bU
   go_wp2_with fail
   refine(Mz g 0 cap [k,q,ep,pe] _ FB (by simp) ?_ hg3).mono ?_
   ·intro n pS;exact HR.out n (by simp at pS⊢;rcases pS with h|h|h|h<;>simp[h])
   rintro e w5 ⟨rfl,hr5,QQ⟩;go_wp2;go_ret2;refine⟨_,rfl, ?_,hr5, ?_⟩
   ·have:=gQ.size;simp at this;omega
   ·exact Below.next (Below.next (ae HB) (gQ.mono (by simp))) QQ
theorem mz(n:Int)(aiq:0≤n)(air:n<2^62):IntKind.i64.wrap n=n:=by rw[IntKind.wrap_i64];omega
theorem afp(c0 c1:Int)(r0:0≤c0)(s0:c0≤255)(r1:0≤c1)(s1:c1≤255):bits .or .i64 (c0*16777216) (c1*65536)=c0*16777216+c1*65536:=
 bits_join .i64 62 (by decide) mz 24 _ _ (by omega) (by omega) (by omega) (by omega) (by omega) (by omega)
theorem afq(c0 c1 c2:Int)(r0:0≤c0)(s0:c0≤255)(r1:0≤c1)(s1:c1≤255)(r2:0≤c2)(s2:c2≤255):bits .or .i64 (c0*16777216+c1*65536) (c2*256)=c0*16777216+c1*65536+c2*256:=
 bits_join .i64 62 (by decide) mz 16 _ _ (by omega) (by omega) (by omega) (by omega) (by omega) (by omega)
theorem or8(c0 c1 c2 c3:Int)(r0:0≤c0)(s0:c0≤255)(r1:0≤c1)(s1:c1≤255)(r2:0≤c2)(s2:c2≤255)(r3:0≤c3)(s3:c3≤255):bits .or .i64 (c0*16777216+c1*65536+c2*256) c3=c0*16777216+c1*65536+c2*256+c3:=
 bits_join .i64 62 (by decide) mz 8 _ _ (by omega) (by omega) (by omega) (by omega) (by omega) (by omega)
def gW(l:tG):Int×Int:=
 if l.length<4 then(0,4)
 else if 127<l.getD 0 0 then(0,2)
 else(16777216*l.getD 0 0+65536*l.getD 1 0+256*l.getD 2 0+l.getD 3 0,0)
theorem K1(b off len cap:Nat)(c0 c1 c2 c3:Int)(w:tA)(hl:4≤len)
  (k0:w.cell? ⟨b,off,none⟩=some (.int .u8 c0)) (k1:w.cell? ⟨b,off+1,none⟩=some (.int .u8 c1)) (k2:w.cell? ⟨b,off+2,none⟩=some (.int .u8 c2)) (k3:w.cell? ⟨b,off+3,none⟩=some (.int .u8 c3))
  (r0:0≤c0) (s0:c0≤255) (r1:0≤c1) (s1:c1≤255) (r2:0≤c2) (s2:c2≤255) (r3:0≤c3) (s3:c3≤255):
  cA 198 #[.slice (some ⟨b,off,none⟩) len cap] w fun e w'=>
   e= .returned (if 127<c0 then .tuple #[iV 0,iV 2]else .tuple #[iV (16777216*c0+65536*c1+256*c2+c3),iV 0])∧∃n,w'=w.drewN n:=by
 have J1:=afp c0 c1 r0 s0 r1 s1;have J2:=afq c0 c1 c2 r0 s0 r1 s1 r2 s2;have J3:=or8 c0 c1 c2 c3 r0 s0 r1 s1 r2 s2 r3 s3;by_cases hc:127<c0
 ·rw[Ae hc];go_enter Tryz.func198,Tryz.ntmps198;go_wp2
  go_quiet (fail)
  go_wp2;go_ret2;exact⟨rfl,_,rfl⟩
 ·rw[Aa hc];go_enter Tryz.func198,Tryz.ntmps198;go_wp2
  go_quiet (fail)
  go_wp2;go_ret2;refine⟨?_,_,rfl⟩;rw[show 16777216*c0+65536*c1+256*c2+c3=c0*16777216+c1*65536+c2*256+c3 by omega];rfl
theorem K3(a:tB)(len cap:Nat)(w:tA)(hl:len<4):cA 198 #[.slice a len cap] w fun e w'=>e= .returned (.tuple #[iV 0,iV 4])∧w=w':=by
 go_enter Tryz.func198,Tryz.ntmps198;go_wp2;go_ret2;exact⟨rfl,rfl⟩
theorem fy{l:tG}(hw:∀u∈l,(Lit.int .u8 u).wf=true)(k:Nat):0≤l.getD k 0∧l.getD k 0≤255:=by
 by_cases h:k<l.length
 ·have:=bounds_u8 (hw _ (Hs l k h));omega
 ·rw[Aw,Be (by omega)];simp
theorem nP{l:tG}(h:l.length<4):gW l=(0,4):=by simp[gW,h]
theorem F_{l:tG}(h:¬l.length<4):Value.tuple #[iV (gW l).1,iV (gW l).2]=if 127<l.getD 0 0 then .tuple #[iV 0,iV 2]else .tuple #[iV (16777216*l.getD 0 0+65536*l.getD 1 0+256*l.getD 2 0+l.getD 3 0),iV 0]:=by
 unfold gW;rw[Aa h];split<;>rfl
theorem SF(a:tB)(len cap:Nat)(l:tG)(w:tA)(h:RowK .u8 w a len l):
  cA 198 #[.slice a len cap] w fun e w'=>e= .returned (.tuple #[iV (gW l).1,iV (gW l).2])∧∃n,w'=w.drewN n:=by
 by_cases h4:l.length<4
 ·rw[nP h4];refine(K3 a len cap w (by rw[←h.bP];exact h4)).mono ?_;rintro e w' ⟨rfl,rfl⟩;exact⟨rfl,0,rfl⟩
 ·rw[F_ h4];have hl:=h.bP;obtain⟨b,off,rfl⟩:=h.form (by omega);have b0:=fy h.wf 0;have b1:=fy h.wf 1;have b2:=fy h.wf 2;have b3:=fy h.wf 3;exact K1 b off len cap _ _ _ _ w (by omega) (h.at 0 (by omega)) (h.at 1 (by omega)) (h.at 2 (by omega)) (h.at 3 (by omega)) b0.1 b0.2 b1.1 b1.2 b2.1 b2.2 b3.1 b3.2
def ja(p:Int×Int)(b:Int):Int×Int:=((p.1+b) % 65521,(p.2+(p.1+b) % 65521) % 65521)
def eM(l:tG):Int×Int:=l.foldl ja (1,0)
def sumOf(l:tG):Int:=(eM l).2*65536+(eM l).1
theorem Ga(l:tG)(k:Nat)(h:k<l.length):eM (l.take (k+1))=ja (eM (l.take k)) (l.getD k 0):=by
 rw[Bo h];simp only[eM,List.foldl_append,List.foldl_cons,List.foldl_nil];simp[h]
theorem Gb(l:tG)(p:Int×Int)(h0:0≤p.1)(h1:p.1<65521)(h2:0≤p.2)(h3:p.2<65521):
  0≤(l.foldl ja p).1∧(l.foldl ja p).1<65521∧0≤(l.foldl ja p).2∧(l.foldl ja p).2<65521:=by
 induction l generalizing p with
 |nil=>exact⟨h0,h1,h2,h3⟩
 |cons b l ih=>exact ih (ja p b) (by simp only[ja];omega) (by simp only[ja];omega) (by simp only[ja];omega) (by simp only[ja];omega)
theorem qv(l:tG):0≤(eM l).1∧(eM l).1<65521∧0≤(eM l).2∧(eM l).2<65521:=
 Gb l (1,0) (by decide) (by decide) (by decide) (by decide)
theorem py(l:tG):0≤sumOf l∧sumOf l<4293984256:=by
 have:=qv l;unfold sumOf;omega
theorem ZZ(s f:Int)(h0:0≤f)(h1:f<65521)(h2:0≤s)(h3:s<65521):bits .or .i64 (s*65536) f=s*65536+f:=
 bits_join .i64 62 (by decide) mz 16 _ _ (by omega) (by omega) (by omega) (by omega) (by omega) (by omega)
theorem Wu(a:tB)(len cap:Nat)(l:tG)(w:tA)(h:RowK .u8 w a len l)(hm:len≤140737488351232):
  cA 177 #[.slice a len cap] w fun e w'=>e= .returned (iV (sumOf l))∧w=w':=by
 have hl:=h.bP;go_enter Tryz.func177,Tryz.ntmps177;go_wp2
 go_loopw [3,4,9] (fun x y i wr=>∃k:Nat,k≤len∧i=iV k∧x=iV (eM (l.take k)).1∧y=iV (eM (l.take k)).2∧wr=w)
  (fun _ _ i _=>len-(intOf i).toNat)
 case atStart=>exact⟨0,Al _,rfl,rfl,rfl,rfl⟩
 case round=>
  obtain⟨k,hk,rfl,rfl,rfl,rfl⟩:=hrel;have hb:=qv (l.take k);by_cases aN:k<len
  ·have HX:Hid (eM (l.take (k+1))=ja (eM (l.take k)) (l.getD k 0)):=Ga l k (by omega);obtain⟨b,off,rfl⟩:=h.form (by omega);have hcx:=h.at k aN;have hx:=fy h.wf k;generalize eM (l.take k)=p at hb HX;generalize l.getD k 0=x at hcx hx HX;obtain⟨p,q⟩:=p;obtain⟨vR,n_,Du,Oo⟩:=hb;obtain⟨hx0,hx1⟩:=hx;simp only at vR n_ Du Oo;clear h;go_wp2
   go_roundw
   case rel=>exact⟨k+1,by omega,by go_num,by rw[HX.out];first|done|rfl,by rw[HX.out];first|done|rfl,by first|rfl|trivial⟩
   case measure=>simp[intOf];omega
  ·have kg:k=len:=by omega
   subst kg;rw[AL (by omega)]at*;have J:=ZZ (eM l).2 (eM l).1 hb.1 hb.2.1 hb.2.2.1 hb.2.2.2;have HX:Hid (sumOf l=(eM l).2*65536+(eM l).1):=rfl;generalize eM l=p at hb HX J;obtain⟨p,q⟩:=p;obtain⟨vR,n_,Du,Oo⟩:=hb;simp only at vR n_ Du Oo J;go_wp2;go_ret;exact⟨by rw[HX.out];rfl,rfl⟩
theorem mA(a:tB)(len cap:Nat)(s:Int)(w:tA)(h1:len≤100000)(h2:0≤s)(h3:s≤len):
  cA 116 #[.agg #[.slice a len cap,iV s]] w (rB (.bool true) w):=by
 have d1:(len:Int)≤100000:=by omega
 go_enter Tryz.func116,Tryz.ntmps116;go_wp2;go_ret;exact⟨rfl,aC _ _⟩
theorem IF(a:tB)(len cap:Nat)(s:Int)(w:tA)(hm:len≤140737488351232)(h:¬(len≤100000∧0≤s∧s≤len)):
  cA 116 #[.agg #[.slice a len cap,iV s]] w (rB (.bool false) w):=by
 by_cases h1:len≤100000
 ·have d1:(len:Int)≤100000:=by omega
  by_cases h2:0≤s
  ·have d2:¬s≤(len:Int):=by omega
   clear h;go_enter Tryz.func116,Tryz.ntmps116;go_wp2;go_ret;exact⟨rfl,aC _ _⟩
  ·clear h;go_enter Tryz.func116,Tryz.ntmps116;go_wp2;go_ret;exact⟨rfl,aC _ _⟩
 ·have d1:¬(len:Int)≤100000:=by omega
  clear h;go_enter Tryz.func116,Tryz.ntmps116;go_wp2;go_ret;exact⟨rfl,aC _ _⟩
structure Part where
 a:Option Addr
 len:Nat
 cap:Nat
 l:List Int
def dk:Part:=⟨none,0,0,[]⟩
def dH(ps:List Part):Nat:=(ps.map (·.len)).sum
def eu(ps:List Part):List Int:=ps.flatMap (·.l)
theorem IG(ps:List Part)(k:Nat)(h:k<ps.length):ps.take (k+1)=ps.take k++[ps.getD k dk]:=by
 rw[Bo h];simp[h]
theorem zU(ps:List Part)(k:Nat)(h:k<ps.length):dH (ps.take (k+1))=dH (ps.take k)+(ps.getD k dk).len:=by
 rw[IG ps k h];simp[dH]
theorem Gc(ps:List Part)(k:Nat)(h:k<ps.length):eu (ps.take (k+1))=eu (ps.take k)++(ps.getD k dk).l:=by
 rw[IG ps k h];simp[eu]
theorem pz(ps:List Part)(k:Nat):dH (ps.take k)≤dH ps:=by
 have h:dH (ps.take k++ps.drop k)=dH (ps.take k)+dH (ps.drop k):=by simp only[dH,List.map_append,List.sum_append]
 rw[BU]at h;omega
theorem zV(b off cap:Nat)(ps:List Part)(w:tA)(hlen:ps.length≤1000)(hb:b<w.heap.size)(hs:dH ps≤1000000)
  (hc:∀k,k<ps.length→w.cell? ⟨b,off+k,none⟩=some (.slice (ps.getD k dk).a (ps.getD k dk).len (ps.getD k dk).cap))
  (hr:∀k,k<ps.length→RowK .u8 w (ps.getD k dk).a (ps.getD k dk).len (ps.getD k dk).l∧((ps.getD k dk).a=none→(ps.getD k dk).cap=0)):
  cA 118 #[.slice (some ⟨b,off,none⟩) ps.length cap] w fun e w'=>
   ∃a' bl,e= .returned (.slice a' (dH ps) bl)∧RowK .u8 w' a' (dH ps) (eu ps)∧dH ps≤bl∧(a'=none→bl=0)∧bl≤9223372036854775807∧(∀x,a'=some x→w.heap.size≤x.block)∧bZ w w'∧w'.ownsRow w.heap.size 5 1 (.slice a' (dH ps) bl) (dH ps) ((eu ps).map (Value.int .u8)):=by
 obtain⟨i0,hi,Es,xT,vU⟩:=info_parts Tryz.RF;have HC:=bG hc;have HR:=bG hr;clear hc hr;go_enter Tryz.func118,Tryz.ntmps118;go_wp2
 go_loopw [3,11] (fun v t wr=>∃j:Nat,j≤ps.length∧t=iV j∧v=iV (dH (ps.take j))∧w=wr) (fun _ t _=>ps.length-(intOf t).toNat)
 case atStart=>exact⟨0,Al _,rfl,rfl,rfl⟩
 case round=>
  obtain⟨j,hj,rfl,rfl,rfl⟩:=hrel;have ht:=pz ps j;by_cases aN:j<ps.length
  ·have kq:=ae HC j aN;have HX:Hid (dH (ps.take (j+1))=dH (ps.take j)+(ps.getD j dk).len):=zU ps j aN;have Dv:=pz ps (j+1);rw[ae HX]at Dv;generalize ps.getD j dk=p at kq HX Dv;obtain⟨pa,pl,pc,pb⟩:=p;generalize dH (ps.take j)=z at HX ht Dv;simp only at kq Dv;go_wp2
   go_roundw
   case rel=>exact⟨j+1,by omega,by go_num,by rw[ae HX];go_num,by first|rfl|trivial⟩
   case measure=>simp[intOf];omega
  ·have Sf:j=ps.length:=by omega
   subst Sf;rw[BC]at*
   go_wp2_with (at_make;refine wpList_make_own _ rfl _ _ 119 rfl w.heap.size 5 i0 (.int .u8 0) 1 Tryz.underlying119 hi Es xT _ _ _ (dH ps) rfl rfl (by omega) (by rw[vU];omega) (by unfold maxLen;omega) (Ac _) ?_;intro w1 hown1 hgrow1)
   have n_:bZ w w1:=(Bm _ _).grown hgrow1 (Ac _) (by simp)
   go_loopw [6,24] (fun v t wr=>∃j:Nat,j≤ps.length∧t=iV j∧wr.ownsRow w.heap.size 5 1 v (dH (ps.take j)) ((eu (ps.take j)).map (Value.int .u8))∧bZ w wr) (fun _ t _=>ps.length-(intOf t).toNat)
   case atStart=>exact⟨0,Nat.zero_le _,rfl,by simpa[dH,eu]using hown1,n_⟩
   case round=>
    obtain⟨j,hj,rfl,bU,gQ⟩:=hrel;have ht:=pz ps j;by_cases aN:j<ps.length
    ·have kq:=(gQ.cell hb).trans (ae HC j aN);have dq:=(ae HR j aN).1.below gQ;have qe:=(ae HR j aN).2;have HX:Hid (dH (ps.take (j+1))=dH (ps.take j)+(ps.getD j dk).len):=zU ps j aN;have HY:Hid (eu (ps.take (j+1))=eu (ps.take j)++(ps.getD j dk).l):=Gc ps j aN;have Dv:=pz ps (j+1);rw[ae HX]at Dv;generalize ps.getD j dk=p at kq HX Dv dq qe HY;obtain⟨pa,pl,pc,pb⟩:=p;simp only at kq Dv dq qe;have js:=gQ.size
     go_wp2_with (at_builtin;refine ng rfl _ _ 119 rfl w.heap.size 5 i0 (.int .u8 0) 1 Tryz.underlying119 hi Es xT vU rfl .u8 _ _ _ rfl bU pa pl pc pb rfl dq qe (by unfold maxLen;omega) (by omega) (by omega) ?_;intro v' w4 hown4 hgrow4)
     have R1:Hid (w4.ownsRow w.heap.size 5 1 v' (dH (ps.take (j+1))) ((eu (ps.take (j+1))).map (Value.int .u8))):=by
      rw[ae HX,ae HY];exact hown4
     have R2:bZ w w4:=gQ.grown hgrow4 (by omega) (by intro t ht;exact(bU.lt t ht).1);clear hown4 hgrow4 bU kq dq;go_wp2
     go_roundw
     case rel=>exact⟨j+1,by omega,by go_num,R1.out,R2⟩
     case measure=>simp[intOf];omega
    ·have Sf:j=ps.length:=by omega
     subst Sf;rw[BC]at*
     obtain⟨a',bl,rfl,hr,hc',hm',pS,hx'⟩:=RowK.yM bU (by
      intro u hu;simp only[eu,List.mem_flatMap]at hu;obtain⟨p,hp,hu⟩:=hu;obtain⟨k,hk,hpk⟩:=List.getElem_of_mem hp;have:=(ae HR k hk).1.wf u;rw[Aw,Ai hk]at this
      exact this (by simpa[hpk]using hu))
     have HO:=bG bU;clear bU;go_wp2;go_ret;exact⟨a',bl,rfl,hr,hc',pS,by unfold maxLen at hm';exact hm',hx',gQ,ae HO⟩
theorem s_(b off cap:Nat)(ps:List Part)(w:tA)(hlen:ps.length≤1000)(hb:b<w.heap.size)(hs:dH ps≤1000000)
  (hc:∀k,k<ps.length→w.cell? ⟨b,off+k,none⟩=some (.slice (ps.getD k dk).a (ps.getD k dk).len (ps.getD k dk).cap))
  (hr:∀k,k<ps.length→RowK .u8 w (ps.getD k dk).a (ps.getD k dk).len (ps.getD k dk).l∧((ps.getD k dk).a=none→(ps.getD k dk).cap=0)):
  cA 118 #[.slice (some ⟨b,off,none⟩) ps.length cap] w fun e w'=>
   ∃a' bl,e= .returned (.slice a' (dH ps) bl)∧RowK .u8 w' a' (dH ps) (eu ps)∧dH ps≤bl∧(a'=none→bl=0)∧bl≤9223372036854775807∧(∀x,a'=some x→w.heap.size≤x.block)∧bZ w w':=by
 refine(zV b off cap ps w hlen hb hs hc hr).mono ?_;rintro e w' ⟨a',bl,h1,h2,h3,h4,h5,h6,h7,_⟩;exact⟨a',bl,h1,h2,h3,h4,h5,h6,h7⟩
def az(l:tG)(j:Nat):Int:=(gW (l.drop (4*j))).1
def dT(l:tG)(j:Nat):Int:=(gW (l.drop (4*j))).2
def aM(w:tA)(R:Nat)(zs:tG):Prop:=zs.length=10∧w.heap[R]? =some (.cells (zs.map (Value.int .i64)).toArray 144 (0,0))
def Ge(l zs:tG)(s:Nat):Nat→List Int
 |0=>zs
 |j+1=>(Ge l zs s j).set (s+j) (az l j)
structure aS(R:Nat)(w w':tA):Prop where
 os:w'.os=w.os
 tape:w'.tape=w.tape
 output:w'.output=w.output
 size:w'.heap.size=w.heap.size
 block:∀k,k≠R→w'.heap[k]? =w.heap[k]?
theorem aS.refl(R:Nat)(w:tA):aS R w w:=⟨rfl,rfl,rfl,rfl,fun _ _=>rfl⟩
theorem aS.trans{R:Nat}{a b c:tA}(h:aS R a b)(k:aS R b c):aS R a c:=
 ⟨k.os.trans h.os,k.tape.trans h.tape,k.output.trans h.output,k.size.trans h.size,fun x hx=>(k.block x hx).trans (h.block x hx)⟩
theorem aS.drewN(R:Nat)(w:tA)(n:Nat):aS R w (w.drewN n):=⟨rfl,rfl,rfl,rfl,fun _ _=>rfl⟩
theorem aS.cell{R:Nat}{w w':tA}(h:aS R w w'){b o:Nat}(hb:b≠R):w'.cell? ⟨b,o,none⟩=w.cell? ⟨b,o,none⟩:=Cq (w:=w) (h.block b hb)
theorem aS.row{R:Nat}{k:IntKind}{w w':tA}(h:aS R w w'){a:tB}{len:Nat}{l:tG}(hr:RowK k w a len l)(fR:∀x,a=some x→0<len→x.block≠R):RowK k w' a len l:=
 ⟨hr.bP,hr.wf,fun i hi=>by
  obtain⟨b,off,ha,aN,hc⟩:=hr.cell i hi
  exact⟨b,off,ha,by rw[h.size];exact aN,(h.cell (fR _ ha (by omega))).trans hc⟩⟩
theorem aM.cell{w:tA}{R:Nat}{zs:tG}(h:aM w R zs)(o:Nat)(ho:o<10):w.cell? ⟨R,o,none⟩=some (iV (zs.getD o 0)):=by
 have:=h.1;simp[World.cell?,h.2,show o<zs.length by omega]
theorem aM.free{w:tA}{R:Nat}{zs:tG}(h:aM w R zs)(o:Nat):w.frozen? ⟨R,o,none⟩=false:=by
 simp[World.frozen?,h.2]
theorem aM.lt{w:tA}{R:Nat}{zs:tG}(h:aM w R zs):R<w.heap.size:=by
 rcases AG R w.heap.size with h'|h'
 ·exact h'
 ·have:=h.2;rw[Bf h']at this;cases this
theorem aM.set{w:tA}{R:Nat}{zs:tG}(h:aM w R zs)(o:Nat)(x:Int):aM (w.setCell ⟨R,o,none⟩ (iV x)) R (zs.set o x):=by
 refine⟨by simpa using h.1, ?_⟩;rw[Ct w R o _ _ (0,0) _ h.2];rw[setRow_heap w R _ _ _ _ h.2];simp[List.map_set]
theorem aM.drewN{w:tA}{R:Nat}{zs:tG}(h:aM w R zs)(n:Nat):aM (w.drewN n) R zs:=h
theorem aS.set(R o:Nat)(w:tA)(v:tK):aS R w (w.setCell ⟨R,o,none⟩ v):=by
 refine⟨?_, ?_, ?_, ?_,fun k hk=>Below.heap_setCell w _ v k hk⟩<;>(unfold World.setCell;split<;>simp)
theorem RowK.acq{k:IntKind}{w:tA}{b off len:Nat}{l:tG}(h:RowK k w (some ⟨b,off,none⟩) len l)(a:tB)(h4:4≤len)(ha:4<len→a=some ⟨b,off+4,none⟩):RowK k w a (len-4) (l.drop 4):=by
 refine⟨by simp[h.bP],fun u hu=>h.wf u (Bl hu),fun i hi=> ?_⟩;refine⟨b,off+4,ha (by omega),h.lt (by omega), ?_⟩;have:=h.at (4+i) (by omega);rw[BF,this];simp[List.getD_eq_getElem?_getD]
theorem IH(N R s n acr:Nat)(a:tB)(len cap:Nat)(l zs:tG)(w:tA)(hs:s+n≤10)(hN:N≠R)
    (hp:∀o,o<10→w.cell? ⟨N,o,none⟩=some (.pointer (some ⟨R,o,none⟩))) (hR:aM w R zs) (hb:RowK .u8 w a len l) (fR:∀x,a=some x→0<len→x.block≠R) (rY:len≤cap) (hc:cap≤9223372036854775807):
    cA 179 #[.slice (some ⟨N,s,none⟩) n acr,.slice a len cap] w fun e w'=>
      ((∃a' bl fG,e= .returned (.slice a' fG bl)∧(∀t,t<n→dT l t=0)∧RowK .u8 w' a' fG (l.drop (4*n))∧(∀x,a'=some x→0<fG→x.block≠R)∧fG≤bl∧bl≤9223372036854775807∧aM w' R (Ge l zs s n))∨
       (∃t zs',t<n∧(∀u,u<t→dT l u=0)∧dT l t≠0∧e= .panicked [{v:= .iface 57 (iV (dT l t)),recovered:=false}]∧aM w' R zs'))∧aS R w w':=by
  go_enter Tryz.func179,Tryz.ntmps179;go_wp2
  go_loopw [1,11] (fun v i wr=>∃(j fG bl:Nat) (a':tB),j≤n∧i=iV j∧v= .slice a' fG bl∧(∀t,t<j→dT l t=0)∧RowK .u8 wr a' fG (l.drop (4*j))∧(∀x,a'=some x→0<fG→x.block≠R)∧fG≤bl∧bl≤9223372036854775807∧aM wr R (Ge l zs s j)∧aS R w wr)
    (fun _ i _=>n-(intOf i).toNat)
  case atStart=>exact⟨0,len,cap,a,Nat.zero_le _,rfl,rfl,fun t ht=>by omega,by simpa using hb,fR,rY,hc,hR,aS.refl _ _⟩
  case round=>
    obtain⟨j,fG,bl,a',hj,rfl,rfl,wA,dq,hne',hlc',hc',hrec,hsame⟩:=hrel;by_cases aN:j<n
    ·have kp:wr.cell? ⟨N,s+j,none⟩=some (.pointer (some ⟨R,s+j,none⟩)):=(hsame.cell hN).trans (hp (s+j) (by omega));have HE:=bG wA;have HR:=bG dq;have HC:=bG hrec;have HS:=bG hsame;clear wA dq hrec hsame hR hb hp
     go_wp2_with fail
     refine(SF _ _ _ _ _ (ae HR)).mono ?_;rintro e w1 ⟨rfl,q,rfl⟩;by_cases hz:dT l j=0
     ·have h4:4≤fG:=by
         have h1:=(ae HR).bP;rcases AG (l.drop (4*j)).length 4 with h|h
         ·exfalso;have:=hz;unfold dT at this;rw[nP h]at this;simp at this
         ·omega
      obtain⟨b0,rW,rfl⟩:=(ae HR).form (by omega);have hz':((gW (l.drop (4*j))).2 !=0)=false:=by simpa[dT]using hz
      have kr:=(ae HC).cell (s+j) (by omega);have kf:=(ae HC).free (s+j);go_wp2
      go_region
      all_goals
        generalize hA:(if bl=4 then some (⟨b0,rW,none⟩:Addr)else some ⟨b0,rW+4,none⟩)=A';have HA:=bG hA;clear hA kr kf kp hz';go_wp2
        go_roundw
        case rel=>
          have hS:aS R wr ((wr.drewN (q+1)).setCell ⟨R,s+j,none⟩ (iV (gW (l.drop (4*j))).1)):=(aS.drewN R wr (q+1)).trans (aS.set R (s+j) _ _);have hdr:(l.drop (4*j)).drop 4=l.drop (4*(j+1)):=by rw[List.drop_drop];congr 1
          have hA4:4<fG→A'=some ⟨b0,rW+4,none⟩:=fun h=>by rw[←ae HA,Aa (by omega)]
          have hAb:∀x,A'=some x→0<fG-4→x.block≠R:=fun x hx hp=>by
            have h1:=hne' _ rfl (by omega);rw[←ae HA]at hx;split at hx<;>(simp at hx;subst hx;exact h1)
          refine⟨j+1,fG-4,bl-4,A',by omega,by go_num,rfl, ?_, ?_,hAb,by omega,by omega, ?_,(ae HS).trans hS⟩
          ·intro t ht;by_cases h:t=j
           ·rw[h];exact hz
           ·exact ae HE t (by omega)
          ·rw[←hdr];exact hS.row ((ae HR).acq A' h4 hA4) hAb
          ·exact((ae HC).drewN (q+1)).set (s+j) _
        case measure=>simp[intOf];omega
     ·have hz':((gW (l.drop (4*j))).2 !=0)=true:=by simpa[dT]using hz
      go_wp2;exact⟨rfl,.inr ⟨j,_,aN,ae HE,hz,rfl,(ae HC).drewN q⟩,(ae HS).trans (aS.drewN R wr q)⟩
    ·have hjn:j=n:=by omega
     subst hjn;have HE:=bG wA;have HR:=bG dq;have HC:=bG hrec;have HS:=bG hsame;clear wA dq hrec hsame hR hb hp;go_wp2;go_ret;exact⟨.inl ⟨a',bl,fG,rfl,ae HE,ae HR,hne',hlc',hc',ae HC⟩,ae HS⟩
def aO(w:tA)(R:Nat)(a:tB)(len cap:Nat)(s:Int):Prop:=w.heap[R]? =some (.cells #[.slice a len cap,iV s] 121 (0,0))
theorem aO.cell0{w:tA}{R:Nat}{a:tB}{len cap:Nat}{s:Int}(h:aO w R a len cap s):w.cell? ⟨R,0,none⟩=some (.slice a len cap):=by
 unfold aO at h;simp[World.cell?,h]
theorem aO.lX{w:tA}{R:Nat}{a:tB}{len cap:Nat}{s:Int}(h:aO w R a len cap s):w.cell? ⟨R,1,none⟩=some (iV s):=by
 unfold aO at h;simp[World.cell?,h]
theorem aO.free{w:tA}{R:Nat}{a:tB}{len cap:Nat}{s:Int}(h:aO w R a len cap s)(o:Nat):w.frozen? ⟨R,o,none⟩=false:=by
 unfold aO at h;simp[World.frozen?,h]
theorem aO.lt{w:tA}{R:Nat}{a:tB}{len cap:Nat}{s:Int}(h:aO w R a len cap s):R<w.heap.size:=by
 unfold aO at h;rcases AG R w.heap.size with h'|h'
 ·exact h'
 ·simp[Array.getElem?_eq_none h']at h
theorem aO.below{w w':tA}{R B:Nat}{a:tB}{len cap:Nat}{s:Int}(h:aO w R a len cap s)(hb:Below B w w')(hR:R<B):aO w' R a len cap s:=by
 unfold aO at h⊢;rw[←h];exact hb.block R hR
theorem aO.new(w:tA)(a:tB)(len cap:Nat)(s:Int):aO (w.alloc (.cells #[.slice a len cap,iV s] 121)) w.heap.size a len cap s:=AP w _
theorem aO.store{w:tA}{R:Nat}{a:tB}{len cap:Nat}{s:Int}(h:aO w R a len cap s)(a':tB)(fG bl:Nat)(s':Int):
  aO ((w.setCell ⟨R,0,none⟩ (.slice a' fG bl)).setCell ⟨R,1,none⟩ (iV s')) R a' fG bl s':=by
 unfold aO at h⊢;have h1:(w.setCell ⟨R,0,none⟩ (.slice a' fG bl)).heap[R]? =some (.cells #[.slice a' fG bl,iV s] 121 (0,0)):=by
  rw[Ct w R 0 _ _ (0,0) _ h,setRow_heap w R _ _ _ _ h];simp
 rw[Ct _ R 1 _ _ (0,0) _ h1,setRow_heap _ R _ _ _ _ h1];simp
theorem cM(w:tA)(R:Nat)(v v':tK):aS R w ((w.setCell ⟨R,0,none⟩ v).setCell ⟨R,1,none⟩ v'):=(aS.set R 0 w v).trans (aS.set R 1 _ v')
theorem aS.under{R B:Nat}{w w1 w2:tA}(hb:Below B w w1)(h:aS R w1 w2)(hR:B≤R):Below B w w2:=
 ⟨h.os.trans hb.os,h.tape.trans hb.tape,h.output.trans hb.output,by rw[h.size];exact hb.size,fun k hk=>(h.block k (by omega)).trans (hb.block k hk)⟩
theorem SG{W:tA}{R:Nat}{a:tB}{len cap:Nat}{s:Int}{tmps:tR}(h:aO W R a len cap s)(t:tmps[2]? =some (.pointer (some ⟨R,0,none⟩))):
  (results Tryz.f117 tmps).run Tryz.prog W= .ok (.agg #[.slice a len cap,iV s]) W:=by
 have k0:=h.cell0;have k1:=h.lX;simp[results,Tryz.results117,go_sem,k0,k1,t]
theorem SH{W:tA}{R:Nat}{a:tB}{len cap:Nat}{s e:Int}{tmps:tR}(h:aO W R a len cap s)(t:tmps[2]? =some (.pointer (some ⟨R,0,none⟩)))(te:tmps[3]? =some (iV e)):
  (results Tryz.f114 tmps).run Tryz.prog W= .ok (.tuple #[.agg #[.slice a len cap,iV s],iV e]) W:=by
 have k0:=h.cell0;have k1:=h.lX;simp[results,Tryz.results114,go_sem,k0,k1,t,te]
theorem EM{W:tA}{R:Nat}{a:tB}{len cap:Nat}{s e:Int}{tmps:tR}(h:aO W R a len cap s)(t:tmps[4]? =some (.pointer (some ⟨R,0,none⟩)))(te:tmps[5]? =some (iV e)):
  (results Tryz.f74 tmps).run Tryz.prog W= .ok (.tuple #[.agg #[.slice a len cap,iV s],iV e]) W:=by
 have k0:=h.cell0;have k1:=h.lX;simp[results,Tryz.results74,go_sem,k0,k1,t,te]
theorem II(a:tB)(len cap:Nat)(l:tG)(w:tA)(h:RowK .u8 w a len l)(hn:a=none→cap=0)(hm:len≤1000000):
  cA 117 #[.slice a len cap] w fun e w'=>
   ∃a' bl,e= .returned (.agg #[.slice a' len bl,iV len])∧RowK .u8 w' a' len l∧len≤bl∧(a'=none→bl=0)∧bl≤9223372036854775807∧(∀x,a'=some x→w.heap.size≤x.block)∧bZ w w':=by
 go_enter Tryz.func117,Tryz.ntmps117
 go_wp2_with fail
 refine(s_ (w.heap.size+1) 0 1 [⟨a,len,cap,l⟩] _ (by simp) (by simp) (by simp[dH];omega) ?_ ?_).mono ?_
 ·intro k hk
  match k,hk with
  |0,_=>simp
 ·intro k hk
  match k,hk with
  |0,_=>exact⟨h.below (gm _ _ _),hn⟩
 rintro e w1 ⟨a',bl,rfl,r1,c1,n1,m1,x1,b1⟩;have e1:dH [⟨a,len,cap,l⟩]=len:=by simp[dH]
 have e2:eu [⟨a,len,cap,l⟩]=l:=by simp[eu]
 rw[e1,e2]at r1;rw[e1]at c1⊢;clear e1 e2;have tb:aO w1 w.heap.size none 0 0 0:=(((aO.new w none 0 0 0).below (aC _ _) (by simp)).below b1 (by simp;omega));have k0:=tb.cell0;have k1:=tb.lX;have kf:=tb.free;have B1:=bG (ur b1);have X1:Hid (∀x,a'=some x→w.heap.size+1≤x.block):=bG (fun x hx=>by have:=x1 x hx;simp at this;omega);clear b1 x1;go_wp2;refine Ao (SG (tb.store a' len bl len) rfl) rfl ⟨a',bl,rfl,(cM w1 w.heap.size _ _).row r1 (fun x hx _=>by have:=ae X1 x hx;omega),c1,n1,m1,fun x hx=>by have:=ae X1 x hx;omega,(cM w1 w.heap.size _ _).under (ae B1) (Ac _)⟩
theorem oD(w:tA)(a:tB)(len cap:Nat)(s:Int):∃W,W=(w.alloc (.cells #[.slice a len cap,iV s] 121)).alloc (.cells #[.slice none 0 0,iV 0] 121)∧
  aO W w.heap.size a len cap s∧aO W (w.heap.size+1) none 0 0 0∧bZ w W∧W.heap.size=w.heap.size+2:=
 ⟨_,rfl,(aO.new w a len cap s).below (aC _ _) (by simp),by have:=aO.new (w.alloc (.cells #[.slice a len cap,iV s] 121)) none 0 0 0;simpa using this,gm _ _ _,by simp⟩
theorem SI(a:tB)(len cap:Nat)(l:tG)(s:Int)(w:tA)(h:RowK .u8 w a len l)(hn:a=none→cap=0)(h1:len≤100000)(h2:0≤s)(h3:s≤len):
  cA 114 #[.agg #[.slice a len cap,iV s]] w fun e w'=>
   ∃a' bl,e= .returned (.tuple #[.agg #[.slice a' len bl,iV len],iV 0])∧RowK .u8 w' a' len l∧len≤bl∧(a'=none→bl=0)∧bl≤9223372036854775807∧(∀x,a'=some x→w.heap.size≤x.block)∧bZ w w':=by
 go_enter Tryz.func114,Tryz.ntmps114
 go_wp2_with fail
 obtain⟨W,hW,tb0,uj,B0,S0⟩:=oD w a len cap s;rw[←hW];have r0:=h.below B0;clear hW;refine(mA a len cap s _ h1 h2 h3).mono ?_;rintro e w1 ⟨rfl,b1⟩;have r1:=r0.below b1;have z1:=b1.size;have ta:=tb0.below b1 tb0.lt;have xY:=uj.below b1 uj.lt;have B1:=Below.next B0 b1;have i0:=ta.cell0;clear tb0 uj r0 b1 B0
 go_wp2_with fail
 refine(II a len cap l _ r1 hn (by omega)).mono ?_;rintro e w2 ⟨a',bl,rfl,r2,c2,n2,m2,x2,b2⟩;have O9:=xY.below b2 xY.lt;have B2:=Below.next B1 b2;have j0:=O9.cell0;have j1:=O9.lX;have jf:=O9.free;clear xY b2 i0 ta;go_wp2;exact Ao (SH (O9.store a' len bl len) rfl rfl) rfl ⟨a',bl,rfl,(cM w2 _ _ _).row r2 (fun x hx _=>by have:=x2 x hx;omega),c2,n2,m2,fun x hx=>by have:=x2 x hx;omega,(cM w2 _ _ _).under B2 (by omega)⟩
theorem RowK.take{k:IntKind}{w:tA}{a:tB}{len:Nat}{l:tG}(h:RowK k w a len l)(n:Nat)(hn:n≤len):RowK k w a n (l.take n):=by
 have hl:=h.bP;refine⟨by simp;omega,fun u hu=>h.wf u (AJ hu),fun i hi=> ?_⟩;obtain⟨b,off,ha,aN,hc⟩:=h.cell i (by omega);refine⟨b,off,ha,aN, ?_⟩;rw[hc];simp[List.getD_eq_getElem?_getD,hi]
def leftOf(len:Nat)(s keep:Int):Nat:=(if keep<len-s then s+keep else len).toNat
theorem acs(a:tB)(len cap:Nat)(s keep:Int)(w:tA)(hm:len≤140737488351232)(h:¬(len≤100000∧0≤s∧s≤len)):
  cA 74 #[.agg #[.slice a len cap,iV s],iV keep] w (rB (.tuple #[.agg #[.slice none 0 0,iV 0],iV 6]) w):=by
 go_enter Tryz.func74,Tryz.ntmps74
 go_wp2_with fail
 obtain⟨W,hW,tb0,uj,B0,S0⟩:=oD w a len cap s;rw[←hW];clear hW;refine(IF a len cap s _ hm h).mono ?_;rintro e w1 ⟨rfl,b1⟩;have xY:=uj.below b1 uj.lt;have j0:=xY.cell0;have j1:=xY.lX;have jf:=xY.free;go_wp2;exact Ao (EM (xY.store none 0 0 0) rfl rfl) rfl ⟨rfl,(cM w1 _ _ _).under (Below.next B0 b1) (by omega)⟩
theorem O_(a:tB)(len cap:Nat)(l:tG)(s keep:Int)(w:tA)(h:RowK .u8 w a len l)(hn:a=none→cap=0)(hc:len≤cap)(h1:len≤100000)(h2:0≤s)(h3:s≤len)(hk:0≤keep)(ZI:keep≤9223372036854775807):
  cA 74 #[.agg #[.slice a len cap,iV s],iV keep] w fun e w'=>
   ∃a' bl,e= .returned (.tuple #[.agg #[.slice a' (leftOf len s keep) bl,iV (leftOf len s keep)],iV 0])∧RowK .u8 w' a' (leftOf len s keep) (l.take (leftOf len s keep))∧leftOf len s keep≤bl∧(a'=none→bl=0)∧bl≤9223372036854775807∧(∀x,a'=some x→w.heap.size≤x.block)∧bZ w w':=by
 have d0:¬keep<0:=by omega
 go_enter Tryz.func74,Tryz.ntmps74
 go_wp2_with fail
 obtain⟨W,hW,tb0,uj,B0,S0⟩:=oD w a len cap s;rw[←hW];have r0:=h.below B0;clear hW;refine(mA a len cap s _ h1 h2 h3).mono ?_;rintro e w1 ⟨rfl,b1⟩;have r1:=r0.below b1;have z1:=b1.size;have ta:=tb0.below b1 tb0.lt;have xY:=uj.below b1 uj.lt;have B1:=Below.next B0 b1;have i0:=ta.cell0;have i1:=ta.lX;clear tb0 uj r0 b1 B0;have hle:leftOf len s keep≤len:=by unfold leftOf;split<;>omega
 go_wp2_with fail
 all_goals
  first
   |rw[show(s+keep).toNat=leftOf len s keep by unfold leftOf;split<;>omega]
   |rw[show(s+(↑len-s)).toNat=leftOf len s keep by unfold leftOf;split<;>omega]
   |rw[show(s+min keep (↑len-s)).toNat=leftOf len s keep by unfold leftOf;split<;>omega]
  refine(II a (leftOf len s keep) cap (l.take (leftOf len s keep)) _ (r1.take (leftOf len s keep) hle) hn (by omega)).mono ?_;rintro e w2 ⟨a',bl,rfl,r2,c2,n2,m2,x2,b2⟩;have O9:=xY.below b2 xY.lt;have B2:=Below.next B1 b2;have j0:=O9.cell0;have j1:=O9.lX;have jf:=O9.free;clear xY b2 i0 ta;go_wp2;exact Ao (EM (O9.store a' (leftOf len s keep) bl (leftOf len s keep)) rfl rfl) rfl ⟨a',bl,rfl,(cM w2 _ _ _).row r2 (fun x hx _=>by have:=x2 x hx;omega),c2,n2,m2,fun x hx=>by have:=x2 x hx;omega,(cM w2 _ _ _).under B2 (by omega)⟩
theorem wB{w w':tA}{base e size n:Nat}{v:tK}{xs:tM}(h:w.ownsRow base e size v n xs)(hb:bZ w w'):w'.ownsRow base e size v n xs:=by
 obtain⟨h1,h2⟩:=h;refine⟨h1, ?_⟩;rcases h2 with h|⟨g,cap,cur,hv,hg,hh,r⟩
 ·exact .inl h
 ·refine .inr ⟨g,cap,cur,hv,hg, ?_,r⟩;have aN:g<w.heap.size:=by
   rcases AG g w.heap.size with h'|h'
   ·exact h'
   ·rw[Bf h']at hh;cases hh
  rw[hb.block g aN];exact hh
def lN(l:tG):List Int:=[(l.length:Int)/256,(l.length:Int) % 256]++l
def dY(l:tG):List Int:=lN l++four (sumOf (lN l))
theorem zW(l:tG):(lN l).length=l.length+2:=by simp[lN]
theorem nm(l:tG):(dY l).length=l.length+6:=by simp[dY,lN,four]
theorem Pa(n:Int)(h0:0≤n)(h1:n<4294967296):∀u∈four n,(Lit.int .u8 u).wf=true:=by
 intro u hu;simp only[four,List.mem_cons,List.not_mem_nil,or_false]at hu;rcases hu with rfl|rfl|rfl|rfl<;>exact WalkArith.wf_u8 (by omega)
theorem SJ(l:tG):∀u∈four (sumOf l),(Lit.int .u8 u).wf=true:=Pa _ (py l).1 (by have:=(py l).2;omega)
theorem SK(n:Nat)(h:n≤65535):∀u∈[(n:Int)/256,(n:Int) % 256],(Lit.int .u8 u).wf=true:=by
 intro u hu;simp only[List.mem_cons,List.not_mem_nil,or_false]at hu;rcases hu with rfl|rfl<;>exact WalkArith.wf_u8 (by omega)
theorem bQ(w:tA)(o:Obj):(w.alloc o).heap.size=w.heap.size+1:=by simp
theorem zX(a:tB)(len cap:Nat)(l:tG)(w:tA)(h:RowK .u8 w a len l)(hm:len≤1000000):
  cA 156 #[.slice a len cap] w fun e w'=>
   e= .returned (.slice (some ⟨w.heap.size,0,none⟩) 4 4)∧RowK .u8 w' (some ⟨w.heap.size,0,none⟩) 4 (four (sumOf l))∧bZ w w':=by
 go_enter Tryz.func156,Tryz.ntmps156
 go_wp2_with fail
 refine(Wu a len cap l _ h (by omega)).mono ?_;rintro e w1 ⟨rfl,rfl⟩;have hw:=SJ l;obtain⟨s0,s1⟩:=py l;obtain⟨s,hs⟩:∃s,sumOf l=s:=⟨_,rfl⟩;rw[hs]at hw s0 s1;rw[hs];have HS:=bG hs;have hw:=bG hw;clear hs;go_wp2;go_ret;rw[ae HS];exact⟨rfl,RowK.Mi (World.ownsRow_lit (base:=w.heap.size) (e:=5) (size:=1) w ((four s).map (Value.int .u8)).toArray 4 (Ac _) (by decide) rfl) rfl (ae hw),aC _ _⟩
theorem Pb(a:tB)(len cap:Nat)(l:tG)(w:tA)(h:RowK .u8 w a len l)(hn:a=none→cap=0)(hm:len≤65535):
  cA 146 #[.slice a len cap] w fun e w'=>
   ∃a' bl,e= .returned (.slice a' (len+6) bl)∧RowK .u8 w' a' (len+6) (dY l)∧len+6≤bl∧(a'=none→bl=0)∧bl≤9223372036854775807∧(∀x,a'=some x→w.heap.size≤x.block)∧bZ w w':=by
 obtain⟨i0,hi,Es,xT,vU⟩:=info_parts Tryz.RF;have hl:=h.bP;go_enter Tryz.func146,Tryz.ntmps146
 go_wp2_with fail
 refine(zV (w.heap.size+1) 0 2 [⟨some ⟨w.heap.size,0,none⟩,2,2,[(len:Int)/256,(len:Int) % 256]⟩,⟨a,len,cap,l⟩] _ (by simp) (by simp) (by simp[dH];omega) ?_ ?_).mono ?_
 ·intro k hk
  match k,hk with
  |0,_=>simp
  |1,_=>simp
 ·intro k hk
  match k,hk with
  |0,_=>exact⟨(RowK.Mi (World.ownsRow_lit (base:=w.heap.size) (e:=5) (size:=1) w ([(len:Int)/256,(len:Int) % 256].map (Value.int .u8)).toArray 2 (Ac _) (by decide) rfl) rfl (SK len hm)).below (aC _ _),by simp⟩
  |1,_=>exact⟨h.below (gm _ _ _),hn⟩
 rintro e w1 ⟨a1,cap1,rfl,r1,c1,n1,m1,x1,b1,o1⟩;have e1:dH [⟨some ⟨w.heap.size,0,none⟩,2,2,[(len:Int)/256,(len:Int) % 256]⟩,⟨a,len,cap,l⟩]=len+2:=by simp[dH];omega
 have e2:eu [⟨some ⟨w.heap.size,0,none⟩,2,2,[(len:Int)/256,(len:Int) % 256]⟩,⟨a,len,cap,l⟩]=lN l:=by simp[eu,lN,hl]
 rw[e1,e2]at r1 o1;rw[e1]at c1⊢;clear e1 e2;have B1:=bG (ur b1);have z1:w.heap.size+2≤w1.heap.size:=by have:=b1.size;rw[bQ,bQ]at this;omega
 rw[bQ,bQ]at o1;clear b1 x1
 go_wp2_with fail
 refine(zX a1 (len+2) cap1 (lN l) _ r1 (by omega)).mono ?_;rintro e w2 ⟨rfl,r2,b2⟩;have o2:=wB o1 b2;have z2:=b2.size
 go_wp2_with (at_builtin;refine ng rfl _ _ 119 rfl _ 5 i0 (.int .u8 0) 1 Tryz.underlying119 hi Es xT vU rfl .u8 _ _ _ rfl o2 _ 4 4 _ rfl r2 (by simp) (by unfold maxLen;omega) (by omega) (by omega) ?_;intro v' w3 hown3 hgrow3)
 have aN:=o2.lt
 obtain⟨a',bl,rfl,hr,hc',hm',pS,hx'⟩:=RowK.yM hown3 (fun u hu=>by
  rcases Ah.1 hu with hu|hu
  ·exact r1.wf u hu
  ·exact r2.wf u hu)
 have B3:Hid (bZ w w3):=(Below.next (ae B1) b2).grown hgrow3 (by omega) (by intro t ht;have:=(aN t ht).1;omega);have HR:Hid (RowK .u8 w3 a' (len+6) (dY l)):=hr;clear hown3 hgrow3 o1 o2 r2 hr aN;go_wp2;go_ret;exact⟨a',bl,rfl,ae HR,hc',pS,by unfold maxLen at hm';exact hm',fun x hx=>by have:=hx' x hx;omega,ae B3⟩
theorem aM.zero{w:tA}{R:Nat}{zs:tG}(h:aM w R zs):
  aM ((((((((((w.setCell ⟨R,0,none⟩ (iV 0)).setCell ⟨R,1,none⟩ (iV 0)).setCell ⟨R,2,none⟩ (iV 0)).setCell ⟨R,3,none⟩ (iV 0)).setCell ⟨R,4,none⟩ (iV 0)).setCell ⟨R,5,none⟩ (iV 0)).setCell ⟨R,6,none⟩ (iV 0)).setCell ⟨R,7,none⟩ (iV 0)).setCell ⟨R,8,none⟩ (iV 0)).setCell ⟨R,9,none⟩ (iV 0)) R [0,0,0,0,0,0,0,0,0,0]:=by
 have hl:=h.1
 match zs,hl,h with
 |[_,_,_,_,_,_,_,_,_,_],_,h=>exact(((((((((h.set 0 0).set 1 0).set 2 0).set 3 0).set 4 0).set 5 0).set 6 0).set 7 0).set 8 0).set 9 0
theorem aS.zero(w:tA)(R:Nat):
  aS R w ((((((((((w.setCell ⟨R,0,none⟩ (iV 0)).setCell ⟨R,1,none⟩ (iV 0)).setCell ⟨R,2,none⟩ (iV 0)).setCell ⟨R,3,none⟩ (iV 0)).setCell ⟨R,4,none⟩ (iV 0)).setCell ⟨R,5,none⟩ (iV 0)).setCell ⟨R,6,none⟩ (iV 0)).setCell ⟨R,7,none⟩ (iV 0)).setCell ⟨R,8,none⟩ (iV 0)).setCell ⟨R,9,none⟩ (iV 0)):=
 (((((((((aS.set R 0 w _).trans (aS.set R 1 _ _)).trans (aS.set R 2 _ _)).trans (aS.set R 3 _ _)).trans (aS.set R 4 _ _)).trans (aS.set R 5 _ _)).trans (aS.set R 6 _ _)).trans (aS.set R 7 _ _)).trans (aS.set R 8 _ _)).trans (aS.set R 9 _ _)
theorem aS.below{R B:Nat}{w w':tA}(h:aS R w w')(hB:B≤R):Below B w w':=
 ⟨h.os,h.tape,h.output,by rw[h.size];exact Ac _,fun k hk=>h.block k (by omega)⟩
theorem aM.other{w:tA}{R E:Nat}{zs:tG}(h:aM w R zs)(fR:R≠E)(o:Nat)(v:tK):aM (w.setCell ⟨E,o,none⟩ v) R zs:=
 ⟨h.1,(Below.heap_setCell w _ v R fR).trans h.2⟩
theorem Z0(R E:Nat)(zs:tG)(x y:Int)(t:tZ)(w:tA)(hR:aM w R zs)(hE:w.heap[E]? =some (.cells #[iV y] t (0,0)))(fR:R≠E):
  aM (((((((((((w.setCell ⟨R,0,none⟩ (iV 0)).setCell ⟨R,1,none⟩ (iV 0)).setCell ⟨R,2,none⟩ (iV 0)).setCell ⟨R,3,none⟩ (iV 0)).setCell ⟨R,4,none⟩ (iV 0)).setCell ⟨R,5,none⟩ (iV 0)).setCell ⟨R,6,none⟩ (iV 0)).setCell ⟨R,7,none⟩ (iV 0)).setCell ⟨R,8,none⟩ (iV 0)).setCell ⟨R,9,none⟩ (iV 0)).setCell ⟨E,0,none⟩ (iV x)).drew R [0,0,0,0,0,0,0,0,0,0]∧
  (((((((((((w.setCell ⟨R,0,none⟩ (iV 0)).setCell ⟨R,1,none⟩ (iV 0)).setCell ⟨R,2,none⟩ (iV 0)).setCell ⟨R,3,none⟩ (iV 0)).setCell ⟨R,4,none⟩ (iV 0)).setCell ⟨R,5,none⟩ (iV 0)).setCell ⟨R,6,none⟩ (iV 0)).setCell ⟨R,7,none⟩ (iV 0)).setCell ⟨R,8,none⟩ (iV 0)).setCell ⟨R,9,none⟩ (iV 0)).setCell ⟨E,0,none⟩ (iV x)).drew.cell? ⟨E,0,none⟩=some (iV x)∧
  Below (min R E) w (((((((((((w.setCell ⟨R,0,none⟩ (iV 0)).setCell ⟨R,1,none⟩ (iV 0)).setCell ⟨R,2,none⟩ (iV 0)).setCell ⟨R,3,none⟩ (iV 0)).setCell ⟨R,4,none⟩ (iV 0)).setCell ⟨R,5,none⟩ (iV 0)).setCell ⟨R,6,none⟩ (iV 0)).setCell ⟨R,7,none⟩ (iV 0)).setCell ⟨R,8,none⟩ (iV 0)).setCell ⟨R,9,none⟩ (iV 0)).setCell ⟨E,0,none⟩ (iV x)).drew:=by
 have h1:=hR.zero;have h2:=aS.zero w R;generalize((((((((((w.setCell ⟨R,0,none⟩ (iV 0)).setCell ⟨R,1,none⟩ (iV 0)).setCell ⟨R,2,none⟩ (iV 0)).setCell ⟨R,3,none⟩ (iV 0)).setCell ⟨R,4,none⟩ (iV 0)).setCell ⟨R,5,none⟩ (iV 0)).setCell ⟨R,6,none⟩ (iV 0)).setCell ⟨R,7,none⟩ (iV 0)).setCell ⟨R,8,none⟩ (iV 0)).setCell ⟨R,9,none⟩ (iV 0))=W at h1 h2;have hE':W.heap[E]? =some (.cells #[iV y] t (0,0)):=(h2.block E (Ne.symm fR)).trans hE;refine⟨h1.other fR 0 _, ?_,((h2.below (Nat.min_le_left _ _)).setCell (p:=⟨E,0,none⟩) (Nat.min_le_right _ _) _).drew⟩;show(W.setCell ⟨E,0,none⟩ (iV x)).cell? ⟨E,0,none⟩=_;rw[Cq (w:=W.setCell ⟨E,0,none⟩ (iV x)) rfl];have:=Ct W E 0 _ _ (0,0) (iV x) hE';rw[this];simp[World.cell?,setRow_heap W E _ _ _ _ hE']
theorem pU(R E:Nat)(zs:tG)(x y:Int)(t:tZ)(w:tA)(hR:aM w R zs)(hE:w.heap[E]? =some (.cells #[iV y] t (0,0)))(fR:R≠E):
  CallsD Tryz.prog 178 #[.pointer (some ⟨R,0,none⟩),.pointer (some ⟨E,0,none⟩)] (.panicking [{v:= .iface 57 (iV x),recovered:=false}]) w fun e u' w'=>
   e= .returned (.tuple #[])∧u'= .panicking [{v:= .iface 57 (iV x),recovered:=true}]∧aM w' R [0,0,0,0,0,0,0,0,0,0]∧w'.cell? ⟨E,0,none⟩=some (iV x)∧Below (min R E) w w':=by
 refine callsD_of_wpS Tryz.func178 rfl fun c₀ cs hu=> ?_;apply wpS_seq;apply wpS_region;simp[wpOpsS,go_sem,recoverD,hu,Tryz.ntmps178,Exit.thenS];have ht: #[Value.pointer (some ⟨R,0,none⟩),Value.pointer (some ⟨E,0,none⟩)]++(((Array.replicate 7 undef).setIfInBounds 1 (Value.iface 57 (iV x))).setIfInBounds 0 (Value.iface 57 (iV x)))=
   #[.pointer (some ⟨R,0,none⟩),.pointer (some ⟨E,0,none⟩),.iface 57 (iV x),.iface 57 (iV x),undef,undef,undef,undef,undef]:=rfl
 rw[ht];refine wpS_of_wp ?_;have k0:=hR.cell 0 (by omega);have k1:=hR.cell 1 (by omega);have k2:=hR.cell 2 (by omega);have k3:=hR.cell 3 (by omega);have k4:=hR.cell 4 (by omega);have k5:=hR.cell 5 (by omega);have k6:=hR.cell 6 (by omega);have k7:=hR.cell 7 (by omega);have k8:=hR.cell 8 (by omega);have k9:=hR.cell 9 (by omega);have kf:=hR.free;have ke:w.cell? ⟨E,0,none⟩=some (iV y):=by simp[World.cell?,hE]
 have Pe:w.frozen? ⟨E,0,none⟩=false:=by simp[World.frozen?,hE]
 have ta:∀W:World,(Instr.typeAssert (.iface 57 (iV x)) 20 57 false).run Tryz.prog W= .ok (iV x) W:=fun _=>by kernel_rfl
 go_wp2
 go_region
 show bodyPostS _ _ _ _ _ _ _ _ _;have Z:=Z0 R E zs x y t w hR hE fR;generalize(((((((((((w.setCell ⟨R,0,none⟩ (iV 0)).setCell ⟨R,1,none⟩ (iV 0)).setCell ⟨R,2,none⟩ (iV 0)).setCell ⟨R,3,none⟩ (iV 0)).setCell ⟨R,4,none⟩ (iV 0)).setCell ⟨R,5,none⟩ (iV 0)).setCell ⟨R,6,none⟩ (iV 0)).setCell ⟨R,7,none⟩ (iV 0)).setCell ⟨R,8,none⟩ (iV 0)).setCell ⟨R,9,none⟩ (iV 0)).setCell ⟨E,0,none⟩ (iV x)).drew=W at Z;clear k0 k1 k2 k3 k4 k5 k6 k7 k8 k9 kf ke Pe ta hR hE;simp[bodyPostS,results,Tryz.results178];exact Z
theorem kA(p q:Addr)(w:tA):
  CallsD Tryz.prog 178 #[.pointer (some p),.pointer (some q)] .returning w fun e u' w'=>e= .returned (.tuple #[])∧u'= .returning∧w=w':=by
 refine callsD_of_wpS Tryz.func178 rfl fun c₀ cs hu=> ?_;apply wpS_seq;apply wpS_region;simp[wpOpsS,go_sem,recoverD,hu,Tryz.ntmps178,Exit.thenS];have ht: #[Value.pointer (some p),Value.pointer (some q)]++(((Array.replicate 7 undef).setIfInBounds 1 Value.nilIface).setIfInBounds 0 Value.nilIface)=
   #[.pointer (some p),.pointer (some q),.nilIface,.nilIface,undef,undef,undef,undef,undef]:=rfl
 rw[ht];refine wpS_of_wp ?_;go_wp2;show bodyPostS _ _ _ _ _ _ _ _ _;cases c₀
 simp_all [bodyPostS,results,Tryz.results178]
theorem aM.below{w w':tA}{R B:Nat}{zs:tG}(h:aM w R zs)(hb:Below B w w')(hR:R<B):aM w' R zs:=⟨h.1,(hb.block R hR).trans h.2⟩
def iT(l:tG):Nat→Nat→Int
 |_,0=>0
 |s,n+1=>if dT l s=0 then iT l (s+1) n else dT l s
def jA(k:Int):Bool:=decide (k=2∨k=5)
def fH(l:tG):List Int:=
 [az l 0,az l 1,az l 2,az l 3]++(if jA (az l 0)then[az l 4,az l 5,az l 6,az l 7,az l 8,az l 9]else[0,0,0,0,0,0])
def jT(l:tG):Int:=aE (az l 0) (az l 1) (az l 2) (az l 3) ((fH l).getD 4 0) ((fH l).getD 5 0) ((fH l).getD 6 0) ((fH l).getD 7 0) ((fH l).getD 8 0) ((fH l).getD 9 0)
def eU:List Int:=[0,0,0,0,0,0,0,0,0,0]
def cj(l:tG):List Int×Int:=
 if ¬iT l 0 4=0 then(eU,iT l 0 4)
 else if jA (az l 0)=true∧¬iT l 4 6=0 then(eU,iT l 4 6)
 else if ¬l.length=4*(if jA (az l 0)then 10 else 4)∨¬jT l=0 then(eU,3)
 else(fH l,0)
def jU(zs:tG):Value:= .agg (zs.map (Value.int .i64)).toArray
theorem nQ(l:tG):∀(n s t:Nat),t<n→(∀u,u<t→dT l (s+u)=0)→dT l (s+t)≠0→iT l s n=dT l (s+t)
 |0,_,_,h,_,_=>by omega
 |n+1,s,0,_,_,h=>by simp only[iT];rw[if_neg (by simpa using h)];rfl
 |n+1,s,t+1,ht,hu,h=>by
  simp only[iT];rw[if_pos (by simpa using hu 0 (by omega)),nQ l n (s+1) t (by omega) (fun u aN=>by have:=hu (u+1) (by omega);rw[show s+1+u=s+(u+1) by omega];exact this) (by rw[show s+1+t=s+(t+1) by omega];exact h)];rw[show s+1+t=s+(t+1) by omega]
theorem iU(l:tG):∀(n s:Nat),(∀u,u<n→dT l (s+u)=0)→iT l s n=0
 |0,_,_=>rfl
 |n+1,s,h=>by
  simp only[iT];rw[if_pos (by simpa using h 0 (by omega))];exact iU l n (s+1) (fun u hu=>by rw[show s+1+u=s+(u+1) by omega];exact h (u+1) (by omega))
theorem pA(l:tG)(t:Nat):dT (l.drop (4*4)) t=dT l (4+t):=by
 unfold dT;rw[List.drop_drop,show 4*4+4*t=4*(4+t) by omega]
theorem kB(l:tG)(t:Nat):az (l.drop (4*4)) t=az l (4+t):=by
 unfold az;rw[List.drop_drop,show 4*4+4*t=4*(4+t) by omega]
theorem Gf{l:tG}{t:Nat}(ht:t<4)(hu:∀u,u<t→dT l u=0)(h:dT l t≠0):cj l=(eU,dT l t):=by
 have h1:=nQ l 4 0 t ht (fun u aN=>by rw[Aj];exact hu u aN) (by rw[Aj];exact h);rw[Aj]at h1;unfold cj;rw[h1,Ae h]
theorem DK{l:tG}{t:Nat}(h0:∀u,u<4→dT l u=0)(hk:az l 0=2∨az l 0=5)(ht:t<6)(hu:∀u,u<t→dT l (4+u)=0)(h:dT l (4+t)≠0):cj l=(eU,dT l (4+t)):=by
 have h1:=iU l 4 0 (fun u aN=>by rw[Aj];exact h0 u aN);have h2:=nQ l 6 4 t ht hu h;unfold cj;rw[h1,Aa (by simp),h2,if_pos ⟨by simp[jA,hk],h⟩]
theorem rF{l:tG}(h0:∀u,u<4→dT l u=0)(hk:az l 0=2∨az l 0=5)(h4:∀u,u<6→dT l (4+u)=0):cj l=if ¬l.length=40∨¬jT l=0 then(eU,3)else(fH l,0):=by
 have h1:=iU l 4 0 (fun u aN=>by rw[Aj];exact h0 u aN);have h2:=iU l 6 4 h4;have h3:jA (az l 0)=true:=by simp[jA,hk]
 unfold cj;rw[h1,Aa (by simp),h2,Aa (by simp),h3];rfl
theorem np{l:tG}(h0:∀u,u<4→dT l u=0)(hk:¬(az l 0=2∨az l 0=5)):cj l=if ¬l.length=16∨¬jT l=0 then(eU,3)else(fH l,0):=by
 have h1:=iU l 4 0 (fun u aN=>by rw[Aj];exact h0 u aN);have h3:jA (az l 0)=false:=by simp only[jA,decide_eq_false_iff_not];exact hk
 unfold cj;rw[h1,Aa (by simp),h3,Aa (by simp)];rfl
theorem zY{l:tG}{n:Nat}(h:∀u,u<n+1→dT l u=0):4*(n+1)≤l.length:=by
 have h1:=h n (by omega);rcases AG (l.drop (4*n)).length 4 with h'|h'
 ·unfold dT at h1;rw[nP h']at h1;simp at h1
 ·simp at h';omega
theorem wC(W:tA)(E:Nat)(y x:Int)(t:tZ)(hE:W.heap[E]? =some (.cells #[iV y] t (0,0))):(W.setCell ⟨E,0,none⟩ (iV x)).cell? ⟨E,0,none⟩=some (iV x):=by
 have:=Ct W E 0 _ _ (0,0) (iV x) hE;rw[this];simp[World.cell?,setRow_heap W E _ _ _ _ hE]
theorem aM.M7{W:tA}{R:Nat}{zs:tG}(v0 v1 v2 v3 v4 v5 v6 v7 v8 v9:Int)(h:aM W R zs):aM ((((((((((W.setCell ⟨R,0,none⟩ (iV v0)).setCell ⟨R,1,none⟩ (iV v1)).setCell ⟨R,2,none⟩ (iV v2)).setCell ⟨R,3,none⟩ (iV v3)).setCell ⟨R,4,none⟩ (iV v4)).setCell ⟨R,5,none⟩ (iV v5)).setCell ⟨R,6,none⟩ (iV v6)).setCell ⟨R,7,none⟩ (iV v7)).setCell ⟨R,8,none⟩ (iV v8)).setCell ⟨R,9,none⟩ (iV v9)) R [v0,v1,v2,v3,v4,v5,v6,v7,v8,v9]:=by
 have hl:=h.1
 match zs,hl,h with
 |[_,_,_,_,_,_,_,_,_,_],_,h=>exact(((((((((h.set 0 v0).set 1 v1).set 2 v2).set 3 v3).set 4 v4).set 5 v5).set 6 v6).set 7 v7).set 8 v8).set 9 v9
theorem aS.M7(W:tA)(R:Nat)(v0 v1 v2 v3 v4 v5 v6 v7 v8 v9:Int):aS R W ((((((((((W.setCell ⟨R,0,none⟩ (iV v0)).setCell ⟨R,1,none⟩ (iV v1)).setCell ⟨R,2,none⟩ (iV v2)).setCell ⟨R,3,none⟩ (iV v3)).setCell ⟨R,4,none⟩ (iV v4)).setCell ⟨R,5,none⟩ (iV v5)).setCell ⟨R,6,none⟩ (iV v6)).setCell ⟨R,7,none⟩ (iV v7)).setCell ⟨R,8,none⟩ (iV v8)).setCell ⟨R,9,none⟩ (iV v9)):=
 (((((((((aS.set R 0 W _).trans (aS.set R 1 _ _)).trans (aS.set R 2 _ _)).trans (aS.set R 3 _ _)).trans (aS.set R 4 _ _)).trans (aS.set R 5 _ _)).trans (aS.set R 6 _ _)).trans (aS.set R 7 _ _)).trans (aS.set R 8 _ _)).trans (aS.set R 9 _ _)
theorem kC{w W:tA}{zs:tG}{y:Int}{t:tZ}(v0 v1 v2 v3 v4 v5 v6 v7 v8 v9 x:Int)(hR:aM W w.heap.size zs)(hE:W.heap[w.heap.size+1]? =some (.cells #[iV y] t (0,0)))(hB:bZ w W):
  aM (((((((((((W.setCell ⟨w.heap.size,0,none⟩ (iV v0)).setCell ⟨w.heap.size,1,none⟩ (iV v1)).setCell ⟨w.heap.size,2,none⟩ (iV v2)).setCell ⟨w.heap.size,3,none⟩ (iV v3)).setCell ⟨w.heap.size,4,none⟩ (iV v4)).setCell ⟨w.heap.size,5,none⟩ (iV v5)).setCell ⟨w.heap.size,6,none⟩ (iV v6)).setCell ⟨w.heap.size,7,none⟩ (iV v7)).setCell ⟨w.heap.size,8,none⟩ (iV v8)).setCell ⟨w.heap.size,9,none⟩ (iV v9)).setCell ⟨w.heap.size+1,0,none⟩ (iV x)) w.heap.size [v0,v1,v2,v3,v4,v5,v6,v7,v8,v9]∧
  (((((((((((W.setCell ⟨w.heap.size,0,none⟩ (iV v0)).setCell ⟨w.heap.size,1,none⟩ (iV v1)).setCell ⟨w.heap.size,2,none⟩ (iV v2)).setCell ⟨w.heap.size,3,none⟩ (iV v3)).setCell ⟨w.heap.size,4,none⟩ (iV v4)).setCell ⟨w.heap.size,5,none⟩ (iV v5)).setCell ⟨w.heap.size,6,none⟩ (iV v6)).setCell ⟨w.heap.size,7,none⟩ (iV v7)).setCell ⟨w.heap.size,8,none⟩ (iV v8)).setCell ⟨w.heap.size,9,none⟩ (iV v9)).setCell ⟨w.heap.size+1,0,none⟩ (iV x)).cell? ⟨w.heap.size+1,0,none⟩=some (iV x)∧
  Below w.heap.size w (((((((((((W.setCell ⟨w.heap.size,0,none⟩ (iV v0)).setCell ⟨w.heap.size,1,none⟩ (iV v1)).setCell ⟨w.heap.size,2,none⟩ (iV v2)).setCell ⟨w.heap.size,3,none⟩ (iV v3)).setCell ⟨w.heap.size,4,none⟩ (iV v4)).setCell ⟨w.heap.size,5,none⟩ (iV v5)).setCell ⟨w.heap.size,6,none⟩ (iV v6)).setCell ⟨w.heap.size,7,none⟩ (iV v7)).setCell ⟨w.heap.size,8,none⟩ (iV v8)).setCell ⟨w.heap.size,9,none⟩ (iV v9)).setCell ⟨w.heap.size+1,0,none⟩ (iV x)):=by
 have h1:=hR.M7 v0 v1 v2 v3 v4 v5 v6 v7 v8 v9;have h2:=aS.M7 W w.heap.size v0 v1 v2 v3 v4 v5 v6 v7 v8 v9;generalize((((((((((W.setCell ⟨w.heap.size,0,none⟩ (iV v0)).setCell ⟨w.heap.size,1,none⟩ (iV v1)).setCell ⟨w.heap.size,2,none⟩ (iV v2)).setCell ⟨w.heap.size,3,none⟩ (iV v3)).setCell ⟨w.heap.size,4,none⟩ (iV v4)).setCell ⟨w.heap.size,5,none⟩ (iV v5)).setCell ⟨w.heap.size,6,none⟩ (iV v6)).setCell ⟨w.heap.size,7,none⟩ (iV v7)).setCell ⟨w.heap.size,8,none⟩ (iV v8)).setCell ⟨w.heap.size,9,none⟩ (iV v9))=V at h1 h2;have hE':V.heap[w.heap.size+1]? =some (.cells #[iV y] t (0,0)):=(h2.block _ (by omega)).trans hE;exact⟨h1.other (by omega) 0 _,wC V _ y x t hE',((hB.trans (h2.below (Ac _))).setCell (p:=⟨w.heap.size+1,0,none⟩) (by simp) _)⟩
theorem ic{w W:World}{zs:List Int}{x:Int}{tmps:Array Value}(h1:aM W w.heap.size zs)(h2:W.cell? ⟨w.heap.size+1,0,none⟩=some (.int .i64 x))(h3:Below w.heap.size w W)
  (t2:tmps[2]? =some (.pointer (some ⟨w.heap.size,0,none⟩))) (t3:tmps[3]? =some (.pointer (some ⟨w.heap.size+1,0,none⟩))):
  Leaves Tryz.prog Tryz.f157 tmps (fun e w'=>e= .returned (.tuple #[jU zs,.int .i64 x])∧Below w.heap.size w w') [] .returning W:=by
 have hl:=h1.1;have k0:=h1.cell 0 (by omega);have k1:=h1.cell 1 (by omega);have k2:=h1.cell 2 (by omega);have k3:=h1.cell 3 (by omega);have k4:=h1.cell 4 (by omega);have k5:=h1.cell 5 (by omega);have k6:=h1.cell 6 (by omega);have k7:=h1.cell 7 (by omega);have k8:=h1.cell 8 (by omega);have k9:=h1.cell 9 (by omega);clear h1
 match zs,hl with
 |[y0,y1,y2,y3,y4,y5,y6,y7,y8,y9],_=>
  simp at k0 k1 k2 k3 k4 k5 k6 k7 k8 k9;simp[Leaves,results,Tryz.results157,go_sem,k0,k1,k2,k3,k4,k5,k6,k7,k8,k9,h2,jU,t2,t3,h3]
theorem Gg(k:Int)(t:tG)(h0:0≤k)(h1:k≤2147483647):gW (four k++t)=(k,0):=by
 unfold gW four;have hl:¬([k/16777216,k/65536 % 256,k/256 % 256,k % 256]++t).length<4:=by simp
 rw[Aa hl];simp only[List.cons_append,List.getD_cons_zero,List.getD_cons_succ];rw[Aa (by omega)];congr 1;omega
theorem lt8(a b:Int)(ha0:0≤a)(ha1:a≤255)(vR:0≤b)(n_:b≤255):decide (UInt8.ofNat a.toNat<UInt8.ofNat b.toNat)=decide (a<b):=by
 rw[decide_eq_decide,UInt8.lt_iff_toNat_lt];simp only[UInt8.toNat_ofNat'];omega
theorem K4(a:tB)(len cap:Nat)(l:tG)(w:tA)(hb:RowK .u8 w a len l)(rY:len≤cap)(hc:cap≤9223372036854775807):
  cA 157 #[.slice a len cap] w (rB (.tuple #[jU (cj l).1,iV (cj l).2]) w):=by
 have hmf:∀(fn:Fn) (first cap:tR) (w:tA),(Instr.makeFunc fn first cap).run Tryz.prog w= .ok (.func fn first cap) w:=fun _ _ _ _=>rfl;have hR0:aM ((w.alloc (.cells #[iV 0,iV 0,iV 0,iV 0,iV 0,iV 0,iV 0,iV 0,iV 0,iV 0] 144)).alloc (.cells #[iV 0] 57)) w.heap.size eU:=by
  refine⟨rfl, ?_⟩;rw[Below.heap_alloc _ _ _ (by simp)];exact AP w _
 have Fo:((w.alloc (.cells #[iV 0,iV 0,iV 0,iV 0,iV 0,iV 0,iV 0,iV 0,iV 0,iV 0] 144)).alloc (.cells #[iV 0] 57)).heap[w.heap.size+1]? =some (.cells #[iV 0] 57 (0,0)):=by
  have:=AP (w.alloc (.cells #[iV 0,iV 0,iV 0,iV 0,iV 0,iV 0,iV 0,iV 0,iV 0,iV 0] 144)) (.cells #[iV 0] 57);simpa using this
 have HR0:=bG hR0;have HE0:=bG Fo;have HB:=bG hb;clear hR0 Fo hb
 go_enter_defers Tryz.func157,Tryz.ntmps157
 go_wp2_with fail
 refine(jz _ _).mono ?_;rintro e w1 ⟨rfl,b1⟩;have RB:w.heap.size+2≤w1.heap.size:=by have:=b1.size;simp at this;omega
 have HR1:=bG ((ae HR0).below b1 (by simp;omega));have HE1:Hid (w1.heap[w.heap.size+1]? =some (.cells #[iV 0] 57 (0,0))):=bG ((b1.block (w.heap.size+1) (by simp)).trans (ae HE0));have HB1:=bG (ur b1);have HW1:=bG ((ae HB).below (ae HB1));have hblk:∀x,a=some x→0<len→x.block≠w.heap.size:=fun x hx h0=>by
  obtain⟨b0,o0,vR,J7,_⟩:=(ae HB).cell 0 h0;rw[hx]at vR;simp at vR;subst vR;exact Nat.ne_of_lt J7
 have HK:=bG hblk;clear HR0 HE0 b1 HB hblk
 go_wp2_with fail
 have ZU:=bG ((ae HR1).below (aC w1 (.cells (et w.heap.size) 259)) (by omega));have zq:Hid ((w1.alloc (.cells (et w.heap.size) 259)).heap[w.heap.size+1]? =some (.cells #[iV 0] 57 (0,0))):=bG (((aC w1 (.cells (et w.heap.size) 259)).block (w.heap.size+1) (by omega)).trans (ae HE1));have HW2:=bG ((ae HW1).below (aC w1 (.cells (et w.heap.size) 259)));have ue:=bG (Below.next (ae HB1) (aC w1 (.cells (et w.heap.size) 259)));have HP2:Hid (∀o,o<10→(w1.alloc (.cells (et w.heap.size) 259)).cell? ⟨w1.heap.size,o,none⟩=some (.pointer (some ⟨w.heap.size,o,none⟩))):=bG (fun o ho=>wu w1 _ o ho);clear HR1 HE1 HW1 HB1;refine(IH w1.heap.size w.heap.size 0 4 10 a len cap l eU _ (by omega) (by omega) (ae HP2) (ae ZU) (ae HW2) (ae HK) rY hc).mono ?_;rintro e w2 ⟨(⟨a',bl,fG,rfl,wA,dq,hne',hlc',hc',hrec⟩|⟨t,zs',ht,aN,hez,rfl,hrec⟩),hsame⟩
 rotate_left
 ·have hE3:w2.heap[w.heap.size+1]? =some (.cells #[iV 0] 57 (0,0)):=(hsame.block _ (by omega)).trans (ae zq);have DF:=bG ((ae ue).trans (hsame.below (Ac _)));have HD:=bG (Gf ht aN hez);have p_:=bG hrec;have M8:=bG hE3;clear ZU zq HW2 ue HP2 hsame hrec hE3 ht aN hez;go_wp2;refine leaves_cons (f:=178) (args:= #[.pointer (some ⟨w.heap.size,0,none⟩),.pointer (some ⟨w.heap.size+1,0,none⟩)]) (by simp) (by simp[go_sem]) ?_;refine(pU w.heap.size (w.heap.size+1) _ (dT l t) 0 57 _ (ae p_) (ae M8) (by omega)).mono ?_;rintro e u' w9 ⟨rfl,rfl,z1,z2,z3⟩;have BB:=(ae DF).trans (z3.mono (by omega));rw[ae HD];exact ic z1 z2 BB rfl rfl
 ·have hE3:w2.heap[w.heap.size+1]? =some (.cells #[iV 0] 57 (0,0)):=(hsame.block _ (by omega)).trans (ae zq);have DF:=bG ((ae ue).trans (hsame.below (Ac _)));have HP3:Hid (∀o,o<10→w2.cell? ⟨w1.heap.size,o,none⟩=some (.pointer (some ⟨w.heap.size,o,none⟩))):=bG (fun o ho=>(hsame.cell (by omega)).trans (ae HP2 o ho));have p_:Hid (aM w2 w.heap.size [az l 0,az l 1,az l 2,az l 3,0,0,0,0,0,0]):=bG hrec;have M8:=bG hE3;have SL:=bG dq;have HX:=bG wA;have Ww:=bG hne';clear ZU zq HW2 ue HP2 hsame hrec hE3 dq wA HK hne';have kk:w2.cell? ⟨w.heap.size,0,none⟩=some (iV (az l 0)):=(ae p_).cell 0 (by omega)
  go_wp2_with fail
  by_cases hk:az l 0=2∨az l 0=5
  ·refine(uU _ _ hk).mono ?_;rintro e w3 ⟨rfl,rfl⟩;have G_:=bG hk;clear hk kk
   go_wp2_with fail
   refine(IH w1.heap.size w.heap.size 4 6 6 a' fG bl (l.drop (4*4)) [az l 0,az l 1,az l 2,az l 3,0,0,0,0,0,0] _ (by omega) (by omega) (ae HP3) (ae p_) (ae SL) (ae Ww) hlc' hc').mono ?_;rintro e w4 ⟨(⟨a4,cap4,Wx,rfl,wA,dq,hne',_,_,hrec⟩|⟨t,zs',ht,aN,hez,rfl,hrec⟩),hsame⟩
   rotate_left
   ·have hE4:w4.heap[w.heap.size+1]? =some (.cells #[iV 0] 57 (0,0)):=(hsame.block _ (by omega)).trans (ae M8);have MF:=bG ((ae DF).trans (hsame.below (Ac _)));have HD:=bG (DK (ae HX) (ae G_) ht (fun u hu=>by rw[←pA];exact aN u hu) (by rw[←pA];exact hez));have sB:=bG hrec;have Z1:=bG hE4;clear p_ M8 SL DF HP3 hsame hrec hE4 ht aN hez;rw[pA];go_wp2;refine leaves_cons (f:=178) (args:= #[.pointer (some ⟨w.heap.size,0,none⟩),.pointer (some ⟨w.heap.size+1,0,none⟩)]) (by simp) (by simp[go_sem]) ?_;refine(pU w.heap.size (w.heap.size+1) _ (dT l (4+t)) 0 57 _ (ae sB) (ae Z1) (by omega)).mono ?_;rintro e u' w9 ⟨rfl,rfl,z1,z2,z3⟩;have BB:=(ae MF).trans (z3.mono (by omega));rw[ae HD];exact ic z1 z2 BB rfl rfl
   ·have hE4:w4.heap[w.heap.size+1]? =some (.cells #[iV 0] 57 (0,0)):=(hsame.block _ (by omega)).trans (ae M8);have MF:=bG ((ae DF).trans (hsame.below (Ac _)));have YP:aM w4 w.heap.size [az l 0,az l 1,az l 2,az l 3,az l 4,az l 5,az l 6,az l 7,az l 8,az l 9]:=by
     have h:aM w4 w.heap.size [az l 0,az l 1,az l 2,az l 3,az (l.drop (4*4)) 0,az (l.drop (4*4)) 1,az (l.drop (4*4)) 2,az (l.drop (4*4)) 3,az (l.drop (4*4)) 4,az (l.drop (4*4)) 5]:=hrec;rw[kB,kB,kB,kB,kB,kB]at h;exact h
    have sB:=bG YP;have Z1:=bG hE4;have Z2:=bG dq;have HX4:Hid (∀u,u<6→dT l (4+u)=0):=bG (fun u hu=>by rw[←pA];exact wA u hu)
    have HX6:Hid (∀u,u<10→dT l u=0):=bG (fun u hu=>by
     by_cases h:u<4
     ·exact ae HX u h
     ·have:=ae HX4 (u-4) (by omega);rwa [show 4+(u-4)=u by omega]at this)
    clear p_ M8 SL DF HP3 hsame hrec YP hE4 dq wA hne' Ww hlc' hc';have HF:Hid (jT l=aE (az l 0) (az l 1) (az l 2) (az l 3) (az l 4) (az l 5) (az l 6) (az l 7) (az l 8) (az l 9)):=bG (by unfold jT fH;rw[show jA (az l 0)=true from by simp only[jA,decide_eq_true_iff];exact ae G_];rfl);have HN:Hid (fH l=[az l 0,az l 1,az l 2,az l 3,az l 4,az l 5,az l 6,az l 7,az l 8,az l 9]):=bG (by unfold fH;rw[show jA (az l 0)=true from by simp only[jA,decide_eq_true_iff];exact ae G_];rfl);have HL:Hid (l.length-40=Wx):=bG (by have:=(ae Z2).bP;simp at this;omega);have HL2:Hid (40≤l.length):=bG (zY (ae HX6));by_cases J7:0<Wx
    ·have HD:Hid (cj l=(eU,3)):=bG (by rw[rF (ae HX) (ae G_) (ae HX4),Ae (.inl (by have:=ae HL;omega))]);have N3:(0:Int)<(Wx:Int):=by omega
     have k0:=(ae sB).cell 0 (by omega);have k1:=(ae sB).cell 1 (by omega);have k2:=(ae sB).cell 2 (by omega);have k3:=(ae sB).cell 3 (by omega);have k4:=(ae sB).cell 4 (by omega);have k5:=(ae sB).cell 5 (by omega);have k6:=(ae sB).cell 6 (by omega);have k7:=(ae sB).cell 7 (by omega);have k8:=(ae sB).cell 8 (by omega);have k9:=(ae sB).cell 9 (by omega);simp only[List.getD_cons_zero,List.getD_cons_succ]at k0 k1 k2 k3 k4 k5 k6 k7 k8 k9;have kf:=(ae sB).free;have ke:w4.cell? ⟨w.heap.size+1,0,none⟩=some (iV 0):=by simp[World.cell?,ae Z1]
     have Pe:w4.frozen? ⟨w.heap.size+1,0,none⟩=false:=by simp[World.frozen?,ae Z1]
     go_wp2;refine leaves_cons (f:=178) (args:= #[.pointer (some ⟨w.heap.size,0,none⟩),.pointer (some ⟨w.heap.size+1,0,none⟩)]) (by simp) (by simp[go_sem]) ?_;refine(kA ⟨w.heap.size,0,none⟩ ⟨w.heap.size+1,0,none⟩ _).mono ?_;rintro e u' w9 ⟨rfl,rfl,rfl⟩;have Z:=kC 0 0 0 0 0 0 0 0 0 0 3 (ae sB) (ae Z1) (ae MF);clear k0 k1 k2 k3 k4 k5 k6 k7 k8 k9 kf ke Pe;rw[ae HD];exact ic Z.1 Z.2.1 Z.2.2 rfl rfl
    ·have Es:Wx=0:=by omega
     have SM:l.length=40:=by have:=ae HL;have:=ae HL2;omega
     have Wy:=bG SM;clear SM J7;subst Es;have k0:=(ae sB).cell 0 (by omega);have k1:=(ae sB).cell 1 (by omega);have k2:=(ae sB).cell 2 (by omega);have k3:=(ae sB).cell 3 (by omega);have k4:=(ae sB).cell 4 (by omega);have k5:=(ae sB).cell 5 (by omega);have k6:=(ae sB).cell 6 (by omega);have k7:=(ae sB).cell 7 (by omega);have k8:=(ae sB).cell 8 (by omega);have k9:=(ae sB).cell 9 (by omega);simp only[List.getD_cons_zero,List.getD_cons_succ]at k0 k1 k2 k3 k4 k5 k6 k7 k8 k9
     go_wp2_with fail
     refine(ky _ _ _ _ _ _ _ _ _ _ _).mono ?_;rintro e w7 ⟨rfl,b7⟩;clear k0 k1 k2 k3 k4 k5 k6 k7 k8 k9;have l9:=bG ((ae sB).below b7 (ae sB).lt);have Pf:Hid (w7.heap[w.heap.size+1]? =some (.cells #[iV 0] 57 (0,0))):=bG ((b7.block _ (lt_of_block (ae Z1))).trans (ae Z1));have RJ:=bG (Below.next (ae MF) b7);by_cases hf:aE (az l 0) (az l 1) (az l 2) (az l 3) (az l 4) (az l 5) (az l 6) (az l 7) (az l 8) (az l 9)=0
     ·have HD:Hid (cj l=([az l 0,az l 1,az l 2,az l 3,az l 4,az l 5,az l 6,az l 7,az l 8,az l 9],0)):=bG (by rw[rF (ae HX) (ae G_) (ae HX4),Aa (by rw[ae HF,ae Wy,hf];simp),ae HN]);have YQ:(aE (az l 0) (az l 1) (az l 2) (az l 3) (az l 4) (az l 5) (az l 6) (az l 7) (az l 8) (az l 9) !=0)=false:=by simpa using hf
      have k0:=(ae l9).cell 0 (by omega);have k1:=(ae l9).cell 1 (by omega);have k2:=(ae l9).cell 2 (by omega);have k3:=(ae l9).cell 3 (by omega);have k4:=(ae l9).cell 4 (by omega);have k5:=(ae l9).cell 5 (by omega);have k6:=(ae l9).cell 6 (by omega);have k7:=(ae l9).cell 7 (by omega);have k8:=(ae l9).cell 8 (by omega);have k9:=(ae l9).cell 9 (by omega);simp only[List.getD_cons_zero,List.getD_cons_succ]at k0 k1 k2 k3 k4 k5 k6 k7 k8 k9;have kf:=(ae l9).free;have ke:w7.cell? ⟨w.heap.size+1,0,none⟩=some (iV 0):=by simp[World.cell?,ae Pf]
      have Pe:w7.frozen? ⟨w.heap.size+1,0,none⟩=false:=by simp[World.frozen?,ae Pf]
      go_wp2;refine leaves_cons (f:=178) (args:= #[.pointer (some ⟨w.heap.size,0,none⟩),.pointer (some ⟨w.heap.size+1,0,none⟩)]) (by simp) (by simp[go_sem]) ?_;refine(kA ⟨w.heap.size,0,none⟩ ⟨w.heap.size+1,0,none⟩ _).mono ?_;rintro e u' w9 ⟨rfl,rfl,rfl⟩;have Z:=kC (az l 0) (az l 1) (az l 2) (az l 3) (az l 4) (az l 5) (az l 6) (az l 7) (az l 8) (az l 9) 0 (ae l9) (ae Pf) (ae RJ);clear k0 k1 k2 k3 k4 k5 k6 k7 k8 k9 kf ke Pe;rw[ae HD];exact ic Z.1 Z.2.1 Z.2.2 rfl rfl
     ·have HD:Hid (cj l=(eU,3)):=bG (by rw[rF (ae HX) (ae G_) (ae HX4),Ae (.inr (by rw[ae HF];exact hf))]);have YQ:(aE (az l 0) (az l 1) (az l 2) (az l 3) (az l 4) (az l 5) (az l 6) (az l 7) (az l 8) (az l 9) !=0)=true:=by simpa using hf
      have k0:=(ae l9).cell 0 (by omega);have k1:=(ae l9).cell 1 (by omega);have k2:=(ae l9).cell 2 (by omega);have k3:=(ae l9).cell 3 (by omega);have k4:=(ae l9).cell 4 (by omega);have k5:=(ae l9).cell 5 (by omega);have k6:=(ae l9).cell 6 (by omega);have k7:=(ae l9).cell 7 (by omega);have k8:=(ae l9).cell 8 (by omega);have k9:=(ae l9).cell 9 (by omega);simp only[List.getD_cons_zero,List.getD_cons_succ]at k0 k1 k2 k3 k4 k5 k6 k7 k8 k9;have kf:=(ae l9).free;have ke:w7.cell? ⟨w.heap.size+1,0,none⟩=some (iV 0):=by simp[World.cell?,ae Pf]
      have Pe:w7.frozen? ⟨w.heap.size+1,0,none⟩=false:=by simp[World.frozen?,ae Pf]
      go_wp2;refine leaves_cons (f:=178) (args:= #[.pointer (some ⟨w.heap.size,0,none⟩),.pointer (some ⟨w.heap.size+1,0,none⟩)]) (by simp) (by simp[go_sem]) ?_;refine(kA ⟨w.heap.size,0,none⟩ ⟨w.heap.size+1,0,none⟩ _).mono ?_;rintro e u' w9 ⟨rfl,rfl,rfl⟩;have Z:=kC 0 0 0 0 0 0 0 0 0 0 3 (ae l9) (ae Pf) (ae RJ);clear k0 k1 k2 k3 k4 k5 k6 k7 k8 k9 kf ke Pe;rw[ae HD];exact ic Z.1 Z.2.1 Z.2.2 rfl rfl
  ·refine(xB _ _ hk).mono ?_;rintro e w3 ⟨rfl,rfl⟩;have G_:=bG hk;clear hk kk HP3 Ww hlc' hc';have HF:Hid (jT l=aE (az l 0) (az l 1) (az l 2) (az l 3) 0 0 0 0 0 0):=bG (by unfold jT fH;rw[show jA (az l 0)=false from by simp only[jA,decide_eq_false_iff_not];exact ae G_];rfl);have HN:Hid (fH l=[az l 0,az l 1,az l 2,az l 3,0,0,0,0,0,0]):=bG (by unfold fH;rw[show jA (az l 0)=false from by simp only[jA,decide_eq_false_iff_not];exact ae G_];rfl);have HL:Hid (l.length-16=fG):=bG (by have:=(ae SL).bP;simp at this;omega);have HL2:Hid (16≤l.length):=bG (zY (ae HX));by_cases J7:0<fG
   ·have HD:Hid (cj l=(eU,3)):=bG (by rw[np (ae HX) (ae G_),Ae (.inl (by have:=ae HL;omega))]);have N3:(0:Int)<(fG:Int):=by omega
    have k0:=(ae p_).cell 0 (by omega);have k1:=(ae p_).cell 1 (by omega);have k2:=(ae p_).cell 2 (by omega);have k3:=(ae p_).cell 3 (by omega);have k4:=(ae p_).cell 4 (by omega);have k5:=(ae p_).cell 5 (by omega);have k6:=(ae p_).cell 6 (by omega);have k7:=(ae p_).cell 7 (by omega);have k8:=(ae p_).cell 8 (by omega);have k9:=(ae p_).cell 9 (by omega);simp only[List.getD_cons_zero,List.getD_cons_succ]at k0 k1 k2 k3 k4 k5 k6 k7 k8 k9;have kf:=(ae p_).free;have ke:w2.cell? ⟨w.heap.size+1,0,none⟩=some (iV 0):=by simp[World.cell?,ae M8]
    have Pe:w2.frozen? ⟨w.heap.size+1,0,none⟩=false:=by simp[World.frozen?,ae M8]
    go_wp2;refine leaves_cons (f:=178) (args:= #[.pointer (some ⟨w.heap.size,0,none⟩),.pointer (some ⟨w.heap.size+1,0,none⟩)]) (by simp) (by simp[go_sem]) ?_;refine(kA ⟨w.heap.size,0,none⟩ ⟨w.heap.size+1,0,none⟩ _).mono ?_;rintro e u' w9 ⟨rfl,rfl,rfl⟩;have Z:=kC 0 0 0 0 0 0 0 0 0 0 3 (ae p_) (ae M8) (ae DF);clear k0 k1 k2 k3 k4 k5 k6 k7 k8 k9 kf ke Pe;rw[ae HD];exact ic Z.1 Z.2.1 Z.2.2 rfl rfl
   ·have Es:fG=0:=by omega
    have SM:l.length=16:=by have:=ae HL;have:=ae HL2;omega
    have Wy:=bG SM;clear SM J7;subst Es;have k0:=(ae p_).cell 0 (by omega);have k1:=(ae p_).cell 1 (by omega);have k2:=(ae p_).cell 2 (by omega);have k3:=(ae p_).cell 3 (by omega);have k4:=(ae p_).cell 4 (by omega);have k5:=(ae p_).cell 5 (by omega);have k6:=(ae p_).cell 6 (by omega);have k7:=(ae p_).cell 7 (by omega);have k8:=(ae p_).cell 8 (by omega);have k9:=(ae p_).cell 9 (by omega);simp only[List.getD_cons_zero,List.getD_cons_succ]at k0 k1 k2 k3 k4 k5 k6 k7 k8 k9
    go_wp2_with fail
    refine(ky _ _ _ _ _ _ _ _ _ _ _).mono ?_;rintro e w7 ⟨rfl,b7⟩;clear k0 k1 k2 k3 k4 k5 k6 k7 k8 k9;have l9:=bG ((ae p_).below b7 (ae p_).lt);have Pf:Hid (w7.heap[w.heap.size+1]? =some (.cells #[iV 0] 57 (0,0))):=bG ((b7.block _ (lt_of_block (ae M8))).trans (ae M8));have RJ:=bG (Below.next (ae DF) b7);by_cases hf:aE (az l 0) (az l 1) (az l 2) (az l 3) 0 0 0 0 0 0=0
    ·have HD:Hid (cj l=([az l 0,az l 1,az l 2,az l 3,0,0,0,0,0,0],0)):=bG (by rw[np (ae HX) (ae G_),Aa (by rw[ae HF,ae Wy,hf];simp),ae HN]);have YQ:(aE (az l 0) (az l 1) (az l 2) (az l 3) 0 0 0 0 0 0 !=0)=false:=by simpa using hf
     have k0:=(ae l9).cell 0 (by omega);have k1:=(ae l9).cell 1 (by omega);have k2:=(ae l9).cell 2 (by omega);have k3:=(ae l9).cell 3 (by omega);have k4:=(ae l9).cell 4 (by omega);have k5:=(ae l9).cell 5 (by omega);have k6:=(ae l9).cell 6 (by omega);have k7:=(ae l9).cell 7 (by omega);have k8:=(ae l9).cell 8 (by omega);have k9:=(ae l9).cell 9 (by omega);simp only[List.getD_cons_zero,List.getD_cons_succ]at k0 k1 k2 k3 k4 k5 k6 k7 k8 k9;have kf:=(ae l9).free;have ke:w7.cell? ⟨w.heap.size+1,0,none⟩=some (iV 0):=by simp[World.cell?,ae Pf]
     have Pe:w7.frozen? ⟨w.heap.size+1,0,none⟩=false:=by simp[World.frozen?,ae Pf]
     go_wp2;refine leaves_cons (f:=178) (args:= #[.pointer (some ⟨w.heap.size,0,none⟩),.pointer (some ⟨w.heap.size+1,0,none⟩)]) (by simp) (by simp[go_sem]) ?_;refine(kA ⟨w.heap.size,0,none⟩ ⟨w.heap.size+1,0,none⟩ _).mono ?_;rintro e u' w9 ⟨rfl,rfl,rfl⟩;have Z:=kC (az l 0) (az l 1) (az l 2) (az l 3) 0 0 0 0 0 0 0 (ae l9) (ae Pf) (ae RJ);clear k0 k1 k2 k3 k4 k5 k6 k7 k8 k9 kf ke Pe;rw[ae HD];exact ic Z.1 Z.2.1 Z.2.2 rfl rfl
    ·have HD:Hid (cj l=(eU,3)):=bG (by rw[np (ae HX) (ae G_),Ae (.inr (by rw[ae HF];exact hf))]);have YQ:(aE (az l 0) (az l 1) (az l 2) (az l 3) 0 0 0 0 0 0 !=0)=true:=by simpa using hf
     have k0:=(ae l9).cell 0 (by omega);have k1:=(ae l9).cell 1 (by omega);have k2:=(ae l9).cell 2 (by omega);have k3:=(ae l9).cell 3 (by omega);have k4:=(ae l9).cell 4 (by omega);have k5:=(ae l9).cell 5 (by omega);have k6:=(ae l9).cell 6 (by omega);have k7:=(ae l9).cell 7 (by omega);have k8:=(ae l9).cell 8 (by omega);have k9:=(ae l9).cell 9 (by omega);simp only[List.getD_cons_zero,List.getD_cons_succ]at k0 k1 k2 k3 k4 k5 k6 k7 k8 k9;have kf:=(ae l9).free;have ke:w7.cell? ⟨w.heap.size+1,0,none⟩=some (iV 0):=by simp[World.cell?,ae Pf]
     have Pe:w7.frozen? ⟨w.heap.size+1,0,none⟩=false:=by simp[World.frozen?,ae Pf]
     go_wp2;refine leaves_cons (f:=178) (args:= #[.pointer (some ⟨w.heap.size,0,none⟩),.pointer (some ⟨w.heap.size+1,0,none⟩)]) (by simp) (by simp[go_sem]) ?_;refine(kA ⟨w.heap.size,0,none⟩ ⟨w.heap.size+1,0,none⟩ _).mono ?_;rintro e u' w9 ⟨rfl,rfl,rfl⟩;have Z:=kC 0 0 0 0 0 0 0 0 0 0 3 (ae l9) (ae Pf) (ae RJ);clear k0 k1 k2 k3 k4 k5 k6 k7 k8 k9 kf ke Pe;rw[ae HD];exact ic Z.1 Z.2.1 Z.2.2 rfl rfl
def bytesOf(x0 x1 x2 x3 x4 x5 x6 x7 x8 x9:Int):List Int:=if x0=2∨x0=5 then eH [x0,x1,x2,x3,x4,x5,x6,x7,x8,x9]else eH [x0,x1,x2,x3]
theorem Pg(x0 x1 x2 x3 x4 x5 x6 x7 x8 x9:Int)(w:tA)(h:aE x0 x1 x2 x3 x4 x5 x6 x7 x8 x9=0):
  cA 145 #[.agg #[iV x0,iV x1,iV x2,iV x3,iV x4,iV x5,iV x6,iV x7,iV x8,iV x9]] w fun e w'=>
   ∃g n,e= .returned (.tuple #[.slice (some ⟨g,0,none⟩) n n,iV 0])∧n=(if x0=2∨x0=5 then 40 else 16)∧RowK .u8 w' (some ⟨g,0,none⟩) n (bytesOf x0 x1 x2 x3 x4 x5 x6 x7 x8 x9)∧bZ w w':=by
 by_cases hk:x0=2∨x0=5
 ·refine(K0 _ _ _ _ _ _ _ _ _ _ w h hk).mono ?_;rintro e w' ⟨g,rfl,_,hr,hb⟩;exact⟨g,40,rfl,by rw[Ae hk],by unfold bytesOf;rw[Ae hk];exact hr,hb⟩
 ·refine(IE _ _ _ _ _ _ _ _ _ _ w h hk).mono ?_;rintro e w' ⟨g,rfl,_,hr,hb⟩;exact⟨g,16,rfl,by rw[Aa hk],by unfold bytesOf;rw[Aa hk];exact hr,hb⟩
theorem zZ:∀(t:Nat) (zs:tG),t≤zs.length→(eH zs).drop (4*t)=eH (zs.drop t)
 |0,zs,_=>by simp
 |t+1,[],h=>by simp at h
 |t+1,z::zs,h=>by
  have ih:=zZ t zs (by simpa using h);have:eH (z::zs)=four z++eH zs:=rfl;rw[this,show 4*(t+1)=4+4*t by omega,←List.drop_drop];have h4:(four z++eH zs).drop 4=eH zs:=rfl;rw[h4,ih];rfl
theorem IJ(zs tail:tG)(hr:∀n∈zs,0≤n∧n≤2147483647)(t:Nat)(ht:t<zs.length):az (eH zs++tail) t=zs.getD t 0∧dT (eH zs++tail) t=0:=by
 have hd:(eH zs++tail).drop (4*t)=eH (zs.drop t)++tail:=by
  rw[List.drop_append_of_le_length (by rw[oc];omega),zZ t zs (by omega)]
 unfold az dT;rw[hd,List.drop_eq_getElem_cons ht];have hm:=hr zs[t] (BE ht);have:eH (zs[t]::zs.drop (t+1))++tail=four zs[t]++(eH (zs.drop (t+1))++tail):=by
  rw[show eH (zs[t]::zs.drop (t+1))=four zs[t]++eH (zs.drop (t+1)) from rfl,AA]
 rw[this,Gg _ _ hm.1 hm.2];simp[ht]
theorem IK(x0 x1 x2 x3 x4 x5 x6 x7 x8 x9:Int)(tail:tG)(hf:aE x0 x1 x2 x3 x4 x5 x6 x7 x8 x9=0)(hz:¬(x0=2∨x0=5)→x4=0∧x5=0∧x6=0∧x7=0∧x8=0∧x9=0):
  cj (bytesOf x0 x1 x2 x3 x4 x5 x6 x7 x8 x9++tail)=if tail=[]then([x0,x1,x2,x3,x4,x5,x6,x7,x8,x9],0)else(eU,3):=by
 have hr:=kz hf;unfold bytesOf;by_cases hk:x0=2∨x0=5
 ·rw[Ae hk];have A:=fun t ht=>IJ [x0,x1,x2,x3,x4,x5,x6,x7,x8,x9] tail hr t ht;have hlen:(eH [x0,x1,x2,x3,x4,x5,x6,x7,x8,x9]++tail).length=40+tail.length:=by simp[oc]
  generalize eH [x0,x1,x2,x3,x4,x5,x6,x7,x8,x9]++tail=L at A hlen;have n0:az L 0=x0:=(A 0 (by simp)).1;have n1:az L 1=x1:=(A 1 (by simp)).1;have n2:az L 2=x2:=(A 2 (by simp)).1;have n3:az L 3=x3:=(A 3 (by simp)).1;have n4:az L 4=x4:=(A 4 (by simp)).1;have n5:az L 5=x5:=(A 5 (by simp)).1;have n6:az L 6=x6:=(A 6 (by simp)).1;have n7:az L 7=x7:=(A 7 (by simp)).1;have n8:az L 8=x8:=(A 8 (by simp)).1;have n9:az L 9=x9:=(A 9 (by simp)).1;have KK:jA x0=true:=by simp[jA,hk]
  have hn:fH L=[x0,x1,x2,x3,x4,x5,x6,x7,x8,x9]:=by unfold fH;rw[n0,KK,n1,n2,n3,n4,n5,n6,n7,n8,n9];rfl
  have hF:jT L=0:=by unfold jT;rw[hn,n0,n1,n2,n3];exact hf
  rw[rF (fun u hu=>(A u (by simp;omega)).2) (by rw[n0];exact hk) (fun u hu=>(A (4+u) (by simp;omega)).2),hF,hn,hlen];cases tail with
  |nil=>simp
  |cons y ys=>simp
 ·rw[Aa hk];obtain⟨rfl,rfl,rfl,rfl,rfl,rfl⟩:=hz hk;have hr4:∀n∈[x0,x1,x2,x3],0≤n∧n≤2147483647:=fun n hn=>hr n (by simp at hn⊢;rcases hn with h|h|h|h<;>simp[h])
  have A:=fun t ht=>IJ [x0,x1,x2,x3] tail hr4 t ht;have hlen:(eH [x0,x1,x2,x3]++tail).length=16+tail.length:=by simp[oc]
  generalize eH [x0,x1,x2,x3]++tail=L at A hlen;have n0:az L 0=x0:=(A 0 (by simp)).1;have n1:az L 1=x1:=(A 1 (by simp)).1;have n2:az L 2=x2:=(A 2 (by simp)).1;have n3:az L 3=x3:=(A 3 (by simp)).1;have KK:jA x0=false:=by simp only[jA,decide_eq_false_iff_not];exact hk
  have hn:fH L=[x0,x1,x2,x3,0,0,0,0,0,0]:=by unfold fH;rw[n0,KK,n1,n2,n3];rfl
  have hF:jT L=0:=by unfold jT;rw[hn,n0,n1,n2,n3];exact hf
  rw[np (fun u hu=>(A u (by simp;omega)).2) (by rw[n0];exact hk),hF,hn,hlen];cases tail with
  |nil=>simp
  |cons y ys=>simp
def toldOf(b:tG):Nat:=(256*b.getD 0 0+b.getD 1 0).toNat
def bj(b:tG):Option (List Int×Nat):=
 if b.length<2 then none
 else if b.length<toldOf b+6 then none
 else if ¬four (sumOf (b.take (toldOf b+2)))=(b.drop (toldOf b+2)).take 4 then none
 else if ¬(cj ((b.drop 2).take (toldOf b))).2=0 then none
 else some ((cj ((b.drop 2).take (toldOf b))).1,toldOf b+6)
def km:Nat→List Int→Nat→List (List Int)→List (List Int)×Nat
 |0,_,k,rs=>(rs,k)
 |f+1,b,k,rs=>match bj (b.drop k)with
  |none=>(rs,k)
  |some (zs,m)=>km f b (k+m) (rs++[zs])
def bB(b:tG):List (List Int)×Nat:=km (b.length+1) b 0 []
theorem rG{f:Nat}{b:tG}{k:Nat}{rs:List (List Int)}(h:bj (b.drop k)=none):km f b k rs=(rs,k):=by
 cases f with
 |zero=>rfl
 |succ f=>simp only[km,h]
theorem pB{f:Nat}{b:tG}{k m:Nat}{rs:List (List Int)}{zs:tG}(h:bj (b.drop k)=some (zs,m)):km (f+1) b k rs=km f b (k+m) (rs++[zs]):=by
 simp only[km,h]
theorem gC{b zs:tG}{m:Nat}(h:bj b=some (zs,m)):
  2≤b.length∧m=toldOf b+6∧m≤b.length∧four (sumOf (b.take (toldOf b+2)))=(b.drop (toldOf b+2)).take 4∧cj ((b.drop 2).take (toldOf b))=(zs,0):=by
 unfold bj at h;split at h
 ·cases h
 split at h
 ·cases h
 split at h
 ·cases h
 split at h
 ·cases h
 rename_i h1 h2 h3 h4;simp only[Option.some.injEq,Prod.mk.injEq]at h;refine⟨by omega,h.2.symm,by omega,Br.1 h3, ?_⟩;exact Prod.ext h.1 (Br.1 h4)
def EN(b:tG)(k:Nat)(rs:List (List Int)):Prop:=k≤b.length∧∃f,b.length+1≤f+k∧km f b k rs=bB b
theorem xC(b:tG):EN b 0 []:=⟨Al _,b.length+1,by omega,rfl⟩
theorem wD{b:tG}{k:Nat}{rs:List (List Int)}(h:EN b k rs)(hn:bj (b.drop k)=none):bB b=(rs,k):=by
 obtain⟨_,f,_,hf⟩:=h;rw[←hf,rG hn]
theorem z7{b:tG}{k m:Nat}{rs:List (List Int)}{zs:tG}(h:EN b k rs)(hn:bj (b.drop k)=some (zs,m)):EN b (k+m) (rs++[zs]):=by
 obtain⟨hk,f,hf,he⟩:=h;obtain⟨_,hm,hl,_⟩:=gC hn;rw[AK]at hl;cases f with
 |zero=>omega
 |succ f=>exact⟨by omega,f,by omega,by rw[←he,pB hn]⟩
theorem IL{b zs:tG}{m:Nat}(h:bj b=some (zs,m)):zs.length=10:=by
 obtain⟨_,_,_,_,hd⟩:=gC h;have:(cj ((b.drop 2).take (toldOf b))).1.length=10:=by
  unfold cj
  repeat' split
  all_goals first|rfl|(unfold fH;split<;>rfl)
 rw[hd]at this;exact this
theorem IM{b:tG}(hw:∀u∈b,(Lit.int .u8 u).wf=true):(toldOf b:Int)=256*b.getD 0 0+b.getD 1 0:=by
 have h0:=fy hw 0;have h1:=fy hw 1;unfold toldOf;omega
theorem RowK.part{k:IntKind}{w:tA}{b off len:Nat}{l:tG}(h:RowK k w (some ⟨b,off,none⟩) len l)(a:tB)(lo n:Nat)(hle:lo+n≤len)(ha:0<n→a=some ⟨b,off+lo,none⟩):RowK k w a n ((l.drop lo).take n):=by
 have hl:=h.bP;refine⟨by simp;omega,fun u hu=>h.wf u (Bl (AJ hu)),fun i hi=> ?_⟩;refine⟨b,off+lo,ha (by omega),h.lt (by omega), ?_⟩;have:=h.at (lo+i) (by omega);rw[BF,this];simp[List.getD_eq_getElem?_getD,hi]
theorem EO(a a':tB)(len fG cap bl:Nat)(l l':tG)(w:tA)(h:RowK .u8 w a len l)(h':RowK .u8 w a' fG l'):
  cA 155 #[.slice a len cap,.slice a' fG bl] w fun e w'=>
   e= .returned (.bool ((strOfNums l).toList==(strOfNums l').toList))∧w=w':=by
 have c1:=qd (P:=Tryz.prog) 119 5 Tryz.underlying119 Tryz.underlying5 (cap:=cap) h 9 Tryz.underlying9;have c2:=qd (P:=Tryz.prog) 119 5 Tryz.underlying119 Tryz.underlying5 (cap:=bl) h' 9 Tryz.underlying9;clear h h';go_enter Tryz.func155,Tryz.ntmps155;go_wp2;go_ret;exact⟨rfl,rfl⟩
theorem Ph{l l':tG}(hw:∀u∈l,(Lit.int .u8 u).wf=true)(Wz:∀u∈l',(Lit.int .u8 u).wf=true)(h:(strOfNums l).toList=(strOfNums l').toList):l=l':=by
 rw[Go.Lib.strOfNums_toList,Go.Lib.strOfNums_toList]at h;unfold Go.Lib.bytesOf at h;refine List.ext_getElem (by have:=congrArg List.length h;simpa using this) fun i h1 h2=> ?_;have e:(l.map fun n=>UInt8.ofNat n.toNat)[i]? =(l'.map fun n=>UInt8.ofNat n.toNat)[i]? :=by rw[h]
 simp only[List.getElem?_map,List.getElem?_eq_getElem h1,List.getElem?_eq_getElem h2,Option.map_some,Option.some.injEq]at e;have b1:=bounds_u8 (hw _ (BE h1));have b2:=bounds_u8 (Wz _ (BE h2));have e2:=AB UInt8.toNat e;simp only[UInt8.toNat_ofNat']at e2;omega
theorem kT{W:tA}{R:Nat}{zs:tG}{m:Int}{tmps:tR}(h1:aM W R zs)(t2:tmps[2]? =some (.pointer (some ⟨R,0,none⟩)))(t3:tmps[3]? =some (iV m)):
  (results Tryz.f124 tmps).run Tryz.prog W= .ok (.tuple #[jU zs,iV m]) W:=by
 have hl:=h1.1;have k0:=h1.cell 0 (by omega);have k1:=h1.cell 1 (by omega);have k2:=h1.cell 2 (by omega);have k3:=h1.cell 3 (by omega);have k4:=h1.cell 4 (by omega);have k5:=h1.cell 5 (by omega);have k6:=h1.cell 6 (by omega);have k7:=h1.cell 7 (by omega);have k8:=h1.cell 8 (by omega);have k9:=h1.cell 9 (by omega);clear h1
 match zs,hl with
 |[y0,y1,y2,y3,y4,y5,y6,y7,y8,y9],_=>
  simp at k0 k1 k2 k3 k4 k5 k6 k7 k8 k9;simp[results,Tryz.results124,go_sem,k0,k1,k2,k3,k4,k5,k6,k7,k8,k9,jU,t2,t3]
theorem SN(w:tA):∃W,W=w.alloc (.cells #[iV 0,iV 0,iV 0,iV 0,iV 0,iV 0,iV 0,iV 0,iV 0,iV 0] 144)∧
  aM W w.heap.size eU∧bZ w W∧W.heap.size=w.heap.size+1:=
 ⟨_,rfl,⟨rfl,AP w _⟩,aC _ _,bQ _ _⟩
theorem WB(c0 c1:Int)(r0:0≤c0)(s0:c0≤255)(r1:0≤c1)(s1:c1≤255):bits .or .i64 (c0*256) c1=c0*256+c1:=
 bits_join .i64 62 (by decide) mz 8 _ _ (by omega) (by omega) (by omega) (by omega) (by omega) (by omega)
theorem aM.Z3{w:tA}{R:Nat}{x0 x1 x2 x3 x4 x5 x6 x7 x8 x9:Int}(h:aM w R [x0,x1,x2,x3,x4,x5,x6,x7,x8,x9]):
  w.cell? ⟨R,0,none⟩=some (iV x0)∧w.cell? ⟨R,1,none⟩=some (iV x1)∧w.cell? ⟨R,2,none⟩=some (iV x2)∧w.cell? ⟨R,3,none⟩=some (iV x3)∧w.cell? ⟨R,4,none⟩=some (iV x4)∧
  w.cell? ⟨R,5,none⟩=some (iV x5)∧w.cell? ⟨R,6,none⟩=some (iV x6)∧w.cell? ⟨R,7,none⟩=some (iV x7)∧w.cell? ⟨R,8,none⟩=some (iV x8)∧w.cell? ⟨R,9,none⟩=some (iV x9):=by
 have m0:=h.cell 0 (by omega);have m1:=h.cell 1 (by omega);have m2:=h.cell 2 (by omega);have m3:=h.cell 3 (by omega);have m4:=h.cell 4 (by omega);have m5:=h.cell 5 (by omega);have m6:=h.cell 6 (by omega);have m7:=h.cell 7 (by omega);have m8:=h.cell 8 (by omega);have m9:=h.cell 9 (by omega);simp only[List.getD_cons_zero,List.getD_cons_succ]at m0 m1 m2 m3 m4 m5 m6 m7 m8 m9;exact⟨m0,m1,m2,m3,m4,m5,m6,m7,m8,m9⟩
def cC(b:tG):List Int×Nat:=match bj b with
 |none=>(eU,0)
 |some p=>p
theorem kI(a:tB)(len cap:Nat)(w:tA)(h:len<2):
  cA 124 #[.slice a len cap] w (rB (.tuple #[jU eU,iV 0]) w):=by
 go_enter Tryz.func124,Tryz.ntmps124;go_wp2;obtain⟨W,hW,rb,B,_⟩:=SN w;rw[←hW];exact Ao (kT rb rfl rfl) rfl ⟨rfl,B⟩
theorem Pj(w:tA)(n:Nat):∃W,W=(w.alloc (.cells #[iV 0,iV 0,iV 0,iV 0,iV 0,iV 0,iV 0,iV 0,iV 0,iV 0] 144)).drewN n∧
  aM W w.heap.size eU∧bZ w W∧W.heap.size=w.heap.size+1:=
 ⟨_,rfl,⟨rfl,AP w _⟩,Below.next (aC _ _) (qf _ _),bQ w _⟩
theorem Gh(b off len cap:Nat)(l:tG)(w:tA)(h:RowK .u8 w (some ⟨b,off,none⟩) len l)(h2:2≤len)(rY:len≤cap)(hc:cap≤9223372036854775807)(hm:len≤1000000):
  cA 124 #[.slice (some ⟨b,off,none⟩) len cap] w (rB (.tuple #[jU (cC l).1,iV (cC l).2]) w):=by
 have hl:=h.bP;have vR:=fy h.wf 0;have n_:=fy h.wf 1;have htc:=IM h.wf;have k0:=h.at 0 (by omega);have k1:=h.at 1 (by omega);have Kl:=h.lt (by omega);rw[Cn]at k0;generalize l.getD 0 0=c0 at vR htc k0;generalize l.getD 1 0=c1 at n_ htc k1;obtain⟨p0,q0⟩:=vR;obtain⟨p1,q1⟩:=n_;have J:=WB c0 c1 p0 q0 p1 q1;obtain⟨n,hn⟩:∃n,toldOf l=n:=⟨_,rfl⟩;rw[hn]at htc;have HN:=bG hn;clear hn;have e1:2+(c0*256+c1)=((n+2:Nat):Int):=by omega
 have uG:n≤65535:=by omega
 have HT:=bG htc;have HE:=bG e1;clear htc e1;go_enter Tryz.func124,Tryz.ntmps124
 go_wp2_with fail
 go_quiet (fail)
 rw[ae HE];obtain⟨W,hW,rb,B0,S0⟩:=Pj w nq;rw[←hW];have r0:=h.below B0;clear hW k0 k1 h;obtain⟨E,hE⟩:∃E:Int,((n+2:Nat):Int)=E:=⟨_,rfl⟩;rw[hE];have Fo:(0:Int)≤E:=by omega
 have hE1:E≤70000:=by omega
 have Ha:IntKind.i64.wrap (E+4)=E+4:=mz _ (by omega) (by omega);have YR:Hid (((n+2:Nat):Int)=E):=hE;clear hE;by_cases ht:len<n+6
 ·have hd:(len:Int)<E+4:=by have:=ae YR;omega
  have HP:Hid (cC l=(eU,0)):=by
   show cC l=(eU,0);unfold cC bj;rw[ae HN,Aa (by omega),Ae (by omega)]
  have hT:=bG ht;clear ht
  go_wp2_with fail
  go_quiet (fail)
  obtain⟨W1,hW1,z8,B1⟩:∃W1,W1=W.drewN nq∧aM W1 w.heap.size eU∧bZ w W1:=⟨_,rfl,rb,Below.next B0 (qf _ _)⟩;rw[←hW1];clear hW1;have kf:=z8.free;obtain⟨m0,m1,m2,m3,m4,m5,m6,m7,m8,m9⟩:=aM.Z3 z8;go_wp2;exact Ao (kT (z8.M7 0 0 0 0 0 0 0 0 0 0) rfl rfl) rfl ⟨by rw[ae HP];rfl,(aS.M7 W1 w.heap.size 0 0 0 0 0 0 0 0 0 0).under B1 (Ac _)⟩
 ·have hd:decide ((len:Int)<E+4)=false:=by have:=ae YR;simp;omega
  have Mk:E≤(cap:Int):=by have:=ae YR;omega
  have hE3:E+4≤(cap:Int):=by have:=ae YR;omega
  have hE4:E≤E+4:=by omega
  have hT:=bG ht;clear ht
  go_wp2_with fail
  have hEt:E.toNat=n+2:=by have:=ae YR;omega
  have hE5:(E+4).toNat-E.toNat=4:=by omega
  have hTT:=ae hT;have rs:RowK .u8 W.drew (some ⟨b,off,none⟩) E.toNat (l.take (n+2)):=by rw[hEt];exact(r0.below (qf _ 1)).take (n+2) (by omega)
  have rp:RowK .u8 W (some ⟨b,off+E.toNat,none⟩) ((E+4).toNat-E.toNat) ((l.drop (n+2)).take 4):=by
   rw[hE5,hEt];exact r0.part _ (n+2) 4 (by omega) (fun _=>rfl)
  have acv:=SJ (l.take (n+2));clear hTT hEt hE5;by_cases hq:four (sumOf (l.take (n+2)))=(l.drop (n+2)).take 4
  ·have hb:((strOfNums (four (sumOf (l.take (n+2))))).toList==(strOfNums ((l.drop (n+2)).take 4)).toList)=true:=by rw[hq];simp
   have HQ:=bG hq;clear hq
   go_region_held3 (fun _=>True) (trivial) ((first|(go_at_call 156;refine(zX _ E.toNat _ (l.take (n+2)) _ rs (by omega)).mono ?_;rintro e w1 ⟨rfl,r1,bb⟩;have b2:bZ W w1:=Below.next (qf _ 1) bb;have r2:RowK .u8 w1 (some ⟨w.heap.size+1,0,none⟩) 4 (four (sumOf (l.take (n+2)))):=(by rw[←S0];exact r1);have rp1:=rp.below b2)|(go_at_call 155;refine(EO _ _ _ _ _ _ (four (sumOf (l.take (n+2)))) ((l.drop (n+2)).take 4) _ r2 rp1).mono ?_;rintro e w2 ⟨rfl,rfl⟩)))
   have z8:=rb.below b2 rb.lt;have B1:=Below.next B0 b2;have z2:=b2.size;have hTT:=ae hT;have hEt:E.toNat-2=n:=by have:=ae YR;omega
   have rd:RowK .u8 w1 (some ⟨b,off+2,none⟩) (E.toNat-2) ((l.drop 2).take n):=by rw[hEt];exact(r0.below b2).part _ 2 n (by omega) (fun _=>rfl)
   have hE6:(2:Int)≤E:=by have:=ae YR;omega
   have QP:E.toNat-2≤cap-2:=by omega
   have hcd:cap-2≤9223372036854775807:=by omega
   have acw:(cj ((l.drop 2).take n)).1.length=10:=by
    unfold cj
    repeat' split
    all_goals first|rfl|(unfold fH;split<;>rfl)
   have HU:Hid (cC l=if ¬(cj ((l.drop 2).take n)).2=0 then(eU,0)else((cj ((l.drop 2).take n)).1,n+6)):=by
    show cC l=_;unfold cC bj;rw[ae HN,Aa (by omega),Aa (by omega),Aa (Bc (ae HQ))];by_cases hz:(cj ((l.drop 2).take n)).2=0
    ·rw[Aa (Bc hz),Aa (Bc hz)]
    ·rw[Ae hz,Ae hz]
   have HDL:=bG acw;clear rs rp rp1 r1 r2 bb b2 rb B0 r0 acv hb hEt hTT hd acw
   go_wp2_with fail
   refine(K4 _ _ _ ((l.drop 2).take n) _ rd QP hcd).mono ?_;rintro e w3 ⟨rfl,b3⟩;have Vp:=z8.below b3 z8.lt;have B3:=Below.next B1 b3;obtain⟨zs,er,hde⟩:∃zs er,cj ((l.drop 2).take n)=(zs,er):=⟨_,_,rfl⟩;rw[hde]at HDL HU⊢;simp only at HU;have hlz:zs.length=10:=ae HDL;clear HDL hde rd z8 B1 b3;have kf:=Vp.free;have L3:=Vp.lt;obtain⟨m0,m1,m2,m3,m4,m5,m6,m7,m8,m9⟩:=aM.Z3 Vp
   match zs,hlz with
   |[x0,x1,x2,x3,x4,x5,x6,x7,x8,x9],_=>
    simp only[jU,List.map_cons,List.map_nil];have HUU:=bG (ae HU);clear HU;by_cases Ik:er=0
    ·subst Ik;have HP:Hid (cC l=([x0,x1,x2,x3,x4,x5,x6,x7,x8,x9],n+6)):=by show cC l=_;rw[ae HUU,Aa (Bc rfl)]
     have acx:E+4=((n+6:Nat):Int):=by have:=ae YR;omega
     have afx:=bG acx;clear acx;go_wp2;have SB:=aS.M7 w3 w.heap.size x0 x1 x2 x3 x4 x5 x6 x7 x8 x9;have RT:=Vp.M7 x0 x1 x2 x3 x4 x5 x6 x7 x8 x9;have BT:=SB.under B3 (Ac _);exact Ao (kT (RT.below (aC _ _) RT.lt) rfl rfl) rfl ⟨by rw[ae HP,ae afx],BT.alloc BT.size _⟩
    ·have fR:(er==0)=false:=by simpa using Ik
     have HP:Hid (cC l=(eU,0)):=by show cC l=_;rw[ae HUU,Ae Ik]
     clear Ik;go_wp2;have SB:=aS.M7 w3 w.heap.size 0 0 0 0 0 0 0 0 0 0;have RT:=Vp.M7 0 0 0 0 0 0 0 0 0 0;have BT:=SB.under B3 (Ac _);exact Ao (kT (RT.below (aC _ _) RT.lt) rfl rfl) rfl ⟨by rw[ae HP];rfl,BT.alloc BT.size _⟩
  ·have hb:((strOfNums (four (sumOf (l.take (n+2))))).toList==(strOfNums ((l.drop (n+2)).take 4)).toList)=false:=by
    simp only[beq_eq_false_iff_ne,ne_eq];exact fun hh=>hq (Ph acv rp.wf hh)
   have HP:Hid (cC l=(eU,0)):=by
    show cC l=(eU,0);have:=ae hT;unfold cC bj;rw[ae HN,Aa (by omega),Aa (by omega),Ae hq]
   clear hq
   go_region_held3 (fun _=>True) (trivial) ((first|(go_at_call 156;refine(zX _ E.toNat _ (l.take (n+2)) _ rs (by omega)).mono ?_;rintro e w1 ⟨rfl,r1,bb⟩;have b2:bZ W w1:=Below.next (qf _ 1) bb;have r2:RowK .u8 w1 (some ⟨w.heap.size+1,0,none⟩) 4 (four (sumOf (l.take (n+2)))):=(by rw[←S0];exact r1);have rp1:=rp.below b2)|(go_at_call 155;refine(EO _ _ _ _ _ _ (four (sumOf (l.take (n+2)))) ((l.drop (n+2)).take 4) _ r2 rp1).mono ?_;rintro e w2 ⟨rfl,rfl⟩)))
   have z8:=rb.below b2 rb.lt;have B1:=Below.next B0 b2;have kf:=z8.free;obtain⟨m0,m1,m2,m3,m4,m5,m6,m7,m8,m9⟩:=aM.Z3 z8;go_wp2;exact Ao (kT (z8.M7 0 0 0 0 0 0 0 0 0 0) rfl rfl) rfl ⟨by rw[ae HP];rfl,(aS.M7 _ w.heap.size 0 0 0 0 0 0 0 0 0 0).under B1 (Ac _)⟩
theorem IP(a:tB)(len cap:Nat)(l:tG)(w:tA)(h:RowK .u8 w a len l)(rY:len≤cap)(hc:cap≤9223372036854775807)(hm:len≤1000000):
  cA 124 #[.slice a len cap] w (rB (.tuple #[jU (cC l).1,iV (cC l).2]) w):=by
 by_cases h2:len<2
 ·have hp:cC l=(eU,0):=by
   have:=h.bP;unfold cC bj;rw[Ae (by omega)]
  rw[hp];exact kI a len cap w h2
 ·obtain⟨b,off,rfl⟩:=h.form (by omega);exact Gh b off len cap l w h (by omega) rY hc hm
theorem Tryz.WC:(Tryz.prog.info? 144).map (fun i=>(i.zero,i.size,i.bytes))=some (some (.agg #[iV 0,iV 0,iV 0,iV 0,iV 0,iV 0,iV 0,iV 0,iV 0,iV 0]),10,80):=by kernel_rfl
def mN(rs:List (List Int)):List Value:=rs.flatten.map (Value.int .i64)
theorem DL(rs:List (List Int))(zs:tG):mN (rs++[zs])=mN rs++zs.map (Value.int .i64):=by simp[mN]
structure jh(w:tA)(a:tB)(rs:List (List Int)):Prop where
 M7:∀z∈rs,z.length=10
 cell:∀i,i<rs.length*10→∃b off,a=some ⟨b,off,none⟩∧b<w.heap.size∧w.cell? ⟨b,off+i,none⟩=some (iV (rs.flatten.getD i 0))
theorem IQ(rs:List (List Int))(h:∀z∈rs,z.length=10):rs.flatten.length=rs.length*10:=by
 induction rs with
 |nil=>rfl
 |cons z rs ih=>
  have:=h z (by simp);have:=ih (fun y hy=>h y (by simp[hy]));simp only[List.flatten_cons,List.length_append,List.length_cons];omega
theorem jh.below{w w':tA}{a:tB}{rs:List (List Int)}(h:jh w a rs)(hb:bZ w w'):jh w' a rs:=
 ⟨h.M7,fun i hi=>by
  obtain⟨b,off,ha,aN,hc⟩:=h.cell i hi
  exact⟨b,off,ha,Am aN hb.size,(hb.cell aN).trans hc⟩⟩
theorem jh.nil(w:tA)(a:tB):jh w a []:=⟨by simp,fun i hi=>by simp at hi⟩
theorem jh.yM{w:tA}{base n:Nat}{v:tK}{rs:List (List Int)}(h:w.ownsRow base 144 10 v n (mN rs))(hn:rs.length=n)(ht:∀z∈rs,z.length=10):
  ∃a cap,v= .slice a n cap∧jh w a rs∧n≤cap∧cap≤maxLen∧(a=none→cap=0)∧(∀x,a=some x→base≤x.block):=by
 have hf:=IQ rs ht;rcases h.2 with⟨rfl,rfl⟩|⟨g,cap,cur,rfl,hb,hg,hc,hm,_⟩
 ·have:rs=[]:=AU.1 hn;subst this;exact⟨none,0,rfl,jh.nil _ _,Ac _,by unfold maxLen;omega,fun _=>rfl,fun x hx=>by cases hx⟩
 ·refine⟨some ⟨g,0,none⟩,cap,rfl,⟨ht,fun i hi=> ?_⟩,hc,hm,by simp,fun x hx=>by simp at hx;subst hx;exact hb⟩;have hci:=h.cellAt i (by omega);have Kl:=(h.lt g rfl).2;refine⟨g,0,rfl,Kl, ?_⟩;rw[Aj,hci,mN,Ax,Ai (by omega)];simp[List.getElem?_eq_getElem (show i<rs.flatten.length by omega)]
theorem SO{w:tA}{R:Nat}{zs:tG}(h:aM w R zs):∀j u,(zs.map (Value.int .i64))[j]? =some u→w.cell? ((⟨R,0,none⟩:Addr).add j)=some u:=by
 intro j u hj;have hl:=h.1;have hjl:j<zs.length:=by
  rcases AG j zs.length with h'|h'
  ·exact h'
  ·simp[List.getElem?_eq_none h']at hj
 have Q2:(⟨R,0,none⟩:Addr).add j=⟨R,j,none⟩:=by unfold Addr.add;split<;>simp_all
 rw[Q2,h.cell j (by omega)];simp[List.getElem?_eq_getElem hjl]at hj;simp[List.getElem?_eq_getElem hjl,hj]
theorem RowK.from{k:IntKind}{w:tA}{b off len:Nat}{l:tG}(h:RowK k w (some ⟨b,off,none⟩) len l)(a:tB)(lo:Nat)(ha:lo<len→a=some ⟨b,off+lo,none⟩):RowK k w a (len-lo) (l.drop lo):=by
 have hl:=h.bP;refine⟨by simp;omega,fun u hu=>h.wf u (Bl hu),fun i hi=> ?_⟩;refine⟨b,off+lo,ha (by omega),h.lt (by omega), ?_⟩;have:=h.at (lo+i) (by omega);rw[BF,this];simp[List.getD_eq_getElem?_getD]
theorem qw{W:tA}{v:tK}{n e:Int}{tmps:tR}(t2:tmps[2]? =some v)(t3:tmps[3]? =some (iV n))(t4:tmps[4]? =some (iV e)):
  (results Tryz.f83 tmps).run Tryz.prog W= .ok (.tuple #[v,iV n,iV e]) W:=by
 simp[results,Tryz.results83,go_sem,t2,t3,t4]
theorem WD(a:tB)(len cap:Nat)(s:Int)(w:tA)(hm:len≤140737488351232)(h:¬(len≤100000∧0≤s∧s≤len)):
  cA 83 #[.agg #[.slice a len cap,iV s]] w (rB (.tuple #[.slice none 0 0,iV 0,iV 6]) w):=by
 go_enter Tryz.func83,Tryz.ntmps83
 go_wp2_with fail
 refine(IF a len cap s _ hm h).mono ?_;rintro e w1 ⟨rfl,b1⟩;go_wp2;exact Ao (qw rfl rfl rfl) rfl ⟨rfl,oW b1⟩
theorem z_{b zs:tG}{m:Nat}(h:bj b=some (zs,m)):cC b=(zs,m):=by unfold cC;rw[h]
theorem A0{b:tG}(h:bj b=none):cC b=(eU,0):=by unfold cC;rw[h]
theorem Pk(b off len cap:Nat)(l:tG)(s:Int)(w:tA)(h:RowK .u8 w (some ⟨b,off,none⟩) len l)(rY:len≤cap)(hc:cap≤9223372036854775807)(h1:len≤100000)(h2:0≤s)(h3:s≤len):
  cA 83 #[.agg #[.slice (some ⟨b,off,none⟩) len cap,iV s]] w fun e w'=>
   ∃a' bl,e= .returned (.tuple #[.slice a' (bB l).1.length bl,iV (bB l).2,iV 0])∧jh w' a' (bB l).1∧(bB l).1.length≤bl∧bl≤9223372036854775807∧(a'=none→bl=0)∧(∀x,a'=some x→w.heap.size≤x.block)∧bZ w w':=by
 obtain⟨i0,hi,Es,xT,vU⟩:=info_parts Tryz.WC;have hl:=h.bP;go_enter Tryz.func83,Tryz.ntmps83
 go_wp2_with fail
 obtain⟨W,hW,tb0,B0,S0⟩:∃W,W=w.alloc (.cells #[.slice (some ⟨b,off,none⟩) len cap,iV s] 121)∧aO W w.heap.size (some ⟨b,off,none⟩) len cap s∧bZ w W∧W.heap.size=w.heap.size+1:=⟨_,rfl,aO.new w _ len cap s,aC _ _,bQ _ _⟩;rw[←hW];have r0:=h.below B0;clear hW h;refine(mA (some ⟨b,off,none⟩) len cap s _ h1 h2 h3).mono ?_;rintro e w1 ⟨rfl,b1⟩;have uj:=tb0.below b1 tb0.lt;have r1:=r0.below b1;have B1:=Below.next B0 b1;have z1:=b1.size;clear tb0 r0 B0 b1;go_wp2
 go_loopw [5,6] (fun v t wr=>∃(k:Nat) (rs:List (List Int)),t=iV k∧EN l k rs∧6*rs.length≤k∧(∀z∈rs,z.length=10)∧wr.ownsRow w1.heap.size 144 10 v rs.length (mN rs)∧bZ w1 wr)
  (fun _ t _=>len-(intOf t).toNat)
 case atStart=>exact⟨0,[],rfl,xC l,Ac _,by simp,BA _ _ _ _,Bm _ _⟩
 case round=>
  obtain⟨k,rs,rfl,hgo,h6,hten,bU,gQ⟩:=hrel;have hk:k≤len:=by have:=hgo.1;omega
  have J4:(k:Int)≤(len:Int):=by omega
  have aiz:(len:Int)≤(cap:Int):=by omega
  have xY:=uj.below gQ uj.lt;have r2:=r1.below gQ;have z2:=gQ.size;have c0:=xY.cell0;have xu:=r2.wf;by_cases hck:cap=k
  ·have hu:bj (l.drop k)=none:=by unfold bj;rw[Ae (by simp;omega)]
   have afy:=hck.symm;clear hck;subst afy
   go_wp2_with fail
   refine(kI _ _ _ _ (by omega)).mono ?_;rintro e w3 ⟨rfl,b3⟩;have B3:bZ w1 w3:=gQ.trans (b3.mono z2);have o3:=wB bU b3;clear gQ b3 bU xY r2 c0;have he:=wD hgo hu;simp only[jU,eU,List.map_cons,List.map_nil];obtain⟨a',bl,hv,hr,hc',hm',pS,hx'⟩:=jh.yM o3 rfl hten;subst hv;clear o3;go_wp2;refine Ao (qw rfl rfl rfl) rfl ?_;rw[he];exact⟨a',bl,rfl,hr.below (aC _ _),hc',by unfold maxLen at hm';exact hm',pS,fun x hx=>by have:=hx' x hx;omega,Below.next (Below.next B1 B3) (aC _ _)⟩
  ·go_wp2_with fail
   refine(IP _ _ _ (l.drop k) _ (r2.from _ k (fun J6=>by first|rfl|omega)) (by omega) (by omega) (by omega)).mono ?_;rintro e w3 ⟨rfl,b3⟩;have B3:bZ w1 w3:=gQ.trans (b3.mono z2);have o3:=wB bU b3;clear gQ b3 bU xY r2 c0;cases hu:bj (l.drop k)with
   |none=>
    rw[A0 hu];have he:=wD hgo hu;simp only[jU,eU,List.map_cons,List.map_nil];obtain⟨a',bl,hv,hr,hc',hm',pS,hx'⟩:=jh.yM o3 rfl hten;subst hv;clear o3;go_wp2;refine Ao (qw rfl rfl rfl) rfl ?_;rw[he];exact⟨a',bl,rfl,hr.below (aC _ _),hc',by unfold maxLen at hm';exact hm',pS,fun x hx=>by have:=hx' x hx;omega,Below.next (Below.next B1 B3) (aC _ _)⟩
   |some p=>
    obtain⟨zs,m⟩:=p;have RL:=IL hu;obtain⟨_,hm6,hml,_,_⟩:=gC hu;have afz:=bG (z7 hgo hu);rw[z_ hu];rw[AK]at hml;have hms:k+m≤len:=by omega
    have hm7:6≤m:=by omega
    have aiA:((m:Int)==0)=false:=by simp;omega
    have z3:=B3.size;clear hu hm6 hml
    match zs,RL with
    |[x0,x1,x2,x3,x4,x5,x6,x7,x8,x9],_=>
     simp only[jU,List.map_cons,List.map_nil]
     have rn:Hid (aM ((w3.alloc (.cells #[iV x0,iV x1,iV x2,iV x3,iV x4,iV x5,iV x6,iV x7,iV x8,iV x9] 144)).alloc (.cells #[iV x0,iV x1,iV x2,iV x3,iV x4,iV x5,iV x6,iV x7,iV x8,iV x9] 144)) (w3.heap.size+1) [x0,x1,x2,x3,x4,x5,x6,x7,x8,x9]):=⟨rfl,by
      have:=AP (w3.alloc (.cells #[iV x0,iV x1,iV x2,iV x3,iV x4,iV x5,iV x6,iV x7,iV x8,iV x9] 144)) (.cells #[iV x0,iV x1,iV x2,iV x3,iV x4,iV x5,iV x6,iV x7,iV x8,iV x9] 144);rw[bQ]at this
      exact this⟩
     go_wp2_with (at_builtin;refine Cr _ rfl _ _ 153 rfl w1.heap.size 144 i0 _ 10 80 Tryz.underlying153 hi Es xT vU rfl (by decide) _ _ _ rfl ((o3.alloc _).alloc _) ⟨w3.heap.size+1,0,none⟩ 1 1 ([x0,x1,x2,x3,x4,x5,x6,x7,x8,x9].map (Value.int .i64)) rfl rfl (SO (ae rn)) (Cw .i64 _) (by unfold maxLen;omega) (by omega) (by simp;omega) ?_;intro v' w5 hown5 hgrow5 _)
     have acy:=o3.lt;have R1:Hid (w5.ownsRow w1.heap.size 144 10 v' (rs++[[x0,x1,x2,x3,x4,x5,x6,x7,x8,x9]]).length (mN (rs++[[x0,x1,x2,x3,x4,x5,x6,x7,x8,x9]]))):=by
      rw[DL,Ag];exact hown5
     have R2:bZ w1 w5:=((B3.alloc z3 _).alloc (by simp;omega) _).grown hgrow5 (by simp;omega) (by intro t ht;exact(acy t ht).1)
     have R3:Hid (∀z∈rs++[[x0,x1,x2,x3,x4,x5,x6,x7,x8,x9]],z.length=10):=bG (fun z hz=>by
      rcases Ah.1 hz with hz|hz
      ·exact hten z hz
      ·simp at hz;subst hz;rfl)
     clear hown5 hgrow5 o3 rn acy;go_wp2
     go_roundw
     case rel=>exact⟨k+m,_,by go_num,ae afz,by simp;omega,ae R3,ae R1,R2⟩
     case measure=>simp[intOf];omega
theorem A1:bB []=([],0):=rfl
theorem SP(s:Int)(w:tA)(h2:0≤s)(h3:s≤((0:Nat):Int)):
  cA 83 #[.agg #[.slice none 0 0,iV s]] w (rB (.tuple #[.slice none 0 0,iV 0,iV 0]) w):=by
 go_enter Tryz.func83,Tryz.ntmps83
 go_wp2_with fail
 obtain⟨W,hW,tb0,B0,S0⟩:∃W,W=w.alloc (.cells #[.slice none 0 0,iV s] 121)∧aO W w.heap.size none 0 0 s∧bZ w W∧W.heap.size=w.heap.size+1:=⟨_,rfl,aO.new w _ 0 0 s,aC _ _,bQ _ _⟩;rw[←hW];clear hW;refine(mA none 0 0 s _ (by omega) h2 h3).mono ?_;rintro e w1 ⟨rfl,b1⟩;have uj:=tb0.below b1 tb0.lt;have B1:=Below.next B0 b1;clear tb0 B0 b1;go_wp2
 go_loopw [5,6] (fun v t wr=>t=iV 0∧v= .slice none 0 0∧w1=wr) (fun _ _ _=>0)
 case atStart=>exact⟨rfl,rfl,rfl⟩
 case round=>
  obtain⟨rfl,rfl,rfl⟩:=hrel;have c0:=uj.cell0
  go_wp2_with fail
  refine(kI _ _ _ _ (by omega)).mono ?_;rintro e w3 ⟨rfl,b3⟩;have B3:=Below.next B1 b3;clear b3 B1 c0 uj;simp only[jU,eU,List.map_cons,List.map_nil];go_wp2;exact Ao (qw rfl rfl rfl) rfl ⟨rfl,Below.next B3 (aC _ _)⟩
theorem Pm(x:Addr)(cap:Nat)(s:Int)(w:tA)(h2:0≤s)(h3:s≤((0:Nat):Int)):
  cA 83 #[.agg #[.slice (some x) 0 cap,iV s]] w (rB (.tuple #[.slice none 0 0,iV 0,iV 0]) w):=by
 go_enter Tryz.func83,Tryz.ntmps83
 go_wp2_with fail
 obtain⟨W,hW,tb0,B0,S0⟩:∃W,W=w.alloc (.cells #[.slice (some x) 0 cap,iV s] 121)∧aO W w.heap.size (some x) 0 cap s∧bZ w W∧W.heap.size=w.heap.size+1:=⟨_,rfl,aO.new w _ 0 cap s,aC _ _,bQ _ _⟩;rw[←hW];clear hW;refine(mA (some x) 0 cap s _ (by omega) h2 h3).mono ?_;rintro e w1 ⟨rfl,b1⟩;have uj:=tb0.below b1 tb0.lt;have B1:=Below.next B0 b1;clear tb0 B0 b1;go_wp2
 go_loopw [5,6] (fun v t wr=>t=iV 0∧v= .slice none 0 0∧w1=wr) (fun _ _ _=>0)
 case atStart=>exact⟨rfl,rfl,rfl⟩
 case round=>
  obtain⟨rfl,rfl,rfl⟩:=hrel;have c0:=uj.cell0
  go_wp2_with fail
  all_goals
   refine(kI _ _ _ _ (by omega)).mono ?_;rintro e w3 ⟨rfl,b3⟩;have B3:=Below.next B1 b3;clear b3 B1 c0 uj;simp only[jU,eU,List.map_cons,List.map_nil];go_wp2;exact Ao (qw rfl rfl rfl) rfl ⟨rfl,Below.next B3 (aC _ _)⟩
theorem IU(a:tB)(len cap:Nat)(l:tG)(s:Int)(w:tA)(h:RowK .u8 w a len l)(hn:a=none→cap=0)(rY:len≤cap)(hc:cap≤9223372036854775807)(h1:len≤100000)(h2:0≤s)(h3:s≤len):
  cA 83 #[.agg #[.slice a len cap,iV s]] w fun e w'=>
   ∃a' bl,e= .returned (.tuple #[.slice a' (bB l).1.length bl,iV (bB l).2,iV 0])∧jh w' a' (bB l).1∧(bB l).1.length≤bl∧bl≤9223372036854775807∧(a'=none→bl=0)∧(∀x,a'=some x→w.heap.size≤x.block)∧bZ w w':=by
 cases a with
 |none=>
  have VI:=hn rfl;subst VI;have J7:len=0:=by omega
  subst J7;have hl:l=[]:=AU.1 h.bP;subst hl;rw[A1];refine(SP s w h2 h3).mono ?_;rintro e w' ⟨rfl,hb⟩;exact⟨none,0,rfl,jh.nil _ _,Ac _,by omega,fun _=>rfl,(fun x hx=>by cases hx),hb⟩
 |some x=>
  obtain⟨b,off,sp⟩:=x;by_cases h0:0<len
  ·obtain⟨b',off',he⟩:=h.form h0;rw[he]at h⊢;exact Pk b' off' len cap l s w h rY hc h1 h2 h3
  ·have J7:len=0:=by omega
   subst J7;have hl:l=[]:=AU.1 h.bP;subst hl;rw[A1];refine(Pm ⟨b,off,sp⟩ cap s w h2 h3).mono ?_;rintro e w' ⟨rfl,hb⟩;exact⟨none,0,rfl,jh.nil _ _,Ac _,by omega,fun _=>rfl,(fun x hx=>by cases hx),hb⟩
theorem IV(w:tA)(a:tB)(len cap:Nat)(s:Int)(x0 x1 x2 x3 x4 x5 x6 x7 x8 x9:Int):
  ∃W,W=((w.alloc (.cells #[.slice a len cap,iV s] 121)).alloc (.cells #[iV x0,iV x1,iV x2,iV x3,iV x4,iV x5,iV x6,iV x7,iV x8,iV x9] 144)).alloc (.cells #[.slice none 0 0,iV 0] 121)∧
  aO W w.heap.size a len cap s∧aM W (w.heap.size+1) [x0,x1,x2,x3,x4,x5,x6,x7,x8,x9]∧aO W (w.heap.size+1+1) none 0 0 0∧bZ w W∧W.heap.size=w.heap.size+1+1+1:=by
 refine⟨_,rfl, ?_, ?_, ?_, ?_, ?_⟩
 ·exact(((aO.new w a len cap s).below (aC _ _) (by simp)).below (aC _ _) (by simp;omega))
 ·have h0:((w.alloc (.cells #[.slice a len cap,iV s] 121)).alloc (.cells #[iV x0,iV x1,iV x2,iV x3,iV x4,iV x5,iV x6,iV x7,iV x8,iV x9] 144)).heap[w.heap.size+1]? =some (.cells #[iV x0,iV x1,iV x2,iV x3,iV x4,iV x5,iV x6,iV x7,iV x8,iV x9] 144):=by
   have:=AP (w.alloc (.cells #[.slice a len cap,iV s] 121)) (.cells #[iV x0,iV x1,iV x2,iV x3,iV x4,iV x5,iV x6,iV x7,iV x8,iV x9] 144);rw[bQ]at this;exact this
  exact⟨rfl,by rw[Below.heap_alloc _ _ _ (by rw[bQ,bQ];omega)];exact h0⟩
 ·have:=aO.new ((w.alloc (.cells #[.slice a len cap,iV s] 121)).alloc (.cells #[iV x0,iV x1,iV x2,iV x3,iV x4,iV x5,iV x6,iV x7,iV x8,iV x9] 144)) none 0 0 0;rw[bQ,bQ]at this;exact this
 ·exact(gm _ _ _).alloc (by rw[bQ,bQ];omega) _
 ·rw[bQ,bQ,bQ]
theorem EP{W:tA}{R:Nat}{a:tB}{len cap:Nat}{s e:Int}{tmps:tR}(h:aO W R a len cap s)(t:tmps[4]? =some (.pointer (some ⟨R,0,none⟩)))(te:tmps[5]? =some (iV e)):
  (results Tryz.f113 tmps).run Tryz.prog W= .ok (.tuple #[.agg #[.slice a len cap,iV s],iV e]) W:=by
 have k0:=h.cell0;have k1:=h.lX;simp[results,Tryz.results113,go_sem,k0,k1,t,te]
theorem Pn{W:tA}{b:Nat}{t:tZ}{f:Nat×Nat}(p q:Part)(hb:W.heap[b]? =some (.cells #[.slice p.a p.len p.cap,.slice q.a q.len q.cap] t f)):
  ∀k,k<[p,q].length→W.cell? ⟨b,0+k,none⟩=some (.slice ([p,q].getD k dk).a ([p,q].getD k dk).len ([p,q].getD k dk).cap):=by
 intro k hk
 match k,hk with
 |0,_=>simp[World.cell?,hb]
 |1,_=>simp[World.cell?,hb]
theorem SQ{W:tA}(p q:Part)(hp:RowK .u8 W p.a p.len p.l)(M_:p.a=none→p.cap=0)(hq:RowK .u8 W q.a q.len q.l)(Z4:q.a=none→q.cap=0):
  ∀k,k<[p,q].length→RowK .u8 W ([p,q].getD k dk).a ([p,q].getD k dk).len ([p,q].getD k dk).l∧(([p,q].getD k dk).a=none→([p,q].getD k dk).cap=0):=by
 intro k hk
 match k,hk with
 |0,_=>exact⟨hp,M_⟩
 |1,_=>exact⟨hq,Z4⟩
theorem xD(x0 x1 x2 x3 x4 x5 x6 x7 x8 x9:Int):(bytesOf x0 x1 x2 x3 x4 x5 x6 x7 x8 x9).length=if x0=2∨x0=5 then 40 else 16:=by
 unfold bytesOf;split<;>simp[oc]
theorem K5(b:Nat)(t:tZ)(f:Nat×Nat)(a:tB)(len cap:Nat)(l:tG)(a':tB)(fG bl:Nat)(l':tG)(W:tA)
  (xE:W.heap[b]? =some (.cells #[.slice a len cap,.slice a' fG bl] t f)) (hb:b<W.heap.size) (hs:len+fG≤1000000)
  (hp:RowK .u8 W a len l) (M_:a=none→cap=0) (hq:RowK .u8 W a' fG l') (Z4:a'=none→bl=0):
  cA 118 #[.slice (some ⟨b,0,none⟩) 2 2] W fun e w'=>
   ∃a2 cap2,e= .returned (.slice a2 (len+fG) cap2)∧RowK .u8 w' a2 (len+fG) (l++l')∧len+fG≤cap2∧(a2=none→cap2=0)∧cap2≤9223372036854775807∧(∀x,a2=some x→W.heap.size≤x.block)∧bZ W w':=by
 have e1:dH [⟨a,len,cap,l⟩,⟨a',fG,bl,l'⟩]=len+fG:=by simp[dH]
 have e2:eu [⟨a,len,cap,l⟩,⟨a',fG,bl,l'⟩]=l++l':=by simp[eu]
 have h:=s_ b 0 2 [⟨a,len,cap,l⟩,⟨a',fG,bl,l'⟩] W (by simp) hb (by rw[e1];exact hs) (Pn ⟨a,len,cap,l⟩ ⟨a',fG,bl,l'⟩ xE) (SQ ⟨a,len,cap,l⟩ ⟨a',fG,bl,l'⟩ hp M_ hq Z4);rw[e1,e2]at h;exact h
theorem Po(a:tB)(len cap:Nat)(l:tG)(s x0 x1 x2 x3 x4 x5 x6 x7 x8 x9:Int)(w:tA)(h:RowK .u8 w a len l)(hn:a=none→cap=0)(h1:len≤100000)(h2:0≤s)(h3:s≤len)(hf:aE x0 x1 x2 x3 x4 x5 x6 x7 x8 x9=0):
  cA 113 #[.agg #[.slice a len cap,iV s],.agg #[iV x0,iV x1,iV x2,iV x3,iV x4,iV x5,iV x6,iV x7,iV x8,iV x9]] w fun e w'=>
   (100000<len+((bytesOf x0 x1 x2 x3 x4 x5 x6 x7 x8 x9).length+6)∧e= .returned (.tuple #[.agg #[.slice none 0 0,iV 0],iV 14])∧bZ w w')∨
   (len+((bytesOf x0 x1 x2 x3 x4 x5 x6 x7 x8 x9).length+6)≤100000∧∃a' bl,e= .returned (.tuple #[.agg #[.slice a' (len+((bytesOf x0 x1 x2 x3 x4 x5 x6 x7 x8 x9).length+6)) bl,iV s],iV 0])∧
    RowK .u8 w' a' (len+((bytesOf x0 x1 x2 x3 x4 x5 x6 x7 x8 x9).length+6)) (l++dY (bytesOf x0 x1 x2 x3 x4 x5 x6 x7 x8 x9))∧len+((bytesOf x0 x1 x2 x3 x4 x5 x6 x7 x8 x9).length+6)≤bl∧(a'=none→bl=0)∧bl≤9223372036854775807∧(∀x,a'=some x→w.heap.size≤x.block)∧bZ w w'):=by
 have HL:Hid ((bytesOf x0 x1 x2 x3 x4 x5 x6 x7 x8 x9).length=if x0=2∨x0=5 then 40 else 16):=xD x0 x1 x2 x3 x4 x5 x6 x7 x8 x9;go_enter Tryz.func113,Tryz.ntmps113
 go_wp2_with fail
 obtain⟨W,hW,tb0,rb,uj,B0,S0⟩:=IV w a len cap s x0 x1 x2 x3 x4 x5 x6 x7 x8 x9;rw[←hW];have r0:=h.below B0;clear hW h;refine(mA a len cap s _ h1 h2 h3).mono ?_;rintro e w1 ⟨rfl,b1⟩;have ta2:=tb0.below b1 tb0.lt;have xY:=uj.below b1 uj.lt;have z8:=rb.below b1 rb.lt;have r1:=r0.below b1;have z1:=b1.size;have m0:=z8.cell 0 (by omega);have m1:=z8.cell 1 (by omega);have m2:=z8.cell 2 (by omega);have m3:=z8.cell 3 (by omega);have m4:=z8.cell 4 (by omega);have m5:=z8.cell 5 (by omega);have m6:=z8.cell 6 (by omega);have m7:=z8.cell 7 (by omega);have m8:=z8.cell 8 (by omega);have m9:=z8.cell 9 (by omega);simp only[List.getD_cons_zero,List.getD_cons_succ]at m0 m1 m2 m3 m4 m5 m6 m7 m8 m9;have B1:=Below.next B0 b1;clear b1 B0 tb0 uj rb z8 r0
 go_wp2_with fail
 refine(Pg x0 x1 x2 x3 x4 x5 x6 x7 x8 x9 _ hf).mono ?_;rintro e w2 ⟨g,n,rfl,hnn,r2,b2⟩;have QR:n=(bytesOf x0 x1 x2 x3 x4 x5 x6 x7 x8 x9).length:=r2.bP.symm;have uG:n≤40:=by rw[hnn];split<;>omega
 clear hnn HL;subst QR;generalize hbs:bytesOf x0 x1 x2 x3 x4 x5 x6 x7 x8 x9=bs at r2 uG⊢;have ta3:=ta2.below b2 ta2.lt;have O9:=xY.below b2 xY.lt;have q2:=r1.below b2;have B2:=Below.next B1 b2;have z2:=b2.size;clear m0 m1 m2 m3 m4 m5 m6 m7 m8 m9 b2 xY ta2 r1 B1 hf;have HB:=bG hbs;clear hbs
 go_wp2_with fail
 refine(Pb (some ⟨g,0,none⟩) bs.length bs.length bs _ r2 (by simp) (by omega)).mono ?_;rintro e w3 ⟨a3,cap3,rfl,r3,c3,n3,_,y3,b3⟩;have ta4:=ta3.below b3 ta3.lt;have Z6:=O9.below b3 O9.lt;have q3:=q2.below b3;have B3:=Below.next B2 b3;have z3:=b3.size;have k0:=ta4.cell0;have k1:=ta4.lX;have j0:=Z6.cell0;have j1:=Z6.lX;have jf:=Z6.free;clear ta3 O9 q2 B2 b3 r2;by_cases IW:100000<len+(bs.length+6)
 ·have hd:(100000:Int)<(len:Int)+((bs.length+6:Nat):Int):=by omega
  have HF:=bG IW;clear IW;obtain⟨m,hm⟩:∃m,bs.length+6=m:=⟨_,rfl⟩;rw[hm]at hd⊢;go_wp2;exact Ao (EP (Z6.store none 0 0 0) rfl rfl) rfl (.inl ⟨by rw[ae HB];exact ae HF,rfl,(cM w3 _ _ _).under B3 (by omega)⟩)
 ·have hd:¬(100000:Int)<(len:Int)+((bs.length+6:Nat):Int):=by omega
  have hS:w.heap.size<w3.heap.size:=by omega
  have hT:w.heap.size+1+1<w3.heap.size:=by omega
  have HF:=bG IW;clear j0 j1 jf IW;obtain⟨m,hm⟩:∃m,bs.length+6=m:=⟨_,rfl⟩;rw[hm]at hd r3 c3⊢
  go_wp2_with fail
  have BW:Below w3.heap.size w3 (w3.alloc (.cells #[.slice a len cap,.slice a3 m cap3] 119)).drew:=(aC _ _).drew;have xE:(w3.alloc (.cells #[.slice a len cap,.slice a3 m cap3] 119)).drew.heap[w3.heap.size]? =some (.cells #[.slice a len cap,.slice a3 m cap3] 119):=AP w3 _;have SR:w3.heap.size<(w3.alloc (.cells #[.slice a len cap,.slice a3 m cap3] 119)).drew.heap.size:=by
   have:=bQ w3 (.cells #[.slice a len cap,.slice a3 m cap3] 119);show w3.heap.size<(w3.alloc (.cells #[.slice a len cap,.slice a3 m cap3] 119)).heap.size;omega
  go_region_held3 (fun w'=>w'.cell? ⟨w.heap.size,0,none⟩=some (.slice a len cap)∧w'.cell? ⟨w.heap.size,1,none⟩=some (iV s)) (first|go_keep|exact⟨(b5.cell (p:=⟨w.heap.size,0,none⟩) hS).trans k0,(b5.cell (p:=⟨w.heap.size,1,none⟩) hS).trans k1⟩|exact⟨((cM w5 _ _ _).cell (by omega)).trans ((b5.cell (p:=⟨w.heap.size,0,none⟩) hS).trans k0),((cM w5 _ _ _).cell (by omega)).trans ((b5.cell (p:=⟨w.heap.size,1,none⟩) hS).trans k1)⟩) ((go_at_call 118;refine(K5 w3.heap.size _ _ a len cap l a3 m cap3 (dY bs) _ xE SR (by omega) (q3.below BW) hn (r3.below BW) n3).mono ?_;rintro e w5 ⟨a5,cap5,rfl,r5,c5,n5,m5,y5,bb⟩;have b5:bZ w3 w5:=Below.next BW bb;have QT:=Z6.below b5 hT;have j0:=QT.cell0;have j1:=QT.lX;have jf:=QT.free;have y6:∀x,a5=some x→w3.heap.size≤x.block:=fun x hx=>AN (Nat.le_of_lt SR) (y5 x hx)))
  go_wp2;refine Ao (EP (QT.store a5 (len+m) cap5 s) rfl rfl) rfl (.inr ?_);have IW:=ae HF;rw[ae HB,hm];exact⟨by omega,a5,cap5,rfl,(cM w5 _ _ _).row r5 (fun x hx _=>by have:=y6 x hx;omega),c5,n5,m5,fun x hx=>by have:=y6 x hx;omega,(cM w5 _ _ _).under (Below.next B3 b5) (by omega)⟩
theorem uV(b:tG):∀(f k:Nat) (rs:List (List Int)),k≤b.length→6*rs.length≤k→6*(km f b k rs).1.length≤(km f b k rs).2∧(km f b k rs).2≤b.length
 |0,k,rs,h1,h2=>⟨h2,h1⟩
 |f+1,k,rs,h1,h2=>by
  cases hu:bj (b.drop k)with
  |none=>rw[rG hu];exact⟨h2,h1⟩
  |some p=>
   obtain⟨zs,m⟩:=p;rw[pB hu];obtain⟨_,hm,hl,_⟩:=gC hu;rw[AK]at hl;exact uV b f (k+m) (rs++[zs]) (by omega) (by simp;omega)
theorem gN(b:tG):6*(bB b).1.length≤(bB b).2∧(bB b).2≤b.length:=uV b _ 0 [] (Al _) (Ac _)
theorem mO{W:tA}{R:Nat}{a:tB}{len cap:Nat}{s e:Int}{tmps:tR}(h:aO W R a len cap s)(t:tmps[2]? =some (.pointer (some ⟨R,0,none⟩)))(te:tmps[3]? =some (iV e)):
  (results Tryz.f75 tmps).run Tryz.prog W= .ok (.tuple #[.agg #[.slice a len cap,iV s],iV e]) W:=by
 have k0:=h.cell0;have k1:=h.lX;simp[results,Tryz.results75,go_sem,k0,k1,t,te]
theorem K6(b:Nat)(t:tZ)(f:Nat×Nat)(a:tB)(len cap:Nat)(l:tG)(W:tA)
  (xE:W.heap[b]? =some (.cells #[.slice a len cap] t f)) (hb:b<W.heap.size) (hs:len≤1000000) (hp:RowK .u8 W a len l) (M_:a=none→cap=0):
  cA 118 #[.slice (some ⟨b,0,none⟩) 1 1] W fun e w'=>
   ∃a2 cap2,e= .returned (.slice a2 len cap2)∧RowK .u8 w' a2 len l∧len≤cap2∧(a2=none→cap2=0)∧cap2≤9223372036854775807∧(∀x,a2=some x→W.heap.size≤x.block)∧bZ W w':=by
 have e1:dH [⟨a,len,cap,l⟩]=len:=by simp[dH]
 have e2:eu [⟨a,len,cap,l⟩]=l:=by simp[eu]
 have h:=s_ b 0 1 [⟨a,len,cap,l⟩] W (by simp) hb (by rw[e1];exact hs)
  (fun k hk=>by
   match k,hk with
   |0,_=>simp[World.cell?,xE])
  (fun k hk=>by
   match k,hk with
   |0,_=>exact⟨hp,M_⟩)
 rw[e1,e2]at h;exact h
def mP(k:Nat)(s:Int):Int:=if(k:Int)<s then(k:Int)else s
theorem Pp{k:Nat}{s:Int}(h:(k:Int)<s):mP k s=k:=Ae h
theorem Pr{k:Nat}{s:Int}(h:¬(k:Int)<s):mP k s=s:=Aa h
theorem abl(a:tB)(len cap:Nat)(s:Int)(w:tA)(hm:len≤140737488351232)(h:¬(len≤100000∧0≤s∧s≤len)):
  cA 75 #[.agg #[.slice a len cap,iV s]] w (rB (.tuple #[.agg #[.slice none 0 0,iV 0],iV 6]) w):=by
 go_enter Tryz.func75,Tryz.ntmps75
 go_wp2_with fail
 obtain⟨W,hW,tb0,uj,B0,S0⟩:=oD w a len cap s;rw[←hW];clear hW;refine(WD a len cap s _ hm h).mono ?_;rintro e w1 ⟨rfl,b1⟩;have xY:=uj.below b1 uj.lt;have j0:=xY.cell0;have j1:=xY.lX;have jf:=xY.free;go_wp2;exact Ao (mO (xY.store none 0 0 0) rfl rfl) rfl ⟨rfl,(cM w1 _ _ _).under (Below.next B0 b1) (by omega)⟩
theorem K7(a:tB)(len cap:Nat)(l:tG)(s:Int)(w:tA)(h:RowK .u8 w a len l)(hn:a=none→cap=0)(rY:len≤cap)(hc:cap≤9223372036854775807)(h1:len≤100000)(h2:0≤s)(h3:s≤len):
    cA 75 #[.agg #[.slice a len cap,iV s]] w fun e w'=>
      ∃a' bl,e= .returned (.tuple #[.agg #[.slice a' (bB l).2 bl,iV (mP (bB l).2 s)],iV 0])∧RowK .u8 w' a' (bB l).2 (l.take (bB l).2)∧(bB l).2≤bl∧(a'=none→bl=0)∧bl≤9223372036854775807∧(∀x,a'=some x→w.heap.size≤x.block)∧bZ w w':=by
  have hl:=h.bP;have hb:=gN l;go_enter Tryz.func75,Tryz.ntmps75
  go_wp2_with fail
  obtain⟨W,hW,tb0,uj,B0,S0⟩:=oD w a len cap s;rw[←hW];have r0:=h.below B0;clear hW h;refine(IU a len cap l s _ r0 hn rY hc h1 h2 h3).mono ?_;rintro e w3 ⟨aR,capR,rfl,_,_,_,_,_,b3⟩;have ta4:=tb0.below b3 tb0.lt;have Z6:=uj.below b3 uj.lt;have q3:=r0.below b3;have B3:=Below.next B0 b3;have z3:=b3.size;have k0:=ta4.cell0;have k1:=ta4.lX;have hS:w.heap.size<w3.heap.size:=by omega
  have hT:w.heap.size+1<w3.heap.size:=by omega
  clear tb0 uj r0 b3 B0;obtain⟨rs,k,hro⟩:∃rs k,bB l=(rs,k):=⟨_,_,rfl⟩;rw[hro]at hb⊢;simp only at hb⊢;have HR:=bG hro;clear hro;have J6:k≤len:=by omega
  have hkc:(k:Int)≤(cap:Int):=by omega
  have BW:Below w3.heap.size w3 (w3.alloc (.cells #[.slice a k cap] 119)).drew:=(aC _ _).drew;have xE:(w3.alloc (.cells #[.slice a k cap] 119)).drew.heap[w3.heap.size]? =some (.cells #[.slice a k cap] 119):=AP w3 _;have SR:w3.heap.size<(w3.alloc (.cells #[.slice a k cap] 119)).drew.heap.size:=by
    have:=bQ w3 (.cells #[.slice a k cap] 119);show w3.heap.size<(w3.alloc (.cells #[.slice a k cap] 119)).heap.size;omega
  have HW:=bG BW;have HC:=bG xE;have HL:=bG SR;clear BW xE SR;by_cases hs:(k:Int)<s
  all_goals
    go_wp2_with fail
    go_region_held3 (fun w'=>w'.cell? ⟨w.heap.size,0,none⟩=some (.slice a len cap)∧w'.cell? ⟨w.heap.size,1,none⟩=some (iV s)) (first|go_keep|exact⟨(b5.cell (p:=⟨w.heap.size,0,none⟩) hS).trans k0,(b5.cell (p:=⟨w.heap.size,1,none⟩) hS).trans k1⟩) ((go_at_call 118;refine(K6 w3.heap.size _ _ a k cap (l.take k) _ (ae HC) (ae HL) (by omega) ((q3.take k J6).below (ae HW)) hn).mono ?_;rintro e w5 ⟨a5,cap5,rfl,r5,c5,n5,m5,y5,bb⟩;have b5:bZ w3 w5:=Below.next (ae HW) bb;have QT:=Z6.below b5 hT;have j0:=QT.cell0;have j1:=QT.lX;have jf:=QT.free;have y6:∀x,a5=some x→w3.heap.size≤x.block:=fun x hx=>AN (Nat.le_of_lt (ae HL)) (y5 x hx)))
    all_goals
      go_wp2
      first
        |(exfalso;omega)
        |(refine Ao (mO (QT.store a5 k cap5 (min s (k:Int))) rfl rfl) rfl ?_
          rw[ae HR,show mP k s=min s (k:Int) by unfold mP;split<;>omega]
          exact⟨a5,cap5,rfl,(cM w5 _ _ _).row r5 (fun x hx _=>by have:=y6 x hx;omega),c5,n5,m5,fun x hx=>by have:=y6 x hx;omega,(cM w5 _ _ _).under (Below.next B3 b5) (by omega)⟩)
        |(refine Ao (mO (QT.store a5 k cap5 (if(k:Int)<s then(k:Int)else s)) rfl rfl) rfl ?_
          rw[ae HR]
          exact⟨a5,cap5,rfl,(cM w5 _ _ _).row r5 (fun x hx _=>by have:=y6 x hx;omega),c5,n5,m5,fun x hx=>by have:=y6 x hx;omega,(cM w5 _ _ _).under (Below.next B3 b5) (by omega)⟩)
        |(refine Ao (mO (QT.store a5 k cap5 (k:Int)) rfl rfl) rfl ?_
          rw[ae HR,Pp hs]
          exact⟨a5,cap5,rfl,(cM w5 _ _ _).row r5 (fun x hx _=>by have:=y6 x hx;omega),c5,n5,m5,fun x hx=>by have:=y6 x hx;omega,(cM w5 _ _ _).under (Below.next B3 b5) (by omega)⟩)
        |(refine Ao (mO (QT.store a5 k cap5 s) rfl rfl) rfl ?_
          rw[ae HR,Pr (by simp only;omega)]
          exact⟨a5,cap5,rfl,(cM w5 _ _ _).row r5 (fun x hx _=>by have:=y6 x hx;omega),c5,n5,m5,fun x hx=>by have:=y6 x hx;omega,(cM w5 _ _ _).under (Below.next B3 b5) (by omega)⟩)
structure Rec where
 k:Int
 q:Int
 e:Int
 p:Int
 v:Ev
def Rec.fault(r:Rec):Int:=aE r.k r.q r.e r.p r.v.k r.v.p r.v.i r.v.b r.v.he r.v.hn
abbrev mQ(r:Rec):Value:= .agg #[iV r.k,iV r.q,iV r.e,iV r.p,iV r.v.k,iV r.v.p,iV r.v.i,iV r.v.b,iV r.v.he,iV r.v.hn]
def kJ(w:tA)(R:Nat)(r:Rec):Prop:=w.heap[R]? =some (.cells #[iV r.k,iV r.q,iV r.e,iV r.p,iV r.v.k,iV r.v.p,iV r.v.i,iV r.v.b,iV r.v.he,iV r.v.hn] 144 (0,0))
theorem kJ.cells{w:tA}{R:Nat}{r:Rec}(h:kJ w R r):w.cell? ⟨R,0,none⟩=some (iV r.k)∧w.cell? ⟨R,1,none⟩=some (iV r.q)∧w.cell? ⟨R,2,none⟩=some (iV r.e)∧w.cell? ⟨R,3,none⟩=some (iV r.p)∧w.cell? ⟨R,4,none⟩=some (iV r.v.k)∧w.cell? ⟨R,5,none⟩=some (iV r.v.p)∧w.cell? ⟨R,6,none⟩=some (iV r.v.i)∧w.cell? ⟨R,7,none⟩=some (iV r.v.b)∧w.cell? ⟨R,8,none⟩=some (iV r.v.he)∧w.cell? ⟨R,9,none⟩=some (iV r.v.hn):=by
 unfold kJ at h;simp[World.cell?,h]
open Classical in
noncomputable def cF(B:Bt)(r:Rec):Option Bt:=
 if r.k=1 then(if r.p=0∧B.r=0∧B.e<r.e then some ⟨1,r.e,0,0,0,[]⟩else none)
 else if r.k=2 then(if r.p=0∧B.e=r.e∧B.r=1 then some (B.more [r.v])else none)
 else if r.k=3 then(if B.e=r.e∧B.r=1 then some ⟨3,B.e,B.f,r.p,B.o,B.es⟩else none)
 else if r.k=4 then(if(aP B r.e r.p).2=0 then some (aP B r.e r.p).1 else none)
 else if r.k=5 then(if r.p=0∧B.e=r.e∧B.r=4 then some (B.more [r.v])else none)
 else if r.k=6 then(if r.p=0∧B.e=r.e∧B.r=4 then some ⟨1,B.e,0,B.t,B.o,B.es++[Ev.brk]⟩else none)
 else(if r.p=0∧B.e=r.e∧B.r=3 then some ⟨0,B.e,0,0,0,[]⟩else none)
open Classical in
noncomputable def ew(B:Bt)(r:Rec):Bt×Int:=
 if ¬B.Ok then(Bt.zero,6)else if ¬r.fault=0 then(Bt.zero,r.fault)else match cF B r with
  |none=>(Bt.zero,3)
  |some D=>if D.Ok then(D,0)else(Bt.zero,3)
theorem A2{B:Bt}{r:Rec}(ok:B.Ok)(h:r.fault=0)(hd:cF B r=none):ew B r=(Bt.zero,3):=by unfold ew;rw[Aa (fun g=>g ok),Aa (fun g=>g h),hd]
theorem ER{B D:Bt}{r:Rec}(ok:B.Ok)(h:r.fault=0)(hd:cF B r=some D)(hD:¬D.Ok):ew B r=(Bt.zero,3):=by unfold ew;rw[Aa (fun g=>g ok),Aa (fun g=>g h),hd];simp[hD]
theorem fI{B D:Bt}{r:Rec}(ok:B.Ok)(h:r.fault=0)(hd:cF B r=some D)(hD:D.Ok):ew B r=(D,0):=by unfold ew;rw[Aa (fun g=>g ok),Aa (fun g=>g h),hd];simp[hD]
theorem Rec.kinds{r:Rec}(h:r.fault=0):r.k=1∨r.k=2∨r.k=3∨r.k=4∨r.k=5∨r.k=6∨r.k=7:=by
 unfold Rec.fault aE at h;split at h
 ·omega
 ·rename_i h1;have:=AD.1 h1;omega
structure Mr(w wx:tA)(B:Bt)(a:tB)(c:Nat)(r:Rec):Prop where
 b:aG wx w.heap.size B.r B.e B.f B.t B.o a B.es.length c
 rc:kJ wx (w.heap.size+1) r
 z:aG wx (w.heap.size+2) 0 0 0 0 0 none 0 0
 dp:bZ w wx
theorem Mr.made(w:tA)(B:Bt)(a:tB)(c:Nat)(r:Rec):∃W,W=((w.alloc (.cells (dF B.r B.e B.f B.t B.o a B.es.length c) 43)).alloc (.cells #[iV r.k,iV r.q,iV r.e,iV r.p,iV r.v.k,iV r.v.p,iV r.v.i,iV r.v.b,iV r.v.he,iV r.v.hn] 144)).alloc (.cells (dF 0 0 0 0 0 none 0 0) 43)∧Mr w W B a c r:=by
 have h0:=aG.new w B.r B.e B.f B.t B.o a B.es.length c;have h1:=AP (w.alloc (.cells (dF B.r B.e B.f B.t B.o a B.es.length c) 43)) (.cells #[iV r.k,iV r.q,iV r.e,iV r.p,iV r.v.k,iV r.v.p,iV r.v.i,iV r.v.b,iV r.v.he,iV r.v.hn] 144);have h2:=aG.new ((w.alloc (.cells (dF B.r B.e B.f B.t B.o a B.es.length c) 43)).alloc (.cells #[iV r.k,iV r.q,iV r.e,iV r.p,iV r.v.k,iV r.v.p,iV r.v.i,iV r.v.b,iV r.v.he,iV r.v.hn] 144)) 0 0 0 0 0 none 0 0;have s1:(w.alloc (.cells (dF B.r B.e B.f B.t B.o a B.es.length c) 43)).heap.size=w.heap.size+1:=by simp
 have s2:((w.alloc (.cells (dF B.r B.e B.f B.t B.o a B.es.length c) 43)).alloc (.cells #[iV r.k,iV r.q,iV r.e,iV r.p,iV r.v.k,iV r.v.p,iV r.v.i,iV r.v.b,iV r.v.he,iV r.v.hn] 144)).heap.size=w.heap.size+2:=by simp
 rw[s1]at h1;rw[s2]at h2;exact⟨_,rfl,(h0.next (aC _ _)).next (aC _ _),((aC _ _).block _ (by rw[s2];omega)).trans h1,h2,Below.next (Below.next (aC _ _) (aC _ _)) (aC _ _)⟩
def IX(w':tA)(base:Nat)(x:Ending)(o:Option Bt):Prop:=
 match o with
 |none=>x= .returned (.tuple #[cg 0 0 0 0 0 none 0 0,.bool false])
 |some D=>∃a c,x= .returned (.tuple #[cg D.r D.e D.f D.t D.o a D.es.length c,.bool true])∧w'.ownsRow base 56 6 (.slice a D.es.length c) D.es.length ((au D.es).map (Value.int .i64))
def iW(B:Bt)(r:Rec):Option Bt:=if B.r=0∧B.e<r.e then some ⟨1,r.e,0,0,0,[]⟩else none
def yA(B:Bt):Bt:=⟨0,B.e,0,0,0,[]⟩
theorem th{W:tA}{R:Nat}{r e f t o:Int}{a:tB}{n c:Nat}{ok:Bool}{tmps:tR}(d:aG W R r e f t o a n c)(t4:tmps[4]? =some (.pointer (some ⟨R,0,none⟩)))(t5:tmps[5]? =some (.bool ok)):
  (results Tryz.f181 tmps).run Tryz.prog W= .ok (.tuple #[cg r e f t o a n c,.bool ok]) W:=by
 simp[results,Tryz.results181,t4,t5,asAddr,eE d]
theorem K9{W:tA}{R:Nat}{r e f t o:Int}{a:tB}{n c:Nat}{ok:Bool}{tmps:tR}(d:aG W R r e f t o a n c)(t4:tmps[4]? =some (.pointer (some ⟨R,0,none⟩)))(t5:tmps[5]? =some (.bool ok)):
  (results Tryz.f187 tmps).run Tryz.prog W= .ok (.tuple #[cg r e f t o a n c,.bool ok]) W:=by
 simp[results,Tryz.results187,t4,t5,asAddr,eE d]
theorem IY(B:Bt)(a:tB)(c:Nat)(r:Rec)(w:tA):cA 181 #[cg B.r B.e B.f B.t B.o a B.es.length c,mQ r] w fun x w'=>IX w' w.heap.size x (iW B r)∧bZ w w':=by
 go_enter Tryz.func181,Tryz.ntmps181
 go_upto_region 1 with fail
 obtain⟨W1,hW1,M1⟩:=Mr.made w B a c r;rw[←hW1];clear hW1;obtain⟨x0,x1,x2,x3,x4,x5⟩:=M1.b.cells;obtain⟨r0,r1,r2,r3,r4,r5,r6,r7,r8,r9⟩:=M1.rc.cells;obtain⟨z0,z1,z2,z3,z4,z5⟩:=M1.z.cells;have zf:=M1.z.free;have HM:=ai M1;clear M1;by_cases h1:B.r=0
 ·have e1:(B.r !=0)=false:=by simp[h1]
  by_cases h2:B.e<r.e
  ·have e2:¬r.e≤B.e:=by omega
   have hc:iW B r=some ⟨1,r.e,0,0,0,[]⟩:=by unfold iW;rw[Ae ⟨h1,h2⟩]
   have HCO:=ai hc;clear h1 h2 hc;go_wp2;obtain⟨W4,hW4,d4,b4,_⟩:=dP (aa HM).z (aa HM).dp (show w.heap.size≤w.heap.size+2 by omega) 1 r.e 0 0 0 none 0 0;rw[←hW4];refine Ao (th d4 rfl rfl) rfl ⟨?_,b4⟩;rw[aa HCO];exact⟨none,0,rfl,BA _ _ _ _⟩
  ·have e2:r.e≤B.e:=by omega
   have hc:iW B r=none:=by unfold iW;rw[Aa (fun h=>h2 h.2)]
   have HCO:=ai hc;clear h1 h2 hc;go_wp2;obtain⟨W4,hW4,d4,b4,_⟩:=dP (aa HM).z (aa HM).dp (show w.heap.size≤w.heap.size+2 by omega) 0 0 0 0 0 none 0 0;rw[←hW4];refine Ao (th d4 rfl rfl) rfl ⟨?_,b4⟩;rw[aa HCO];exact rfl
 ·have e1:(B.r !=0)=true:=by simp[h1]
  have hc:iW B r=none:=by unfold iW;rw[Aa (fun h=>h1 h.1)]
  have HCO:=ai hc;clear h1 hc;go_wp2;obtain⟨W4,hW4,d4,b4,_⟩:=dP (aa HM).z (aa HM).dp (show w.heap.size≤w.heap.size+2 by omega) 0 0 0 0 0 none 0 0;rw[←hW4];refine Ao (th d4 rfl rfl) rfl ⟨?_,b4⟩;rw[aa HCO];exact rfl
theorem IZ(B:Bt)(a:tB)(c:Nat)(r:Rec)(w:tA):cA 187 #[cg B.r B.e B.f B.t B.o a B.es.length c,mQ r] w fun x w'=>IX w' w.heap.size x (some (yA B))∧bZ w w':=by
 go_enter Tryz.func187,Tryz.ntmps187
 go_upto_region 1 with fail
 obtain⟨W1,hW1,M1⟩:=Mr.made w B a c r;rw[←hW1];clear hW1;obtain⟨x0,x1,x2,x3,x4,x5⟩:=M1.b.cells;obtain⟨z0,z1,z2,z3,z4,z5⟩:=M1.z.cells;have zf:=M1.z.free;have HM:=ai M1;clear M1;go_wp2;obtain⟨W4,hW4,d4,b4,_⟩:=dP (aa HM).z (aa HM).dp (show w.heap.size≤w.heap.size+2 by omega) 0 B.e 0 0 0 none 0 0;rw[←hW4];exact Ao (K9 d4 rfl rfl) rfl ⟨⟨none,0,rfl,BA _ _ _ _⟩,b4⟩
theorem WG{W:tA}{R:Nat}{r e f t o:Int}{a:tB}{n c:Nat}{ok:Bool}{tmps:tR}(d:aG W R r e f t o a n c)(t4:tmps[4]? =some (.pointer (some ⟨R,0,none⟩)))(t5:tmps[5]? =some (.bool ok)):
  (results Tryz.f183 tmps).run Tryz.prog W= .ok (.tuple #[cg r e f t o a n c,.bool ok]) W:=by
 simp[results,Tryz.results183,t4,t5,asAddr,eE d]
theorem I1(w:tA)(x0 x1 x2 x3 x4 x5:Int)(t:tZ):∀j u,([x0,x1,x2,x3,x4,x5].map (Value.int .i64))[j]? =some u→(w.alloc (.cells #[iV x0,iV x1,iV x2,iV x3,iV x4,iV x5] t)).cell? ((⟨w.heap.size,0,none⟩:Addr).add j)=some u:=by
 intro j u hj;exact acd w x0 x1 x2 x3 x4 x5 t j u hj
theorem kU{w w1 w2:tA}{row:Option Nat}(h:w.grownBy w1 row)(g:w1.grownBy w2 row):w.grownBy w2 row:=
 ⟨g.os.trans h.os,g.tape.trans h.tape,g.output.trans h.output,AN h.size g.size,fun k hk fR=>(g.block k (Am hk h.size) fR).trans (h.block k hk fR)⟩
theorem iz{w w1 w2:tA}{row:Option Nat}{R:Nat}(h:w.grownBy w1 row)(t:aB R w1 w2)(hR:w.heap.size≤R):w.grownBy w2 row:=
 ⟨t.os.trans h.os,t.tape.trans h.tape,t.output.trans h.output,by rw[t.size];exact h.size,fun k hk fR=>(t.block k (by omega)).trans (h.block k hk fR)⟩
theorem eP{w w':tA}(row:Option Nat)(b:bZ w w'):w.grownBy w' row:=⟨b.os,b.tape,b.output,b.size,fun k hk _=>b.block k hk⟩
structure Ow(w wx:tA)(base:Nat)(row:Option Nat)(r e f t o:Int)(v:tB)(n c:Nat)(es:List Ev):Prop where
 b:aG wx w.heap.size r e f t o v n c
 z:aG wx (w.heap.size+2) 0 0 0 0 0 none 0 0
 own:wx.ownsRow base 56 6 (.slice v n c) n ((au es).map (Value.int .i64))
 dp:w.grownBy wx row
theorem Ow.made{w wx:tA}{base:Nat}{B:Bt}{a:tB}{c:Nat}{r:Rec}(h:Mr w wx B a c r)(bU:w.ownsRow base 56 6 (.slice a B.es.length c) B.es.length ((au B.es).map (Value.int .i64))):Ow w wx base (Value.slice a B.es.length c).ownBlock B.r B.e B.f B.t B.o a B.es.length c B.es:=
 ⟨h.b,h.z,aJ bU (fun g hg _=>h.dp.block g ((bU.lt g hg).2)),eP _ h.dp⟩
theorem Ow.added{w wx W:tA}{base:Nat}{r e f t o:Int}{a v:tB}{n c vc:Nat}{es:List Ev}{x:Ev}{ob:Obj}(h:Ow w wx base (Value.slice a n c).ownBlock r e f t o a n c es)(bU:w.ownsRow base 56 6 (.slice a n c) n ((au es).map (Value.int .i64)))
  (own:W.ownsRow base 56 6 (.slice v (n+1) vc) (n+1) ((au es).map (Value.int .i64)++[x.k,x.p,x.i,x.b,x.he,x.hn].map (Value.int .i64))) (g:(wx.alloc ob).grownBy W (Value.slice a n c).ownBlock):
  aG W w.heap.size r e f t o a n c∧(∀W3,aB w.heap.size W W3→∀r' e' f' t' o',aG W3 w.heap.size r' e' f' t' o' v (n+1) vc→Ow w W3 base (Value.slice a n c).ownBlock r' e' f' t' o' v (n+1) vc (es++[x])):=by
 have h1:=h.b.next (aC wx ob);have h2:=h.z.next (aC wx ob);have o1:∀q,(Value.slice a n c).ownBlock=some q→q<w.heap.size:=fun q hq=>(bU.lt q hq).2;have k1:aG W w.heap.size r e f t o a n c:=(g.block _ h1.lt (fun e=>by have:=o1 _ e.symm;omega)).trans h1;have k2:aG W (w.heap.size+2) 0 0 0 0 0 none 0 0:=(g.block _ h2.lt (fun e=>by have:=o1 _ e.symm;omega)).trans h2;have dp:w.grownBy W (Value.slice a n c).ownBlock:=kU (kU h.dp (World.grownBy_alloc wx ob _)) g;refine⟨k1,fun W3 t3 r' e' f' t' o' b3=>⟨b3,k2.dR t3 (by omega), ?_,iz dp t3 (Ac _)⟩⟩;have e1:(au (es++[x])).map (Value.int .i64)=(au es).map (Value.int .i64)++[x.k,x.p,x.i,x.b,x.he,x.hn].map (Value.int .i64):=by rw[sw,AE];rfl
 rw[e1];exact t3.owns own (aX own k1 (by decide))
theorem Ow.out{w wx:tA}{base:Nat}{row:Option Nat}{r e f t o:Int}{v:tB}{n c:Nat}{es:List Ev}(h:Ow w wx base row r e f t o v n c es):∃W,W=(((((wx.setCell ⟨w.heap.size+2,0,none⟩ (iV r)).setCell ⟨w.heap.size+2,1,none⟩ (iV e)).setCell ⟨w.heap.size+2,2,none⟩ (iV f)).setCell ⟨w.heap.size+2,3,none⟩ (iV t)).setCell ⟨w.heap.size+2,4,none⟩ (iV o)).setCell ⟨w.heap.size+2,5,none⟩ (.slice v n c)∧aG W (w.heap.size+2) r e f t o v n c∧(n=es.length→IX W base (.returned (.tuple #[cg r e f t o v n c,.bool true])) (some ⟨r,e,f,t,o,es⟩))∧w.grownBy W row:=by
 obtain⟨W4,hW4,d4,_,t4⟩:=dP h.z (Bm _ _) (Ac _) r e f t o v n c;refine⟨W4,hW4,d4, ?_,iz h.dp t4 (by omega)⟩;rintro rfl;exact⟨v,c,rfl,t4.owns h.own (aX h.own h.z (by decide))⟩
theorem Gi{W:tA}{R:Nat}{r e f t o:Int}{a:tB}{n c:Nat}{ok:Bool}{tmps:tR}(d:aG W R r e f t o a n c)(t4:tmps[4]? =some (.pointer (some ⟨R,0,none⟩)))(t5:tmps[5]? =some (.bool ok)):
  (results Tryz.f186 tmps).run Tryz.prog W= .ok (.tuple #[cg r e f t o a n c,.bool ok]) W:=by
 simp[results,Tryz.results186,t4,t5,asAddr,eE d]
theorem SS{W:tA}{R:Nat}{r e f t o:Int}{a:tB}{n c:Nat}{ok:Bool}{tmps:tR}(d:aG W R r e f t o a n c)(t4:tmps[4]? =some (.pointer (some ⟨R,0,none⟩)))(t5:tmps[5]? =some (.bool ok)):
  (results Tryz.f184 tmps).run Tryz.prog W= .ok (.tuple #[cg r e f t o a n c,.bool ok]) W:=by
 simp[results,Tryz.results184,t4,t5,asAddr,eE d]
theorem aB.drawn(R:Nat)(w:tA):aB R w w.drew:=⟨rfl,rfl,rfl,rfl,fun _ _=>rfl⟩
theorem Ow.dR{w wx W:tA}{base:Nat}{row:Option Nat}{r e f t o:Int}{a:tB}{n c:Nat}{es:List Ev}(h:Ow w wx base row r e f t o a n c es)(t3:aB w.heap.size wx W){r' e' f' t' o':Int}(b:aG W w.heap.size r' e' f' t' o' a n c):Ow w W base row r' e' f' t' o' a n c es:=
 ⟨b,h.z.dR t3 (by omega),t3.owns h.own (aX h.own h.b (by decide)),iz h.dp t3 (Ac _)⟩
theorem wE{W:tA}{R:Nat}{r e f t o:Int}{a:tB}{n c:Nat}{ok:Bool}{tmps:tR}(d:aG W R r e f t o a n c)(t4:tmps[4]? =some (.pointer (some ⟨R,0,none⟩)))(t5:tmps[5]? =some (.bool ok)):
  (results Tryz.f185 tmps).run Tryz.prog W= .ok (.tuple #[cg r e f t o a n c,.bool ok]) W:=by
 simp[results,Tryz.results185,t4,t5,asAddr,eE d]
def Bt.bare(B:Bt):Bt:=⟨B.r,B.e,B.f,B.t,B.o,[]⟩
theorem WH{B:Bt}(ok:B.Ok):B.bare.Ok:=by
 refine⟨?_,by simp[Bt.bare],St.zero,[],.nil⟩;have:=ok.cG;unfold Bt.b_ bg at this;show bg B.r B.e B.f B.t B.o 0;unfold bg;rcases this with h|h|h|h|h
 ·exact .inl ⟨h.1,rfl,h.2.2⟩
 ·exact .inr (.inl h)
 ·exact .inr (.inr (.inl h))
 ·exact .inr (.inr (.inr (.inl h)))
 ·exact .inr (.inr (.inr (.inr h)))
theorem K_{B:Bt}(ok:B.Ok)(ep fr:Int):∀D er,aP B.bare ep fr=(D,er)→D.es=[]∧(¬er=0→¬(aP B ep fr).2=0)∧(er=0→(aP B ep fr).2=0∧(D.e=B.e→(aP B ep fr).1=⟨D.r,D.e,D.f,D.t,D.o,B.es⟩)∧(¬D.e=B.e→(aP B ep fr).1=D)):=by
 intro D er h;have ok0:=WH ok;unfold aP at h⊢;rw[Aa (fun g=>g ok0)]at h;rw[Aa (fun g=>g ok)];by_cases g:¬((1≤ep∧ep≤1048576)∧(0≤fr∧fr≤4))
 ·rw[Ae g]at h⊢;obtain⟨rfl,rfl⟩:=AR h;exact⟨rfl,fun _=>by decide,fun g'=>by cases g'⟩
 rw[Aa g]at h⊢;by_cases g1:B.r=1∨B.r=2∨B.r=3
 ·rw[Ae (show B.bare.r=1∨B.bare.r=2∨B.bare.r=3 from g1)]at h;rw[Ae g1];obtain⟨rfl,rfl⟩:=AR h;exact⟨rfl,fun _=>by decide,fun g'=>by cases g'⟩
 rw[Aa (show ¬(B.bare.r=1∨B.bare.r=2∨B.bare.r=3) from g1)]at h;rw[Aa g1];by_cases g2:B.r=4∧B.e=ep∧B.f=fr
 ·rw[Ae (show B.bare.r=4∧B.bare.e=ep∧B.bare.f=fr from g2)]at h;rw[Ae g2];obtain⟨rfl,rfl⟩:=AR h;exact⟨rfl,fun g'=>absurd rfl g',fun _=>⟨rfl,fun _=>rfl,fun g'=>absurd rfl g'⟩⟩
 rw[Aa (show ¬(B.bare.r=4∧B.bare.e=ep∧B.bare.f=fr) from g2)]at h;rw[Aa g2];by_cases g3:ep≤B.e
 ·rw[Ae (show ep≤B.bare.e from g3)]at h;rw[Ae g3];obtain⟨rfl,rfl⟩:=AR h;exact⟨rfl,fun _=>by decide,fun g'=>by cases g'⟩
 rw[Aa (show ¬(ep≤B.bare.e) from g3)]at h;rw[Aa g3];obtain⟨rfl,rfl⟩:=AR h;exact⟨rfl,fun g'=>absurd rfl g',fun _=>⟨rfl,fun g'=>by simp only at g';omega,fun _=>rfl⟩⟩
structure Bg(w wx:tA)(base:Nat)(B:Bt)(a:tB)(c:Nat)(r:Rec):Prop where
 b:aG wx w.heap.size B.r B.e B.f B.t B.o none 0 0
 rc:kJ wx (w.heap.size+1) r
 z:aG wx (w.heap.size+2) 0 0 0 0 0 none 0 0
 own:wx.ownsRow base 56 6 (.slice a B.es.length c) B.es.length ((au B.es).map (Value.int .i64))
 dp:bZ w wx
theorem Bg.next{w wx wy:tA}{base:Nat}{B:Bt}{a:tB}{c:Nat}{r:Rec}(h:Bg w wx base B a c r)(b:bZ wx wy):Bg w wy base B a c r:=
 ⟨h.b.next b,(b.block _ (cI h.rc)).trans h.rc,h.z.next b,aJ h.own (fun g hg _=>b.block g ((h.own.lt g hg).2)),Below.trans h.dp (b.mono (by have:=h.b.lt;omega))⟩
theorem Bg.made{w wx:tA}{base:Nat}{B:Bt}{a:tB}{c:Nat}{r:Rec}(h:Mr w wx B a c r)(bU:w.ownsRow base 56 6 (.slice a B.es.length c) B.es.length ((au B.es).map (Value.int .i64))):∃W,W=wx.setCell ⟨w.heap.size,5,none⟩ (.slice none 0 0)∧Bg w W base B a c r:=by
 have t:=aB.set w.heap.size 5 wx (.slice none 0 0);refine⟨_,rfl, ?_,(t.block _ (by omega)).trans h.rc,h.z.dR t (by omega), ?_,t.under h.dp (Ac _)⟩
 ·have:=h.b;unfold aG at this⊢;rw[cL this];simp
 ·exact aJ bU (fun g hg _=>by have:=(bU.lt g hg).2;rw[t.block g (by omega)];exact h.dp.block g this)
theorem I2{B:Bt}(h:B.b_):B.bare.Ok:=by
 refine⟨?_,by simp[Bt.bare],St.zero,[],.nil⟩;unfold Bt.b_ bg at h;show bg B.r B.e B.f B.t B.o 0;unfold bg;rcases h with h|h|h|h|h
 ·exact .inl ⟨h.1,rfl,h.2.2⟩
 ·exact .inr (.inl h)
 ·exact .inr (.inr (.inl h))
 ·exact .inr (.inr (.inr (.inl h)))
 ·exact .inr (.inr (.inr (.inr h)))
open Classical in
noncomputable def kD(B:Bt)(r:Rec):Option Bt:=
 if(aP B.bare r.e r.p).2=0 then some (if(aP B.bare r.e r.p).1.e=B.e then⟨(aP B.bare r.e r.p).1.r,(aP B.bare r.e r.p).1.e,(aP B.bare r.e r.p).1.f,(aP B.bare r.e r.p).1.t,(aP B.bare r.e r.p).1.o,B.es⟩else(aP B.bare r.e r.p).1)else none
open Classical in
noncomputable def f_(B:Bt)(r:Rec):Option Bt:=if r.k=4 then kD B r else cF B r
theorem oE{B:Bt}{r:Rec}(ok:B.Ok):f_ B r=cF B r:=by
 unfold f_;by_cases hk:r.k=4
 ·rw[Ae hk];unfold cF;rw[Aa (by omega),Aa (by omega),Aa (by omega),Ae hk];obtain⟨D,er,hD⟩:∃D er,aP B.bare r.e r.p=(D,er):=⟨_,_,rfl⟩;obtain⟨_,QM,uW⟩:=K_ ok r.e r.p D er hD;unfold kD;rw[hD];by_cases h0:er=0
  ·obtain⟨y0,y1,y2⟩:=uW h0;rw[Ae h0,Ae y0];by_cases h1:D.e=B.e
   ·rw[Ae h1,y1 h1]
   ·rw[Aa h1,y2 h1]
  ·rw[Aa h0,Aa (QM h0)]
 ·rw[Aa hk]
theorem xF{B D:Bt}{r:Rec}(h:B.b_)(hd:kD B r=some D):D=B∨(D=⟨4,r.e,r.p,0,0,[]⟩∧1≤r.e∧r.e≤1048576∧0≤r.p∧r.p≤4):=by
 have ok:=I2 h;unfold kD at hd;obtain⟨E,er,hE⟩:∃E er,aP B.bare r.e r.p=(E,er):=⟨_,_,rfl⟩;rw[hE]at hd;unfold aP at hE;rw[Aa (fun g=>g ok)]at hE;by_cases g0:¬((1≤r.e∧r.e≤1048576)∧(0≤r.p∧r.p≤4))
 ·rw[Ae g0]at hE;obtain⟨rfl,rfl⟩:=AR hE;rw[Aa (by decide)]at hd;cases hd
 rw[Aa g0]at hE;have Z7:=AD.1 g0;by_cases g1:B.r=1∨B.r=2∨B.r=3
 ·rw[Ae (show B.bare.r=1∨B.bare.r=2∨B.bare.r=3 from g1)]at hE;obtain⟨rfl,rfl⟩:=AR hE;rw[Aa (by decide)]at hd;cases hd
 rw[Aa (show ¬(B.bare.r=1∨B.bare.r=2∨B.bare.r=3) from g1)]at hE;by_cases g2:B.r=4∧B.e=r.e∧B.f=r.p
 ·rw[Ae (show B.bare.r=4∧B.bare.e=r.e∧B.bare.f=r.p from g2)]at hE;obtain⟨rfl,rfl⟩:=AR hE;rw[Ae rfl,Ae (show B.bare.e=B.e from rfl)]at hd;cases hd;exact .inl rfl
 rw[Aa (show ¬(B.bare.r=4∧B.bare.e=r.e∧B.bare.f=r.p) from g2)]at hE;by_cases g3:r.e≤B.e
 ·rw[Ae (show r.e≤B.bare.e from g3)]at hE;obtain⟨rfl,rfl⟩:=AR hE;rw[Aa (by decide)]at hd;cases hd
 rw[Aa (show ¬r.e≤B.bare.e from g3)]at hE;obtain⟨rfl,rfl⟩:=AR hE;rw[Ae rfl,Aa (show ¬r.e=B.e by omega)]at hd;cases hd;exact .inr ⟨rfl,Z7.1.1,Z7.1.2,Z7.2.1,Z7.2.2⟩
theorem pC{B D:Bt}{r:Rec}(h:B.b_)(hf:r.fault=0)(hd:f_ B r=some D):D.b_∧(D.es=[]∨B.es<+:D.es):=by
 have hr:(1≤r.k∧r.k≤7)∧(0≤r.q∧r.q≤3∧0≤r.e∧r.e≤1048576∧0≤r.p∧r.p≤4):=by
  unfold Rec.fault aE at hf;split at hf
  ·omega
  ·rename_i h1;split at hf
   ·omega
   ·rename_i h2;exact⟨AD.1 h1,AD.1 h2⟩
 have hs:=h;unfold Bt.b_ bg at hs;unfold f_ at hd;by_cases hk:r.k=4
 ·rw[Ae hk]at hd;rcases xF h hd with rfl|⟨rfl,g1,g2,g3,g4⟩
  ·exact⟨h,.inr (List.prefix_refl _)⟩
  ·exact⟨.inr (.inr (.inr (.inr ⟨rfl,g1,g2,g3,g4,rfl,rfl⟩))),.inl rfl⟩
 rw[Aa hk]at hd;unfold cF at hd;by_cases k1:r.k=1
 ·rw[Ae k1]at hd;split at hd
  ·rename_i g;cases hd;exact⟨.inr (.inl ⟨rfl,by simp only;omega,by simp only;omega,rfl,rfl,rfl⟩),.inl rfl⟩
  ·cases hd
 rw[Aa k1]at hd;by_cases k2:r.k=2
 ·rw[Ae k2]at hd;split at hd
  ·rename_i g;cases hd;refine⟨?_,.inr (List.prefix_append _ _)⟩;unfold Bt.b_ bg;simp only[Bt.more];refine .inr (.inl ⟨g.2.2, ?_⟩);omega
  ·cases hd
 rw[Aa k2]at hd;by_cases k3:r.k=3
 ·rw[Ae k3]at hd;split at hd
  ·rename_i g;cases hd;refine⟨?_,.inr (List.prefix_refl _)⟩;show bg 3 B.e B.f r.p B.o _;unfold bg;refine .inr (.inr (.inr (.inl ⟨rfl, ?_⟩)));omega
  ·cases hd
 rw[Aa k3,Aa hk]at hd;by_cases k5:r.k=5
 ·rw[Ae k5]at hd;split at hd
  ·rename_i g;cases hd;refine⟨?_,.inr (List.prefix_append _ _)⟩;unfold Bt.b_ bg;simp only[Bt.more];refine .inr (.inr (.inr (.inr ⟨g.2.2, ?_⟩)));omega
  ·cases hd
 rw[Aa k5]at hd;by_cases k6:r.k=6
 ·rw[Ae k6]at hd;split at hd
  ·rename_i g;cases hd;refine⟨?_,.inr (List.prefix_append _ _)⟩;show bg 1 B.e 0 B.t B.o _;unfold bg;refine .inr (.inl ⟨rfl, ?_⟩);omega
  ·cases hd
 rw[Aa k6]at hd;split at hd
 ·rename_i g;cases hd;refine⟨?_,.inl rfl⟩;show bg 0 B.e 0 0 0 0;unfold bg;exact .inl ⟨rfl,rfl,by omega,by omega,rfl,rfl,rfl⟩
 ·cases hd
open Classical in
noncomputable def stepT(B:Bt)(r:Rec):Option Bt:=
 match f_ B r with
 |none=>none
 |some D=>if D.es.length<B.es.length∧¬B.Ok then none else some D
theorem A3{B D:Bt}{r:Rec}(h:stepT B r=some D):f_ B r=some D∧(D.es.length<B.es.length→B.Ok):=by
 unfold stepT at h;split at h
 ·cases h
 ·rename_i E hE;split at h
  ·cases h
  ·rename_i g;cases h;exact⟨hE,fun h1=>Classical.byContradiction fun h2=>g ⟨h1,h2⟩⟩
theorem qx{B:Bt}{r:Rec}(ok:B.Ok):stepT B r=f_ B r:=by
 unfold stepT;cases h:f_ B r with
 |none=>rfl
 |some D=>simp only;rw[Aa (fun g=>g.2 ok)]
theorem WI{B D:Bt}{r:Rec}(hs:B.b_)(hf:r.fault=0)(h:stepT B r=some D)(hD:D.Ok):B.Ok:=by
 obtain⟨h1,h2⟩:=A3 h;obtain⟨_,h3⟩:=pC hs hf h1;by_cases hl:D.es.length<B.es.length
 ·exact h2 hl
 ·have hp:B.es<+:D.es:=by
   rcases h3 with h3|h3
   ·rw[h3]at hl⊢;have:B.es=[]:=List.length_eq_zero_iff.1 (by simpa using hl);rw[this];exact List.prefix_refl _
   ·exact h3
  obtain⟨t,ht⟩:=hp;obtain⟨s,bu,hT⟩:=hD.told;have hlen:=hD.len;rw[←ht]at hT hlen;obtain⟨s0,hT0⟩:=hT.take B.es.length (by simp);rw[Ci]at hT0
  ·exact⟨hs,by simp at hlen;omega,s0,_,hT0⟩
  ·rfl
def At(S:List Bt)(r:Rec):Bt:=S.getD r.q.toNat Bt.zero
def put(S:List Bt)(r:Rec)(D:Bt):List Bt:=S.set r.q.toNat D
open Classical in
noncomputable def dr(S:List Bt):List Rec→Option (List Bt)×Int
 |[]=>if∀B∈S,B.Ok then(some S,0)else(none,3)
 |r::l=>if ¬r.fault=0 then(none,r.fault)else match stepT (At S r) r with
  |none=>(none,3)
  |some D=>dr (put S r D) l
noncomputable def kV(S:List Bt)(i:Nat):List Rec→Option (List Bt)×Nat×Int
 |[]=>(some S,0,0)
 |r::l=>if ¬r.fault=0 then(none,i,r.fault)else match ew (At S r) r with
  |(D,e)=>if e=0 then kV (put S r D) (i+1) l else(none,i,e)
theorem yB{r:Rec}(hf:r.fault=0):0≤r.q∧r.q≤3:=by
 unfold Rec.fault aE at hf;split at hf
 ·omega
 ·split at hf
  ·omega
  ·rename_i h2;have:=AD.1 h2;omega
theorem at_mem{S:List Bt}{r:Rec}(hl:S.length=4)(hf:r.fault=0):At S r∈S:=by
 have hq:=yB hf;have hi:r.q.toNat<S.length:=by omega
 unfold At;rw[Aw,Ai hi];exact BE hi
theorem rH{S:List Bt}{r:Rec}{D:Bt}:(put S r D).length=S.length:=List.length_set
theorem uX{P:Bt→Prop}{S:List Bt}{r:Rec}{D:Bt}(h:∀B∈S,P B)(hD:P D):∀B∈put S r D,P B:=fun B hB=>by
 rcases List.mem_or_eq_of_mem_set hB with h1|h1
 ·exact h B h1
 ·rw[h1];exact hD
theorem I3{P:Bt→Prop}{S:List Bt}{r:Rec}{D:Bt}(hl:S.length=4)(hf:r.fault=0)(h:∀B∈put S r D,P B):P D∧∀i,i≠r.q.toNat→∀hi:i<S.length,P S[i]:=by
 have hq:=yB hf;have hi:r.q.toNat<S.length:=by omega
 refine⟨h D (List.mem_set hi D),fun i fR hi'=>h _ ?_⟩;have:(put S r D)[i]'(by rw[rH];exact hi')=S[i]:=List.getElem_set_ne (fun e=>fR e.symm) _;rw[←this];exact BE _
theorem Na:∀(l:List Rec) (S S':List Bt) (e:Int),S.length=4→(∀B∈S,B.b_)→dr S l=(some S',e)→(∀B∈S,B.Ok)∧e=0
 |[],S,S',e,_,_,h=>by
  unfold dr at h;split at h
  ·rename_i g;exact⟨g,(AR h).2.symm⟩
  ·cases(AR h).1
 |r::l,S,S',e,hl,hs,h=>by
  unfold dr at h;split at h
  ·cases(AR h).1
  ·rename_i Ka;have hf:=AD.1 Ka;split at h
   ·cases(AR h).1
   ·rename_i D hD;have hA:=hs _ (at_mem hl hf);have hDs:=(pC hA hf (A3 hD).1).1;obtain⟨ih,he⟩:=Na l (put S r D) S' e (by rw[rH];exact hl) (uX hs hDs) h;obtain⟨hDo,ho⟩:=I3 hl hf ih;have DM:=WI hA hf hD hDo;refine⟨fun B hB=> ?_,he⟩;obtain⟨i,hi,rfl⟩:=List.getElem_of_mem hB;by_cases fR:i=r.q.toNat
    ·have:At S r=S[i]:=by
      unfold At;rw[Aw,←fR,Ai hi];rfl
     rw[←this];exact DM
    ·exact ho i fR hi
theorem I4:∀(l:List Rec) (S S':List Bt) (i j:Nat) (e:Int),S.length=4→(∀B∈S,B.Ok)→kV S i l=(some S',j,e)→dr S l=(some S',0)∧j=0∧e=0
 |[],S,S',i,j,e,_,fw,h=>by
  unfold kV at h;cases h;unfold dr;rw[Ae fw];exact⟨rfl,rfl,rfl⟩
 |r::l,S,S',i,j,e,hl,fw,h=>by
  unfold kV at h;split at h
  ·cases h
  ·rename_i Ka;have hf:=AD.1 Ka;have DM:=fw _ (at_mem hl hf);cases hd:cF (At S r) r with
   |none=>
    rw[A2 DM hf hd]at h;simp at h
   |some D=>
    by_cases hDo:D.Ok
    ·rw[fI DM hf hd hDo]at h;simp only[if_true]at h;have ih:=I4 l (put S r D) S' (i+1) j e (by rw[rH];exact hl) (uX fw hDo) h;unfold dr;rw[Aa Ka,qx DM,oE DM,hd];exact ih
    ·rw[ER DM hf hd hDo]at h;simp at h
theorem ES:∀(l:List Rec) (S:List Bt) (i j:Nat) (e:Int),S.length=4→(∀B∈S,B.Ok)→kV S i l=(none,j,e)→∃n,n<l.length∧j=i+n∧¬e=0∧(∀k,k≤n→∃S',dr S (l.take k)=(some S',0))∧∀k,n<k→(dr S (l.take k)).1=none∧(k=n+1→(dr S (l.take k)).2=e)
 |[],S,i,j,e,_,_,h=>by unfold kV at h;cases h
 |r::l,S,i,j,e,hl,fw,h=>by
  have qe:∃S',dr S ((r::l).take 0)=(some S',0):=⟨S,by simp only[List.take_zero];unfold dr;rw[Ae fw]⟩;have hz:∀k,k≤0→∃S',dr S ((r::l).take k)=(some S',0):=fun k hk=>by
   rw[Nat.le_zero.1 hk];exact qe
  unfold kV at h;split at h
  ·rename_i hf;cases h;refine⟨0,by simp,rfl,hf,hz,fun k hk=> ?_⟩;obtain⟨m,rfl⟩:∃m,k=m+1:=⟨k-1,by omega⟩;rw[List.take_succ_cons];unfold dr;rw[Ae hf];exact⟨rfl,fun _=>rfl⟩
  ·rename_i Ka;have hf:=AD.1 Ka;have DM:=fw _ (at_mem hl hf);cases hd:cF (At S r) r with
   |none=>
    rw[A2 DM hf hd]at h;simp at h;obtain⟨rfl,rfl⟩:=h;refine⟨0,by simp,rfl,by decide,hz,fun k hk=> ?_⟩;obtain⟨m,rfl⟩:∃m,k=m+1:=⟨k-1,by omega⟩;rw[List.take_succ_cons];unfold dr;rw[Aa Ka,qx DM,oE DM,hd];exact⟨rfl,fun _=>rfl⟩
   |some D=>
    by_cases hDo:D.Ok
    ·rw[fI DM hf hd hDo]at h;simp only[if_true]at h;obtain⟨n,h1,h2,h3,h4,h5⟩:=ES l (put S r D) (i+1) j e (by rw[rH];exact hl) (uX fw hDo) h;have YS:∀m,dr S ((r::l).take (m+1))=dr (put S r D) (l.take m):=by
      intro m;rw[List.take_succ_cons]
      conv=>lhs;unfold dr
      rw[Aa Ka,qx DM,oE DM,hd]
     refine⟨n+1,by simp;omega,by omega,h3,fun k hk=> ?_,fun k hk=> ?_⟩
     ·rcases Cl k with rfl|hp
      ·exact qe
      ·obtain⟨m,rfl⟩:∃m,k=m+1:=⟨k-1,by omega⟩;rw[YS];exact h4 m (by omega)
     ·obtain⟨m,rfl⟩:∃m,k=m+1:=⟨k-1,by omega⟩;rw[YS];exact⟨(h5 m (by omega)).1,fun kg=>(h5 m (by omega)).2 (by omega)⟩
    ·rw[ER DM hf hd hDo]at h;simp at h;obtain⟨rfl,rfl⟩:=h;have acB:∀m,(dr S ((r::l).take (m+1))).1=none:=by
      intro m;cases hc:(dr S ((r::l).take (m+1))).1 with
      |none=>rfl
      |some S'=>
       exfalso;have hS:=fw;have he:dr S ((r::l).take (m+1))=(some S',(dr S ((r::l).take (m+1))).2):=by rw[←hc]
       rw[List.take_succ_cons]at he;have hss:∀B∈S,B.b_:=fun B hB=>(fw B hB).cG
       conv at he=>lhs;unfold dr
       rw[Aa Ka,qx DM,oE DM,hd]at he;simp only at he;have hDs:=(pC DM.cG hf (by rw[oE DM];exact hd)).1;have:=(Na _ _ _ _ (by rw[rH];exact hl) (uX hss hDs) he).1;exact hDo (I3 hl hf this).1
     refine⟨0,by simp,rfl,by decide,hz,fun k hk=> ?_⟩;obtain⟨m,rfl⟩:∃m,k=m+1:=⟨k-1,by omega⟩;refine⟨acB m,fun kg=> ?_⟩;obtain rfl:m=0:=by omega
     have:=acB 0;rw[List.take_succ_cons,List.take_zero]at this⊢
     conv=>lhs;unfold dr
     conv at this=>lhs;unfold dr
     rw[Aa Ka,qx DM,oE DM,hd]at this⊢;simp only at this⊢;unfold dr at this⊢;split at this
     ·cases this
     ·rename_i g;rw[Aa g]
theorem La(B:Bt)(a:tB)(c:Nat)(ep fr:Int)(w:tA)(hb:jg w B a c)(ok:B.Ok)(h1:1≤ep∧ep≤1048576)(h2:0≤fr∧fr≤4)(h5:¬(B.r=1∨B.r=2∨B.r=3))(h7:¬ep≤B.e):cA 132 #[cg B.r B.e B.f B.t B.o a B.es.length c,iV ep,iV fr] w (rB (.tuple #[cg 4 ep fr 0 0 none 0 0,iV 0]) w):=by
 have HE:=fun w=>kP ep w;have HN:=fun w=>gI fr w;have HS:=fun w=>mL B.r B.e B.f B.t B.o a B.es.length c w;rw[As h1]at HE;rw[As h2]at HN;rw[Ak (show ¬(B.r=1∨B.r=2) by omega)]at HS;have H1:=ai (And.intro h1 h2);have h4:¬B.r=3:=by omega
 have h6:¬(B.r=4∧B.e=ep∧B.f=fr):=by omega
 have H3:Hid (¬(B.r=1∨B.r=2)):=ai (by omega);have H5:Hid (¬(B.r=1∨B.r=2∨B.r=3)):=ai h5;clear h1 h2 h5;go_enter Tryz.func132,Tryz.ntmps132
 go_upto_region 1 with fail
 obtain⟨W1,hW1,M1⟩:=Mb.made w B a c;rw[←hW1];clear hW1;have HC:=gz B a c W1 (hb.next M1.dp) ok;obtain⟨x0,x1,x2,x3,x4,x5⟩:=M1.b.cells;have HM:=ai M1;clear M1;have e4:(B.r==3)=false:=by simpa using h4
 go_upto_region 7 with(first|(go_at_call 142;refine HC.mono ?_;rintro x W2 ⟨rfl,b2⟩;clear HC x0 x1 x2 x3 x4 x5;have M2:=(aa HM).next b2;obtain⟨x0,x1,x2,x3,x4,x5⟩:=M2.b.cells;have Wi:=ai M2;clear M2 b2 HM)|(go_at_call 144;refine(HE _).mono ?_;rintro x w3 ⟨rfl,hw3⟩;subst w3)|(go_at_call 152;refine(HN _).mono ?_;rintro x w3 ⟨rfl,hw3⟩;subst w3)|(go_at_call 168;refine(HS _).mono ?_;rintro x W3 ⟨rfl,b3⟩;have M3:=(aa Wi).next b3;clear Wi x0 x1 x2 x3 x4 x5;obtain⟨x0,x1,x2,x3,x4,x5⟩:=M3.b.cells;have Wi:=ai M3;clear M3 b3))
 clear e4 h4 HE HN;have h6':((B.r==4)=false)∨((B.r==4)=true∧(B.e==ep)=false):=by
  by_cases g1:B.r=4
  ·exact .inr ⟨by simpa using g1,by simp;omega⟩
  ·exact .inl (by simpa using g1)
 clear h6;have zf:=(aa Wi).z.free;obtain⟨z0,z1,z2,z3,z4,z5⟩:=(aa Wi).z.cells;rcases h6' with g1|⟨g1,g2⟩
 all_goals
  go_wp2;obtain⟨W4,hW4,d4,b4,_⟩:=dP (aa Wi).z (aa Wi).dp (show w.heap.size≤w.heap.size+1 by omega) 4 ep fr 0 0 none 0 0;rw[←hW4];exact Ao (KU d4 rfl rfl) rfl ⟨rfl,b4⟩
def DN(w:tA)(oZ v:tK):Prop:=∀g,v.ownBlock=some g→oZ.ownBlock=some g∨w.heap.size≤g
theorem DN.lower{w w1:tA}{oZ v:tK}(h:DN w1 oZ v)(hs:w.heap.size≤w1.heap.size):DN w oZ v:=fun g hg=>(h g hg).imp id (fun h=>AN hs h)
def A4:Value→Nat
 | .slice _ n _=>n
 |_=>0
def fP(w w':tA)(base:Nat)(oZ:tK)(x:Ending)(o:Option Bt):Prop:=
 match o with
 |none=>x= .returned (.tuple #[cg 0 0 0 0 0 none 0 0,.bool false])
 |some D=>∃a c,x= .returned (.tuple #[cg D.r D.e D.f D.t D.o a D.es.length c,.bool true])∧w'.ownsRow base 56 6 (.slice a D.es.length c) D.es.length ((au D.es).map (Value.int .i64))∧DN w oZ (.slice a D.es.length c)∧(D.es.length<A4 oZ→bZ w w')
theorem fP.fresh{w w':tA}{base:Nat}{oZ:tK}{x:Ending}{o:Option Bt}(h:IX w' w.heap.size x o)(hb:base≤w.heap.size)(dp:bZ w w'):fP w w' base oZ x o:=by
 cases o with
 |none=>exact h
 |some D=>
  obtain⟨a,c,h1,h2⟩:=h;exact⟨a,c,h1,rC h2 hb,fun g hg=> .inr (h2.lt g hg).1,fun _=>dp⟩
theorem fP.lie{w w':tA}{base:Nat}{oZ:tK}{r e f t o:Int}{a:tB}{n c:Nat}{D:Bt}(h:IX w' base (.returned (.tuple #[cg r e f t o a n c,.bool true])) (some D))(hl:DN w oZ (.slice a n c))(hn:A4 oZ≤n):fP w w' base oZ (.returned (.tuple #[cg r e f t o a n c,.bool true])) (some D):=by
 obtain⟨a',c',h1,h2⟩:=h;have h3:=h1;simp at h3;obtain⟨_,_,_,_,_,rfl,pS,rfl⟩:=h3;refine⟨a,c,h1,h2, ?_,fun h=>by omega⟩;rw[←pS];exact hl
theorem xG{B D:Bt}{ep fr er:Int}(ok:B.bare.Ok)(h:aP B.bare ep fr=(D,er)):(¬er=0∧D.es=[])∨(D=B.bare∧er=0∧D.e=B.e)∨(D=⟨4,ep,fr,0,0,[]⟩∧er=0∧(1≤ep∧ep≤1048576)∧(0≤fr∧fr≤4)∧¬(B.r=1∨B.r=2∨B.r=3)∧¬ep≤B.e):=by
 unfold aP at h;rw[Aa (fun g=>g ok)]at h;by_cases g0:¬((1≤ep∧ep≤1048576)∧(0≤fr∧fr≤4))
 ·rw[Ae g0]at h;obtain⟨rfl,rfl⟩:=AR h;exact .inl ⟨by decide,rfl⟩
 rw[Aa g0]at h;have Z7:=AD.1 g0;by_cases g1:B.r=1∨B.r=2∨B.r=3
 ·rw[Ae (show B.bare.r=1∨B.bare.r=2∨B.bare.r=3 from g1)]at h;obtain⟨rfl,rfl⟩:=AR h;exact .inl ⟨by decide,rfl⟩
 rw[Aa (show ¬(B.bare.r=1∨B.bare.r=2∨B.bare.r=3) from g1)]at h;by_cases g2:B.r=4∧B.e=ep∧B.f=fr
 ·rw[Ae (show B.bare.r=4∧B.bare.e=ep∧B.bare.f=fr from g2)]at h;obtain⟨rfl,rfl⟩:=AR h;exact .inr (.inl ⟨rfl,rfl,rfl⟩)
 rw[Aa (show ¬(B.bare.r=4∧B.bare.e=ep∧B.bare.f=fr) from g2)]at h;by_cases g3:ep≤B.e
 ·rw[Ae (show ep≤B.bare.e from g3)]at h;obtain⟨rfl,rfl⟩:=AR h;exact .inl ⟨by decide,rfl⟩
 rw[Aa (show ¬ep≤B.bare.e from g3)]at h;obtain⟨rfl,rfl⟩:=AR h;exact .inr (.inr ⟨rfl,rfl,Z7.1,Z7.2,g1,g3⟩)
theorem Lb(B:Bt)(a:tB)(c:Nat)(r:Rec)(w:tA)(base:Nat)(bU:w.ownsRow base 56 6 (.slice a B.es.length c) B.es.length ((au B.es).map (Value.int .i64)))(hs:B.b_):
  cA 185 #[cg B.r B.e B.f B.t B.o a B.es.length c,mQ r] w fun x w'=>fP w w' base (.slice a B.es.length c) x (kD B r)∧bZ w w':=by
 obtain⟨D,er,hD⟩:∃D er,aP B.bare r.e r.p=(D,er):=⟨_,_,rfl⟩;have ok:=I2 hs;have YT:D.es=[]:=by
  rcases xG ok hD with h|⟨rfl,h,_⟩|⟨rfl,_⟩
  ·exact h.2
  ·rfl
  ·rfl
 have HB:∀w,cA 132 #[cg B.r B.e B.f B.t B.o none 0 0,iV r.e,iV r.p] w fun x w'=>∃a' c',x= .returned (.tuple #[cg D.r D.e D.f D.t D.o a' 0 c',iV er])∧(er=0→¬D.e=B.e→a'=none∧c'=0)∧bZ w w':=fun w=>by
  rcases xG ok hD with⟨h,_⟩|⟨rfl,h0,h⟩|⟨rfl,h0,g1,g2,g3,g4⟩
  ·refine(sZ B.bare none 0 r.e r.p w ⟨RowK.nil _ _ _,Ac _,fun _=>rfl⟩).mono fun x w' ⟨y,B',er',h1,h2,h3,h4⟩=> ?_;rw[hD]at h2;obtain⟨rfl,rfl⟩:=AR h2;obtain⟨a',c',rfl,i3,_⟩:=h3;rw[YT]at h1;exact⟨a',c',h1,fun h'=>absurd h' h,h4⟩
  ·refine(sZ B.bare none 0 r.e r.p w ⟨RowK.nil _ _ _,Ac _,fun _=>rfl⟩).mono fun x w' ⟨y,B',er',h1,h2,h3,h4⟩=> ?_;rw[hD]at h2;obtain⟨rfl,rfl⟩:=AR h2;obtain⟨a',c',rfl,i3,_⟩:=h3;rw[YT]at h1;exact⟨a',c',h1,fun _ h'=>absurd rfl h',h4⟩
  ·refine(La B.bare none 0 r.e r.p w ⟨RowK.nil _ _ _,Ac _,fun _=>rfl⟩ ok g1 g2 g3 g4).mono fun x w' ⟨h1,h4⟩=> ?_;rw[h0];exact⟨none,0,h1,fun _ _=>⟨rfl,rfl⟩,h4⟩
 have hT:kD B r=if er=0 then some (if D.e=B.e then⟨D.r,D.e,D.f,D.t,D.o,B.es⟩else D)else none:=by unfold kD;rw[hD]
 have HT:=ai hT;have HES:=ai YT;clear hD YT hT ok hs;go_enter Tryz.func185,Tryz.ntmps185
 go_upto_region 1 with fail
 obtain⟨W1,hW1,M1⟩:=Mr.made w B a c r;rw[←hW1];clear hW1;obtain⟨W2,hW2,G2⟩:=Bg.made M1 bU;obtain⟨x0,x1,x2,x3,x4,x5⟩:=M1.b.cells;have xf:=M1.b.free;have HW2:=ai hW2;have HG2:=ai G2;clear hW2 G2 M1 bU
 go_upto_region 3 with fail
 rw[←aa HW2];clear HW2 x0 x1 x2 x3 x4 x5 xf;have hc:=HB W2;obtain⟨x0,x1,x2,x3,x4,x5⟩:=(aa HG2).b.cells;obtain⟨r0,r1,r2,r3,r4,r5,r6,r7,r8,r9⟩:=(aa HG2).rc.cells;clear HB
 go_upto_region 4 with(go_at_call 132;refine hc.mono ?_;rintro x W3 ⟨a',c',rfl,n3,b3⟩;clear hc x0 x1 x2 x3 x4 x5 r0 r1 r2 r3 r4 r5 r6 r7 r8 r9;have Z8:=ai n3;have WJ:=ai ((aa HG2).next b3);clear n3 b3)
 obtain⟨W4,hW4,d4,b4⟩:∃W4,W4=W3.alloc (.cells (dF D.r D.e D.f D.t D.o a' 0 c') 43)∧aG W4 W3.heap.size D.r D.e D.f D.t D.o a' 0 c'∧bZ W3 W4:=⟨_,rfl,aG.new _ _ _ _ _ _ _ _ _,aC _ _⟩;rw[←hW4];have G4:=(aa WJ).next b4;have aN:w.heap.size+2<W3.heap.size:=(aa WJ).z.lt;have Nb:=ai G4;have MG:=ai d4;clear hW4 WJ HG2 G4;by_cases h0:er=0
 case neg=>
  have e1:(er !=0)=true:=by simp[h0]
  have HR:kD B r=none:=by rw[aa HT,Aa h0]
  have HRV:=ai HR;obtain⟨z0,z1,z2,z3,z4,z5⟩:=(aa Nb).z.cells;have zf:=(aa Nb).z.free;clear h0 HR b4 d4;go_wp2;obtain⟨W5,hW5,d5,b5,_⟩:=dP (aa Nb).z (aa Nb).dp (show w.heap.size≤w.heap.size+2 by omega) 0 0 0 0 0 none 0 0;rw[←hW5];refine Ao (wE d5 rfl rfl) rfl ⟨?_,b5⟩;rw[aa HRV];exact rfl
 case pos=>
 have e1:(er !=0)=false:=by simp[h0]
 have HR:kD B r=some (if D.e=B.e then⟨D.r,D.e,D.f,D.t,D.o,B.es⟩else D):=by rw[aa HT,Ae h0]
 have HNN:Hid (¬D.e=B.e→a'=none∧c'=0):=ai (aa Z8 h0);have HRV:=ai HR;clear h0 HR b4 Z8;obtain⟨x0,x1,x2,x3,x4,x5⟩:=(aa Nb).b.cells;obtain⟨k0,k1,k2,k3,k4,k5⟩:=d4.cells;have kf:=d4.free;clear d4;by_cases h1:D.e=B.e
 case neg=>
  have e2:(D.e==B.e)=false:=by simp[h1]
  obtain⟨rfl,rfl⟩:=aa HNN h1;have HD:Hid (kD B r=some D):=ai (by rw[aa HRV,Aa h1]);obtain⟨z0,z1,z2,z3,z4,z5⟩:=(aa Nb).z.cells;have zf:=(aa Nb).z.free;clear h1 HNN HRV;go_wp2;obtain⟨W5,hW5,d5,b5,t5⟩:=dP (aa Nb).z (aa Nb).dp (show w.heap.size≤w.heap.size+2 by omega) D.r D.e D.f D.t D.o none 0 0;rw[←hW5];refine Ao (wE d5 rfl rfl) rfl ⟨?_,b5⟩;rw[aa HD];refine⟨none,0, ?_, ?_,(fun g hg=>by cases hg),fun _=>b5⟩
  ·rw[aa HES];rfl
  ·rw[aa HES];exact BA _ _ _ _
 case pos=>
 have e2:(D.e==B.e)=true:=by simp[h1]
 have HD:Hid (kD B r=some ⟨D.r,D.e,D.f,D.t,D.o,B.es⟩):=ai (by rw[aa HRV,Ae h1]);clear h1 HNN HRV
 go_upto_region 8 with fail
 have aiE:=(aa MG).lt;have t5:=aB.set W3.heap.size 5 W4 (.slice a B.es.length c);obtain⟨W5,hW5,d5⟩:∃W5,W5=W4.setCell ⟨W3.heap.size,5,none⟩ (.slice a B.es.length c)∧aG W5 W3.heap.size D.r D.e D.f D.t D.o a B.es.length c:=by
  refine⟨_,rfl, ?_⟩;have:=aa MG;unfold aG at this⊢;rw[cL this];simp
 rw[←hW5]at t5⊢;have z5:=(aa Nb).z.dR t5 (by omega);have o5:=t5.owns (aa Nb).own (aX (aa Nb).own (aa MG) (by decide));have b5:=t5.under (aa Nb).dp (by omega);clear hW5 x0 x1 x2 x3 x4 x5 k0 k1 k2 k3 k4 k5 kf e1 e2;obtain⟨k0,k1,k2,k3,k4,k5⟩:=d5.cells;obtain⟨z0,z1,z2,z3,z4,z6⟩:=z5.cells;have zf:=z5.free;have Z5:=ai z5;have O5:=ai o5;have B5:=ai b5;clear d5 z5 o5 b5 t5 MG Nb;go_wp2;obtain⟨W6,hW6,d6,b6,t6⟩:=dP (aa Z5) (aa B5) (show w.heap.size≤w.heap.size+2 by omega) D.r D.e D.f D.t D.o a B.es.length c;rw[←hW6];refine Ao (wE d6 rfl rfl) rfl ⟨?_,b6⟩;rw[aa HD];exact⟨a,c,rfl,t6.owns (aa O5) (aX (aa O5) (aa Z5) (by decide)),fun g hg=> .inl hg,fun _=>b6⟩
theorem Nc{W:tA}{R:Nat}{r e f t o:Int}{a:tB}{n c:Nat}{ok:Bool}{tmps:tR}(d:aG W R r e f t o a n c)(t4:tmps[6]? =some (.pointer (some ⟨R,0,none⟩)))(t5:tmps[7]? =some (.bool ok)):
  (results Tryz.f200 tmps).run Tryz.prog W= .ok (.tuple #[cg r e f t o a n c,.bool ok]) W:=by
 simp[results,Tryz.results200,t4,t5,asAddr,eE d]
def gi(o:Option Bt):Bt:=o.getD Bt.zero
theorem Mr.grown{w wx wy:tA}{B:Bt}{a:tB}{c:Nat}{r:Rec}{row:Option Nat}(h:Mr w wx B a c r)(g:wx.grownBy wy row)(hr:∀k,row=some k→k<w.heap.size):aG wy (w.heap.size+2) 0 0 0 0 0 none 0 0:=
 (g.block _ h.z.lt (fun e=>by have:=hr _ e.symm;omega)).trans h.z
def Lc(B:Bt)(r:Rec)(role:Int)(o:Option Bt):Option Bt:=if B.r=role∧B.e=r.e then o else none
theorem pD{W:tA}{R:Nat}{r e f t o:Int}{a:tB}{n c:Nat}{ok:Bool}{tmps:tR}(d:aG W R r e f t o a n c)(t4:tmps[5]? =some (.pointer (some ⟨R,0,none⟩)))(t5:tmps[6]? =some (.bool ok)):
  (results Tryz.f199 tmps).run Tryz.prog W= .ok (.tuple #[cg r e f t o a n c,.bool ok]) W:=by
 simp[results,Tryz.results199,t4,t5,asAddr,eE d]
def gR(r:Rec)(o:Option Bt):Option Bt:=if r.p=0 then o else none
theorem I5{w:tA}{B clock:Nat}{es:Array MapEntry}{z:Int}{v:tK}(hb:w.heap[B]? =some (.map es clock))(hf:Instr.findNow (.int .i64) (iV z) es.toList 0=some none):
  (Instr.mapUpdate 237 (.map (some B)) (iV z) v).run Tryz.prog w= .ok () {w with heap:=w.heap.setIfInBounds B (.map (es.push ⟨iV z,v,clock⟩) (clock+1))}:=by
 have hc:(Instr.checkKey false 10000 3 (iV z)).run Tryz.prog w= .ok () w:=AX (k:=iV z) Tryz.underlying3 (by simp[MapKept.IsKey]) false 9999;simp[Instr.mapUpdate,run_underlying Tryz.underlying237,MapKept.run_getObj_map hb,hc,MapKept.run_findKey Tryz.underlying3 hf,MapKept.run_setObj_map _ hb,Result.andThen]
theorem kE{ops:tP}{rest:List Oper}{o:Oper}{a:Act}{Q:tI}{w:tA}{B clock:Nat}{es:Array MapEntry}{z:Int}{v:tK}(m k x:tU)(ho:o.op= .insert 237 m k x)(hw:Region.wanted o (yielded ops a.tmps)=true)
  (hm:a.eval m= .map (some B)) (hk:a.eval k=iV z) (hx:a.eval x=v) (hb:w.heap[B]? =some (.map es clock)) (hf:Instr.findNow (.int .i64) (iV z) es.toList 0=some none)
  (h:∀w',w'.heap[B]? =some (.map (es.push ⟨iV z,v,clock⟩) (clock+1))→aB B w w'→wpList Tryz.prog ops Q rest (a.put o.dst undef) w'):wpList Tryz.prog ops Q (o::rest) a w:=
 Bz fun K hK=>by
  rw[Ae hw];have sV:=I5 (v:=v) hb hf;have hs:=MapKept.heap_set (o':= .map (es.push ⟨iV z,v,clock⟩) (clock+1)) hb;have:=hK _ _ (h {w with heap:=w.heap.setIfInBounds B (.map (es.push ⟨iV z,v,clock⟩) (clock+1))} hs.1 ⟨rfl,rfl,rfl,by simp,fun r hr=>hs.2 r hr⟩);unfold Oper.wp;simp only[execOp,ho,hm,hk,hx];simp[sV,Result.andThen];exact this
theorem WK{ops:tP}{rest:List Oper}{o:Oper}{a:Act}{Q:tI}{w:tA}(ho:o.op= .makeMap 237 none)(hw:Region.wanted o (yielded ops a.tmps)=true)
  (h:∀w',w'.heap[w.heap.size]? =some (.map #[] 0)→bZ w w'→wpList Tryz.prog ops Q rest (a.put o.dst (.map (some w.heap.size))) w'):wpList Tryz.prog ops Q (o::rest) a w:=
 Bz fun K hK=>by
  rw[Ae hw];have:=hK _ _ (h _ (AP w _) (aC _ _));unfold Oper.wp;simp only[execOp,ho];simp[run_makeMap_plain,Result.andThen];exact this
def DO(w:tA)(v:tK)(role:Int)(N:Nat):Prop:=∃P Q,v= .func (.func 200) #[] #[.pointer (some ⟨P,0,none⟩),.pointer (some ⟨Q,0,none⟩)]∧w.cell? ⟨P,0,none⟩=some (iV role)∧w.cell? ⟨Q,0,none⟩=some (.func (.func N) #[] #[])
def Ps(w:tA)(v:tK)(N:Nat):Prop:=∃Q,v= .func (.func 199) #[] #[.pointer (some ⟨Q,0,none⟩)]∧w.cell? ⟨Q,0,none⟩=some (.func (.func N) #[] #[])
def Gj(w:tA)(v:tK)(role:Int)(N:Nat):Prop:=∃Q u,v= .func (.func 199) #[] #[.pointer (some ⟨Q,0,none⟩)]∧w.cell? ⟨Q,0,none⟩=some u∧DO w u role N
theorem DO.keep{w w':tA}{v:tK}{role:Int}{N:Nat}(h:DO w v role N)(k:∀X x,w.cell? ⟨X,0,none⟩=some x→w'.cell? ⟨X,0,none⟩=some x):DO w' v role N:=by
 obtain⟨P,Q,rfl,h1,h2⟩:=h;exact⟨P,Q,rfl,k _ _ h1,k _ _ h2⟩
theorem Ps.keep{w w':tA}{v:tK}{N:Nat}(h:Ps w v N)(k:∀X x,w.cell? ⟨X,0,none⟩=some x→w'.cell? ⟨X,0,none⟩=some x):Ps w' v N:=by
 obtain⟨Q,rfl,h2⟩:=h;exact⟨Q,rfl,k _ _ h2⟩
theorem Gj.keep{w w':tA}{v:tK}{role:Int}{N:Nat}(h:Gj w v role N)(k:∀X x,w.cell? ⟨X,0,none⟩=some x→w'.cell? ⟨X,0,none⟩=some x):Gj w' v role N:=by
 obtain⟨Q,u,rfl,h1,h2⟩:=h;exact⟨Q,u,rfl,k _ _ h1,h2.keep k⟩
theorem aH{w w':tA}(b:bZ w w'):∀X x,w.cell? ⟨X,0,none⟩=some x→w'.cell? ⟨X,0,none⟩=some x:=
 fun X _ h=>(b.cell (p:=⟨X,0,none⟩) (Cv w _ h)).trans h
theorem bV{w w':tA}{M clock:Nat}{es:Array MapEntry}(t:aB M w w')(h:w.heap[M]? =some (.map es clock)):∀X x,w.cell? ⟨X,0,none⟩=some x→w'.cell? ⟨X,0,none⟩=some x:=by
 intro X _ hx;have fR:X≠M:=by
  rintro rfl;simp[World.cell?,h]at hx
 exact(Cq (a:=⟨X,0,none⟩) (t.block X fR)).trans hx
theorem pE(w:tA)(v:tK)(t:tZ):(w.alloc (.cells #[v] t)).cell? ⟨w.heap.size,0,none⟩=some v:=by
 have:=AP w (.cells #[v] t);unfold World.cell?;rw[this];rfl
theorem Ld(w:tA)(o:Obj)(v:tK)(t:tZ):((w.alloc o).alloc (.cells #[v] t)).cell? ⟨w.heap.size+1,0,none⟩=some v:=by
 have h:=pE (w.alloc o) v t;have e:(w.alloc o).heap.size=w.heap.size+1:=by simp
 rw[e]at h;exact h
theorem Lf:∀(fn:Fn) (first cap:tR) (w:tA),(Instr.makeFunc fn first cap).run Tryz.prog w= .ok (.func fn first cap) w:=fun _ _ _ _=>rfl
theorem A5(role:Int)(N:Nat)(w:tA):cA 182 #[iV role,.func (.func N) #[] #[]] w fun e w'=>∃v,e= .returned v∧DO w' v role N∧bZ w w':=by
 have hmf:=Lf;go_enter Tryz.func182,Tryz.ntmps182;go_wp2;go_ret;refine⟨_,rfl,⟨w.heap.size,w.heap.size+1,rfl, ?_, ?_⟩, ?_⟩
 ·exact aH (aC _ _) _ _ (pE _ _ _)
 ·exact Ld _ _ _ _
 ·exact Below.next (aC _ _) (aC _ _)
theorem Pt(N:Nat)(w:tA):cA 180 #[.func (.func N) #[] #[]] w fun e w'=>∃v,e= .returned v∧Ps w' v N∧bZ w w':=by
 have hmf:=Lf;go_enter Tryz.func180,Tryz.ntmps180;go_wp2;go_ret;refine⟨_,rfl,⟨w.heap.size,rfl, ?_⟩, ?_⟩
 ·exact pE _ _ _
 ·exact aC _ _
theorem uY(v:tK)(role:Int)(N:Nat)(w:tA)(h:DO w v role N):cA 180 #[v] w fun e w'=>∃v,e= .returned v∧Gj w' v role N∧bZ w w':=by
 have hmf:=Lf;obtain⟨P,Q,rfl,h1,h2⟩:=h;have H:Hid (∀o,DO (w.alloc o) (.func (.func 200) #[] #[.pointer (some ⟨P,0,none⟩),.pointer (some ⟨Q,0,none⟩)]) role N):=ai fun o=>DO.keep ⟨P,Q,rfl,h1,h2⟩ (aH (aC w o));clear h1 h2;go_enter Tryz.func180,Tryz.ntmps180;go_wp2;go_ret;refine⟨_,rfl,⟨w.heap.size,_,rfl, ?_,aa H _⟩, ?_⟩
 ·exact pE _ _ _
 ·exact aC _ _
structure Table(w:tA)(M:Nat)(v1 v2 v3 v5 v6 v7:tK):Prop where
 pV:w.heap[M]? =some (.map #[⟨iV 1,v1,0⟩,⟨iV 2,v2,1⟩,⟨iV 3,v3,2⟩,⟨iV 4,.func (.func 185) #[] #[],3⟩,⟨iV 5,v5,4⟩,⟨iV 6,v6,5⟩,⟨iV 7,v7,6⟩] 7)
 d1:Ps w v1 181
 d2:Gj w v2 1 183
 d3:DO w v3 1 184
 d5:Gj w v5 4 183
 d6:Gj w v6 4 186
 d7:Gj w v7 3 187
structure Tb(w wx:tA)(es:Array MapEntry)(clock:Nat):Prop where
 pV:wx.heap[w.heap.size]? =some (.map es clock)
 dp:bZ w wx
theorem Tb.next{w wx wy:tA}{es:Array MapEntry}{clock:Nat}(h:Tb w wx es clock)(b:bZ wx wy):Tb w wy es clock:=⟨(b.block _ (cI h.pV)).trans h.pV,Below.next h.dp b⟩
theorem Pu(w:tA):cA 158 #[] w fun e w'=>∃v1 v2 v3 v5 v6 v7,e= .returned (.map (some w.heap.size))∧Table w' w.heap.size v1 v2 v3 v5 v6 v7∧bZ w w':=by
 go_enter Tryz.func158,Tryz.ntmps158
 go_wp2_with (first
  |(refine WK rfl rfl ?_;intro W0 m0 b0;have T0:=ai (Tb.mk (w:=w) m0 b0);clear b0 m0)
  |(go_at_call 180;refine(Pt 181 _).mono ?_;rintro _ W1 ⟨v1,rfl,dv1,b1⟩;have T1:=ai ((aa T0).next b1);have sb:=ai dv1;clear dv1 b1 T0)
  |(refine kE (es:= #[]) (clock:=0) (z:=1) (v:=v1) _ _ _ rfl rfl rfl rfl rfl (aa T1).pV rfl ?_;intro W2 m2 t2;replace sb:=ai ((aa sb).keep (bV t2 (aa T1).pV));have T2:=ai (Tb.mk (w:=w) m2 (t2.under (aa T1).dp (Ac _)));clear m2 t2 T1)
  |(go_at_call 182;refine(A5 1 183 _).mono ?_;rintro _ W3 ⟨u2,rfl,du2,b3⟩;have T3:=ai ((aa T2).next b3);have Du2:=ai du2;replace sb:=ai ((aa sb).keep (aH b3));clear du2 b3 T2)
  |(go_at_call 180;refine(uY u2 1 183 _ (aa Du2)).mono ?_;rintro _ W4 ⟨v2,rfl,dv2,b4⟩;have T4:=ai ((aa T3).next b4);have wF:=ai dv2;replace sb:=ai ((aa sb).keep (aH b4));clear dv2 b4 T3 Du2)
  |(refine kE (es:= #[(⟨iV 1,v1,0⟩:tf)]) (clock:=1) (z:=2) (v:=v2) _ _ _ rfl rfl rfl rfl rfl (aa T4).pV rfl ?_;intro W5 m5 t5;replace sb:=ai ((aa sb).keep (bV t5 (aa T4).pV));replace wF:=ai ((aa wF).keep (bV t5 (aa T4).pV));have T5:=ai (Tb.mk (w:=w) m5 (t5.under (aa T4).dp (Ac _)));clear m5 t5 T4)
  |(go_at_call 182;refine(A5 1 184 _).mono ?_;rintro _ W6 ⟨v3,rfl,dv3,b6⟩;have T6:=ai ((aa T5).next b6);have A6:=ai dv3;replace sb:=ai ((aa sb).keep (aH b6));replace wF:=ai ((aa wF).keep (aH b6));clear dv3 b6 T5)
  |(refine kE (es:= #[(⟨iV 1,v1,0⟩:tf),(⟨iV 2,v2,1⟩:tf)]) (clock:=2) (z:=3) (v:=v3) _ _ _ rfl rfl rfl rfl rfl (aa T6).pV rfl ?_;intro W7 m7 t7;replace sb:=ai ((aa sb).keep (bV t7 (aa T6).pV));replace wF:=ai ((aa wF).keep (bV t7 (aa T6).pV));replace A6:=ai ((aa A6).keep (bV t7 (aa T6).pV));have T7:=ai (Tb.mk (w:=w) m7 (t7.under (aa T6).dp (Ac _)));clear m7 t7 T6)
  |(refine kE (es:= #[(⟨iV 1,v1,0⟩:tf),(⟨iV 2,v2,1⟩:tf),(⟨iV 3,v3,2⟩:tf)]) (clock:=3) (z:=4) (v:=(.func (.func 185) #[] #[])) _ _ _ rfl rfl rfl rfl rfl (aa T7).pV rfl ?_;intro W8 m8 t8;replace sb:=ai ((aa sb).keep (bV t8 (aa T7).pV));replace wF:=ai ((aa wF).keep (bV t8 (aa T7).pV));replace A6:=ai ((aa A6).keep (bV t8 (aa T7).pV));have T8:=ai (Tb.mk (w:=w) m8 (t8.under (aa T7).dp (Ac _)));clear m8 t8 T7)
  |(go_at_call 182;refine(A5 4 183 _).mono ?_;rintro _ W9 ⟨u5,rfl,du5,b9⟩;have T9:=ai ((aa T8).next b9);have Du5:=ai du5;replace sb:=ai ((aa sb).keep (aH b9));replace wF:=ai ((aa wF).keep (aH b9));replace A6:=ai ((aa A6).keep (aH b9));clear du5 b9 T8)
  |(go_at_call 180;refine(uY u5 4 183 _ (aa Du5)).mono ?_;rintro _ W10 ⟨v5,rfl,dv5,b10⟩;have Z9:=ai ((aa T9).next b10);have Lg:=ai dv5;replace sb:=ai ((aa sb).keep (aH b10));replace wF:=ai ((aa wF).keep (aH b10));replace A6:=ai ((aa A6).keep (aH b10));clear dv5 b10 T9 Du5)
  |(refine kE (es:= #[(⟨iV 1,v1,0⟩:tf),(⟨iV 2,v2,1⟩:tf),(⟨iV 3,v3,2⟩:tf),(⟨iV 4,(.func (.func 185) #[] #[]),3⟩:tf)]) (clock:=4) (z:=5) (v:=v5) _ _ _ rfl rfl rfl rfl rfl (aa Z9).pV rfl ?_;intro W11 m11 t11;replace sb:=ai ((aa sb).keep (bV t11 (aa Z9).pV));replace wF:=ai ((aa wF).keep (bV t11 (aa Z9).pV));replace A6:=ai ((aa A6).keep (bV t11 (aa Z9).pV));replace Lg:=ai ((aa Lg).keep (bV t11 (aa Z9).pV));have T11:=ai (Tb.mk (w:=w) m11 (t11.under (aa Z9).dp (Ac _)));clear m11 t11 Z9)
  |(go_at_call 182;refine(A5 4 186 _).mono ?_;rintro _ W12 ⟨u6,rfl,du6,b12⟩;have T12:=ai ((aa T11).next b12);have Du6:=ai du6;replace sb:=ai ((aa sb).keep (aH b12));replace wF:=ai ((aa wF).keep (aH b12));replace A6:=ai ((aa A6).keep (aH b12));replace Lg:=ai ((aa Lg).keep (aH b12));clear du6 b12 T11)
  |(go_at_call 180;refine(uY u6 4 186 _ (aa Du6)).mono ?_;rintro _ W13 ⟨v6,rfl,dv6,b13⟩;have YU:=ai ((aa T12).next b13);have WL:=ai dv6;replace sb:=ai ((aa sb).keep (aH b13));replace wF:=ai ((aa wF).keep (aH b13));replace A6:=ai ((aa A6).keep (aH b13));replace Lg:=ai ((aa Lg).keep (aH b13));clear dv6 b13 T12 Du6)
  |(refine kE (es:= #[(⟨iV 1,v1,0⟩:tf),(⟨iV 2,v2,1⟩:tf),(⟨iV 3,v3,2⟩:tf),(⟨iV 4,(.func (.func 185) #[] #[]),3⟩:tf),(⟨iV 5,v5,4⟩:tf)]) (clock:=5) (z:=6) (v:=v6) _ _ _ rfl rfl rfl rfl rfl (aa YU).pV rfl ?_;intro W14 m14 t14;replace sb:=ai ((aa sb).keep (bV t14 (aa YU).pV));replace wF:=ai ((aa wF).keep (bV t14 (aa YU).pV));replace A6:=ai ((aa A6).keep (bV t14 (aa YU).pV));replace Lg:=ai ((aa Lg).keep (bV t14 (aa YU).pV));replace WL:=ai ((aa WL).keep (bV t14 (aa YU).pV));have T14:=ai (Tb.mk (w:=w) m14 (t14.under (aa YU).dp (Ac _)));clear m14 t14 YU)
  |(go_at_call 182;refine(A5 3 187 _).mono ?_;rintro _ W15 ⟨u7,rfl,du7,b15⟩;have T15:=ai ((aa T14).next b15);have Du7:=ai du7;replace sb:=ai ((aa sb).keep (aH b15));replace wF:=ai ((aa wF).keep (aH b15));replace A6:=ai ((aa A6).keep (aH b15));replace Lg:=ai ((aa Lg).keep (aH b15));replace WL:=ai ((aa WL).keep (aH b15));clear du7 b15 T14)
  |(go_at_call 180;refine(uY u7 3 187 _ (aa Du7)).mono ?_;rintro _ W16 ⟨v7,rfl,dv7,b16⟩;have WM:=ai ((aa T15).next b16);have Dv7:=ai dv7;replace sb:=ai ((aa sb).keep (aH b16));replace wF:=ai ((aa wF).keep (aH b16));replace A6:=ai ((aa A6).keep (aH b16));replace Lg:=ai ((aa Lg).keep (aH b16));replace WL:=ai ((aa WL).keep (aH b16));clear dv7 b16 T15 Du7)
  |(refine kE (es:= #[(⟨iV 1,v1,0⟩:tf),(⟨iV 2,v2,1⟩:tf),(⟨iV 3,v3,2⟩:tf),(⟨iV 4,(.func (.func 185) #[] #[]),3⟩:tf),(⟨iV 5,v5,4⟩:tf),(⟨iV 6,v6,5⟩:tf)]) (clock:=6) (z:=7) (v:=v7) _ _ _ rfl rfl rfl rfl rfl (aa WM).pV rfl ?_;intro W17 m17 t17;replace sb:=ai ((aa sb).keep (bV t17 (aa WM).pV));replace wF:=ai ((aa wF).keep (bV t17 (aa WM).pV));replace A6:=ai ((aa A6).keep (bV t17 (aa WM).pV));replace Lg:=ai ((aa Lg).keep (bV t17 (aa WM).pV));replace WL:=ai ((aa WL).keep (bV t17 (aa WM).pV));replace Dv7:=ai ((aa Dv7).keep (bV t17 (aa WM).pV));have T17:=ai (Tb.mk (w:=w) m17 (t17.under (aa WM).dp (Ac _)));clear m17 t17 WM))
 go_ret;exact⟨_,_,_,_,_,_,rfl,⟨(aa T17).pV,aa sb,aa wF,aa A6,aa Lg,aa WL,aa Dv7⟩,(aa T17).dp⟩
theorem tj{w:tA}{M:Nat}{v1 v2 v3 v5 v6 v7:tK}(h:Table w M v1 v2 v3 v5 v6 v7):
  (Instr.lookup 237 (.map (some M)) (iV 1) false).run Tryz.prog w= .ok (v1) w∧(Instr.lookup 237 (.map (some M)) (iV 2) false).run Tryz.prog w= .ok (v2) w∧(Instr.lookup 237 (.map (some M)) (iV 3) false).run Tryz.prog w= .ok (v3) w∧(Instr.lookup 237 (.map (some M)) (iV 4) false).run Tryz.prog w= .ok (.func (.func 185) #[] #[]) w∧(Instr.lookup 237 (.map (some M)) (iV 5) false).run Tryz.prog w= .ok (v5) w∧(Instr.lookup 237 (.map (some M)) (iV 6) false).run Tryz.prog w= .ok (v6) w∧(Instr.lookup 237 (.map (some M)) (iV 7) false).run Tryz.prog w= .ok (v7) w:=by
 have hc:∀k,(Instr.checkKey false 10000 3 (iV k)).run Tryz.prog w= .ok () w:=fun k=>AX (k:=iV k) Tryz.underlying3 (by simp[MapKept.IsKey]) false 9999;have ht:=h.pV;refine⟨?_, ?_, ?_, ?_, ?_, ?_, ?_⟩
 ·have hf:Instr.findNow (.int .i64) (iV 1) [(⟨iV 1,v1,0⟩:tf),⟨iV 2,v2,1⟩,⟨iV 3,v3,2⟩,⟨iV 4,.func (.func 185) #[] #[],3⟩,⟨iV 5,v5,4⟩,⟨iV 6,v6,5⟩,⟨iV 7,v7,6⟩] 0=some (some (0,v1)):=rfl;simp[Instr.lookup,run_underlying Tryz.underlying237,MapKept.run_getObj_map ht,hc 1,MapKept.run_findKey Tryz.underlying3 hf,Result.andThen]
 ·have hf:Instr.findNow (.int .i64) (iV 2) [(⟨iV 1,v1,0⟩:tf),⟨iV 2,v2,1⟩,⟨iV 3,v3,2⟩,⟨iV 4,.func (.func 185) #[] #[],3⟩,⟨iV 5,v5,4⟩,⟨iV 6,v6,5⟩,⟨iV 7,v7,6⟩] 0=some (some (1,v2)):=rfl;simp[Instr.lookup,run_underlying Tryz.underlying237,MapKept.run_getObj_map ht,hc 2,MapKept.run_findKey Tryz.underlying3 hf,Result.andThen]
 ·have hf:Instr.findNow (.int .i64) (iV 3) [(⟨iV 1,v1,0⟩:tf),⟨iV 2,v2,1⟩,⟨iV 3,v3,2⟩,⟨iV 4,.func (.func 185) #[] #[],3⟩,⟨iV 5,v5,4⟩,⟨iV 6,v6,5⟩,⟨iV 7,v7,6⟩] 0=some (some (2,v3)):=rfl;simp[Instr.lookup,run_underlying Tryz.underlying237,MapKept.run_getObj_map ht,hc 3,MapKept.run_findKey Tryz.underlying3 hf,Result.andThen]
 ·have hf:Instr.findNow (.int .i64) (iV 4) [(⟨iV 1,v1,0⟩:tf),⟨iV 2,v2,1⟩,⟨iV 3,v3,2⟩,⟨iV 4,.func (.func 185) #[] #[],3⟩,⟨iV 5,v5,4⟩,⟨iV 6,v6,5⟩,⟨iV 7,v7,6⟩] 0=some (some (3,.func (.func 185) #[] #[])):=rfl;simp[Instr.lookup,run_underlying Tryz.underlying237,MapKept.run_getObj_map ht,hc 4,MapKept.run_findKey Tryz.underlying3 hf,Result.andThen]
 ·have hf:Instr.findNow (.int .i64) (iV 5) [(⟨iV 1,v1,0⟩:tf),⟨iV 2,v2,1⟩,⟨iV 3,v3,2⟩,⟨iV 4,.func (.func 185) #[] #[],3⟩,⟨iV 5,v5,4⟩,⟨iV 6,v6,5⟩,⟨iV 7,v7,6⟩] 0=some (some (4,v5)):=rfl;simp[Instr.lookup,run_underlying Tryz.underlying237,MapKept.run_getObj_map ht,hc 5,MapKept.run_findKey Tryz.underlying3 hf,Result.andThen]
 ·have hf:Instr.findNow (.int .i64) (iV 6) [(⟨iV 1,v1,0⟩:tf),⟨iV 2,v2,1⟩,⟨iV 3,v3,2⟩,⟨iV 4,.func (.func 185) #[] #[],3⟩,⟨iV 5,v5,4⟩,⟨iV 6,v6,5⟩,⟨iV 7,v7,6⟩] 0=some (some (5,v6)):=rfl;simp[Instr.lookup,run_underlying Tryz.underlying237,MapKept.run_getObj_map ht,hc 6,MapKept.run_findKey Tryz.underlying3 hf,Result.andThen]
 ·have hf:Instr.findNow (.int .i64) (iV 7) [(⟨iV 1,v1,0⟩:tf),⟨iV 2,v2,1⟩,⟨iV 3,v3,2⟩,⟨iV 4,.func (.func 185) #[] #[],3⟩,⟨iV 5,v5,4⟩,⟨iV 6,v6,5⟩,⟨iV 7,v7,6⟩] 0=some (some (6,v7)):=rfl;simp[Instr.lookup,run_underlying Tryz.underlying237,MapKept.run_getObj_map ht,hc 7,MapKept.run_findKey Tryz.underlying3 hf,Result.andThen]
theorem nr{w W:tA}{base n c:Nat}{a:tB}{xs:tM}(h:w.ownsRow base 56 6 (.slice a n c) n xs)(b:bZ w W):W.ownsRow base 56 6 (.slice a n c) n xs:=
 aJ h (fun g hg _=>b.block g ((h.lt g hg).2))
section
variable{w:tA}{B:Bt}{a:tB}{c base:Nat}{r:Rec}
theorem kF{w W W':tA}(b:bZ w W)(b':bZ W W'):bZ w W':=Below.next b b'
end
end Go.Proofs.YtpgkjpomaffbmaaGreatDoor
