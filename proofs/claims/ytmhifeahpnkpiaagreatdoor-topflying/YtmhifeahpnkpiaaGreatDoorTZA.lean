/- Out of my texts: TfA@TopFlyingOwn. -/
import Derived.Test.YtmhifeahpnkpiaaGreatDoorTAA
import Derived.Test.YtmhifeahpnkpiaaGreatDoorTAF
set_option maxRecDepth 20000
set_option maxHeartbeats 8000000
set_option linter.unusedVariables false
namespace Go.Proofs.YtmhifeahpnkpiaaGreatDoor
open Go.RowKit
section
open Rv
theorem zh(ns:Nat→Nd)(s:Ws)(l:Lt):s.fl.length≤(bJ ns s l).2.fl.length∧(bJ ns s l).2.fl.length≤s.fl.length+1:=by
 have hf:(jc s l).fl=s.fl:=by unfold jc;split<;>rfl
 have ht:∀s:Ws,(lR s l).fl.length=s.fl.length+1:=fun s=>by unfold lR fM;simp
 unfold bJ;split
 ·exact⟨Nat.le_refl _,Nat.le_succ _⟩
 split
 ·show _≤(lR (jc s l) l).fl.length∧(lR (jc s l) l).fl.length≤_;rw[ht,hf];exact⟨Nat.le_succ _,Nat.le_refl _⟩
 split
 ·show _≤(lR s l).fl.length∧(lR s l).fl.length≤_;rw[ht];exact⟨Nat.le_succ _,Nat.le_refl _⟩
 ·exact⟨Nat.le_refl _,Nat.le_succ _⟩
theorem KZ:∀(ls:List Lt) (p:(Nat→Nd)×Ws),(ls.foldl (fun p l=>bJ p.1 p.2 l) p).2.fl.length≤p.2.fl.length+ls.length
 |[],_=>Nat.le_refl _
 |l::ls,p=>by
  have h1:=(zh p.1 p.2 l).2;have h2:=KZ ls (bJ p.1 p.2 l);rw[List.foldl_cons,List.length_cons];omega
structure Fly(k:Int)(a b:Nat):Prop where
 call:k=2→b=a+1
 Sl:k=5→b+min a 1=a
 carry:k=4→(a=0→b=0)∧b≤a∧a≤b+1
 dbl:k=6→(a=0→b=0)∧a≤b∧b≤a+1
 all:k=7→b≤a
 rest:k=8∨k=9∨k=1∨k=10→b=a
theorem VP(p:(Nat→Nd)×Ws)(f:tG):Fly (f 0) p.2.fl.length (fQ p f).2.fl.length:=by
 obtain⟨ns,s⟩:=p;unfold fQ;generalize(f 1).toNat=n,(f 2).toNat=q,(f 3).toNat=j,f 4=kp,(⟨f 5,f 6,f 7,f 8,f 9,f 10⟩:Ev)=e;have one:∀k,(eC ns s k j).2.fl.length=s.fl.length∨0<s.fl.length:=fun k=>by
  by_cases h:0<s.fl.length
  ·exact .inr h
  ·left;unfold eC;rw[List.getElem?_eq_none (by omega)]
 have er:0<s.fl.length→(s.fl.eraseIdx (j % s.fl.length)).length+1=s.fl.length:=fun h=>by
  rw[List.length_eraseIdx,if_pos (Nat.mod_lt _ h)];omega
 have at_:0<s.fl.length→∃l,s.fl[j % s.fl.length]? =some l:=fun h=>⟨_,List.getElem?_eq_getElem (Nat.mod_lt _ h)⟩;refine⟨fun h=> ?_,fun h=> ?_,fun h=> ?_,fun h=> ?_,fun h=> ?_,fun h=> ?_⟩<;>simp only<;>unfold SY
 ·rw[h];simp[fM]
 ·rw[h];show(eC ns s 5 j).2.fl.length+_=_;rcases one 5 with e1|e1
  ·by_cases h0:0<s.fl.length
   ·obtain⟨l,hl⟩:=at_ h0;unfold eC at e1⊢;rw[hl]at e1⊢;have:=er h0;simp at e1⊢;omega
   ·rw[e1];omega
  ·obtain⟨l,hl⟩:=at_ e1;unfold eC;rw[hl];have:=er e1;simp;omega
 ·rw[h];show(_→(eC ns s 4 j).2.fl.length=0)∧(eC ns s 4 j).2.fl.length≤_∧_≤(eC ns s 4 j).2.fl.length+1;by_cases h0:0<s.fl.length
  ·obtain⟨l,hl⟩:=at_ h0;unfold eC;rw[hl];have:=er h0;have hc:=zh ns {s with fl:=s.fl.eraseIdx (j % s.fl.length)} l;dsimp only at hc;show(_→(bJ ns {s with fl:=s.fl.eraseIdx (j % s.fl.length)} l).2.fl.length=0)∧(bJ ns {s with fl:=s.fl.eraseIdx (j % s.fl.length)} l).2.fl.length≤_∧_≤(bJ ns {s with fl:=s.fl.eraseIdx (j % s.fl.length)} l).2.fl.length+1;omega
  ·rcases one 4 with e1|e1<;>omega
 ·rw[h];show(_→(eC ns s 6 j).2.fl.length=0)∧_≤(eC ns s 6 j).2.fl.length∧(eC ns s 6 j).2.fl.length≤_+1;by_cases h0:0<s.fl.length
  ·obtain⟨l,hl⟩:=at_ h0;unfold eC;rw[hl];have hc:=zh ns s l;show(_→(bJ ns s l).2.fl.length=0)∧_≤(bJ ns s l).2.fl.length∧(bJ ns s l).2.fl.length≤_+1;omega
  ·rcases one 6 with e1|e1<;>omega
 ·rw[h];show(Ge ns s).2.fl.length≤_;have:=KZ s.fl (ns,{s with fl:=[]});unfold Ge;simpa using this
 ·rcases h with h|h|h|h<;>rw[h]
  ·rfl
  ·show(du (ns n) s).2.fl.length=_;unfold du;split
   ·rfl
   split
   ·unfold iR;split<;>rfl
   ·rfl
  ·show(cY (ns n) s q).2.fl.length=_;unfold cY;split<;>rfl
  ·rfl
theorem VQ(D:tF)(n:Nat)(hn:n≤100000)(ok:∀j,j<n→Lq.gC (Lq.aO D j)=0)(k:Nat)(hk:k<n):Fly (Lq.aO D k 0) (cX D k).fl (cX D (k+1)).fl∧(cX D k).fl≤100000000000∧(cX D (k+1)).fl≤100000000000:=
 ⟨VP (dg D k) (Lq.aO D k),((gk D n hn ok k (by omega)).gd (by omega)).g.lf,((gk D n hn ok (k+1) (by omega)).gd (by omega)).g.lf⟩
theorem exN{ρ:Operand→Value}{o:Oper}{x:tP}{c:Int}{k:Nat}(hp:o.op= .unOp .neg k x)(hx:ρ x=iV c)(h0: -1≤c)(h1:c≤1)(w:tA):(execOp ρ o).run Tryz.prog w= .ok (.value (iV (-c))) w:=by
 simp[execOp,hp,hx,go_sem,Op.unary];rw[IntKind.wrap_i64];omega
theorem zi(w:tA)(hK:Lq.eO w)(a:tB)(len cap:Nat)(GD:tF)(h:RowK .i64 w a (5*len) GD)(qk:len≤cap)(pk:a=none→cap=0)(hs:cap*40≤140737488351232):cA 9 #[.slice a len cap] w (rB (.bool true) w):=by
 obtain⟨n,hn⟩:∃n,n=min len 60:=⟨_,rfl⟩;have hD:(bn GD true n).length=11*(n+2):=jE _ _ _;have ed:=fun j hj=>uk GD true n j hj;have vq:=VQ (bn GD true n) (n+2) (by omega) ed;have rX:=se GD true n;refine en (H:=[]) _ [vv (.slice a len cap)] Tryz.func9 rfl rfl (m0 w) (r [] rfl fun _=> ?_);refine cx rfl (fun y:Option Addr×Nat=>vv (.slice y.1 (n+2) y.2)) (fun y=>n+2≤y.2∧∃b o,y.1=some ⟨b,o,none⟩) (fun y w=>RowK .i64 w y.1 (11*(n+2)) (bn GD true n)) (fun w1 hS=>(jZ a len cap 60 true GD w1 (h.below hS.now.2) (by omega) (by omega)).mono fun _ w2 ⟨v1,e,o1,b⟩=> ?_) ?_
 ·rw[←hn]at o1;obtain⟨a1,c1,rfl,r1,hc,_,_,uu⟩:=RowK.fY o1 fun u hu=>BS (rX u hu);obtain⟨b1,q1,rfl⟩:=r1.form (by omega);exact⟨(some ⟨b1,q1,none⟩,c1),e,b,⟨hc,_,_,rfl⟩,fun hl=>bT r1 uu hl⟩
 rintro⟨_,c1⟩ ⟨mm,b,o,rfl⟩;refine r [] rfl fun _=>cx rfl (fun y:Nat×Nat×(Nat→jC)=>vt [.o (.slice (some ⟨y.1,0,none⟩) (n+2+1) y.2.1),.o (.bool true)]) (fun _=>True) (fun y w=>∀q,q<n+2+1→w.cell? ⟨y.1,0+q*18+0,none⟩=some (iV ((cX (bn GD true n) q).fl:Int))) (fun w1 hS=>(uh _ (n+2) c1 (bn GD true n) w1 (hK.next hS.now.2) hS.now.1.2 mm (by omega) ed).mono fun _ w2 ⟨Y,c,ts,e,ho,b⟩=>⟨(Y,c,ts),e,b,trivial,fun hl w3 c3 q hq=>by rw[Nat.zero_add];exact((ho.mono fun b _ hu=>hl b hu) w3 c3 q hq).2 0 (by omega)⟩) ?_;rintro⟨Y,c,ts⟩-;refine r [] rfl fun _=>Cv (X:=Nat) (fun k=>[(3,vv (.slice (some ⟨b,o,none⟩) (n+2) c1)),(4,vv (.slice (some ⟨Y,0,none⟩) (n+2+1) c)),(5,vv (.bool true)),(6,vi (k:Int))]) (fun _=>[]) (fun _ _=>False) (fun _ w'=>bZ w w') (fun k=>k≤n+2) (fun k=>n+2-k) 0 ⟨rfl,rfl,rfl,rfl,trivial⟩ (fun _ hS=>hS) (Nat.zero_le _) ?_;rintro f k hk;have hk:k≤n+2:=hk;by_cases aL:k<n+2
 case neg=>
  obtain rfl:k=n+2:=by omega
  exact rz [1,0] [((n+2+1:Nat):Int)] rfl fun _=>fin fun w hS=>⟨rfl,hS.now.2⟩
 obtain⟨⟨x1,x2,x3,x4,x5,x6⟩,ba,bb⟩:=vq k aL;refine rz [1,1] [((k+1:Nat):Int)] rfl fun _=>l1 (q:=0+k*18+0) rfl (iV ((cX (bn GD true n) k).fl:Int)) (fun w hS=>hS.now.1.2 k (by omega)) ?_;refine rz [1] [((k+1:Nat):Int)] rfl fun _=>l1 (q:=0+(k+1)*18+0) rfl (iV ((cX (bn GD true n) (k+1)).fl:Int)) (fun w hS=>hS.now.1.2 (k+1) (by omega)) ?_;obtain⟨p,hp⟩:∃p,(cX (bn GD true n) k).fl=p:=⟨_,rfl⟩;obtain⟨q,hq⟩:∃q,(cX (bn GD true n) (k+1)).fl=q:=⟨_,rfl⟩;obtain⟨K,gW⟩:∃K,Lq.aO (bn GD true n) k 0=K:=⟨_,rfl⟩;rw[hp,hq,gW]at x1 x2 x3 x4 x5 x6;rw[hp]at ba;rw[hq]at bb;rw[hp,hq];refine rz [1] [(q:Int)-(p:Int)] rfl fun _=>l1 (q:=o+k*11+0) rfl (iV K) (fun w hS=>by rw[←gW];exact jJ (k:=k) (m:=11) (g:=fun j=>iV (Lq.aO (bn GD true n) k j)) hS.now.1.1.2 (by omega) (fun j _=>rfl) 0 (by omega)) ?_;have h9:n+2-(k+1)<n+2-k:=by omega
 by_cases k2:K=2
 ·have:=x1 k2;exact rz [1,0,1] [((k+1:Nat):Int)] rfl fun _=>bU (k+1) ⟨rfl,rfl,rfl,rfl,trivial⟩ (fun _ hS=>hS) aL h9
 by_cases k5:K=5
 ·have:=x2 k5;by_cases p0:p≤1
  ·refine r [0,1,0] rfl fun _=>pv (vi (-(p:Int))) rfl (fun w=>exN rfl rfl (by omega) (by omega) w) ?_;exact rz [0,1] [((k+1:Nat):Int)] rfl fun _=>bU (k+1) ⟨rfl,rfl,rfl,rfl,trivial⟩ (fun _ hS=>hS) aL h9
  ·refine r [0,1,1] rfl fun _=>pv (vi (-1)) rfl (fun w=>exN rfl rfl (by omega) (by omega) w) ?_;exact rz [0,1] [((k+1:Nat):Int)] rfl fun _=>bU (k+1) ⟨rfl,rfl,rfl,rfl,trivial⟩ (fun _ hS=>hS) aL h9
 by_cases k4:K=4
 ·obtain⟨y1,y2,y3⟩:=x3 k4;by_cases p0:p=0
  ·have:=y1 p0;exact rz [0,0,1,1,0,0,0,1] [((k+1:Nat):Int)] rfl fun _=>bU (k+1) ⟨rfl,rfl,rfl,rfl,trivial⟩ (fun _ hS=>hS) aL h9
  ·exact rz [0,0,1,0,0,0,1] [((k+1:Nat):Int)] rfl fun _=>bU (k+1) ⟨rfl,rfl,rfl,rfl,trivial⟩ (fun _ hS=>hS) aL h9
 by_cases k6:K=6
 ·obtain⟨y1,y2,y3⟩:=x4 k6;by_cases p0:p=0
  ·have:=y1 p0;exact rz [0,0,0,1,1,0,0,0,1] [((k+1:Nat):Int)] rfl fun _=>bU (k+1) ⟨rfl,rfl,rfl,rfl,trivial⟩ (fun _ hS=>hS) aL h9
  ·exact rz [0,0,0,1,0,0,0,1] [((k+1:Nat):Int)] rfl fun _=>bU (k+1) ⟨rfl,rfl,rfl,rfl,trivial⟩ (fun _ hS=>hS) aL h9
 by_cases k7:K=7
 ·have:=x5 k7;exact rz [0,0,0,0,1,0,1] [((k+1:Nat):Int)] rfl fun _=>bU (k+1) ⟨rfl,rfl,rfl,rfl,trivial⟩ (fun _ hS=>hS) aL h9
 by_cases k8:K=8
 ·have:=x6 (.inl k8);exact rz [0,0,0,0,0,1,0,1] [((k+1:Nat):Int)] rfl fun _=>bU (k+1) ⟨rfl,rfl,rfl,rfl,trivial⟩ (fun _ hS=>hS) aL h9
 by_cases k9:K=9
 ·have:=x6 (.inr (.inl k9));exact rz [0,0,0,0,0,0,1,0,1] [((k+1:Nat):Int)] rfl fun _=>bU (k+1) ⟨rfl,rfl,rfl,rfl,trivial⟩ (fun _ hS=>hS) aL h9
 by_cases k1:K=1
 ·have:=x6 (.inr (.inr (.inl k1)));exact rz [0,0,0,0,0,0,0,1,0,1] [((k+1:Nat):Int)] rfl fun _=>bU (k+1) ⟨rfl,rfl,rfl,rfl,trivial⟩ (fun _ hS=>hS) aL h9
 by_cases k10:K=10
 ·have:=x6 (.inr (.inr (.inr k10)));exact rz [0,0,0,0,0,0,0,0,1,0,1] [((k+1:Nat):Int)] rfl fun _=>bU (k+1) ⟨rfl,rfl,rfl,rfl,trivial⟩ (fun _ hS=>hS) aL h9
 exact rz [0,0,0,0,0,0,0,0,0,1] [((k+1:Nat):Int)] rfl fun _=>bU (k+1) ⟨rfl,rfl,rfl,rfl,trivial⟩ (fun _ hS=>hS) aL h9
end
end Go.Proofs.YtmhifeahpnkpiaaGreatDoor
