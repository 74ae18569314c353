/- Out of my texts: PrA@TopSealedOwn, PrB@TopSealedOwn, PrC@TopSealedOwn, PrD@TopSealedOwn, TgA@TopSealedOwn, TdB@TopSealedOwn, PtA@TopSealedOwn, SlA@TopSealedOwn, KaA@TopSealedOwn. -/
import Derived.Test.YtpgkjpomaffbmaaGreatDoorTAA
import Derived.Test.YtpgkjpomaffbmaaGreatDoorTAF
set_option maxRecDepth 20000
set_option maxHeartbeats 8000000
set_option linter.unusedVariables false
namespace Go.Proofs.YtpgkjpomaffbmaaGreatDoor
open Go.RowKit
def yi:Af→Option (Nat×Bt)
 | .serve _ _=>none
 | .begin l B=>some (l.q,B)
 | .shut l B=>some (l.q,B)
 | .take l B=>some (l.q,B)
 | .fA q B=>some (q,B)
def Pos(n:Nd)(q:Nat)(r e t:Int):Prop:=
 (n.up=true∧((r=(n.mo q).r∧e=(n.mo q).e∧t=(n.mo q).t)∨((n.mo q).r=2∧r=1∧e=(n.mo q).e∧t=0)∨∃a B,n.af=some a∧yi a=some (q,B)∧r=B.r∧e=B.e∧t=B.t))∨
 (n.up=false∧r=(kX n q).r∧e=(kX n q).e∧t=(kX n q).t)
def iO(n:Nd)(q:Nat)(P:Int→Int→Int→Prop):Prop:=∀r e t,Pos n q r e t→P r e t
theorem Pos.Yl(n:Nd)(q:Nat):Pos n q (kX n q).r (kX n q).e (kX n q).t:=by
 cases h:n.up with
 |false=>exact .inr ⟨h,rfl,rfl,rfl⟩
 |true=>
  have e:kX n q=n.mo q:=by unfold kX;rw[Ae h]
  rw[e];exact .inl ⟨h,.inl ⟨rfl,rfl,rfl⟩⟩
theorem Pos.mo{n:Nd}(h:n.up=true)(q:Nat):Pos n q (n.mo q).r (n.mo q).e (n.mo q).t:= .inl ⟨h,.inl ⟨rfl,rfl,rfl⟩⟩
theorem Pos.calm{n:Nd}{q:Nat}{r e t:Int}(h:Pos n q r e t)(hu:n.up=true)(ha:n.af=none):(r=(n.mo q).r∧e=(n.mo q).e∧t=(n.mo q).t)∨((n.mo q).r=2∧r=1∧e=(n.mo q).e∧t=0):=by
 rcases h with⟨_,h|h|⟨a,B,h,_⟩⟩|⟨h,_⟩
 ·exact .inl h
 ·exact .inr h
 ·rw[ha]at h;cases h
 ·rw[hu]at h;cases h
theorem GS{B D:Bt}{l:List Rec}(h:ik B l D):¬B.r=2→¬D.r=2:=by
 induction h with
 |nil B=>exact id
 |cons hf ha h ih=>exact fun hB=>ih (GM hB (iB ha).2.2.1)
theorem wZ{B D:Bt}{l:List Rec}(h:ik B l D):(∀r∈l,r.k=5∨r.k=6)→∀j E,ik B (l.take j) E→(E.r=B.r∧E.e=B.e∧E.t=B.t)∨E=D:=by
 induction h with
 |nil B=>
  intro _ j E hE;rw[List.take_nil]at hE;rw[hE.nil_eq];exact .inr rfl
 |cons hf ha h ih=>
  rename_i B B1 D r l;intro hk j E hE;cases j with
  |zero=>rw[hE.nil_eq];exact .inl ⟨rfl,rfl,rfl⟩
  |succ j=>
   cases hE with
   |cons hf' JL h'=>
    rename_i B2;obtain rfl:B1=B2:=by
     have:=ha.symm.trans JL;injection this
    have hd:=(iB ha).2.2.1;have kg:∀x∈l,x.k=5∨x.k=6:=fun x hx=>hk x (Az _ hx);rcases hk r Aq with k5|k6
    ·unfold cF at hd;rw[Aa (by omega),Aa (by omega),Aa (by omega),Aa (by omega),Ae k5]at hd;split at hd
     ·cases hd;rcases ih kg j E h' with e|e
      ·exact .inl e
      ·exact .inr e
     ·cases hd
    ·have h1:B1.r=1:=by
      unfold cF at hd;rw[Aa (by omega),Aa (by omega),Aa (by omega),Aa (by omega),Aa (by omega),Ae k6]at hd;split at hd
      ·cases hd;rfl
      ·cases hd
     have stop:∀{m:List Rec} {F:Bt},(∀x∈m,x.k=5∨x.k=6)→ik B1 m F→F=B1:=fun {m F} hm hr=>by
      cases hr with
      |nil=>rfl
      |cons hf2 U5 hr2=>
       rename_i B3 r2 l2;have DS:=(iB U5).2.2.1;have:=hm r2 Aq;unfold cF at DS;rw[Aa (by omega),Aa (by omega),Aa (by omega),Aa (by omega)]at DS;split at DS
       ·rw[Aa (by omega)]at DS;cases DS
       ·rw[Ae (by omega),Aa (by omega)]at DS;cases DS
     right;rw[stop kg h,stop (fun x hx=>kg x (AJ hx)) h']
theorem AfP.q{mo:Nat→Bt}{q:Nat}{D:Bt}{a:Af}(h:AfP mo q D a):(yi a=none∧∃l,D=tb ((mo q).more l))∨yi a=some (q,D):=by
 cases a with
 |serve l an=>exact .inl ⟨rfl,_,h.2.2.2⟩
 |begin l B=>obtain⟨rfl,_,rfl⟩:=h;exact .inr rfl
 |shut l B=>obtain⟨rfl,_,rfl⟩:=h;exact .inr rfl
 |take l B=>obtain⟨rfl,_,rfl⟩:=h;exact .inr rfl
 |fA q B=>obtain⟨rfl,_,rfl⟩:=h;exact .inr rfl
theorem Pos.tb{n:Nd}{q:Nat}(h:n.up=true){B:Bt}(e:B.r=(tb (n.mo q)).r∧B.e=(tb (n.mo q)).e∧B.t=(tb (n.mo q)).t):Pos n q B.r B.e B.t:=by
 by_cases h2:(n.mo q).r=2
 ·rw[si h2]at e;exact .inl ⟨h,.inr (.inl ⟨h2,e⟩)⟩
 ·rw[gK h2]at e;exact .inl ⟨h,.inl e⟩
theorem GU(B:Bt)(l:List Ev):(tb (B.more l)).r=(tb B).r∧(tb (B.more l)).e=(tb B).e∧(tb (B.more l)).t=(tb B).t:=by
 by_cases h:B.r=2
 ·rw[si h,si (show(B.more l).r=2 from h)];exact⟨rfl,rfl,rfl⟩
 ·rw[gK h,gK (show ¬(B.more l).r=2 from h)];exact⟨rfl,rfl,rfl⟩
theorem w_{n:Nd}(h:Up n)(hu:n.up=true)(hl:n.dl.length≤100000){kp:Int}(hk:0≤kp){q:Nat}(hq:q<4){r e t:Int}(hp:Pos (qI n kp) q r e t):Pos n q r e t:=by
 obtain⟨dJ,dC,Bs,dw,ra,Ba,_,_,_,_,hBa,hc⟩:=h.L5 hk;have hb:=dw.bs (by show(List.take _ n.dl).length≤_;rw[AM];omega) rfl q hq;rcases hp with⟨e1,_⟩|⟨_,e1⟩
 ·cases e1
 rw[hb]at e1;obtain⟨rfl,rfl,rfl⟩:=e1;rcases hc with⟨_,rfl⟩|⟨rb,a,q',D,j,E,ha,pd,_,hE,rfl⟩
 ·exact .tb hu (by rw[hBa q hq];exact⟨rfl,rfl,rfl⟩)
 by_cases e1:q=q'
 ·subst e1;rw[aj];have U6:E=D→Pos n q E.r E.e E.t:=by
   rintro rfl;rcases pd.af.q with⟨_,l,e⟩|e
   ·exact .tb hu (by rw[e];exact GU _ _)
   ·exact .inl ⟨hu,.inr (.inr ⟨a,E,ha,e,rfl,rfl,rfl⟩)⟩
  rcases pd.one with o|o
  ·cases j with
   |zero=>rw[hE.nil_eq];exact .tb hu ⟨rfl,rfl,rfl⟩
   |succ j=>
    rw[AL (by omega)]at hE
    exact U6 (by
     have hD:=pd.run
     match rb,o,hE,hD with
     |[x],_,hE,hD=>
      cases hE with
      |cons _ a1 b1=>
       cases hD with
       |cons _ a2 b2=>
        have:=a1.symm.trans a2;injection this with e1 _
        rw[b1.nil_eq,b2.nil_eq,e1])
  ·rcases wZ pd.run o j E hE with e|e
   ·exact .tb hu e
   ·exact U6 e
 ·rw[aI e1,hBa q hq];exact .tb hu ⟨rfl,rfl,rfl⟩
theorem xa{n:Nd}{s:Ws}(h:n.up=false→Dw n)(hl:n.dl.length≤100000){q:Nat}(hq:q<4){r e t:Int}(hp:Pos (cQ n s).1 q r e t):Pos n q r e t:=by
 by_cases hu:n.up=true
 ·have e1:cQ n s=(n,s):=Ae (.inl hu);rwa [e1]at hp
 by_cases hk:n.sk=true
 ·have e1:cQ n s=(n,s):=Ae (.inr hk);rwa [e1]at hp
 have hu:n.up=false:=by simpa using hu
 have hk:n.sk=false:=by simpa using hk
 obtain⟨dJ,dC,Bs,dw⟩:=h hu;obtain⟨sj,hB,hs⟩:=CX (s:=s) dw hl hu hk;have hb:=dw.bs hl hu q hq;rw[hs]at hp;unfold iL at hp;split at hp
 ·rename_i hc;have ok:=dw.tm.all q hq;rcases hp with⟨_,e1|⟨e1,_⟩|⟨a,B,e1,_⟩⟩|⟨e1,_⟩
  ·have hw:(r=(Bs q).r∧e=(Bs q).e∧t=(Bs q).t):=by
    have e1:r=(aZ (sj q)).1.r∧e=(aZ (sj q)).1.e∧t=(aZ (sj q)).1.t:=e1;have my:=hc.1 q hq;rw[hB q hq]at e1 my;rcases mY my ok.2 with⟨_,e2⟩|⟨h1,e2,_⟩
    ·rw[e2]at e1;exact e1
    ·rw[e2]at e1;have hs:=ok.1.cG;unfold Bt.b_ bg at hs;obtain⟨rfl,rfl,rfl⟩:=e1;exact⟨h1.symm,rfl,by show(0:Int)=_;omega⟩
   exact .inr ⟨hu,by rw[hb];exact hw⟩
  ·have e1:(aZ (sj q)).1.r=2:=e1;have my:=hc.1 q hq;rw[hB q hq]at e1 my;rcases mY my ok.2 with⟨_,e2⟩|⟨h1,e2,_⟩
   ·rw[e2]at e1;exact absurd e1 ok.2
   ·rw[e2]at e1;cases e1
  ·cases e1
  ·cases e1
 ·have d2:=wV (sy:=mP (cp (dJ++dC)).length n.sy) dw;have Du:=d2.bs (by show(List.take _ n.dl).length≤_;rw[AM];omega) hu q hq;rcases hp with⟨e1,_⟩|⟨_,e1⟩
  ·rw[show _=n.up from rfl,hu]at e1;cases e1
  ·rw[Du]at e1;exact .inr ⟨hu,by rw[hb];exact e1⟩
def yK(n:Nd)(q:Nat)(ep:Int):Prop:=iO n q fun r e _=>ep<e∨(e=ep∧¬r=4)
def Mc(n:Nd)(q:Nat)(ep:Int):Prop:=iO n q fun r e _=>ep<e∨(e=ep∧(r=3∨r=0))
def U7(n:Nd)(q:Nat)(ep:Int):Prop:=iO n q fun r e _=>r=1∧e=ep
def GV(q:Nat)(ns:Nat→Nd)(pn pe k:Int):Prop:=0≤pn∧iO (ns pn.toNat) q fun r e t=>r=3∧e=pe∧t=k
def LC(q:Nat)(ns:Nat→Nd)(pn pe:Int)(l:Lt):Prop:=
 (l.kd=2→l.ep≤pe+1)∧(l.kd=4→l.la=true→(l.ep=pe+1∧GV q ns pn pe l.dst)∨(l.ep≤pe∧yK (ns l.dst.toNat) q l.ep))∧
 (l.kd=5→l.ep≤pe∨(l.ep=pe+1∧U7 (ns l.fr.toNat) q (pe+1)))∧(l.kd=7→l.pe≤pe)
structure k_(q:Nat)(ns:Nat→Nd)(pn pe:Int)(i:Nat)(r e t:Int):Prop where
 z:pn= -1→r=0∨r=4
 a:e≤pe+1
 a2:r=2∨r=3→e≤pe
 b:r=1∨r=2∨r=3→e=pe→(i:Int)=pn
 d:r=1∨r=2→pe≤e
 c:r=1→e=pe+1→GV q ns pn pe i
 s:r=3→e<pe→yK (ns t.toNat) q (e+1)
 x:(i:Int)=pn→(r=1∨r=2∨r=3)∧e=pe
structure Pq(G:Nat→Int→Prop)(q:Nat)(ns:Nat→Nd)(pn pe:Int)(fl:List Lt):Prop where
 p:∀i,i<5→iO (ns i) q (k_ q ns pn pe i)
 l:∀l∈fl,l.q=q→LC q ns pn pe l
 w:∀i,i<5→∀l∈(ns i).wt,l.q=q→LC q ns pn pe l∧(l.kd=4→l.dst=i)
 k:∀i,i<5→∀ep,G i ep→1≤ep∧Mc (ns i) q ep
structure Fn(q:Nat)(ns:Nat→Nd)(pn pe:Int)(i:Nat)(r e t:Int):Prop where
 ok:k_ q ns pn pe i r e t
 g1:∀ep,yK (ns i) q ep→ep<e∨(e=ep∧¬r=4)
 g2:¬iO (ns i) q fun r e _=>r=3∧e=pe
 g3:¬iO (ns i) q fun r e _=>r=1∧e=pe+1
 g4:∀ep,Mc (ns i) q ep→ep<e∨(e=ep∧(r=3∨r=0))
section
variable{G:Nat→Int→Prop}{q i:Nat}{ns:Nat→Nd}{pn pe:Int}{fl:List Lt}
theorem LC.plain{l:Lt}(h2:¬l.kd=2)(h4:¬l.kd=4)(h5:¬l.kd=5)(h7:¬l.kd=7):LC q ns pn pe l:=⟨fun h=>absurd h h2,fun h=>absurd h h4,fun h=>absurd h h5,fun h=>absurd h h7⟩
theorem Pq.move(h:Pq G q ns pn pe fl)(hi:i<5){n':Nd}(hP:∀r e t,Pos n' q r e t→Pos (ns i) q r e t∨Fn q ns pn pe i r e t)(hw:∀l∈n'.wt,l∈(ns i).wt∨(l.q=q→LC q ns pn pe l∧(l.kd=4→l.dst=i))):Pq G q (ak ns i n') pn pe fl:=by
 have tN:∀j ep,yK (ns j) q ep→yK (ak ns i n' j) q ep:=fun j ep hn=>by
  by_cases e:j=i
  ·subst e;rw[aj];intro r e t hp;exact(hP r e t hp).elim (hn r e t) fun g=>g.g1 ep hn
  ·rw[aI e];exact hn
 have tS:∀k,GV q ns pn pe k→GV q (ak ns i n') pn pe k:=fun k hk=>⟨hk.1,by
  have h2:=hk.2;by_cases e:pn.toNat=i
  ·rw[e]at h2⊢;rw[aj];intro r e t hp;exact(hP r e t hp).elim (h2 r e t) fun g=>absurd (fun r e t hp=>⟨(h2 r e t hp).1,(h2 r e t hp).2.1⟩) g.g2
  ·rw[aI e];exact h2⟩
 have tC:∀j,U7 (ns j) q (pe+1)→U7 (ak ns i n' j) q (pe+1):=fun j hn=>by
  by_cases e:j=i
  ·subst e;rw[aj];intro r e t hp;exact(hP r e t hp).elim (hn r e t) fun g=>absurd hn g.g3
  ·rw[aI e];exact hn
 have tL:∀l,LC q ns pn pe l→LC q (ak ns i n') pn pe l:=fun l hl=>⟨hl.1,fun h1 h2=>(hl.2.1 h1 h2).imp (fun g=>⟨g.1,tS _ g.2⟩) (fun g=>⟨g.1,tN _ _ g.2⟩),fun h1=>(hl.2.2.1 h1).imp id fun g=>⟨g.1,tC _ g.2⟩,hl.2.2.2⟩;have tO:∀j r e t,k_ q ns pn pe j r e t→k_ q (ak ns i n') pn pe j r e t:=fun j r e t o=>⟨o.z,o.a,o.a2,o.b,o.d,fun h1 h2=>tS _ (o.c h1 h2),fun h1 h2=>tN _ _ (o.s h1 h2),o.x⟩;refine⟨fun j hj r e t hp=> ?_,fun l hl hq=>tL l (h.l l hl hq),fun j hj l hl hq=> ?_,fun j hj ep g=>⟨(h.k j hj ep g).1,fun r e t hp=> ?_⟩⟩
 ·by_cases e1:j=i
  ·subst e1;rw[aj]at hp;exact tO _ _ _ _ ((hP r e t hp).elim (h.p j hj r e t) fun g=>g.ok)
  ·rw[aI e1]at hp;exact tO _ _ _ _ (h.p j hj r e t hp)
 ·by_cases e1:j=i
  ·subst e1;rw[aj]at hl;have:=(hw l hl).elim (fun g=>h.w j hj l g hq) fun g=>g hq;exact⟨tL _ this.1,this.2⟩
  ·rw[aI e1]at hl;exact⟨tL _ (h.w j hj l hl hq).1,(h.w j hj l hl hq).2⟩
 ·have hs:=(h.k j hj ep g).2;by_cases e1:j=i
  ·subst e1;rw[aj]at hp;exact(hP r e t hp).elim (hs r e t) fun g=>g.g4 ep hs
  ·rw[aI e1]at hp;exact hs r e t hp
theorem Pq.send(h:Pq G q ns pn pe fl){ls:List Lt}(hl:∀l∈ls,l.q=q→LC q ns pn pe l):Pq G q ns pn pe (fl++ls):=⟨h.p,fun x hx hq=>(Ah.1 hx).elim (fun g=>h.l x g hq) fun g=>hl x g hq,h.w,h.k⟩
theorem Pq.less(h:Pq G q ns pn pe fl){Kc:List Lt}(hl:∀l∈Kc,l∈fl):Pq G q ns pn pe Kc:=⟨h.p,fun x hx hq=>h.l x (hl x hx) hq,h.w,h.k⟩
theorem Pq.flip(h:Pq G q ns pn pe fl){fr:Int}(h0:0≤fr)(h5:fr<5)(hp:0≤pn)(hp5:pn<5)(hc:U7 (ns fr.toNat) q (pe+1)):Pq G q ns fr (pe+1) fl:=by
 have hf:((fr.toNat:Nat):Int)=fr:=Bh h0;have M_:((pn.toNat:Nat):Int)=pn:=Bh hp;have v1:=Pos.Yl (ns fr.toNat) q;obtain⟨c1,c2⟩:=hc _ _ _ v1;have hS:=(h.p fr.toNat (by omega) _ _ _ v1).c c1 c2;rw[hf]at hS;have v2:=Pos.Yl (ns pn.toNat) q;obtain⟨d1,d2,d3⟩:=hS.2 _ _ _ v2;have one:∀k,GV q ns pn pe k→k=fr:=fun k hk=>(hk.2 _ _ _ v2).2.2.symm.trans d3;have nip:yK (ns fr.toNat) q (pe+1):=fun r e t hp=>by
  obtain⟨g1,g2⟩:=hc r e t hp;exact .inr ⟨g2,by omega⟩
 have tL:∀l,LC q ns pn pe l→LC q ns fr (pe+1) l:=fun l hl=>⟨fun g=>by have:=hl.1 g;omega,fun g1 g2=> .inr (by
  rcases hl.2.1 g1 g2 with⟨e1,e2⟩|⟨e1,e2⟩
  ·rw[one _ e2,e1];exact⟨Bq _,nip⟩
  ·exact⟨by omega,e2⟩),fun g=> .inl (by rcases hl.2.2.1 g with e|⟨e,_⟩<;>omega),fun g=>by have:=hl.2.2.2 g;omega⟩
 refine⟨fun j hj r e t hp=> ?_,fun l hl hq=>tL l (h.l l hl hq),fun j hj l hl hq=>⟨tL _ (h.w j hj l hl hq).1,(h.w j hj l hl hq).2⟩,h.k⟩;have o:=h.p j hj r e t hp;have atp:(j:Int)=pn→r=3∧e=pe∧t=fr:=fun g=>by
  have:pn.toNat=j:=by omega
  exact hS.2 r e t (this▸hp)
 refine⟨fun g=>by omega,by have:=o.a;omega,fun g=>by have:=o.a2 g;omega,fun g1 g2=> ?_,fun g=> ?_,fun g1 g2=>by have:=o.a;omega,fun g1 g2=> ?_,fun g=>by have:=hc r e t (by rw[show fr.toNat=j by omega];exact hp);omega⟩
 ·have g1:r=1:=by
   rcases g1 with g1|g1
   ·exact g1
   ·have:=o.a2 g1;omega
  exact one _ (o.c g1 g2)
 ·have:=o.d g;by_cases e1:e=pe
  ·have:=atp (o.b (by omega) e1);omega
  ·omega
 ·by_cases e1:e=pe
  ·rw[(atp (o.b (by omega) e1)).2.2,e1];exact nip
  ·exact o.s g1 (by omega)
end
abbrev PQ(G:Nat→Int→Prop)(q:Nat)(p:(Nat→Nd)×Ws):Prop:=Pq G q p.1 (p.2.pn q) (p.2.pe q) p.2.fl
theorem ee{n n':Nd}{q:Nat}(hu:n.up=true)(um:n'.up=true)(hm:(n'.mo q).r=(n.mo q).r∧(n'.mo q).e=(n.mo q).e∧(n'.mo q).t=(n.mo q).t)(ha:∀a B,n'.af=some a→yi a=some (q,B)→n.af=n'.af){r e t:Int}(h:Pos n' q r e t):Pos n q r e t:=by
 rcases h with⟨_,h|⟨h1,h2⟩|⟨a,B,h1,h2,h3⟩⟩|⟨h,_⟩
 ·rw[hm.1,hm.2.1,hm.2.2]at h;exact .inl ⟨hu,.inl h⟩
 ·rw[hm.1]at h1;rw[hm.2.1]at h2;exact .inl ⟨hu,.inr (.inl ⟨h1,h2⟩)⟩
 ·exact .inl ⟨hu,.inr (.inr ⟨a,B,(ha a B h1 h2).trans h1,h2,h3⟩)⟩
 ·rw[um]at h;cases h
theorem Me{n:Nd}{a:Af}{rs:List Rec}{q:Nat}(hu:n.up=true){r e t:Int}(h:Pos ((lC n a rs).getD n) q r e t):Pos n q r e t∨∃B,yi a=some (q,B)∧r=B.r∧e=B.e∧t=B.t:=by
 unfold lC at h;split at h
 ·rcases h with⟨_,h|h|⟨a',B,h1,h2,h3⟩⟩|⟨h,_⟩
  ·exact .inl (.inl ⟨hu,.inl h⟩)
  ·exact .inl (.inl ⟨hu,.inr (.inl h)⟩)
  ·have h1:some a=some a':=h1;cases h1;exact .inr ⟨B,h2,h3⟩
  ·have h:n.up=false:=h;rw[hu]at h;cases h
 ·exact .inl h
theorem U8{n:Nd}{a:Af}{rs:List Rec}:((lC n a rs).getD n).wt=n.wt:=by
 unfold lC;split<;>rfl
section
variable{G:Nat→Int→Prop}{q i:Nat}{ns:Nat→Nd}{s:Ws}
theorem PQ.node(h:PQ G q (ns,s))(hi:i<5){n':Nd}(hP:∀r e t,Pos n' q r e t→Pos (ns i) q r e t∨Fn q ns (s.pn q) (s.pe q) i r e t)(hw:n'.wt=(ns i).wt):PQ G q (ak ns i n',s):=Pq.move h hi hP fun l hl=> .inl (hw▸hl)
theorem PQ.xb(h:PQ G q (ns,s)){s':Ws}{l:Lt}(e1:s'.pn=s.pn)(e2:s'.pe=s.pe)(e3:s'.fl=s.fl++[l])(hl:l.q=q→LC q ns (s.pn q) (s.pe q) l):PQ G q (ns,s'):=by
 show Pq G q ns (s'.pn q) (s'.pe q) s'.fl;rw[e1,e2,e3];exact Pq.send h fun x hx=>by rw[Ab.1 hx];exact hl
theorem PQ.same(h:PQ G q (ns,s)){s':Ws}(e1:s'.pn=s.pn)(e2:s'.pe=s.pe)(e3:s'.fl=s.fl):PQ G q (ns,s'):=by
 show Pq G q ns (s'.pn q) (s'.pe q) s'.fl;rw[e1,e2,e3];exact h
theorem PQ.part(h:PQ G q (ns,s))(hi:i<5){n:Nd}(hn:ns i=n)(sL:n.i=i)(hu:n.up=true)(ha:n.af=none)(q0:Nat)(hv:Int):PQ G q (ns,iE n s q0 hv):=by
 have h':Pq G q ns (s.pn q) (s.pe q) s.fl:=h;unfold iE;split
 ·refine h.xb rfl rfl rfl fun hq=>⟨fun g=>(by cases g),fun _ Fh=> ?_,fun g=>(by cases g),fun g=>(by cases g)⟩;obtain rfl:q0=q:=hq;have h3:(n.mo q0).r=3:=by
   have Fh:(partOf (n.mo q0) hv).2.1=true:=Fh;unfold partOf at Fh;split at Fh
   ·cases Fh
   ·exact(Bi Fh).1
  have o:=h'.p i hi (n.mo q0).r (n.mo q0).e (n.mo q0).t (by rw[hn];exact Pos.mo hu q0);have e1:=o.a2 (.inr h3);show((n.mo q0).e+1=_∧GV q0 ns _ _ (n.mo q0).t)∨((n.mo q0).e+1≤_∧yK (ns (n.mo q0).t.toNat) q0 ((n.mo q0).e+1));by_cases e:(n.mo q0).e=s.pe q0
  ·left;have e2:=o.b (.inr (.inr h3)) e;refine⟨by rw[e],by omega, ?_⟩;rw[show(s.pn q0).toNat=i by omega,hn];intro r e1 t hp;rcases hp.calm hu ha with⟨g1,g2,g3⟩|⟨g1,_⟩
   ·exact⟨g1.trans h3,g2.trans e,g3⟩
   ·omega
  ·exact .inr ⟨by omega,o.s h3 (by omega)⟩
 ·exact h
theorem PQ.push(hi:i<5):∀(k:Nat) (n:Nd) (ns:Nat→Nd),PQ G q (ns,s)→ns i=n→n.i=i→n.up=true→n.af=none→PQ G q (ak ns i (cS k n s).1,(cS k n s).2)
 |0,n,ns,h,hn,_,_,_=>by
  show PQ G q (ak ns i n,s);rw[←hn,eO];exact h
 |k+1,n,ns,h,hn,sL,hu,ha=>by
  have turn:∀tu,Pq G q (ak ns i {n with tu:=tu}) (s.pn q) (s.pe q) s.fl:=fun tu=>h.node hi (fun r e t hp=> .inl (by rw[hn];exact ee (n:=n) (n':={n with tu:=tu}) hu hu ⟨rfl,rfl,rfl⟩ (fun _ _ _ _=>rfl) hp)) (by rw[hn]);unfold cS;split
  ·have:=PQ.push hi k {n with tu:=(n.tu+1) % 4} (ak ns i {n with tu:=(n.tu+1) % 4}) (turn _) (aj ..) sL hu ha;rw[jl]at this;exact this
  ·refine Pq.send (turn _) fun l hl hq=> ?_;have o:=(turn ((n.tu+1) % 4)).p i hi _ _ _ (by rw[aj];exact Pos.mo (n:={n with tu:=(n.tu+1) % 4}) hu q);have hm:(({n with tu:=(n.tu+1) % 4}:Nd).mo q)=n.mo q:=rfl;rw[hm]at o;unfold dQ at hl;split at hl
   ·rename_i h2;rw[Ab.1 hl]at hq⊢;obtain rfl:n.tu=q:=hq;exact⟨fun _=>by have:=o.a2 (.inl h2);show(n.mo n.tu).e+1≤_;omega,fun g=>(by cases g),fun g=>(by cases g),fun g=>(by cases g)⟩
   split at hl
   ·rename_i h3;rcases BI.1 hl with hl|hl
    ·rw[hl]at hq⊢;obtain rfl:n.tu=q:=hq;exact⟨fun _=>by have:=o.a2 (.inr h3);show(n.mo n.tu).e+1≤_;omega,fun g=>(by cases g),fun g=>(by cases g),fun g=>(by cases g)⟩
    ·rw[Ab.1 hl];exact .plain (by show ¬(6:Int)=2;decide) (by show ¬(6:Int)=4;decide) (by show ¬(6:Int)=5;decide) (by show ¬(6:Int)=7;decide)
   split at hl
   ·rename_i h1;rw[Ab.1 hl]at hq⊢;obtain rfl:n.tu=q:=hq;refine⟨fun g=>(by cases g),fun g=>(by cases g),fun _=> ?_,fun g=>(by cases g)⟩;show(n.mo n.tu).e≤_∨((n.mo n.tu).e=_∧U7 (ak ns i _ (n.i:Int).toNat) n.tu _);have:=o.a;by_cases e:(n.mo n.tu).e≤s.pe n.tu
    ·exact .inl e
    ·refine .inr ⟨by omega, ?_⟩;rw[Bu,sL,aj];intro r e1 t hp;rcases hp.calm hu ha with⟨g1,g2,_⟩|⟨g1,_⟩
     ·exact⟨g1.trans h1.1,by have:e1=(n.mo n.tu).e:=g2;omega⟩
     ·have g1:(n.mo n.tu).r=2:=g1;omega
   ·cases hl
theorem pQ{B:Bt}{ep fr:Int}(h:(aP B ep fr).2=0):(aP B ep fr).1=B∨(¬(B.r=1∨B.r=2∨B.r=3)∧B.e<ep∧(aP B ep fr).1=⟨4,ep,fr,0,0,[]⟩):=by
 unfold aP at h⊢;split at h
 ·cases h
 ·rename_i h1;rw[Aa h1];split at h
  ·cases h
  ·rename_i h2;rw[Aa h2];split at h
   ·cases h
   ·rename_i h3;rw[Aa h3];split at h
    ·rename_i h4;rw[Ae h4];exact .inl rfl
    ·rename_i h4;rw[Aa h4];split at h
     ·cases h
     ·rename_i h5;rw[Aa h5];exact .inr ⟨h3,by omega,rfl⟩
theorem xc{B:Bt}{ep ya:Int}{l:List Ev}{la:Bool}(h:(a_ B ep ya l la).2=0):B.e=ep:=by
 unfold a_ at h;split at h
 ·cases h
 split at h
 ·cases h
 split at h
 ·cases h
 ·rename_i g;exact AD.1 g
theorem xd{B:Bt}{ep:Int}(h:(bp B ep).2=0):B.e<ep:=by
 unfold bp at h;split at h
 ·cases h
 split at h
 ·cases h
 split at h
 ·cases h
 ·omega
theorem PQ.SZ(h:PQ G q (ns,s))(hi:i<5){n:Nd}(hn:ns i=n)(sL:n.i=i)(hu:n.up=true)(ha:n.af=none)(ok:∀q,q<4→(n.mo q).Ok){l:Lt}(hw:eY l)(hl:l.q=q→LC q ns (s.pn q) (s.pe q) l∧(l.kd=4→l.dst=i)):PQ G q (ak ns i (bm n s l).1,(bm n s l).2):=by
 have me:Pos (ns i) q (n.mo q).r (n.mo q).e (n.mo q).t:=hn▸Pos.mo hu q;have h':Pq G q ns (s.pn q) (s.pe q) s.fl:=h;have o:=h'.p i hi _ _ _ me;have idle:PQ G q (ak ns i n,s):=by rw[←hn,eO];exact h
 have wr:∀{m:Nd} {a:Af} {rs:List Rec},m.up=true→m.wt=n.wt→(∀r e t,Pos m q r e t→Pos n q r e t)→(∀B,yi a=some (q,B)→Pos n q B.r B.e B.t∨Fn q ns (s.pn q) (s.pe q) i B.r B.e B.t)→PQ G q (ak ns i ((lC m a rs).getD m),s):=fun {m a rs} hm kh hp hB=>h.node hi (fun r e t hp1=>by
  rw[hn];rcases Me hm hp1 with g|⟨B,g1,rfl,rfl,rfl⟩
  ·exact .inl (hp r e t g)
  ·exact hB B g1) (by rw[U8,kh,hn])
 have Ym:∀{r e t:Int},k_ q ns (s.pn q) (s.pe q) i r e t→(∀ep,(ep<(n.mo q).e∨((n.mo q).e=ep∧¬(n.mo q).r=4))→ep<e∨(e=ep∧¬r=4))→¬((n.mo q).r=3∧(n.mo q).e=s.pe q)→¬((n.mo q).r=1∧(n.mo q).e=s.pe q+1)→(∀ep,(ep<(n.mo q).e∨((n.mo q).e=ep∧((n.mo q).r=3∨(n.mo q).r=0)))→ep<e∨(e=ep∧(r=3∨r=0)))→Fn q ns (s.pn q) (s.pe q) i r e t:=fun o' g1 g2 g3 g4=>⟨o',fun ep g=>g1 ep (g _ _ _ me),fun g=>g2 (g _ _ _ me),fun g=>g3 (g _ _ _ me),fun ep g=>g4 ep (g _ _ _ me)⟩;unfold bm;split
 ·
  unfold gD;split
  ·exact idle.xb rfl rfl rfl fun _=> .plain (by show ¬(1:Int)=2;decide) (by show ¬(1:Int)=4;decide) (by show ¬(1:Int)=5;decide) (by show ¬(1:Int)=7;decide)
  have bu:∀an,PQ G q (ak ns i n,dN n s l an):=fun an=>idle.xb rfl rfl rfl fun _=> .plain (by show ¬(1:Int)=2;decide) (by show ¬(1:Int)=4;decide) (by show ¬(1:Int)=5;decide) (by show ¬(1:Int)=7;decide);split
  ·exact bu _
  split
  ·rename_i n' e;have:=wr (m:=n) (a:= .serve l (bD (n.mo l.q) l.op).2.1) (rs:=[⟨2,l.q,(n.mo l.q).e,0,l.op⟩]) hu rfl (fun _ _ _ g=>g) fun B g=>by cases g
   rw[e]at this;exact this
  ·exact bu _
 split
 ·
  rename_i k2;unfold gE;split
  ·exact idle
  rename_i hb;split
  ·exact idle.xb rfl rfl rfl fun _=> .plain (by show ¬(3:Int)=2;decide) (by show ¬(3:Int)=4;decide) (by show ¬(3:Int)=5;decide) (by show ¬(3:Int)=7;decide)
  rename_i he;refine wr hu rfl (fun _ _ _ g=>g) fun B g=> ?_;have g:some (l.q,_)=some (q,B):=g;injection g with g
  obtain⟨rfl,rfl⟩:=AR g;rcases pQ (AD.1 hb)with e|⟨h1,h2,e⟩
  ·rw[e]at he;exact absurd rfl he
  rw[e];have zk:=(hl rfl).1.1 k2;exact .inr (Ym ⟨fun _=> .inr rfl,zk,fun g=>(by have g:(4:Int)=2∨(4:Int)=3:=g;omega),fun g=>(by have g:(4:Int)=1∨(4:Int)=2∨(4:Int)=3:=g;omega),fun g=>(by have g:(4:Int)=1∨(4:Int)=2:=g;omega),fun g=>(by have g:(4:Int)=1:=g;omega),fun g=>(by have g:(4:Int)=3:=g;omega),fun g=>(by have:=o.x g;omega)⟩ (fun ep g=> .inl (by show ep<l.ep;omega)) (by omega) (by omega) (fun ep g=> .inl (by show ep<l.ep;omega)))
 split
 ·
  unfold fj;split
  ·exact idle
  split
  ·exact idle
  rename_i hc;have hc:=AD.1 hc;obtain⟨hr,QP⟩:=ml (ok l.q hw.q) hc;split
  ·rename_i he;have hs:(aL (n.mo l.q) l.pl).1.r=(n.mo l.q).r∧(aL (n.mo l.q) l.pl).1.e=(n.mo l.q).e∧(aL (n.mo l.q) l.pl).1.t=(n.mo l.q).t:=by
    rcases QP with⟨_,e⟩|⟨h2,e⟩|⟨_,e⟩
    ·rw[e];exact⟨rfl,rfl,rfl⟩
    ·rw[e]at he;have he:(3:Int)=(n.mo l.q).r:=he;omega
    ·rw[e];exact⟨rfl,rfl,rfl⟩
   have h2:PQ G q (ak ns i {n with mo:=ak n.mo l.q (aL (n.mo l.q) l.pl).1},s):=h.node hi (fun r e t hp=> .inl (by
    rw[hn];refine ee (n':={n with mo:=ak n.mo l.q (aL (n.mo l.q) l.pl).1}) hu hu ?_ (fun _ _ g _=>rfl) hp;by_cases e1:q=l.q
    ·subst e1;show(ak n.mo l.q _ l.q).r=_∧(ak n.mo l.q _ l.q).e=_∧(ak n.mo l.q _ l.q).t=_;rw[aj];exact hs
    ·show(ak n.mo l.q _ q).r=_∧(ak n.mo l.q _ q).e=_∧(ak n.mo l.q _ q).t=_
     rw[aI e1];exact⟨rfl,rfl,rfl⟩)) (by rw[hn])
   exact h2.part hi (aj ..) sL hu ha l.q l.pl
  ·rename_i he;refine wr hu rfl (fun _ _ _ g=>g) fun B g=> ?_;have g:some (l.q,_)=some (q,B):=g;injection g with g
   obtain⟨rfl,rfl⟩:=AR g;rcases QP with⟨_,e⟩|⟨h2,e⟩|⟨_,e⟩
   ·rw[e]at he;exact absurd rfl he
   ·rw[e];have hd:=o.d (.inr h2);have U5:=o.a2 (.inl h2);exact .inr (Ym ⟨fun g=>(by have:=o.z g;omega),(by show(n.mo l.q).e≤_;omega),fun _=>U5,fun _=>o.b (.inr (.inl h2)),fun g=>(by have g:(3:Int)=1∨(3:Int)=2:=g;omega),fun g=>(by have g:(3:Int)=1:=g;omega),fun _ g=>(by have g:(n.mo l.q).e<_:=g;omega),fun g=>(by have:=o.x g;exact⟨.inr (.inr rfl),this.2⟩)⟩ (fun ep g=>(by show ep<(n.mo l.q).e∨((n.mo l.q).e=ep∧¬(3:Int)=4);omega)) (by omega) (by omega) (fun ep g=>(by show ep<(n.mo l.q).e∨((n.mo l.q).e=ep∧((3:Int)=3∨(3:Int)=0));omega)))
   ·rw[e]at he;exact absurd rfl he
 split
 ·
  rename_i k4;unfold takeN;split
  ·exact idle
  rename_i hc;have hc:=AD.1 hc;split
  ·exact idle
  refine wr hu rfl (fun _ _ _ g=>g) fun B g=> ?_;have g:some (l.q,_)=some (q,B):=g;injection g with g
  obtain⟨rfl,rfl⟩:=AR g;obtain⟨_,h4,_,new,e⟩:=pN hc;have zk:=xc hc;rw[e];obtain⟨DI,p8⟩:=hl rfl;cases Fh:l.la with
  |false=>exact .inl (hn▸me)
  |true=>
   have DI:=DI.2.1 k4 Fh;rw[p8 k4]at DI;rcases DI with⟨e1,e2⟩|⟨e1,e2⟩
   ·have e3:(n.mo l.q).e=s.pe l.q+1:=zk.trans e1;refine .inr (Ym (r:=1) (e:=(n.mo l.q).e) (t:=0) ⟨fun g=>(by have:=e2.1;omega),(by omega),fun g=>(by omega),fun _ g=>(by omega),fun _=>(by omega),fun _ _=>e2,fun g=>(by omega),fun g=>(by have:=o.x g;omega)⟩ (fun ep g=>(by omega)) (by omega) (by omega) (fun ep g=>(by omega)))
   ·rw[Bu]at e2;have:=e2 _ _ _ me;omega
 ·
  rename_i k0 k2 k3 k4;have k7:l.kd=7:=by have:=hw.kd;omega
  unfold gF;have hh:(cV n l).up=true∧(cV n l).wt=n.wt∧∀r e t,Pos (cV n l) q r e t→Pos n q r e t:=by
   unfold cV;split
   ·exact⟨hu,rfl,fun r e t hp=>ee (n':={n with hn:=ak n.hn l.q l.pn,he:=ak n.he l.q l.pe}) hu hu ⟨rfl,rfl,rfl⟩ (fun _ _ _ _=>rfl) hp⟩
   ·exact⟨hu,rfl,fun _ _ _ g=>g⟩
  split
  ·rename_i hf;refine wr hh.1 hh.2.1 hh.2.2 fun B g=> ?_;have g:some (l.q,_)=some (q,B):=g;injection g with g
   obtain⟨rfl,rfl⟩:=AR g;obtain⟨h3,e⟩:=pM hf;have hfe:=xd hf;have h7:=(hl rfl).1.2.2.2 k7;rw[e];exact .inr (Ym (r:=0) (e:=(n.mo l.q).e) (t:=0) ⟨fun _=> .inl rfl,o.a,fun g=>(by omega),fun g=>(by omega),fun g=>(by omega),fun g=>(by omega),fun g=>(by omega),fun g=>(by have:=o.x g;omega)⟩ (fun ep g=>(by omega)) (by omega) (by omega) (fun ep g=>(by omega)))
  ·exact h.node hi (fun r e t hp=> .inl (by rw[hn];exact hh.2.2 r e t hp)) (by rw[hh.2.1,hn])
end
theorem GW(n:Nd)(s:Ws)(l:Lt):(bm n s l).1.wt=n.wt:=(ie n s l).1.2
section
variable{G:Nat→Int→Prop}{q i:Nat}
theorem PQ.work(hi:i<5):∀(k:Nat) (n:Nd) (s:Ws) (ns:Nat→Nd),PQ G q (ns,s)→ns i=n→n.i=i→n.up=true→n.af=none→Up n→(∀l∈n.wt,eY l)→PQ G q (ak ns i (cJ k n s).1,(cJ k n s).2)
 |0,n,s,ns,h,hn,sL,hu,ha,_,_=>PQ.push hi 4 n ns h hn sL hu ha
 |k+1,n,s,ns,h,hn,sL,hu,ha,up,hw=>by
  unfold cJ;split
  ·exact PQ.push hi 4 n ns h hn sL hu ha
  rename_i l ls e;have h':Pq G q ns (s.pn q) (s.pe q) s.fl:=h;have hl:l∈(ns i).wt:=by rw[hn,e];exact Aq
  have Gv:∀x∈ls,x∈n.wt:=fun x hx=>by rw[e];exact Az _ hx
  have h1:Pq G q ns (s.pn q) (s.pe q) (s.fl++[l]):=Pq.send h' fun x hx hq=>by
   rw[Ab.1 hx]at hq⊢;exact(h'.w i hi l hl hq).1
  have h2:=Pq.move h1 hi (n':={n with wt:=ls}) (fun r e t hp=> .inl (by rw[hn];exact ee (n:=n) (n':={n with wt:=ls}) hu hu ⟨rfl,rfl,rfl⟩ (fun _ _ _ _=>rfl) hp)) (fun x hx=> .inl (by rw[hn];exact Gv x hx));have pZ:eY l:=hw l (hn▸hl);have JX:Up {n with wt:=ls}:=up.congr rfl rfl rfl rfl;have h3:=PQ.SZ (q:=q) (i:=i) (ns:=ak ns i {n with wt:=ls}) (s:=s) (h2.less fun x hx=>Bk _ hx) hi (aj ..) sL hu ha JX.mo pZ fun hq=>⟨h2.l l (Bj _ Aq) hq,(h'.w i hi l hl hq).2⟩;rw[jl]at h3;obtain⟨g1,g2,g3,_⟩:=pO (s:=s) (l:=l) JX ha pZ;split
  ·exact h3
  ·rename_i hs;have U5:(bm {n with wt:=ls} s l).1.af=none:=by
    cases hx:(bm {n with wt:=ls} s l).1.af with
    |none=>rfl
    |some a=>rw[hx]at hs;exact absurd rfl hs
   have h4:=PQ.work hi k _ _ _ h3 (aj ..) (g3.trans sL) (g2.trans hu) U5 g1 (fun x hx=>by rw[GW]at hx;exact hw x (Gv x hx));rw[jl]at h4;exact h4
theorem qQ{n n':Nd}(hu:n.up=true)(um:n'.up=true)(JL:n'.af=none)(hm:∀q,((n'.mo q).r=(n.mo q).r∧(n'.mo q).e=(n.mo q).e∧(n'.mo q).t=(n.mo q).t)∨∃a,n.af=some a∧yi a=some (q,n'.mo q)∧¬(n'.mo q).r=2){r e t:Int}(h:Pos n' q r e t):Pos n q r e t:=by
 rcases hm q with g|⟨a,g1,g2,g3⟩
 ·exact ee hu um g (fun a B h1 _=>by rw[JL]at h1;cases h1) h
 ·rcases h.calm um JL with g|⟨g,_⟩
  ·exact .inl ⟨hu,.inr (.inr ⟨a,_,g1,g2,g⟩)⟩
  ·exact absurd g g3
theorem PQ.step{ns:Nat→Nd}{s:Ws}(h:PQ G q (ns,s))(hi:i<5)(hN:NI i (ns i)):PQ G q (ak ns i (eB (ns i) s).1,(eB (ns i) s).2):=by
 by_cases hu:(ns i).up=false
 ·rw[jB hu,eO];exact h
 have hu:(ns i).up=true:=by simpa using hu
 have up:=hN.up hu;cases ha:(ns i).af with
 |none=>
  rw[jD hu ha];exact PQ.work hi _ _ s ns h rfl hN.i hu ha up hN.wt
 |some a=>
  rw[jC hu ha];obtain⟨dJ,dC,Bs,_,_,_,_,e5⟩:=up.ex;rcases e5 with⟨e,_⟩|⟨a',q',D,e,pd⟩
  ·rw[ha]at e;cases e
  rw[ha]at e;cases e
  have hD:¬D.r=2:=GS pd.run (by
   by_cases g:((ns i).mo q').r=2
   ·rw[si g];show ¬(1:Int)=2;decide
   ·rw[gK g];exact g)
  have put:∀q0 B,yi a=some (q0,B)→¬B.r=2→PQ G q (ak ns i {ns i with sy:=(ns i).dl.length,af:=none,mo:=ak (ns i).mo q0 B},s):=fun q0 B g1 g2=>h.node hi (fun r e t hp=> .inl (qQ hu (n':={ns i with sy:=(ns i).dl.length,af:=none,mo:=ak (ns i).mo q0 B}) hu rfl (fun p=>by
   show((ak (ns i).mo q0 B p).r=_∧(ak (ns i).mo q0 B p).e=_∧(ak (ns i).mo q0 B p).t=_)∨∃a,(ns i).af=some a∧yi a=some (p,ak (ns i).mo q0 B p)∧¬(ak (ns i).mo q0 B p).r=2;by_cases g:p=q0
   ·subst g;rw[aj];exact .inr ⟨a,ha,g1,g2⟩
   ·rw[aI g]
    exact .inl ⟨rfl,rfl,rfl⟩) hp)) rfl
  have p3:∀{ns':Nat→Nd} {s':Ws} {l:Lt},PQ G q (ns',s)→s'.pn=s.pn→s'.pe=s.pe→s'.fl=s.fl++[l]→l.kd=3∨l.kd=1→PQ G q (ns',s'):=fun {ns' s' l} g e1 e2 e3 hk=>g.xb e1 e2 e3 fun _=> .plain (by omega) (by omega) (by omega) (by omega);have Gn:=pd.af;cases a with
  |serve l an=>
   obtain⟨rfl,hr,G9,_⟩:=Gn;have e1:(bD ((ns i).mo l.q) l.op).1=((ns i).mo l.q).more [l.op]:=by rw[eV G9]
   refine p3 (l:=gT l.nu an (-1) 0) (ns':=ak ns i {ns i with sy:=(ns i).dl.length,af:=none,mo:=ak (ns i).mo l.q (bD ((ns i).mo l.q) l.op).1}) ?_ rfl rfl rfl (.inr rfl);rw[e1];refine h.node hi (fun r e t hp=> .inl (qQ hu (n':={ns i with sy:=(ns i).dl.length,af:=none,mo:=ak (ns i).mo l.q (((ns i).mo l.q).more [l.op])}) hu rfl (fun p=> ?_) hp)) rfl;show((ak (ns i).mo l.q (((ns i).mo l.q).more [l.op]) p).r=_∧(ak (ns i).mo l.q (((ns i).mo l.q).more [l.op]) p).e=_∧(ak (ns i).mo l.q (((ns i).mo l.q).more [l.op]) p).t=_)∨_;by_cases g:p=l.q
   ·subst g;rw[aj];exact .inl ⟨rfl,rfl,rfl⟩
   ·rw[aI g];exact .inl ⟨rfl,rfl,rfl⟩
  |begin l B=>
   obtain⟨rfl,_,rfl⟩:=Gn;exact p3 (put l.q D rfl hD) rfl rfl rfl (.inl rfl)
  |shut l B=>
   obtain⟨rfl,_,rfl⟩:=Gn;exact PQ.part (put l.q D rfl hD) hi (aj ..) hN.i hu rfl l.q l.pl
  |take l B=>
   obtain⟨rfl,_,rfl⟩:=Gn;have g:=put l.q D rfl hD;show PQ G q (_,if D.r=1 then _ else _);split
   ·exact g.same rfl rfl rfl
   ·exact p3 g rfl rfl rfl (.inl rfl)
  |fA q0 B=>
   obtain⟨rfl,_,rfl⟩:=Gn;exact put q0 D rfl hD
theorem PQ.sU{ns:Nat→Nd}{s:Ws}{l:Lt}(ok:j9 l)(dir:bN s.pn s.pe)(jb:q<4):∃L,(bH ns s l).2.fl=s.fl++L∧∀F,Pq G q ns (s.pn q) (s.pe q) F→l∈F→Pq G q (bH ns s l).1 ((bH ns s l).2.pn q) ((bH ns s l).2.pe q) (F++L):=by
 have pl:∀{ns:Nat→Nd} {pn pe:Int} {F:List Lt} {a b:Int},Pq G q ns pn pe F→(l.q=q→b≤pe)→Pq G q ns pn pe (F++[iK l.fr l.q a b]):=fun {ns pn pe F a b} g hb=>Pq.send g fun x hx hq=>by
  rw[Ab.1 hx]at hq⊢;exact⟨fun g=>(by cases g),fun g=>(by cases g),fun g=>(by cases g),fun _=>hb hq⟩
 unfold bH;split
 ·exact⟨[],(Au _).symm,fun F h _=>by rw[Au];exact h⟩
 split
 ·rename_i k5;unfold dI;split
  ·rename_i hc;obtain⟨_,M_,hg⟩:=hc;refine⟨[iK l.fr l.q (bw s.pn l.q l.fr l.q) (bw s.pe l.q (s.pe l.q+1) l.q)],rfl,fun F h hF=> ?_⟩;show Pq G q ns (bw s.pn l.q l.fr q) (bw s.pe l.q (s.pe l.q+1) q) (F++_);by_cases e:l.q=q
   ·subst e;have ed:∀(f:tH) x,bw f l.q x l.q=x:=fun f x=>Ae rfl;rw[ed,ed];unfold wm at hg;split at hg
    ·omega
    split at hg
    ·omega
    have hd:=dir l.q jb;unfold kS at hd;rcases(h.l l hF rfl).2.2.1 k5 with g|⟨_,g⟩
    ·omega
    ·exact pl (h.flip ok.f0 ok.f5 (by omega) (by omega) g) fun _=>Bq _
   ·have ed:∀(f:tH) x,bw f l.q x q=f q:=fun f x=>Aa fun g=>e g.symm;rw[ed,ed];exact pl h fun g=>absurd g e
  ·exact⟨[iK l.fr l.q (s.pn l.q) (s.pe l.q)],rfl,fun F h hF=>pl h fun g=>by rw[g];exact Bq _⟩
 split
 ·exact⟨[iK l.fr l.q (s.pn l.q) (s.pe l.q)],rfl,fun F h hF=>pl h fun g=>by rw[g];exact Bq _⟩
 ·rename_i k1 k5 k6;refine⟨[],(Au _).symm,fun F h hF=> ?_⟩;rw[Au];obtain⟨_,hd0,hd5⟩:eY l∧0≤l.dst∧l.dst<5:=by
   rcases ok.ok.kd with g|⟨g,_⟩|⟨g,_⟩|g
   ·exact absurd g k1
   ·exact absurd g k5
   ·exact absurd g k6
   ·exact g
  show Pq G q (ak ns l.dst.toNat _) (s.pn q) (s.pe q) F;by_cases hu:(ns l.dst.toNat).up=true
  ·rw[Ae hu];refine Pq.move h (by omega) (fun r e t hp=> .inl (ee (n':={ns l.dst.toNat with wt:=(ns l.dst.toNat).wt++[l]}) hu hu ⟨rfl,rfl,rfl⟩ (fun _ _ _ _=>rfl) hp)) fun x hx=> ?_;rcases Ah.1 hx with hx|hx
   ·exact .inl hx
   ·rw[Ab.1 hx];exact .inr fun hq=>⟨h.l l hF hq,fun _=>by omega⟩
  ·rw[Aa hu,eO];exact h
theorem De(jb:q<4):∀(ls:List Lt) {p0:(Nat→Nd)×Ws} {m:Nat} (p:(Nat→Nd)×Ws),Cm p0 p m→(∀l∈ls,j9 l)→Pq G q p.1 (p.2.pn q) (p.2.pe q) (p.2.fl++ls)→PQ G q (ls.foldl (fun p l=>bH p.1 p.2 l) p)
 |[],_,_,p,_,_,h=>by rw[Au]at h;exact h
 |l::ls,_,_,p,hc,hl,h=>by
  rw[BZ];obtain⟨L,e,hF⟩:=PQ.sU (q:=q) (ns:=p.1) (s:=p.2) (hl l Aq) hc.dir jb;refine De jb ls _ (pP hc (hl l Aq)) (fun x hx=>hl x (Az _ hx)) ((hF _ h (Bj _ Aq)).less fun x hx=> ?_);rw[e]at hx;rcases Ah.1 hx with hx|hx
  ·rcases Ah.1 hx with hx|hx
   ·exact Bk _ (Bk _ hx)
   ·exact Bj _ hx
  ·exact Bk _ (Bj _ (Az _ hx))
theorem PQ.make{ns:Nat→Nd}{s:Ws}(h:PQ G q (ns,s))(hi:i<5)(hN:NI i (ns i))(iG:∀l∈s.fl,j9 l)(j_:∀j,j<5→NI j (ns j)){q0:Nat}(hq0:q0<4):PQ G q (ak ns i (dO (ns i) s q0).1,(dO (ns i) s q0).2):=by
 unfold dO;split
 case isFalse=>rw[eO];exact h
 rename_i hc;obtain⟨⟨hd,M_⟩,hu,ha,hm,_⟩:=hc;have h':Pq G q ns (s.pn q) (s.pe q) s.fl:=h;obtain⟨n',pS,um,JL,Wz,hm'⟩:∃n':Nd,n'={ns i with dl:=(ns i).dl++cp [aU q0],sy:=(((ns i).dl.length+(cp [aU q0]).length:Nat):Int),mo:=ak (ns i).mo q0 ⟨1,1,0,0,0,[]⟩}∧n'.up=true∧n'.af=none∧n'.wt=(ns i).wt∧n'.mo=ak (ns i).mo q0 ⟨1,1,0,0,0,[]⟩:=⟨_,rfl,hu,ha,rfl,rfl⟩;show Pq G q (ak ns i {ns i with dl:=(ns i).dl++cp [aU q0],sy:=(((ns i).dl.length+(cp [aU q0]).length:Nat):Int),mo:=ak (ns i).mo q0 ⟨1,1,0,0,0,[]⟩}) (bw s.pn q0 (ns i).i q) (bw s.pe q0 1 q) s.fl;rw[←pS];clear pS;by_cases e:q=q0
 case neg=>
  have ed:∀(f:tH) x,bw f q0 x q=f q:=fun f x=>Aa e;rw[ed,ed]
  exact h.node hi (fun r e1 t hp=> .inl (ee hu um (by
   rw[hm',aI e];exact⟨rfl,rfl,rfl⟩) (fun a B g _=>by rw[JL]at g;cases g) hp)) Wz
 subst e;have ed:∀(f:tH) x,bw f q x q=x:=fun f x=>Ae rfl;rw[ed,ed,hN.i];have XL:s.pe q=0:=by
  have:=hd q hq0;unfold kS at this;omega
 rw[M_,XL]at h';have me:∀{r e t:Int},Pos n' q r e t→r=1∧e=1:=fun {r e t} hp=>by
  have hx:=hp.calm um JL;rw[hm',aj]at hx;rcases hx with⟨g1,g2,_⟩|⟨g1,_⟩
  ·exact⟨g1,g2⟩
  ·cases g1
 have tL:∀l,(l.kd=5→l.fr.toNat<5)→LC q ns (-1) 0 l→LC q (ak ns i n') i 1 l:=fun l h5 hl=>⟨fun g=>by have:=hl.1 g;omega,fun g1 g2=> .inr (by
  rcases hl.2.1 g1 g2 with⟨_,g,_⟩|⟨g,gn⟩
  ·omega
  ·refine⟨by omega,fun r e t hp=> ?_⟩;by_cases e1:l.dst.toNat=i
   ·rw[e1,aj]at hp;have:=me hp;omega
   ·rw[aI e1]at hp;exact gn r e t hp),fun g=> .inl (by
  rcases hl.2.2.1 g with g1|⟨_,g1⟩
  ·omega
  ·have v:=Pos.Yl (ns l.fr.toNat) q;have:=g1 _ _ _ v;have:=(h'.p _ (h5 g) _ _ _ v).z rfl
   omega),fun g=>by have:=hl.2.2.2 g;omega⟩
 refine⟨fun j hj r e t hp=> ?_,fun l hl hq=>tL l (fun _=>by have:=(iG l hl).f0;have:=(iG l hl).f5;omega) (h'.l l hl hq),fun j hj l hl hq=> ?_,fun j hj ep g=>⟨(h'.k j hj ep g).1,fun r e t hp=> ?_⟩⟩
 ·by_cases e1:j=i
  ·subst e1;rw[aj]at hp;obtain⟨rfl,rfl⟩:=me hp;exact⟨fun g=>by omega,by omega,fun g=>by omega,fun _ _=>rfl,fun _=>Bq _,fun _ g=>by omega,fun g=>by omega,fun _=>⟨.inl rfl,rfl⟩⟩
  ·rw[aI e1]at hp;have o:=h'.p j hj r e t hp;have z:=o.z rfl;exact⟨fun g=>by omega,by have:=o.a;omega,fun g=>by omega,fun g=>by omega,fun g=>by omega,fun g=>by omega,fun g=>by omega,fun g=>by omega⟩
 ·have hw:l∈(ns j).wt:=by
   by_cases e1:j=i
   ·subst e1;rw[aj,Wz]at hl;exact hl
   ·rw[aI e1]at hl;exact hl
  have:=h'.w j hj l hw hq;exact⟨tL l (fun g=>by have:=((j_ j hj).wt l hw).kd;omega) this.1,this.2⟩
 ·obtain⟨k1,k2⟩:=h'.k j hj ep g;by_cases e1:j=i
  ·subst e1;rw[aj]at hp;have VN:((ns j).mo q).e<1:=by
    unfold fh at hm;split at hm
    ·cases hm
    split at hm
    ·cases hm
    split at hm
    ·cases hm
    split at hm
    ·cases hm
    ·omega
   have:=k2 _ _ _ (Pos.mo hu q);omega
  ·rw[aI e1]at hp;exact k2 r e t hp
theorem xe{B:Bt}{nd:Int}(h:(cW B nd).2=0):B.r=1∧(cW B nd).1=⟨2,B.e,B.f,nd,B.o,B.es⟩:=by
 unfold cW at h⊢;split at h
 ·cases h
 ·rename_i h1;rw[Aa h1];split at h
  ·cases h
  ·rename_i h2;rw[Aa h2];split at h
   ·cases h
   ·rename_i h3;rw[Aa h3];split at h
    ·cases h
    ·rename_i h4;rw[Aa h4];split at h
     ·cases h
     ·rename_i h5;rw[Aa h5];exact⟨AD.1 h4,rfl⟩
theorem GX{k:Nat}{p:(Nat→Nd)×Ws}(h:Inv k p){f:tH}(ok:xO f)(jb:q<4)(P:PQ G q p):PQ G q (j8 p f):=by
 obtain⟨ns,s⟩:=p;have hi:(f 1).toNat<5:=by have:=ok.n;omega
 have hq:(f 2).toNat<4:=by have:=ok.q;omega
 have QY:=ok.kp;have hN:=h.n _ hi;have j_:=h.n;have iG:=h.fl;have gg:=h.dir;have P':Pq G q ns (s.pn q) (s.pe q) s.fl:=P;unfold j8;generalize(f 1).toNat=n,(f 2).toNat=q0,(f 3).toNat=j,f 4=kp,(⟨f 5,f 6,f 7,f 8,f 9,f 10⟩:Ev)=e,f 0=k at*;dsimp only at hN j_ iG gg⊢;unfold Qn;split
 ·exact P.make hi hN iG j_ hq
 split
 ·exact P.xb rfl rfl rfl fun _=> .plain (by show ¬(0:Int)=2;decide) (by show ¬(0:Int)=4;decide) (by show ¬(0:Int)=5;decide) (by show ¬(0:Int)=7;decide)
 split
 ·exact P.step hi hN
 split
 ·unfold jc;split
  ·exact P
  rename_i l hl;have hm:=Ar hl;have less:∀s':Ws,s'=(if k=6 then s else {s with fl:=s.fl.eraseIdx (j % s.fl.length)})→s'.pn=s.pn∧s'.pe=s.pe∧∀x∈s'.fl,x∈s.fl:=by
   rintro s' rfl;split
   ·exact⟨rfl,rfl,fun _ g=>g⟩
   ·exact⟨rfl,rfl,fun x g=>Bv g⟩
  obtain⟨l1,l2,l3⟩:=less _ rfl;generalize(if k=6 then s else {s with fl:=s.fl.eraseIdx (j % s.fl.length)})=s' at l1 l2 l3⊢;split
  ·show Pq G q ns (s'.pn q) (s'.pe q) s'.fl;rw[l1,l2];exact P'.less l3
  ·obtain⟨L,e1,e2⟩:=PQ.sU (q:=q) (ns:=ns) (s:=s') (iG l hm) (by rw[l1,l2];exact gg) jb;show Pq G q (bH ns s' l).1 _ _ (bH ns s' l).2.fl;rw[e1];refine(e2 s.fl (by rw[l1,l2];exact P') hm).less fun x hx=> ?_;rcases Ah.1 hx with hx|hx
   ·exact Bk _ (l3 x hx)
   ·exact Bj _ hx
 split
 ·exact De jb s.fl (p0:=(ns,{s with fl:=[]})) (m:=0) (ns,{s with fl:=[]}) ⟨h.n,(fun l hl=>by cases hl),gg,Ac _,rfl,Ac _,rfl⟩ iG P'
 split
 ·show PQ G q (ak ns n (jZ (ns n) kp),s);unfold jZ;split
  ·rename_i hu;exact Pq.move P' hi (fun r e t hp=> .inl (w_ (hN.up hu) hu hN.ln QY.1 jb hp)) fun l hl=>by cases hl
  ·rw[eO];exact P
 split
 ·have e1:(cQ (ns n) s).2.pn=s.pn∧(cQ (ns n) s).2.pe=s.pe∧(cQ (ns n) s).2.fl=s.fl∧∀l∈(cQ (ns n) s).1.wt,l∈(ns n).wt:=by
   unfold cQ;split
   ·exact⟨rfl,rfl,rfl,fun _ g=>g⟩
   split
   ·unfold iL;split
    ·exact⟨rfl,rfl,rfl,fun _ g=>by cases g⟩
    ·exact⟨rfl,rfl,rfl,fun _ g=>g⟩
   ·exact⟨rfl,rfl,rfl,fun _ g=>g⟩
  have h1:PQ G q (ak ns n (cQ (ns n) s).1,s):=Pq.move P' hi (fun r e t hp=> .inl (xa hN.dw hN.ln jb hp)) fun l hl=> .inl (e1.2.2.2 l hl);exact h1.same e1.1 e1.2.1 e1.2.2.1
 ·show PQ G q (ak ns (s.pn q0).toNat (jX (ns (s.pn q0).toNat) s q0 n),s);unfold jX;split
  ·rw[eO];exact P
  rename_i hc;have hd:=gg q0 hq;unfold kS at hd;have c1:¬s.pn q0= -1:=fun g=>hc (.inl g);have J8:(s.pn q0).toNat<5:=by omega
  have C0:(ns (s.pn q0).toNat).up=true:=by
   cases hx:(ns (s.pn q0).toNat).up with
   |true=>rfl
   |false=>exact absurd (.inr (.inr (.inl hx))) hc
  have c4:((ns (s.pn q0).toNat).mo q0).e=s.pe q0:=AD.1 fun g=>hc (.inr (.inr (.inr (.inl g))));have c5:(cW ((ns (s.pn q0).toNat).mo q0) n).2=0:=AD.1 fun g=>hc (.inr (.inr (.inr (.inr g))));obtain⟨g1,g2⟩:=xe c5;rw[g2];refine P.node J8 (fun r e t hp=> ?_) rfl;by_cases eq:q=q0
  case neg=>
   left;refine ee (n:=ns (s.pn q0).toNat) (n':={ns (s.pn q0).toNat with mo:=ak (ns (s.pn q0).toNat).mo q0 ⟨2,((ns (s.pn q0).toNat).mo q0).e,((ns (s.pn q0).toNat).mo q0).f,n,((ns (s.pn q0).toNat).mo q0).o,((ns (s.pn q0).toNat).mo q0).es⟩}) C0 C0 ?_ (fun _ _ _ _=>rfl) hp;show(ak (ns (s.pn q0).toNat).mo q0 _ q).r=_∧(ak (ns (s.pn q0).toNat).mo q0 _ q).e=_∧(ak (ns (s.pn q0).toNat).mo q0 _ q).t=_;rw[aI eq];exact⟨rfl,rfl,rfl⟩
  subst eq;have me:=Pos.mo C0 q;have o:=P'.p _ J8 _ _ _ me;have VN:ak (ns (s.pn q).toNat).mo q (⟨2,((ns (s.pn q).toNat).mo q).e,((ns (s.pn q).toNat).mo q).f,n,((ns (s.pn q).toNat).mo q).o,((ns (s.pn q).toNat).mo q).es⟩:Bt) q=_:=aj ..;rcases hp with⟨_,hp|⟨_,hp⟩|⟨a,B,hp,hp2⟩⟩|⟨hp,_⟩
  ·have hp:r=(ak (ns (s.pn q).toNat).mo q (⟨2,((ns (s.pn q).toNat).mo q).e,((ns (s.pn q).toNat).mo q).f,n,((ns (s.pn q).toNat).mo q).o,((ns (s.pn q).toNat).mo q).es⟩:Bt) q).r∧e=(ak (ns (s.pn q).toNat).mo q (⟨2,((ns (s.pn q).toNat).mo q).e,((ns (s.pn q).toNat).mo q).f,n,((ns (s.pn q).toNat).mo q).o,((ns (s.pn q).toNat).mo q).es⟩:Bt) q).e∧t=_:=hp;rw[VN]at hp;obtain⟨rfl,rfl,_⟩:=hp;right;refine⟨⟨fun g=>absurd g c1,o.a,fun _=>by show((ns (s.pn q).toNat).mo q).e≤_;omega,fun _=>o.b (.inl g1),fun _=>o.d (.inl g1),fun g=> ?_,fun g=> ?_,fun g=> ?_⟩,fun ep g=> ?_,fun g=> ?_,fun g=> ?_,fun ep g=> ?_⟩
   ·have g:(2:Int)=1:=g;omega
   ·have g:(2:Int)=3:=g;omega
   ·exact⟨.inr (.inl rfl),(o.x g).2⟩
   ·have:=g _ _ _ me;show ep<((ns (s.pn q).toNat).mo q).e∨(((ns (s.pn q).toNat).mo q).e=ep∧¬(2:Int)=4);omega
   ·have:=g _ _ _ me;omega
   ·have:=g _ _ _ me;omega
   ·have:=g _ _ _ me;show ep<((ns (s.pn q).toNat).mo q).e∨(((ns (s.pn q).toNat).mo q).e=ep∧((2:Int)=3∨(2:Int)=0));omega
  ·have hp:r=1∧e=(ak (ns (s.pn q).toNat).mo q (⟨2,((ns (s.pn q).toNat).mo q).e,((ns (s.pn q).toNat).mo q).f,n,((ns (s.pn q).toNat).mo q).o,((ns (s.pn q).toNat).mo q).es⟩:Bt) q).e∧t=0:=hp;rw[VN]at hp;obtain⟨rfl,rfl,rfl⟩:=hp;left;have okB:=(NI.up (j_ _ J8) C0).mo q hq;have hs:=okB.cG;unfold Bt.b_ bg at hs;exact .inl ⟨C0,.inl ⟨g1.symm,rfl,by omega⟩⟩
  ·exact .inl (.inl ⟨C0,.inr (.inr ⟨a,B,hp,hp2⟩)⟩)
  ·have hp:(ns (s.pn q).toNat).up=false:=hp;rw[C0]at hp;cases hp
theorem pq0(jb:q<4):PQ (fun _ _=>False) q (Uu,Q1):=by
 refine⟨fun i hi r e t hp=> ?_,(fun l hl=>by cases hl),(fun i hi l hl=>by cases hl),(fun i hi ep g=>by cases g)⟩;rcases hp.calm (show(Uu i).up=true from rfl) rfl with⟨rfl,rfl,rfl⟩|⟨g,_⟩
 ·exact⟨fun _=> .inl rfl,by show(0:Int)≤0+1;decide,fun g=>by have g:(0:Int)=2∨(0:Int)=3:=g;omega,fun g=>by have g:(0:Int)=1∨(0:Int)=2∨(0:Int)=3:=g;omega,fun g=>by have g:(0:Int)=1∨(0:Int)=2:=g;omega,fun g=>by have g:(0:Int)=1:=g;omega,fun g=>by have g:(0:Int)=3:=g;omega,fun g=>by have g:((i:Nat):Int)= -1:=g.trans (Ae jb);omega⟩
 ·have g:(0:Int)=2:=g;omega
theorem Df(jb:q<4)(D:tG)(n:Nat)(hn:n≤100000)(ok:∀j,j<n→Lq.fQ (Lq.av D j)=0):∀k,k≤n→PQ (fun _ _=>False) q (gk D k)
 |0,_=>pq0 jb
 |k+1,hk=>GX (gY D n hn ok k (by omega)) (lT (ok k (by omega))) jb (Df jb D n hn ok k (by omega))
end
section
open Rv
namespace Rv
section
variable{n:Nat}{fn:Func}{Rr:Ending→World→Prop}{M:tF}{Φ R:tJ}{H:List En}{ks:List Fr}{f:Nat→AV}
theorem gp{en:En}(j:Nat)(he:nth H j=some en)(l':List Sg)(hz:eX l'=eX en.l)(hg:dD en.l=dD l')(hn:G Tryz.prog fn Rr n M Φ R ks f (H.set j ⟨en.a,en.t,l'⟩)):G Tryz.prog fn Rr n M Φ R ks f H:=by
 refine jt (fun w hS=> ?_) hn;have xm:=he;rw[eR]at xm;have xn:(hs H)[j]? =some en.g_:=by rw[Ax,xm];rfl
 have Ep:=hS.congr j xn (cy l') (fun i hi=>by
  have hi:i<eX en.l:=hi;show cy en.l i=cy l' i
  rw[iu _ hi,iu _ (hz▸hi),hg])
 have e4:hs (H.set j ⟨en.a,en.t,l'⟩)=(hs H).set j ⟨en.a,en.t,eX en.l,cy l'⟩:=by
  rw[hs,Co];show _=List.set _ j (⟨en.a,en.t,eX en.l,cy l'⟩:bX);rw[←hz];rfl
 rw[e4];exact Ep
end
end Rv
namespace Rv
end Rv
theorem qR{w:tA}{o:Oc}{t:j7}(h:lO w o t){i:Nat}(hi:i<5):w.cell? ⟨t.R,0+i*1,none⟩=some (.slice (some ⟨t.Y i,0,none⟩) 4 (t.C i)):=by
 rw[Aj,Cj];exact UY h hi
theorem nz{w:tA}{o:Oc}{t:j7}(h:lO w o t){i q:Nat}(hi:i<5)(hq:q<4)(j:Nat)(hj:j<6):w.cell? ⟨t.Y i,0+q*6+j,none⟩=some (bF (o.bs i q) (t.A i q) (t.K i q) j):=by
 rw[Aj];exact(h.b i hi).cell q hq j hj
theorem kL(B:Bt)(a:tB)(c:Nat)(w:tA):cA 18 #[vF (bF B a c) 6] w (rB (.bool (decide (B.r=1∨B.r=2))) w):=by
 have ob:aW (bF B a c) 6:=fun i hi=>by
  match i,hi with
  |0,_|1,_|2,_|3,_|4,_|5,_=>rfl
 refine en (H:=[]) _ [vf 6 (bF B a c)] Tryz.func18 rfl rfl (m0 w) (r [] rfl fun _=> ?_);by_cases h1:B.r=1
 ·exact r [1] rfl fun _=>fin fun w hS=>⟨by rw[As (.inl h1)];rfl,hS.now.2⟩
 by_cases h2:B.r=2
 ·exact r [0,1] rfl fun _=>fin fun w hS=>⟨by rw[As (.inr h2)];rfl,hS.now.2⟩
 ·exact r [0,0] rfl fun _=>fin fun w hS=>⟨by rw[Ak (by omega)];rfl,hS.now.2⟩
theorem aaV{B D:Bt}{l:List Rec}(h:ik B l D)(hB:B.r=3)(ho:l.length=1∨∀r∈l,r.k=5∨r.k=6):(D.r=3∨D.r=0)∧D.e=B.e:=by
 cases h with
 |nil=>exact⟨.inl hB,rfl⟩
 |cons hf ha h'=>
  rename_i D1 r l;have hd:=(iB ha).2.2.1;have k56:¬(r.k=5∨r.k=6):=fun g=>by
   unfold cF at hd;rw[Aa (by omega),Aa (by omega),Aa (by omega),Aa (by omega)]at hd;split at hd
   ·split at hd
    ·omega
    ·cases hd
   ·rw[Ae (by omega)]at hd;split at hd
    ·omega
    ·cases hd
  have hl:l=[]:=by
   rcases ho with g|g
   ·exact List.eq_nil_of_length_eq_zero (by simpa using g)
   ·exact absurd (g r Aq) k56
  subst hl;rw[h'.nil_eq];unfold cF at hd;split at hd
  ·split at hd
   ·omega
   ·cases hd
  split at hd
  ·split at hd
   ·omega
   ·cases hd
  split at hd
  ·split at hd
   ·omega
   ·cases hd
  split at hd
  ·split at hd
   ·rename_i g;cases hd;rcases pQ g with e|⟨e,_⟩
    ·rw[e];exact⟨.inl hB,rfl⟩
    ·omega
   ·cases hd
  split at hd
  ·exact absurd (.inl ‹_›) k56
  split at hd
  ·exact absurd (.inr ‹_›) k56
  ·split at hd
   ·cases hd;exact⟨.inr rfl,rfl⟩
   ·cases hd
theorem Yq{i q:Nat}{n:Nd}(hN:NI i n)(hq:q<4):(kX n q).Ok:=by
 cases hu:n.up with
 |true=>
  rw[show kX n=n.mo from Ae hu];exact(hN.up hu).mo q hq
 |false=>
  obtain⟨dJ,dC,Bs,dw⟩:=hN.dw hu;rw[dw.bs hN.ln hu q hq];exact(dw.tm.all q hq).1
theorem Vd{i q:Nat}{n:Nd}(hN:NI i n)(hq:q<4)(h:(kX n q).r=1∨(kX n q).r=2∨(kX n q).r=3):1≤(kX n q).e:=by
 have hs:=(Yq hN hq).cG;unfold Bt.b_ bg at hs;omega
theorem Mh{i q:Nat}{n:Nd}(hN:NI i n)(hq:q<4)(h3:(kX n q).r=3):Mc n q (kX n q).e:=by
 intro r e t hp;right;rcases hp with⟨hu,hp⟩|⟨_,e1,e2,_⟩
 ·rw[show kX n=n.mo from Ae hu]at h3⊢;rcases hp with⟨e1,e2,_⟩|⟨g,_⟩|⟨a,B,ha,hb,e1,e2,_⟩
  ·exact⟨e2,.inl (e1.trans h3)⟩
  ·omega
  ·obtain⟨dJ,dC,Bs,_,_,_,_,e5⟩:=(hN.up hu).ex;rcases e5 with⟨e,_⟩|⟨a',q',D,e,pd⟩
   ·rw[ha]at e;cases e
   rw[ha]at e;cases e;rcases pd.af.q with⟨g,_⟩|g
   ·rw[hb]at g;cases g
   ·rw[hb]at g;cases g;have hr:=pd.run;rw[gK (by omega)]at hr;obtain⟨g1,g2⟩:=aaV hr h3 pd.one;exact⟨e2.trans g2,by rw[e1];exact g1⟩
 ·exact⟨e2,.inl (e1.trans h3)⟩
def sI(p:(Nat→Nd)×Ws)(f:tH):Prop:=∀n,n<5→∀q,q<2→f (n*2+q)=0∨(1≤f (n*2+q)∧Mc (p.1 n) q (f (n*2+q)))
theorem QK{p:(Nat→Nd)×Ws}{k:Nat}{f:tH}{g:tH}(h:Inv k p)(ok:xO g)(P:∀q,q<4→PQ (fun _ _=>False) q p)(S:sI p f):sI (j8 p g) f:=fun n hn q hq=>by
 rcases S n hn q hq with e|⟨e1,e2⟩
 ·exact .inl e
 ·right;have P0:=P q (by omega);have P1:PQ (fun j ep=>j=n∧ep=f (n*2+q)) q p:=⟨P0.p,P0.l,P0.w,fun j hj ep ⟨g1,g2⟩=>by subst g1;subst g2;exact⟨e1,e2⟩⟩;exact(GX h ok (by omega) P1).k n hn _ ⟨rfl,rfl⟩
theorem Ve{p:(Nat→Nd)×Ws}{f:tH}(S:sI p f){n q:Nat}(hq:q<2){e:Int}(h1:1≤e)(hs:Mc (p.1 n) q e):sI p (bw f (n*2+q) e):=fun n' pS q' xX=>by
 unfold bw;by_cases g:n'*2+q'=n*2+q
 ·rw[Ae g];obtain rfl:n'=n:=by omega
  obtain rfl:q'=q:=by omega
  exact .inr ⟨h1,hs⟩
 ·rw[Aa g];exact S n' pS q' xX
theorem Dh(w:tA)(hK:Lq.gl w)(a:tB)(len cap:Nat)(GD:tG)(h:RowK .i64 w a (5*len) GD)(rY:len≤cap)(qe:a=none→cap=0)(hs:cap*40≤140737488351232):cA 4 #[.slice a len cap] w (rB (.bool true) w):=by
 obtain⟨n,hn⟩:∃n,n=min len 60:=⟨_,rfl⟩;obtain⟨D,hDe⟩:∃D,mm GD true n=D:=⟨_,rfl⟩;have fw:∀j,j<n+2→Lq.fQ (Lq.av D j)=0:=hDe▸fun j hj=>rS GD true n j hj;have uk:∀u∈D,0≤u∧u≤1000000:=hDe▸wY GD true n;have hinv:=gY D (n+2) (by omega) fw;have hPQ:∀k,k≤n+2→∀q,q<4→PQ (fun _ _=>False) q (gk D k):=fun k hk q hq=>Df hq D (n+2) (by omega) fw k hk;refine en (H:=[]) _ [vv (.slice a len cap)] Tryz.func4 rfl rfl (m0 w) (r [] rfl fun _=> ?_);refine cx rfl (fun y:Option Addr×Nat=>vv (.slice y.1 (n+2) y.2)) (fun y=>n+2≤y.2∧∃b o,y.1=some ⟨b,o,none⟩) (fun y w=>RowK .i64 w y.1 (11*(n+2)) D) (fun w1 hS=>(m_ a len cap 60 true GD w1 (h.below hS.now.2) (by omega) (by omega)).mono fun _ w2 ⟨v1,e,o1,b⟩=> ?_) ?_
 ·rw[←hn,hDe]at o1;obtain⟨a1,c1,rfl,r1,hc,_,_,pt⟩:=RowK.eK o1 fun u hu=>qP (uk u hu);obtain⟨b1,q1,rfl⟩:=r1.form (by omega);exact⟨(some ⟨b1,q1,none⟩,c1),e,b,⟨hc,_,_,rfl⟩,fun hl=>bM r1 pt hl⟩
 rintro⟨_,c1⟩ ⟨my,b,o,rfl⟩;refine r [] rfl fun _=>cx rfl (fun y:Nat×Nat×(Nat→j7)=>vt [.o (.slice (some ⟨y.1,0,none⟩) (n+2+1) y.2.1),.o (.bool true)]) (fun _=>True) (fun y w=>∀q,q<n+2+1→lO w (kZ D q) (y.2.2 q)∧∀j,j<18→w.cell? ⟨y.1,0+q*18+j,none⟩=some (mZ (kZ D q) (y.2.2 q) j)) (fun w1 hS=>(vG _ (n+2) c1 D w1 (hK.next hS.now.2) hS.now.1.2 my (by omega) fw).mono fun _ w2 ⟨Y,c,ts,e,ho,b⟩=>⟨(Y,c,ts),e,b,trivial,fun hl w3 c3 q hq=>by simp only[Nat.zero_add];exact(ho.mono fun b _ hu=>hl b hu) w3 c3 q hq⟩) ?_;rintro⟨Y,c,ts⟩-;have zf:aW (fun j=>iV ((fun _=>0:tH) j)) 10:=fun _ _=>rfl;refine r [] rfl fun α=>gp 0 rfl [.f 10 fun j=>iV ((fun _=>0:tH) j)] rfl rfl ?_;refine uD (X:=Nat×(Nat→Int)) (fun x=>[(3,vv (.slice (some ⟨Y,0,none⟩) (n+2+1) c)),(4,vv (.bool true)),(5,vp 0 0 (α 0)),(6,vi (x.1:Int))]) (fun x=>[⟨α 0,47,[.f 10 fun j=>iV (x.2 j)]⟩]) (fun _ _=>False) (fun _ w'=>bZ w w') (fun x=>x.1≤n+3∧(x.1<n+3→sI (gk D x.1) x.2)) (fun x=>n+3-x.1) (0,fun _=>0) ⟨rfl,rfl,rfl,rfl,trivial⟩ (fun _ hS=>hS) ⟨Al _,fun _ _ _ _ _=> .inl rfl⟩ ?_;rintro f ⟨k,F⟩ ⟨hk,hF⟩;have hk:k≤n+3:=hk;by_cases aN:k<n+3
 case neg=>
  obtain rfl:k=n+3:=by omega
  exact r [0] rfl fun _=>fin fun w hS=>⟨rfl,hS.now.2⟩
 have hF:sI (gk D k) F:=hF aN;refine r [1] rfl fun _=>uD (X:=Nat×(Nat→Int)) (fun x=>[(3,vv (.slice (some ⟨Y,0,none⟩) (n+2+1) c)),(4,vv (.bool true)),(5,vp 0 0 (α 0)),(6,vi (k:Int)),(7,vi (x.1:Int))]) (fun x=>[⟨α 0,47,[.f 10 fun j=>iV (x.2 j)]⟩]) (fun _ _=>False) (fun _ w'=>bZ w w') (fun x=>x.1≤5∧sI (gk D k) x.2) (fun x=>5-x.1) (0,F) ⟨rfl,rfl,rfl,rfl,rfl,trivial⟩ (fun _ hS=>hS) ⟨Al _,hF⟩ ?_;rintro f2 ⟨m,F⟩ ⟨hm,hF⟩;have hm:m≤5:=hm;have hF:sI (gk D k) F:=hF;refine r [] rfl fun _=>Rv.l1 (q:=0+k*18+14) rfl (.slice (some ⟨(ts k).R,0,none⟩) 5 (ts k).c) (fun w hS=>(hS.now.1.2 k (by omega)).2 14 (by decide)) ?_;by_cases hm5:m<5
 case neg=>
  exact rz [0,1] [((k+1:Nat):Int)] rfl fun _=>bJ (k+1,F) ⟨rfl,rfl,rfl,rfl,trivial⟩ (fun _ hS=>hS) ⟨aN,fun g=>QK (hinv k (by omega)) (lT (fw k (by omega))) (hPQ k (by omega)) hF⟩ (show n+3-(k+1)<n+3-k by omega)
 refine r [1] rfl fun _=>uD (X:=Nat×(Nat→Int)) (fun x=>[(3,vv (.slice (some ⟨Y,0,none⟩) (n+2+1) c)),(4,vv (.bool true)),(5,vp 0 0 (α 0)),(6,vi (k:Int)),(7,vi (m:Int)),(8,vi (x.1:Int))]) (fun x=>[⟨α 0,47,[.f 10 fun j=>iV (x.2 j)]⟩]) (fun _ _=>False) (fun _ w'=>bZ w w') (fun x=>x.1≤2∧sI (gk D k) x.2) (fun x=>2-x.1) (0,F) ⟨rfl,rfl,rfl,rfl,rfl,rfl,trivial⟩ (fun _ hS=>hS) ⟨Al _,hF⟩ ?_;rintro f3 ⟨q,F⟩ ⟨hq,hF⟩;have hq:q≤2:=hq;have hF:sI (gk D k) F:=hF;by_cases UT:q<2
 case neg=>
  obtain rfl:q=2:=by omega
  exact rz [0,1] [((m+1:Nat):Int)] rfl fun _=>bJ (m+1,F) ⟨rfl,rfl,rfl,rfl,rfl,trivial⟩ (fun _ hS=>hS) ⟨hm5,hF⟩ (show 5-(m+1)<5-m by omega)
 have h9:2-(q+1)<2-q:=by omega
 have hN:=(hinv k (by omega)).n m hm5;obtain⟨B,hB⟩:∃B,(kZ D k).bs m q=B:=⟨_,rfl⟩;have hB':kX ((gk D k).1 m) q=B:=hB;have se:B.r=3→1≤B.e∧Mc ((gk D k).1 m) q B.e:=fun g=>by
  rw[←hB']at g⊢;exact⟨Vd hN (by omega) (.inr (.inr g)),Mh hN (by omega) g⟩
 have ob:aW (bF B ((ts k).A m q) ((ts k).K m q)) 6:=fun i hi=>by
  match i,hi with
  |0,_|1,_|2,_|3,_|4,_|5,_=>rfl
 refine r [1] rfl fun _=>Rv.l1 (q:=0+k*18+14) rfl (.slice (some ⟨(ts k).R,0,none⟩) 5 (ts k).c) (fun w hS=>(hS.now.1.2 k (by omega)).2 14 (by decide)) ?_;refine r [] rfl fun _=>Rv.l1 (q:=0+m*1) rfl (.slice (some ⟨(ts k).Y m,0,none⟩) 4 ((ts k).C m)) (fun w hS=>qR (hS.now.1.2 k (by omega)).1 hm5) ?_;refine r [] rfl fun _=>lf (q:=0+q*6) rfl 6 (bF B ((ts k).A m q) ((ts k).K m q)) (fun w hS j hj=>by rw[←hB];exact nz (hS.now.1.2 k (by omega)).1 hm5 (by omega) j hj) ?_;obtain⟨g,hg⟩:∃g,g=decide (B.r=1∨B.r=2):=⟨_,rfl⟩;by_cases r3:B.r=3
 ·obtain⟨s1,s2⟩:=se r3;obtain rfl:g=false:=by rw[hg];exact Ak (by omega)
  refine r [1,1,1,1] rfl fun β=>so1 rfl 0 rfl (fun j=>iV (bw F (m*2+q) B.e j)) (show 0+m*2+q*1<10 by omega) (fun i=> ?_) ?_
  ·show(if i=0+m*2+q*1 then iV B.e else iV (F i))=iV (if i=m*2+q then B.e else F i);rw[show 0+m*2+q*1=m*2+q by omega];split<;>rfl
  refine r [2] rfl fun _=>Rv.cb rfl (vv (.bool false)) (fun w _=>hg▸kL B _ _ w) ?_;exact rz [1] [((q+1:Nat):Int)] rfl fun _=>bJ (q+1,bw F (m*2+q) B.e) ⟨rfl,rfl,rfl,rfl,rfl,rfl,trivial⟩ (fun _ hS=>hS.take 1) ⟨UT,Ve hF UT s1 s2⟩ h9
 refine r [0,2] rfl fun β=>Rv.cb rfl (vv (.bool g)) (fun w _=>hg▸kL B _ _ w) ?_;cases g with
 |false=>exact rz [1] [((q+1:Nat):Int)] rfl fun _=>bJ (q+1,F) ⟨rfl,rfl,rfl,rfl,rfl,rfl,trivial⟩ (fun _ hS=>hS.take 1) ⟨UT,hF⟩ h9
 |true=>
  have hr:=Bi hg.symm;have VO:F (m*2+q)<B.e:=by
   have e1:1≤B.e:=by rw[←hB'];exact Vd hN (by omega) (by rw[hB'];omega)
   rcases hF m hm5 q UT with e|⟨_,e⟩
   ·omega
   ·have:=e _ _ _ (Pos.Yl _ q);rw[hB']at this;omega
  refine r [1,1] rfl fun _=>lo1 rfl rfl 0 rfl (iV (F (m*2+q))) (by show iV (F (0+m*2+q*1))=_;rw[show 0+m*2+q*1=m*2+q by omega]) ?_ (show 0+m*2+q*1<10 by omega);exact rz [0,1] [((q+1:Nat):Int)] rfl fun _=>bJ (q+1,F) ⟨rfl,rfl,rfl,rfl,rfl,rfl,trivial⟩ (fun _ hS=>hS.take 1) ⟨UT,hF⟩ h9
end
def ku(s:Ws)(q:Nat)(x y:Int):Prop:=y≤s.pe q∧-1≤x∧(x<0→y=0)∧(y=s.pe q→x=s.pn q)
def TA(C:Int→Int→Int→Ev→Prop)(s:Ws)(t:Tl):Prop:=∃(nd:Int) (q:Nat) (op:Ev),C t.nu nd q op∧q<4∧ku s q t.pn t.pe∧((t.an.c=7∨t.an.c=12)∨(t.pn<0∧∃y∈s.sv,y.nu=t.nu∧y.an=t.an))
def KL(C:Int→Int→Int→Ev→Prop)(s:Ws)(l:Lt):Prop:=(l.kd=0→C l.nu l.dst l.q l.op)∧(l.kd=1→TA C s ⟨l.nu,l.an,l.pn,l.pe⟩)∧(l.kd=7→ku s l.q l.pn l.pe)
structure KW(C:Int→Int→Int→Ev→Prop)(s:Ws):Prop where
 fl:∀l∈s.fl,KL C s l
 sv:∀y∈s.sv,y.nu<0∨C y.nu y.nd y.q y.op
 td:∀t∈s.td,TA C s t
structure KN(C:Int→Int→Int→Ev→Prop)(s:Ws)(i:Nat)(n:Nd):Prop where
 wt:∀l∈n.wt,KL C s l∧(l.kd=0→l.dst=i)
 af:∀l an,n.af=some (.serve l an)→C l.nu l.dst l.q l.op∧l.dst=i
 hn:n.up=true→∀q,q<4→ku s q (n.hn q) (n.he q)
structure dK(s s':Ws):Prop where
 h:∀q,q<4→∀x y,ku s q x y→ku s' q x y
 v:∀y∈s.sv,y∈s'.sv
section
variable{C:Int→Int→Int→Ev→Prop}{s s':Ws}{i:Nat}{n:Nd}
structure Kd(C:Int→Int→Int→Ev→Prop)(s s':Ws)(i:Nat)(n':Nd):Prop where
 w:KW C s'
 n:KN C s' i n'
 u:dK s s'
 d:s'.pn=s.pn∧s'.pe=s.pe
end
end Go.Proofs.YtpgkjpomaffbmaaGreatDoor
