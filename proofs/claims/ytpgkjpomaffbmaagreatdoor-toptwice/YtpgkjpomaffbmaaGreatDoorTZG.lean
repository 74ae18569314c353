/- Out of my texts: WdA@TopTwiceOwn, PrA@TopTwiceOwn, PrB@TopTwiceOwn, PrC@TopTwiceOwn, PrD@TopTwiceOwn, TdA@TopTwiceOwn, TdB@TopTwiceOwn, PtA@TopTwiceOwn, TmA@TopTwiceOwn, AuA@TopTwiceOwn, TmB@TopTwiceOwn, SlA@TopTwiceOwn, FlA@TopTwiceOwn, KaA@TopTwiceOwn, TlB@TopTwiceOwn, FlB@TopTwiceOwn, CfA@TopTwiceOwn, CfB@TopTwiceOwn, TwA@TopTwiceOwn, TwB@TopTwiceOwn. -/
import Derived.Test.YtpgkjpomaffbmaaGreatDoorProg
import Derived.Test.YtpgkjpomaffbmaaGreatDoorTAA
import Derived.Test.YtpgkjpomaffbmaaGreatDoorTAC
import Derived.Test.YtpgkjpomaffbmaaGreatDoorTAF
set_option maxRecDepth 20000
set_option maxHeartbeats 8000000
set_option linter.unusedVariables false
namespace Go.Proofs.YtpgkjpomaffbmaaGreatDoor
open Go.RowKit
theorem aba{t id x:Int}{s:tQ}(hx:h_ t id-8≤x):gU (h_ t id) (eZ t s id) x=(decide (x=id)||gU t s x):=by
 have hg:=RC t id;by_cases aN:x<h_ t id
 ·obtain⟨i,hi⟩:∃i:Nat,x=h_ t id-8+i:=⟨(x-(h_ t id-8)).toNat,by omega⟩;subst hi;rw[qj i (by omega)];rfl
 ·have h1:gU (h_ t id) (eZ t s id) x=false:=by simp[gU,aN]
  have h2:gU t s x=false:=by
   simp only[gU];rw[show decide (x<t)=false by simp;omega];simp
  have h3:decide (x=id)=false:=by simp;omega
  rw[h1,h2,h3];rfl
def yi:Af→Option (Nat×Bt)
 | .serve _ _=>none
 | .begin l B=>some (l.q,B)
 | .shut l B=>some (l.q,B)
 | .take l B=>some (l.q,B)
 | .fA q B=>some (q,B)
def Pos(n:Nd)(q:Nat)(r e t:Int):Prop:=
 (n.up=true∧((r=(n.mo q).r∧e=(n.mo q).e∧t=(n.mo q).t)∨((n.mo q).r=2∧r=1∧e=(n.mo q).e∧t=0)∨∃a B,n.af=some a∧yi a=some (q,B)∧r=B.r∧e=B.e∧t=B.t))∨
 (n.up=false∧r=(kX n q).r∧e=(kX n q).e∧t=(kX n q).t)
def iO(n:Nd)(q:Nat)(P:Int→Int→Int→Prop):Prop:=∀r e t,Pos n q r e t→P r e t
theorem Pos.Yl(n:Nd)(q:Nat):Pos n q (kX n q).r (kX n q).e (kX n q).t:=by
 cases h:n.up with
 |false=>exact .inr ⟨h,rfl,rfl,rfl⟩
 |true=>
  have e:kX n q=n.mo q:=by unfold kX;rw[Ae h]
  rw[e];exact .inl ⟨h,.inl ⟨rfl,rfl,rfl⟩⟩
theorem Pos.mo{n:Nd}(h:n.up=true)(q:Nat):Pos n q (n.mo q).r (n.mo q).e (n.mo q).t:= .inl ⟨h,.inl ⟨rfl,rfl,rfl⟩⟩
theorem Pos.calm{n:Nd}{q:Nat}{r e t:Int}(h:Pos n q r e t)(hu:n.up=true)(ha:n.af=none):(r=(n.mo q).r∧e=(n.mo q).e∧t=(n.mo q).t)∨((n.mo q).r=2∧r=1∧e=(n.mo q).e∧t=0):=by
 rcases h with⟨_,h|h|⟨a,B,h,_⟩⟩|⟨h,_⟩
 ·exact .inl h
 ·exact .inr h
 ·rw[ha]at h;cases h
 ·rw[hu]at h;cases h
theorem GS{B D:Bt}{l:List Rec}(h:ik B l D):¬B.r=2→¬D.r=2:=by
 induction h with
 |nil B=>exact id
 |cons hf ha h ih=>exact fun hB=>ih (GM hB (iB ha).2.2.1)
theorem wZ{B D:Bt}{l:List Rec}(h:ik B l D):(∀r∈l,r.k=5∨r.k=6)→∀j E,ik B (l.take j) E→(E.r=B.r∧E.e=B.e∧E.t=B.t)∨E=D:=by
 induction h with
 |nil B=>
  intro _ j E hE;rw[List.take_nil]at hE;rw[hE.nil_eq];exact .inr rfl
 |cons hf ha h ih=>
  rename_i B B1 D r l;intro hk j E hE;cases j with
  |zero=>rw[hE.nil_eq];exact .inl ⟨rfl,rfl,rfl⟩
  |succ j=>
   cases hE with
   |cons hf' JL h'=>
    rename_i B2;obtain rfl:B1=B2:=by
     have:=ha.symm.trans JL;injection this
    have hd:=(iB ha).2.2.1;have kg:∀x∈l,x.k=5∨x.k=6:=fun x hx=>hk x (Az _ hx);rcases hk r Aq with k5|k6
    ·unfold cF at hd;rw[Aa (by omega),Aa (by omega),Aa (by omega),Aa (by omega),Ae k5]at hd;split at hd
     ·cases hd;rcases ih kg j E h' with e|e
      ·exact .inl e
      ·exact .inr e
     ·cases hd
    ·have h1:B1.r=1:=by
      unfold cF at hd;rw[Aa (by omega),Aa (by omega),Aa (by omega),Aa (by omega),Aa (by omega),Ae k6]at hd;split at hd
      ·cases hd;rfl
      ·cases hd
     have stop:∀{m:List Rec} {F:Bt},(∀x∈m,x.k=5∨x.k=6)→ik B1 m F→F=B1:=fun {m F} hm hr=>by
      cases hr with
      |nil=>rfl
      |cons hf2 U5 hr2=>
       rename_i B3 r2 l2;have DS:=(iB U5).2.2.1;have:=hm r2 Aq;unfold cF at DS;rw[Aa (by omega),Aa (by omega),Aa (by omega),Aa (by omega)]at DS;split at DS
       ·rw[Aa (by omega)]at DS;cases DS
       ·rw[Ae (by omega),Aa (by omega)]at DS;cases DS
     right;rw[stop kg h,stop (fun x hx=>kg x (AJ hx)) h']
theorem AfP.q{mo:Nat→Bt}{q:Nat}{D:Bt}{a:Af}(h:AfP mo q D a):(yi a=none∧∃l,D=tb ((mo q).more l))∨yi a=some (q,D):=by
 cases a with
 |serve l an=>exact .inl ⟨rfl,_,h.2.2.2⟩
 |begin l B=>obtain⟨rfl,_,rfl⟩:=h;exact .inr rfl
 |shut l B=>obtain⟨rfl,_,rfl⟩:=h;exact .inr rfl
 |take l B=>obtain⟨rfl,_,rfl⟩:=h;exact .inr rfl
 |fA q B=>obtain⟨rfl,_,rfl⟩:=h;exact .inr rfl
theorem Pos.tb{n:Nd}{q:Nat}(h:n.up=true){B:Bt}(e:B.r=(tb (n.mo q)).r∧B.e=(tb (n.mo q)).e∧B.t=(tb (n.mo q)).t):Pos n q B.r B.e B.t:=by
 by_cases h2:(n.mo q).r=2
 ·rw[si h2]at e;exact .inl ⟨h,.inr (.inl ⟨h2,e⟩)⟩
 ·rw[gK h2]at e;exact .inl ⟨h,.inl e⟩
theorem GU(B:Bt)(l:List Ev):(tb (B.more l)).r=(tb B).r∧(tb (B.more l)).e=(tb B).e∧(tb (B.more l)).t=(tb B).t:=by
 by_cases h:B.r=2
 ·rw[si h,si (show(B.more l).r=2 from h)];exact⟨rfl,rfl,rfl⟩
 ·rw[gK h,gK (show ¬(B.more l).r=2 from h)];exact⟨rfl,rfl,rfl⟩
theorem w_{n:Nd}(h:Up n)(hu:n.up=true)(hl:n.dl.length≤100000){kp:Int}(hk:0≤kp){q:Nat}(hq:q<4){r e t:Int}(hp:Pos (qI n kp) q r e t):Pos n q r e t:=by
 obtain⟨dJ,dC,Bs,dw,ra,Ba,_,_,_,_,hBa,hc⟩:=h.L5 hk;have hb:=dw.bs (by show(List.take _ n.dl).length≤_;rw[AM];omega) rfl q hq;rcases hp with⟨e1,_⟩|⟨_,e1⟩
 ·cases e1
 rw[hb]at e1;obtain⟨rfl,rfl,rfl⟩:=e1;rcases hc with⟨_,rfl⟩|⟨rb,a,q',D,j,E,ha,pd,_,hE,rfl⟩
 ·exact .tb hu (by rw[hBa q hq];exact⟨rfl,rfl,rfl⟩)
 by_cases e1:q=q'
 ·subst e1;rw[aj];have U6:E=D→Pos n q E.r E.e E.t:=by
   rintro rfl;rcases pd.af.q with⟨_,l,e⟩|e
   ·exact .tb hu (by rw[e];exact GU _ _)
   ·exact .inl ⟨hu,.inr (.inr ⟨a,E,ha,e,rfl,rfl,rfl⟩)⟩
  rcases pd.one with o|o
  ·cases j with
   |zero=>rw[hE.nil_eq];exact .tb hu ⟨rfl,rfl,rfl⟩
   |succ j=>
    rw[AL (by omega)]at hE
    exact U6 (by
     have hD:=pd.run
     match rb,o,hE,hD with
     |[x],_,hE,hD=>
      cases hE with
      |cons _ a1 b1=>
       cases hD with
       |cons _ a2 b2=>
        have:=a1.symm.trans a2;injection this with e1 _
        rw[b1.nil_eq,b2.nil_eq,e1])
  ·rcases wZ pd.run o j E hE with e|e
   ·exact .tb hu e
   ·exact U6 e
 ·rw[aI e1,hBa q hq];exact .tb hu ⟨rfl,rfl,rfl⟩
theorem xa{n:Nd}{s:Ws}(h:n.up=false→Dw n)(hl:n.dl.length≤100000){q:Nat}(hq:q<4){r e t:Int}(hp:Pos (cQ n s).1 q r e t):Pos n q r e t:=by
 by_cases hu:n.up=true
 ·have e1:cQ n s=(n,s):=Ae (.inl hu);rwa [e1]at hp
 by_cases hk:n.sk=true
 ·have e1:cQ n s=(n,s):=Ae (.inr hk);rwa [e1]at hp
 have hu:n.up=false:=by simpa using hu
 have hk:n.sk=false:=by simpa using hk
 obtain⟨dJ,dC,Bs,dw⟩:=h hu;obtain⟨sj,hB,hs⟩:=CX (s:=s) dw hl hu hk;have hb:=dw.bs hl hu q hq;rw[hs]at hp;unfold iL at hp;split at hp
 ·rename_i hc;have ok:=dw.tm.all q hq;rcases hp with⟨_,e1|⟨e1,_⟩|⟨a,B,e1,_⟩⟩|⟨e1,_⟩
  ·have hw:(r=(Bs q).r∧e=(Bs q).e∧t=(Bs q).t):=by
    have e1:r=(aZ (sj q)).1.r∧e=(aZ (sj q)).1.e∧t=(aZ (sj q)).1.t:=e1;have my:=hc.1 q hq;rw[hB q hq]at e1 my;rcases mY my ok.2 with⟨_,e2⟩|⟨h1,e2,_⟩
    ·rw[e2]at e1;exact e1
    ·rw[e2]at e1;have hs:=ok.1.cG;unfold Bt.b_ bg at hs;obtain⟨rfl,rfl,rfl⟩:=e1;exact⟨h1.symm,rfl,by show(0:Int)=_;omega⟩
   exact .inr ⟨hu,by rw[hb];exact hw⟩
  ·have e1:(aZ (sj q)).1.r=2:=e1;have my:=hc.1 q hq;rw[hB q hq]at e1 my;rcases mY my ok.2 with⟨_,e2⟩|⟨h1,e2,_⟩
   ·rw[e2]at e1;exact absurd e1 ok.2
   ·rw[e2]at e1;cases e1
  ·cases e1
  ·cases e1
 ·have d2:=wV (sy:=mP (cp (dJ++dC)).length n.sy) dw;have Du:=d2.bs (by show(List.take _ n.dl).length≤_;rw[AM];omega) hu q hq;rcases hp with⟨e1,_⟩|⟨_,e1⟩
  ·rw[show _=n.up from rfl,hu]at e1;cases e1
  ·rw[Du]at e1;exact .inr ⟨hu,by rw[hb];exact e1⟩
def yK(n:Nd)(q:Nat)(ep:Int):Prop:=iO n q fun r e _=>ep<e∨(e=ep∧¬r=4)
def Mc(n:Nd)(q:Nat)(ep:Int):Prop:=iO n q fun r e _=>ep<e∨(e=ep∧(r=3∨r=0))
def U7(n:Nd)(q:Nat)(ep:Int):Prop:=iO n q fun r e _=>r=1∧e=ep
def GV(q:Nat)(ns:Nat→Nd)(pn pe k:Int):Prop:=0≤pn∧iO (ns pn.toNat) q fun r e t=>r=3∧e=pe∧t=k
def LC(q:Nat)(ns:Nat→Nd)(pn pe:Int)(l:Lt):Prop:=
 (l.kd=2→l.ep≤pe+1)∧(l.kd=4→l.la=true→(l.ep=pe+1∧GV q ns pn pe l.dst)∨(l.ep≤pe∧yK (ns l.dst.toNat) q l.ep))∧
 (l.kd=5→l.ep≤pe∨(l.ep=pe+1∧U7 (ns l.fr.toNat) q (pe+1)))∧(l.kd=7→l.pe≤pe)
structure k_(q:Nat)(ns:Nat→Nd)(pn pe:Int)(i:Nat)(r e t:Int):Prop where
 z:pn= -1→r=0∨r=4
 a:e≤pe+1
 a2:r=2∨r=3→e≤pe
 b:r=1∨r=2∨r=3→e=pe→(i:Int)=pn
 d:r=1∨r=2→pe≤e
 c:r=1→e=pe+1→GV q ns pn pe i
 s:r=3→e<pe→yK (ns t.toNat) q (e+1)
 x:(i:Int)=pn→(r=1∨r=2∨r=3)∧e=pe
structure Pq(G:Nat→Int→Prop)(q:Nat)(ns:Nat→Nd)(pn pe:Int)(fl:List Lt):Prop where
 p:∀i,i<5→iO (ns i) q (k_ q ns pn pe i)
 l:∀l∈fl,l.q=q→LC q ns pn pe l
 w:∀i,i<5→∀l∈(ns i).wt,l.q=q→LC q ns pn pe l∧(l.kd=4→l.dst=i)
 k:∀i,i<5→∀ep,G i ep→1≤ep∧Mc (ns i) q ep
structure Fn(q:Nat)(ns:Nat→Nd)(pn pe:Int)(i:Nat)(r e t:Int):Prop where
 ok:k_ q ns pn pe i r e t
 g1:∀ep,yK (ns i) q ep→ep<e∨(e=ep∧¬r=4)
 g2:¬iO (ns i) q fun r e _=>r=3∧e=pe
 g3:¬iO (ns i) q fun r e _=>r=1∧e=pe+1
 g4:∀ep,Mc (ns i) q ep→ep<e∨(e=ep∧(r=3∨r=0))
section
variable{G:Nat→Int→Prop}{q i:Nat}{ns:Nat→Nd}{pn pe:Int}{fl:List Lt}
theorem LC.plain{l:Lt}(h2:¬l.kd=2)(h4:¬l.kd=4)(h5:¬l.kd=5)(h7:¬l.kd=7):LC q ns pn pe l:=⟨fun h=>absurd h h2,fun h=>absurd h h4,fun h=>absurd h h5,fun h=>absurd h h7⟩
theorem Pq.move(h:Pq G q ns pn pe fl)(hi:i<5){n':Nd}(hP:∀r e t,Pos n' q r e t→Pos (ns i) q r e t∨Fn q ns pn pe i r e t)(hw:∀l∈n'.wt,l∈(ns i).wt∨(l.q=q→LC q ns pn pe l∧(l.kd=4→l.dst=i))):Pq G q (ak ns i n') pn pe fl:=by
 have tN:∀j ep,yK (ns j) q ep→yK (ak ns i n' j) q ep:=fun j ep hn=>by
  by_cases e:j=i
  ·subst e;rw[aj];intro r e t hp;exact(hP r e t hp).elim (hn r e t) fun g=>g.g1 ep hn
  ·rw[aI e];exact hn
 have tS:∀k,GV q ns pn pe k→GV q (ak ns i n') pn pe k:=fun k hk=>⟨hk.1,by
  have h2:=hk.2;by_cases e:pn.toNat=i
  ·rw[e]at h2⊢;rw[aj];intro r e t hp;exact(hP r e t hp).elim (h2 r e t) fun g=>absurd (fun r e t hp=>⟨(h2 r e t hp).1,(h2 r e t hp).2.1⟩) g.g2
  ·rw[aI e];exact h2⟩
 have tC:∀j,U7 (ns j) q (pe+1)→U7 (ak ns i n' j) q (pe+1):=fun j hn=>by
  by_cases e:j=i
  ·subst e;rw[aj];intro r e t hp;exact(hP r e t hp).elim (hn r e t) fun g=>absurd hn g.g3
  ·rw[aI e];exact hn
 have tL:∀l,LC q ns pn pe l→LC q (ak ns i n') pn pe l:=fun l hl=>⟨hl.1,fun h1 h2=>(hl.2.1 h1 h2).imp (fun g=>⟨g.1,tS _ g.2⟩) (fun g=>⟨g.1,tN _ _ g.2⟩),fun h1=>(hl.2.2.1 h1).imp id fun g=>⟨g.1,tC _ g.2⟩,hl.2.2.2⟩;have tO:∀j r e t,k_ q ns pn pe j r e t→k_ q (ak ns i n') pn pe j r e t:=fun j r e t o=>⟨o.z,o.a,o.a2,o.b,o.d,fun h1 h2=>tS _ (o.c h1 h2),fun h1 h2=>tN _ _ (o.s h1 h2),o.x⟩;refine⟨fun j hj r e t hp=> ?_,fun l hl hq=>tL l (h.l l hl hq),fun j hj l hl hq=> ?_,fun j hj ep g=>⟨(h.k j hj ep g).1,fun r e t hp=> ?_⟩⟩
 ·by_cases e1:j=i
  ·subst e1;rw[aj]at hp;exact tO _ _ _ _ ((hP r e t hp).elim (h.p j hj r e t) fun g=>g.ok)
  ·rw[aI e1]at hp;exact tO _ _ _ _ (h.p j hj r e t hp)
 ·by_cases e1:j=i
  ·subst e1;rw[aj]at hl;have:=(hw l hl).elim (fun g=>h.w j hj l g hq) fun g=>g hq;exact⟨tL _ this.1,this.2⟩
  ·rw[aI e1]at hl;exact⟨tL _ (h.w j hj l hl hq).1,(h.w j hj l hl hq).2⟩
 ·have hs:=(h.k j hj ep g).2;by_cases e1:j=i
  ·subst e1;rw[aj]at hp;exact(hP r e t hp).elim (hs r e t) fun g=>g.g4 ep hs
  ·rw[aI e1]at hp;exact hs r e t hp
theorem Pq.send(h:Pq G q ns pn pe fl){ls:List Lt}(hl:∀l∈ls,l.q=q→LC q ns pn pe l):Pq G q ns pn pe (fl++ls):=⟨h.p,fun x hx hq=>(Ah.1 hx).elim (fun g=>h.l x g hq) fun g=>hl x g hq,h.w,h.k⟩
theorem Pq.less(h:Pq G q ns pn pe fl){Kc:List Lt}(hl:∀l∈Kc,l∈fl):Pq G q ns pn pe Kc:=⟨h.p,fun x hx hq=>h.l x (hl x hx) hq,h.w,h.k⟩
theorem Pq.flip(h:Pq G q ns pn pe fl){fr:Int}(h0:0≤fr)(h5:fr<5)(hp:0≤pn)(hp5:pn<5)(hc:U7 (ns fr.toNat) q (pe+1)):Pq G q ns fr (pe+1) fl:=by
 have hf:((fr.toNat:Nat):Int)=fr:=Bh h0;have M_:((pn.toNat:Nat):Int)=pn:=Bh hp;have v1:=Pos.Yl (ns fr.toNat) q;obtain⟨c1,c2⟩:=hc _ _ _ v1;have hS:=(h.p fr.toNat (by omega) _ _ _ v1).c c1 c2;rw[hf]at hS;have v2:=Pos.Yl (ns pn.toNat) q;obtain⟨d1,d2,d3⟩:=hS.2 _ _ _ v2;have one:∀k,GV q ns pn pe k→k=fr:=fun k hk=>(hk.2 _ _ _ v2).2.2.symm.trans d3;have nip:yK (ns fr.toNat) q (pe+1):=fun r e t hp=>by
  obtain⟨g1,g2⟩:=hc r e t hp;exact .inr ⟨g2,by omega⟩
 have tL:∀l,LC q ns pn pe l→LC q ns fr (pe+1) l:=fun l hl=>⟨fun g=>by have:=hl.1 g;omega,fun g1 g2=> .inr (by
  rcases hl.2.1 g1 g2 with⟨e1,e2⟩|⟨e1,e2⟩
  ·rw[one _ e2,e1];exact⟨Bq _,nip⟩
  ·exact⟨by omega,e2⟩),fun g=> .inl (by rcases hl.2.2.1 g with e|⟨e,_⟩<;>omega),fun g=>by have:=hl.2.2.2 g;omega⟩
 refine⟨fun j hj r e t hp=> ?_,fun l hl hq=>tL l (h.l l hl hq),fun j hj l hl hq=>⟨tL _ (h.w j hj l hl hq).1,(h.w j hj l hl hq).2⟩,h.k⟩;have o:=h.p j hj r e t hp;have atp:(j:Int)=pn→r=3∧e=pe∧t=fr:=fun g=>by
  have:pn.toNat=j:=by omega
  exact hS.2 r e t (this▸hp)
 refine⟨fun g=>by omega,by have:=o.a;omega,fun g=>by have:=o.a2 g;omega,fun g1 g2=> ?_,fun g=> ?_,fun g1 g2=>by have:=o.a;omega,fun g1 g2=> ?_,fun g=>by have:=hc r e t (by rw[show fr.toNat=j by omega];exact hp);omega⟩
 ·have g1:r=1:=by
   rcases g1 with g1|g1
   ·exact g1
   ·have:=o.a2 g1;omega
  exact one _ (o.c g1 g2)
 ·have:=o.d g;by_cases e1:e=pe
  ·have:=atp (o.b (by omega) e1);omega
  ·omega
 ·by_cases e1:e=pe
  ·rw[(atp (o.b (by omega) e1)).2.2,e1];exact nip
  ·exact o.s g1 (by omega)
end
abbrev PQ(G:Nat→Int→Prop)(q:Nat)(p:(Nat→Nd)×Ws):Prop:=Pq G q p.1 (p.2.pn q) (p.2.pe q) p.2.fl
theorem ee{n n':Nd}{q:Nat}(hu:n.up=true)(um:n'.up=true)(hm:(n'.mo q).r=(n.mo q).r∧(n'.mo q).e=(n.mo q).e∧(n'.mo q).t=(n.mo q).t)(ha:∀a B,n'.af=some a→yi a=some (q,B)→n.af=n'.af){r e t:Int}(h:Pos n' q r e t):Pos n q r e t:=by
 rcases h with⟨_,h|⟨h1,h2⟩|⟨a,B,h1,h2,h3⟩⟩|⟨h,_⟩
 ·rw[hm.1,hm.2.1,hm.2.2]at h;exact .inl ⟨hu,.inl h⟩
 ·rw[hm.1]at h1;rw[hm.2.1]at h2;exact .inl ⟨hu,.inr (.inl ⟨h1,h2⟩)⟩
 ·exact .inl ⟨hu,.inr (.inr ⟨a,B,(ha a B h1 h2).trans h1,h2,h3⟩)⟩
 ·rw[um]at h;cases h
theorem Me{n:Nd}{a:Af}{rs:List Rec}{q:Nat}(hu:n.up=true){r e t:Int}(h:Pos ((lC n a rs).getD n) q r e t):Pos n q r e t∨∃B,yi a=some (q,B)∧r=B.r∧e=B.e∧t=B.t:=by
 unfold lC at h;split at h
 ·rcases h with⟨_,h|h|⟨a',B,h1,h2,h3⟩⟩|⟨h,_⟩
  ·exact .inl (.inl ⟨hu,.inl h⟩)
  ·exact .inl (.inl ⟨hu,.inr (.inl h)⟩)
  ·have h1:some a=some a':=h1;cases h1;exact .inr ⟨B,h2,h3⟩
  ·have h:n.up=false:=h;rw[hu]at h;cases h
 ·exact .inl h
theorem U8{n:Nd}{a:Af}{rs:List Rec}:((lC n a rs).getD n).wt=n.wt:=by
 unfold lC;split<;>rfl
section
variable{G:Nat→Int→Prop}{q i:Nat}{ns:Nat→Nd}{s:Ws}
theorem PQ.node(h:PQ G q (ns,s))(hi:i<5){n':Nd}(hP:∀r e t,Pos n' q r e t→Pos (ns i) q r e t∨Fn q ns (s.pn q) (s.pe q) i r e t)(hw:n'.wt=(ns i).wt):PQ G q (ak ns i n',s):=Pq.move h hi hP fun l hl=> .inl (hw▸hl)
theorem PQ.xb(h:PQ G q (ns,s)){s':Ws}{l:Lt}(e1:s'.pn=s.pn)(e2:s'.pe=s.pe)(e3:s'.fl=s.fl++[l])(hl:l.q=q→LC q ns (s.pn q) (s.pe q) l):PQ G q (ns,s'):=by
 show Pq G q ns (s'.pn q) (s'.pe q) s'.fl;rw[e1,e2,e3];exact Pq.send h fun x hx=>by rw[Ab.1 hx];exact hl
theorem PQ.same(h:PQ G q (ns,s)){s':Ws}(e1:s'.pn=s.pn)(e2:s'.pe=s.pe)(e3:s'.fl=s.fl):PQ G q (ns,s'):=by
 show Pq G q ns (s'.pn q) (s'.pe q) s'.fl;rw[e1,e2,e3];exact h
theorem PQ.part(h:PQ G q (ns,s))(hi:i<5){n:Nd}(hn:ns i=n)(sL:n.i=i)(hu:n.up=true)(ha:n.af=none)(q0:Nat)(hv:Int):PQ G q (ns,iE n s q0 hv):=by
 have h':Pq G q ns (s.pn q) (s.pe q) s.fl:=h;unfold iE;split
 ·refine h.xb rfl rfl rfl fun hq=>⟨fun g=>(by cases g),fun _ Fh=> ?_,fun g=>(by cases g),fun g=>(by cases g)⟩;obtain rfl:q0=q:=hq;have h3:(n.mo q0).r=3:=by
   have Fh:(partOf (n.mo q0) hv).2.1=true:=Fh;unfold partOf at Fh;split at Fh
   ·cases Fh
   ·exact(Bi Fh).1
  have o:=h'.p i hi (n.mo q0).r (n.mo q0).e (n.mo q0).t (by rw[hn];exact Pos.mo hu q0);have e1:=o.a2 (.inr h3);show((n.mo q0).e+1=_∧GV q0 ns _ _ (n.mo q0).t)∨((n.mo q0).e+1≤_∧yK (ns (n.mo q0).t.toNat) q0 ((n.mo q0).e+1));by_cases e:(n.mo q0).e=s.pe q0
  ·left;have e2:=o.b (.inr (.inr h3)) e;refine⟨by rw[e],by omega, ?_⟩;rw[show(s.pn q0).toNat=i by omega,hn];intro r e1 t hp;rcases hp.calm hu ha with⟨g1,g2,g3⟩|⟨g1,_⟩
   ·exact⟨g1.trans h3,g2.trans e,g3⟩
   ·omega
  ·exact .inr ⟨by omega,o.s h3 (by omega)⟩
 ·exact h
theorem PQ.push(hi:i<5):∀(k:Nat) (n:Nd) (ns:Nat→Nd),PQ G q (ns,s)→ns i=n→n.i=i→n.up=true→n.af=none→PQ G q (ak ns i (cS k n s).1,(cS k n s).2)
 |0,n,ns,h,hn,_,_,_=>by
  show PQ G q (ak ns i n,s);rw[←hn,eO];exact h
 |k+1,n,ns,h,hn,sL,hu,ha=>by
  have turn:∀tu,Pq G q (ak ns i {n with tu:=tu}) (s.pn q) (s.pe q) s.fl:=fun tu=>h.node hi (fun r e t hp=> .inl (by rw[hn];exact ee (n:=n) (n':={n with tu:=tu}) hu hu ⟨rfl,rfl,rfl⟩ (fun _ _ _ _=>rfl) hp)) (by rw[hn]);unfold cS;split
  ·have:=PQ.push hi k {n with tu:=(n.tu+1) % 4} (ak ns i {n with tu:=(n.tu+1) % 4}) (turn _) (aj ..) sL hu ha;rw[jl]at this;exact this
  ·refine Pq.send (turn _) fun l hl hq=> ?_;have o:=(turn ((n.tu+1) % 4)).p i hi _ _ _ (by rw[aj];exact Pos.mo (n:={n with tu:=(n.tu+1) % 4}) hu q);have hm:(({n with tu:=(n.tu+1) % 4}:Nd).mo q)=n.mo q:=rfl;rw[hm]at o;unfold dQ at hl;split at hl
   ·rename_i h2;rw[Ab.1 hl]at hq⊢;obtain rfl:n.tu=q:=hq;exact⟨fun _=>by have:=o.a2 (.inl h2);show(n.mo n.tu).e+1≤_;omega,fun g=>(by cases g),fun g=>(by cases g),fun g=>(by cases g)⟩
   split at hl
   ·rename_i h3;rcases BI.1 hl with hl|hl
    ·rw[hl]at hq⊢;obtain rfl:n.tu=q:=hq;exact⟨fun _=>by have:=o.a2 (.inr h3);show(n.mo n.tu).e+1≤_;omega,fun g=>(by cases g),fun g=>(by cases g),fun g=>(by cases g)⟩
    ·rw[Ab.1 hl];exact .plain (by show ¬(6:Int)=2;decide) (by show ¬(6:Int)=4;decide) (by show ¬(6:Int)=5;decide) (by show ¬(6:Int)=7;decide)
   split at hl
   ·rename_i h1;rw[Ab.1 hl]at hq⊢;obtain rfl:n.tu=q:=hq;refine⟨fun g=>(by cases g),fun g=>(by cases g),fun _=> ?_,fun g=>(by cases g)⟩;show(n.mo n.tu).e≤_∨((n.mo n.tu).e=_∧U7 (ak ns i _ (n.i:Int).toNat) n.tu _);have:=o.a;by_cases e:(n.mo n.tu).e≤s.pe n.tu
    ·exact .inl e
    ·refine .inr ⟨by omega, ?_⟩;rw[Bu,sL,aj];intro r e1 t hp;rcases hp.calm hu ha with⟨g1,g2,_⟩|⟨g1,_⟩
     ·exact⟨g1.trans h1.1,by have:e1=(n.mo n.tu).e:=g2;omega⟩
     ·have g1:(n.mo n.tu).r=2:=g1;omega
   ·cases hl
theorem pQ{B:Bt}{ep fr:Int}(h:(aP B ep fr).2=0):(aP B ep fr).1=B∨(¬(B.r=1∨B.r=2∨B.r=3)∧B.e<ep∧(aP B ep fr).1=⟨4,ep,fr,0,0,[]⟩):=by
 unfold aP at h⊢;split at h
 ·cases h
 ·rename_i h1;rw[Aa h1];split at h
  ·cases h
  ·rename_i h2;rw[Aa h2];split at h
   ·cases h
   ·rename_i h3;rw[Aa h3];split at h
    ·rename_i h4;rw[Ae h4];exact .inl rfl
    ·rename_i h4;rw[Aa h4];split at h
     ·cases h
     ·rename_i h5;rw[Aa h5];exact .inr ⟨h3,by omega,rfl⟩
theorem xc{B:Bt}{ep ya:Int}{l:List Ev}{la:Bool}(h:(a_ B ep ya l la).2=0):B.e=ep:=by
 unfold a_ at h;split at h
 ·cases h
 split at h
 ·cases h
 split at h
 ·cases h
 ·rename_i g;exact AD.1 g
theorem xd{B:Bt}{ep:Int}(h:(bp B ep).2=0):B.e<ep:=by
 unfold bp at h;split at h
 ·cases h
 split at h
 ·cases h
 split at h
 ·cases h
 ·omega
theorem PQ.SZ(h:PQ G q (ns,s))(hi:i<5){n:Nd}(hn:ns i=n)(sL:n.i=i)(hu:n.up=true)(ha:n.af=none)(ok:∀q,q<4→(n.mo q).Ok){l:Lt}(hw:eY l)(hl:l.q=q→LC q ns (s.pn q) (s.pe q) l∧(l.kd=4→l.dst=i)):PQ G q (ak ns i (bm n s l).1,(bm n s l).2):=by
 have me:Pos (ns i) q (n.mo q).r (n.mo q).e (n.mo q).t:=hn▸Pos.mo hu q;have h':Pq G q ns (s.pn q) (s.pe q) s.fl:=h;have o:=h'.p i hi _ _ _ me;have idle:PQ G q (ak ns i n,s):=by rw[←hn,eO];exact h
 have wr:∀{m:Nd} {a:Af} {rs:List Rec},m.up=true→m.wt=n.wt→(∀r e t,Pos m q r e t→Pos n q r e t)→(∀B,yi a=some (q,B)→Pos n q B.r B.e B.t∨Fn q ns (s.pn q) (s.pe q) i B.r B.e B.t)→PQ G q (ak ns i ((lC m a rs).getD m),s):=fun {m a rs} hm kh hp hB=>h.node hi (fun r e t hp1=>by
  rw[hn];rcases Me hm hp1 with g|⟨B,g1,rfl,rfl,rfl⟩
  ·exact .inl (hp r e t g)
  ·exact hB B g1) (by rw[U8,kh,hn])
 have Ym:∀{r e t:Int},k_ q ns (s.pn q) (s.pe q) i r e t→(∀ep,(ep<(n.mo q).e∨((n.mo q).e=ep∧¬(n.mo q).r=4))→ep<e∨(e=ep∧¬r=4))→¬((n.mo q).r=3∧(n.mo q).e=s.pe q)→¬((n.mo q).r=1∧(n.mo q).e=s.pe q+1)→(∀ep,(ep<(n.mo q).e∨((n.mo q).e=ep∧((n.mo q).r=3∨(n.mo q).r=0)))→ep<e∨(e=ep∧(r=3∨r=0)))→Fn q ns (s.pn q) (s.pe q) i r e t:=fun o' g1 g2 g3 g4=>⟨o',fun ep g=>g1 ep (g _ _ _ me),fun g=>g2 (g _ _ _ me),fun g=>g3 (g _ _ _ me),fun ep g=>g4 ep (g _ _ _ me)⟩;unfold bm;split
 ·
  unfold gD;split
  ·exact idle.xb rfl rfl rfl fun _=> .plain (by show ¬(1:Int)=2;decide) (by show ¬(1:Int)=4;decide) (by show ¬(1:Int)=5;decide) (by show ¬(1:Int)=7;decide)
  have bu:∀an,PQ G q (ak ns i n,dN n s l an):=fun an=>idle.xb rfl rfl rfl fun _=> .plain (by show ¬(1:Int)=2;decide) (by show ¬(1:Int)=4;decide) (by show ¬(1:Int)=5;decide) (by show ¬(1:Int)=7;decide);split
  ·exact bu _
  split
  ·rename_i n' e;have:=wr (m:=n) (a:= .serve l (bD (n.mo l.q) l.op).2.1) (rs:=[⟨2,l.q,(n.mo l.q).e,0,l.op⟩]) hu rfl (fun _ _ _ g=>g) fun B g=>by cases g
   rw[e]at this;exact this
  ·exact bu _
 split
 ·
  rename_i k2;unfold gE;split
  ·exact idle
  rename_i hb;split
  ·exact idle.xb rfl rfl rfl fun _=> .plain (by show ¬(3:Int)=2;decide) (by show ¬(3:Int)=4;decide) (by show ¬(3:Int)=5;decide) (by show ¬(3:Int)=7;decide)
  rename_i he;refine wr hu rfl (fun _ _ _ g=>g) fun B g=> ?_;have g:some (l.q,_)=some (q,B):=g;injection g with g
  obtain⟨rfl,rfl⟩:=AR g;rcases pQ (AD.1 hb)with e|⟨h1,h2,e⟩
  ·rw[e]at he;exact absurd rfl he
  rw[e];have zk:=(hl rfl).1.1 k2;exact .inr (Ym ⟨fun _=> .inr rfl,zk,fun g=>(by have g:(4:Int)=2∨(4:Int)=3:=g;omega),fun g=>(by have g:(4:Int)=1∨(4:Int)=2∨(4:Int)=3:=g;omega),fun g=>(by have g:(4:Int)=1∨(4:Int)=2:=g;omega),fun g=>(by have g:(4:Int)=1:=g;omega),fun g=>(by have g:(4:Int)=3:=g;omega),fun g=>(by have:=o.x g;omega)⟩ (fun ep g=> .inl (by show ep<l.ep;omega)) (by omega) (by omega) (fun ep g=> .inl (by show ep<l.ep;omega)))
 split
 ·
  unfold fj;split
  ·exact idle
  split
  ·exact idle
  rename_i hc;have hc:=AD.1 hc;obtain⟨hr,QP⟩:=ml (ok l.q hw.q) hc;split
  ·rename_i he;have hs:(aL (n.mo l.q) l.pl).1.r=(n.mo l.q).r∧(aL (n.mo l.q) l.pl).1.e=(n.mo l.q).e∧(aL (n.mo l.q) l.pl).1.t=(n.mo l.q).t:=by
    rcases QP with⟨_,e⟩|⟨h2,e⟩|⟨_,e⟩
    ·rw[e];exact⟨rfl,rfl,rfl⟩
    ·rw[e]at he;have he:(3:Int)=(n.mo l.q).r:=he;omega
    ·rw[e];exact⟨rfl,rfl,rfl⟩
   have h2:PQ G q (ak ns i {n with mo:=ak n.mo l.q (aL (n.mo l.q) l.pl).1},s):=h.node hi (fun r e t hp=> .inl (by
    rw[hn];refine ee (n':={n with mo:=ak n.mo l.q (aL (n.mo l.q) l.pl).1}) hu hu ?_ (fun _ _ g _=>rfl) hp;by_cases e1:q=l.q
    ·subst e1;show(ak n.mo l.q _ l.q).r=_∧(ak n.mo l.q _ l.q).e=_∧(ak n.mo l.q _ l.q).t=_;rw[aj];exact hs
    ·show(ak n.mo l.q _ q).r=_∧(ak n.mo l.q _ q).e=_∧(ak n.mo l.q _ q).t=_
     rw[aI e1];exact⟨rfl,rfl,rfl⟩)) (by rw[hn])
   exact h2.part hi (aj ..) sL hu ha l.q l.pl
  ·rename_i he;refine wr hu rfl (fun _ _ _ g=>g) fun B g=> ?_;have g:some (l.q,_)=some (q,B):=g;injection g with g
   obtain⟨rfl,rfl⟩:=AR g;rcases QP with⟨_,e⟩|⟨h2,e⟩|⟨_,e⟩
   ·rw[e]at he;exact absurd rfl he
   ·rw[e];have hd:=o.d (.inr h2);have U5:=o.a2 (.inl h2);exact .inr (Ym ⟨fun g=>(by have:=o.z g;omega),(by show(n.mo l.q).e≤_;omega),fun _=>U5,fun _=>o.b (.inr (.inl h2)),fun g=>(by have g:(3:Int)=1∨(3:Int)=2:=g;omega),fun g=>(by have g:(3:Int)=1:=g;omega),fun _ g=>(by have g:(n.mo l.q).e<_:=g;omega),fun g=>(by have:=o.x g;exact⟨.inr (.inr rfl),this.2⟩)⟩ (fun ep g=>(by show ep<(n.mo l.q).e∨((n.mo l.q).e=ep∧¬(3:Int)=4);omega)) (by omega) (by omega) (fun ep g=>(by show ep<(n.mo l.q).e∨((n.mo l.q).e=ep∧((3:Int)=3∨(3:Int)=0));omega)))
   ·rw[e]at he;exact absurd rfl he
 split
 ·
  rename_i k4;unfold takeN;split
  ·exact idle
  rename_i hc;have hc:=AD.1 hc;split
  ·exact idle
  refine wr hu rfl (fun _ _ _ g=>g) fun B g=> ?_;have g:some (l.q,_)=some (q,B):=g;injection g with g
  obtain⟨rfl,rfl⟩:=AR g;obtain⟨_,h4,_,new,e⟩:=pN hc;have zk:=xc hc;rw[e];obtain⟨DI,p8⟩:=hl rfl;cases Fh:l.la with
  |false=>exact .inl (hn▸me)
  |true=>
   have DI:=DI.2.1 k4 Fh;rw[p8 k4]at DI;rcases DI with⟨e1,e2⟩|⟨e1,e2⟩
   ·have e3:(n.mo l.q).e=s.pe l.q+1:=zk.trans e1;refine .inr (Ym (r:=1) (e:=(n.mo l.q).e) (t:=0) ⟨fun g=>(by have:=e2.1;omega),(by omega),fun g=>(by omega),fun _ g=>(by omega),fun _=>(by omega),fun _ _=>e2,fun g=>(by omega),fun g=>(by have:=o.x g;omega)⟩ (fun ep g=>(by omega)) (by omega) (by omega) (fun ep g=>(by omega)))
   ·rw[Bu]at e2;have:=e2 _ _ _ me;omega
 ·
  rename_i k0 k2 k3 k4;have k7:l.kd=7:=by have:=hw.kd;omega
  unfold gF;have hh:(cV n l).up=true∧(cV n l).wt=n.wt∧∀r e t,Pos (cV n l) q r e t→Pos n q r e t:=by
   unfold cV;split
   ·exact⟨hu,rfl,fun r e t hp=>ee (n':={n with hn:=ak n.hn l.q l.pn,he:=ak n.he l.q l.pe}) hu hu ⟨rfl,rfl,rfl⟩ (fun _ _ _ _=>rfl) hp⟩
   ·exact⟨hu,rfl,fun _ _ _ g=>g⟩
  split
  ·rename_i hf;refine wr hh.1 hh.2.1 hh.2.2 fun B g=> ?_;have g:some (l.q,_)=some (q,B):=g;injection g with g
   obtain⟨rfl,rfl⟩:=AR g;obtain⟨h3,e⟩:=pM hf;have hfe:=xd hf;have h7:=(hl rfl).1.2.2.2 k7;rw[e];exact .inr (Ym (r:=0) (e:=(n.mo l.q).e) (t:=0) ⟨fun _=> .inl rfl,o.a,fun g=>(by omega),fun g=>(by omega),fun g=>(by omega),fun g=>(by omega),fun g=>(by omega),fun g=>(by have:=o.x g;omega)⟩ (fun ep g=>(by omega)) (by omega) (by omega) (fun ep g=>(by omega)))
  ·exact h.node hi (fun r e t hp=> .inl (by rw[hn];exact hh.2.2 r e t hp)) (by rw[hh.2.1,hn])
end
theorem GW(n:Nd)(s:Ws)(l:Lt):(bm n s l).1.wt=n.wt:=(ie n s l).1.2
section
variable{G:Nat→Int→Prop}{q i:Nat}
theorem PQ.work(hi:i<5):∀(k:Nat) (n:Nd) (s:Ws) (ns:Nat→Nd),PQ G q (ns,s)→ns i=n→n.i=i→n.up=true→n.af=none→Up n→(∀l∈n.wt,eY l)→PQ G q (ak ns i (cJ k n s).1,(cJ k n s).2)
 |0,n,s,ns,h,hn,sL,hu,ha,_,_=>PQ.push hi 4 n ns h hn sL hu ha
 |k+1,n,s,ns,h,hn,sL,hu,ha,up,hw=>by
  unfold cJ;split
  ·exact PQ.push hi 4 n ns h hn sL hu ha
  rename_i l ls e;have h':Pq G q ns (s.pn q) (s.pe q) s.fl:=h;have hl:l∈(ns i).wt:=by rw[hn,e];exact Aq
  have Gv:∀x∈ls,x∈n.wt:=fun x hx=>by rw[e];exact Az _ hx
  have h1:Pq G q ns (s.pn q) (s.pe q) (s.fl++[l]):=Pq.send h' fun x hx hq=>by
   rw[Ab.1 hx]at hq⊢;exact(h'.w i hi l hl hq).1
  have h2:=Pq.move h1 hi (n':={n with wt:=ls}) (fun r e t hp=> .inl (by rw[hn];exact ee (n:=n) (n':={n with wt:=ls}) hu hu ⟨rfl,rfl,rfl⟩ (fun _ _ _ _=>rfl) hp)) (fun x hx=> .inl (by rw[hn];exact Gv x hx));have pZ:eY l:=hw l (hn▸hl);have JX:Up {n with wt:=ls}:=up.congr rfl rfl rfl rfl;have h3:=PQ.SZ (q:=q) (i:=i) (ns:=ak ns i {n with wt:=ls}) (s:=s) (h2.less fun x hx=>Bk _ hx) hi (aj ..) sL hu ha JX.mo pZ fun hq=>⟨h2.l l (Bj _ Aq) hq,(h'.w i hi l hl hq).2⟩;rw[jl]at h3;obtain⟨g1,g2,g3,_⟩:=pO (s:=s) (l:=l) JX ha pZ;split
  ·exact h3
  ·rename_i hs;have U5:(bm {n with wt:=ls} s l).1.af=none:=by
    cases hx:(bm {n with wt:=ls} s l).1.af with
    |none=>rfl
    |some a=>rw[hx]at hs;exact absurd rfl hs
   have h4:=PQ.work hi k _ _ _ h3 (aj ..) (g3.trans sL) (g2.trans hu) U5 g1 (fun x hx=>by rw[GW]at hx;exact hw x (Gv x hx));rw[jl]at h4;exact h4
theorem qQ{n n':Nd}(hu:n.up=true)(um:n'.up=true)(JL:n'.af=none)(hm:∀q,((n'.mo q).r=(n.mo q).r∧(n'.mo q).e=(n.mo q).e∧(n'.mo q).t=(n.mo q).t)∨∃a,n.af=some a∧yi a=some (q,n'.mo q)∧¬(n'.mo q).r=2){r e t:Int}(h:Pos n' q r e t):Pos n q r e t:=by
 rcases hm q with g|⟨a,g1,g2,g3⟩
 ·exact ee hu um g (fun a B h1 _=>by rw[JL]at h1;cases h1) h
 ·rcases h.calm um JL with g|⟨g,_⟩
  ·exact .inl ⟨hu,.inr (.inr ⟨a,_,g1,g2,g⟩)⟩
  ·exact absurd g g3
theorem PQ.step{ns:Nat→Nd}{s:Ws}(h:PQ G q (ns,s))(hi:i<5)(hN:NI i (ns i)):PQ G q (ak ns i (eB (ns i) s).1,(eB (ns i) s).2):=by
 by_cases hu:(ns i).up=false
 ·rw[jB hu,eO];exact h
 have hu:(ns i).up=true:=by simpa using hu
 have up:=hN.up hu;cases ha:(ns i).af with
 |none=>
  rw[jD hu ha];exact PQ.work hi _ _ s ns h rfl hN.i hu ha up hN.wt
 |some a=>
  rw[jC hu ha];obtain⟨dJ,dC,Bs,_,_,_,_,e5⟩:=up.ex;rcases e5 with⟨e,_⟩|⟨a',q',D,e,pd⟩
  ·rw[ha]at e;cases e
  rw[ha]at e;cases e
  have hD:¬D.r=2:=GS pd.run (by
   by_cases g:((ns i).mo q').r=2
   ·rw[si g];show ¬(1:Int)=2;decide
   ·rw[gK g];exact g)
  have put:∀q0 B,yi a=some (q0,B)→¬B.r=2→PQ G q (ak ns i {ns i with sy:=(ns i).dl.length,af:=none,mo:=ak (ns i).mo q0 B},s):=fun q0 B g1 g2=>h.node hi (fun r e t hp=> .inl (qQ hu (n':={ns i with sy:=(ns i).dl.length,af:=none,mo:=ak (ns i).mo q0 B}) hu rfl (fun p=>by
   show((ak (ns i).mo q0 B p).r=_∧(ak (ns i).mo q0 B p).e=_∧(ak (ns i).mo q0 B p).t=_)∨∃a,(ns i).af=some a∧yi a=some (p,ak (ns i).mo q0 B p)∧¬(ak (ns i).mo q0 B p).r=2;by_cases g:p=q0
   ·subst g;rw[aj];exact .inr ⟨a,ha,g1,g2⟩
   ·rw[aI g]
    exact .inl ⟨rfl,rfl,rfl⟩) hp)) rfl
  have p3:∀{ns':Nat→Nd} {s':Ws} {l:Lt},PQ G q (ns',s)→s'.pn=s.pn→s'.pe=s.pe→s'.fl=s.fl++[l]→l.kd=3∨l.kd=1→PQ G q (ns',s'):=fun {ns' s' l} g e1 e2 e3 hk=>g.xb e1 e2 e3 fun _=> .plain (by omega) (by omega) (by omega) (by omega);have Gn:=pd.af;cases a with
  |serve l an=>
   obtain⟨rfl,hr,G9,_⟩:=Gn;have e1:(bD ((ns i).mo l.q) l.op).1=((ns i).mo l.q).more [l.op]:=by rw[eV G9]
   refine p3 (l:=gT l.nu an (-1) 0) (ns':=ak ns i {ns i with sy:=(ns i).dl.length,af:=none,mo:=ak (ns i).mo l.q (bD ((ns i).mo l.q) l.op).1}) ?_ rfl rfl rfl (.inr rfl);rw[e1];refine h.node hi (fun r e t hp=> .inl (qQ hu (n':={ns i with sy:=(ns i).dl.length,af:=none,mo:=ak (ns i).mo l.q (((ns i).mo l.q).more [l.op])}) hu rfl (fun p=> ?_) hp)) rfl;show((ak (ns i).mo l.q (((ns i).mo l.q).more [l.op]) p).r=_∧(ak (ns i).mo l.q (((ns i).mo l.q).more [l.op]) p).e=_∧(ak (ns i).mo l.q (((ns i).mo l.q).more [l.op]) p).t=_)∨_;by_cases g:p=l.q
   ·subst g;rw[aj];exact .inl ⟨rfl,rfl,rfl⟩
   ·rw[aI g];exact .inl ⟨rfl,rfl,rfl⟩
  |begin l B=>
   obtain⟨rfl,_,rfl⟩:=Gn;exact p3 (put l.q D rfl hD) rfl rfl rfl (.inl rfl)
  |shut l B=>
   obtain⟨rfl,_,rfl⟩:=Gn;exact PQ.part (put l.q D rfl hD) hi (aj ..) hN.i hu rfl l.q l.pl
  |take l B=>
   obtain⟨rfl,_,rfl⟩:=Gn;have g:=put l.q D rfl hD;show PQ G q (_,if D.r=1 then _ else _);split
   ·exact g.same rfl rfl rfl
   ·exact p3 g rfl rfl rfl (.inl rfl)
  |fA q0 B=>
   obtain⟨rfl,_,rfl⟩:=Gn;exact put q0 D rfl hD
theorem PQ.sU{ns:Nat→Nd}{s:Ws}{l:Lt}(ok:j9 l)(dir:bN s.pn s.pe)(jb:q<4):∃L,(bH ns s l).2.fl=s.fl++L∧∀F,Pq G q ns (s.pn q) (s.pe q) F→l∈F→Pq G q (bH ns s l).1 ((bH ns s l).2.pn q) ((bH ns s l).2.pe q) (F++L):=by
 have pl:∀{ns:Nat→Nd} {pn pe:Int} {F:List Lt} {a b:Int},Pq G q ns pn pe F→(l.q=q→b≤pe)→Pq G q ns pn pe (F++[iK l.fr l.q a b]):=fun {ns pn pe F a b} g hb=>Pq.send g fun x hx hq=>by
  rw[Ab.1 hx]at hq⊢;exact⟨fun g=>(by cases g),fun g=>(by cases g),fun g=>(by cases g),fun _=>hb hq⟩
 unfold bH;split
 ·exact⟨[],(Au _).symm,fun F h _=>by rw[Au];exact h⟩
 split
 ·rename_i k5;unfold dI;split
  ·rename_i hc;obtain⟨_,M_,hg⟩:=hc;refine⟨[iK l.fr l.q (bw s.pn l.q l.fr l.q) (bw s.pe l.q (s.pe l.q+1) l.q)],rfl,fun F h hF=> ?_⟩;show Pq G q ns (bw s.pn l.q l.fr q) (bw s.pe l.q (s.pe l.q+1) q) (F++_);by_cases e:l.q=q
   ·subst e;have ed:∀(f:tH) x,bw f l.q x l.q=x:=fun f x=>Ae rfl;rw[ed,ed];unfold wm at hg;split at hg
    ·omega
    split at hg
    ·omega
    have hd:=dir l.q jb;unfold kS at hd;rcases(h.l l hF rfl).2.2.1 k5 with g|⟨_,g⟩
    ·omega
    ·exact pl (h.flip ok.f0 ok.f5 (by omega) (by omega) g) fun _=>Bq _
   ·have ed:∀(f:tH) x,bw f l.q x q=f q:=fun f x=>Aa fun g=>e g.symm;rw[ed,ed];exact pl h fun g=>absurd g e
  ·exact⟨[iK l.fr l.q (s.pn l.q) (s.pe l.q)],rfl,fun F h hF=>pl h fun g=>by rw[g];exact Bq _⟩
 split
 ·exact⟨[iK l.fr l.q (s.pn l.q) (s.pe l.q)],rfl,fun F h hF=>pl h fun g=>by rw[g];exact Bq _⟩
 ·rename_i k1 k5 k6;refine⟨[],(Au _).symm,fun F h hF=> ?_⟩;rw[Au];obtain⟨_,hd0,hd5⟩:eY l∧0≤l.dst∧l.dst<5:=by
   rcases ok.ok.kd with g|⟨g,_⟩|⟨g,_⟩|g
   ·exact absurd g k1
   ·exact absurd g k5
   ·exact absurd g k6
   ·exact g
  show Pq G q (ak ns l.dst.toNat _) (s.pn q) (s.pe q) F;by_cases hu:(ns l.dst.toNat).up=true
  ·rw[Ae hu];refine Pq.move h (by omega) (fun r e t hp=> .inl (ee (n':={ns l.dst.toNat with wt:=(ns l.dst.toNat).wt++[l]}) hu hu ⟨rfl,rfl,rfl⟩ (fun _ _ _ _=>rfl) hp)) fun x hx=> ?_;rcases Ah.1 hx with hx|hx
   ·exact .inl hx
   ·rw[Ab.1 hx];exact .inr fun hq=>⟨h.l l hF hq,fun _=>by omega⟩
  ·rw[Aa hu,eO];exact h
theorem De(jb:q<4):∀(ls:List Lt) {p0:(Nat→Nd)×Ws} {m:Nat} (p:(Nat→Nd)×Ws),Cm p0 p m→(∀l∈ls,j9 l)→Pq G q p.1 (p.2.pn q) (p.2.pe q) (p.2.fl++ls)→PQ G q (ls.foldl (fun p l=>bH p.1 p.2 l) p)
 |[],_,_,p,_,_,h=>by rw[Au]at h;exact h
 |l::ls,_,_,p,hc,hl,h=>by
  rw[BZ];obtain⟨L,e,hF⟩:=PQ.sU (q:=q) (ns:=p.1) (s:=p.2) (hl l Aq) hc.dir jb;refine De jb ls _ (pP hc (hl l Aq)) (fun x hx=>hl x (Az _ hx)) ((hF _ h (Bj _ Aq)).less fun x hx=> ?_);rw[e]at hx;rcases Ah.1 hx with hx|hx
  ·rcases Ah.1 hx with hx|hx
   ·exact Bk _ (Bk _ hx)
   ·exact Bj _ hx
  ·exact Bk _ (Bj _ (Az _ hx))
theorem PQ.make{ns:Nat→Nd}{s:Ws}(h:PQ G q (ns,s))(hi:i<5)(hN:NI i (ns i))(iG:∀l∈s.fl,j9 l)(j_:∀j,j<5→NI j (ns j)){q0:Nat}(hq0:q0<4):PQ G q (ak ns i (dO (ns i) s q0).1,(dO (ns i) s q0).2):=by
 unfold dO;split
 case isFalse=>rw[eO];exact h
 rename_i hc;obtain⟨⟨hd,M_⟩,hu,ha,hm,_⟩:=hc;have h':Pq G q ns (s.pn q) (s.pe q) s.fl:=h;obtain⟨n',pS,um,JL,Wz,hm'⟩:∃n':Nd,n'={ns i with dl:=(ns i).dl++cp [aU q0],sy:=(((ns i).dl.length+(cp [aU q0]).length:Nat):Int),mo:=ak (ns i).mo q0 ⟨1,1,0,0,0,[]⟩}∧n'.up=true∧n'.af=none∧n'.wt=(ns i).wt∧n'.mo=ak (ns i).mo q0 ⟨1,1,0,0,0,[]⟩:=⟨_,rfl,hu,ha,rfl,rfl⟩;show Pq G q (ak ns i {ns i with dl:=(ns i).dl++cp [aU q0],sy:=(((ns i).dl.length+(cp [aU q0]).length:Nat):Int),mo:=ak (ns i).mo q0 ⟨1,1,0,0,0,[]⟩}) (bw s.pn q0 (ns i).i q) (bw s.pe q0 1 q) s.fl;rw[←pS];clear pS;by_cases e:q=q0
 case neg=>
  have ed:∀(f:tH) x,bw f q0 x q=f q:=fun f x=>Aa e;rw[ed,ed]
  exact h.node hi (fun r e1 t hp=> .inl (ee hu um (by
   rw[hm',aI e];exact⟨rfl,rfl,rfl⟩) (fun a B g _=>by rw[JL]at g;cases g) hp)) Wz
 subst e;have ed:∀(f:tH) x,bw f q x q=x:=fun f x=>Ae rfl;rw[ed,ed,hN.i];have XL:s.pe q=0:=by
  have:=hd q hq0;unfold kS at this;omega
 rw[M_,XL]at h';have me:∀{r e t:Int},Pos n' q r e t→r=1∧e=1:=fun {r e t} hp=>by
  have hx:=hp.calm um JL;rw[hm',aj]at hx;rcases hx with⟨g1,g2,_⟩|⟨g1,_⟩
  ·exact⟨g1,g2⟩
  ·cases g1
 have tL:∀l,(l.kd=5→l.fr.toNat<5)→LC q ns (-1) 0 l→LC q (ak ns i n') i 1 l:=fun l h5 hl=>⟨fun g=>by have:=hl.1 g;omega,fun g1 g2=> .inr (by
  rcases hl.2.1 g1 g2 with⟨_,g,_⟩|⟨g,gn⟩
  ·omega
  ·refine⟨by omega,fun r e t hp=> ?_⟩;by_cases e1:l.dst.toNat=i
   ·rw[e1,aj]at hp;have:=me hp;omega
   ·rw[aI e1]at hp;exact gn r e t hp),fun g=> .inl (by
  rcases hl.2.2.1 g with g1|⟨_,g1⟩
  ·omega
  ·have v:=Pos.Yl (ns l.fr.toNat) q;have:=g1 _ _ _ v;have:=(h'.p _ (h5 g) _ _ _ v).z rfl
   omega),fun g=>by have:=hl.2.2.2 g;omega⟩
 refine⟨fun j hj r e t hp=> ?_,fun l hl hq=>tL l (fun _=>by have:=(iG l hl).f0;have:=(iG l hl).f5;omega) (h'.l l hl hq),fun j hj l hl hq=> ?_,fun j hj ep g=>⟨(h'.k j hj ep g).1,fun r e t hp=> ?_⟩⟩
 ·by_cases e1:j=i
  ·subst e1;rw[aj]at hp;obtain⟨rfl,rfl⟩:=me hp;exact⟨fun g=>by omega,by omega,fun g=>by omega,fun _ _=>rfl,fun _=>Bq _,fun _ g=>by omega,fun g=>by omega,fun _=>⟨.inl rfl,rfl⟩⟩
  ·rw[aI e1]at hp;have o:=h'.p j hj r e t hp;have z:=o.z rfl;exact⟨fun g=>by omega,by have:=o.a;omega,fun g=>by omega,fun g=>by omega,fun g=>by omega,fun g=>by omega,fun g=>by omega,fun g=>by omega⟩
 ·have hw:l∈(ns j).wt:=by
   by_cases e1:j=i
   ·subst e1;rw[aj,Wz]at hl;exact hl
   ·rw[aI e1]at hl;exact hl
  have:=h'.w j hj l hw hq;exact⟨tL l (fun g=>by have:=((j_ j hj).wt l hw).kd;omega) this.1,this.2⟩
 ·obtain⟨k1,k2⟩:=h'.k j hj ep g;by_cases e1:j=i
  ·subst e1;rw[aj]at hp;have VN:((ns j).mo q).e<1:=by
    unfold fh at hm;split at hm
    ·cases hm
    split at hm
    ·cases hm
    split at hm
    ·cases hm
    split at hm
    ·cases hm
    ·omega
   have:=k2 _ _ _ (Pos.mo hu q);omega
  ·rw[aI e1]at hp;exact k2 r e t hp
theorem xe{B:Bt}{nd:Int}(h:(cW B nd).2=0):B.r=1∧(cW B nd).1=⟨2,B.e,B.f,nd,B.o,B.es⟩:=by
 unfold cW at h⊢;split at h
 ·cases h
 ·rename_i h1;rw[Aa h1];split at h
  ·cases h
  ·rename_i h2;rw[Aa h2];split at h
   ·cases h
   ·rename_i h3;rw[Aa h3];split at h
    ·cases h
    ·rename_i h4;rw[Aa h4];split at h
     ·cases h
     ·rename_i h5;rw[Aa h5];exact⟨AD.1 h4,rfl⟩
theorem GX{k:Nat}{p:(Nat→Nd)×Ws}(h:Inv k p){f:tH}(ok:xO f)(jb:q<4)(P:PQ G q p):PQ G q (j8 p f):=by
 obtain⟨ns,s⟩:=p;have hi:(f 1).toNat<5:=by have:=ok.n;omega
 have hq:(f 2).toNat<4:=by have:=ok.q;omega
 have QY:=ok.kp;have hN:=h.n _ hi;have j_:=h.n;have iG:=h.fl;have gg:=h.dir;have P':Pq G q ns (s.pn q) (s.pe q) s.fl:=P;unfold j8;generalize(f 1).toNat=n,(f 2).toNat=q0,(f 3).toNat=j,f 4=kp,(⟨f 5,f 6,f 7,f 8,f 9,f 10⟩:Ev)=e,f 0=k at*;dsimp only at hN j_ iG gg⊢;unfold Qn;split
 ·exact P.make hi hN iG j_ hq
 split
 ·exact P.xb rfl rfl rfl fun _=> .plain (by show ¬(0:Int)=2;decide) (by show ¬(0:Int)=4;decide) (by show ¬(0:Int)=5;decide) (by show ¬(0:Int)=7;decide)
 split
 ·exact P.step hi hN
 split
 ·unfold jc;split
  ·exact P
  rename_i l hl;have hm:=Ar hl;have less:∀s':Ws,s'=(if k=6 then s else {s with fl:=s.fl.eraseIdx (j % s.fl.length)})→s'.pn=s.pn∧s'.pe=s.pe∧∀x∈s'.fl,x∈s.fl:=by
   rintro s' rfl;split
   ·exact⟨rfl,rfl,fun _ g=>g⟩
   ·exact⟨rfl,rfl,fun x g=>Bv g⟩
  obtain⟨l1,l2,l3⟩:=less _ rfl;generalize(if k=6 then s else {s with fl:=s.fl.eraseIdx (j % s.fl.length)})=s' at l1 l2 l3⊢;split
  ·show Pq G q ns (s'.pn q) (s'.pe q) s'.fl;rw[l1,l2];exact P'.less l3
  ·obtain⟨L,e1,e2⟩:=PQ.sU (q:=q) (ns:=ns) (s:=s') (iG l hm) (by rw[l1,l2];exact gg) jb;show Pq G q (bH ns s' l).1 _ _ (bH ns s' l).2.fl;rw[e1];refine(e2 s.fl (by rw[l1,l2];exact P') hm).less fun x hx=> ?_;rcases Ah.1 hx with hx|hx
   ·exact Bk _ (l3 x hx)
   ·exact Bj _ hx
 split
 ·exact De jb s.fl (p0:=(ns,{s with fl:=[]})) (m:=0) (ns,{s with fl:=[]}) ⟨h.n,(fun l hl=>by cases hl),gg,Ac _,rfl,Ac _,rfl⟩ iG P'
 split
 ·show PQ G q (ak ns n (jZ (ns n) kp),s);unfold jZ;split
  ·rename_i hu;exact Pq.move P' hi (fun r e t hp=> .inl (w_ (hN.up hu) hu hN.ln QY.1 jb hp)) fun l hl=>by cases hl
  ·rw[eO];exact P
 split
 ·have e1:(cQ (ns n) s).2.pn=s.pn∧(cQ (ns n) s).2.pe=s.pe∧(cQ (ns n) s).2.fl=s.fl∧∀l∈(cQ (ns n) s).1.wt,l∈(ns n).wt:=by
   unfold cQ;split
   ·exact⟨rfl,rfl,rfl,fun _ g=>g⟩
   split
   ·unfold iL;split
    ·exact⟨rfl,rfl,rfl,fun _ g=>by cases g⟩
    ·exact⟨rfl,rfl,rfl,fun _ g=>g⟩
   ·exact⟨rfl,rfl,rfl,fun _ g=>g⟩
  have h1:PQ G q (ak ns n (cQ (ns n) s).1,s):=Pq.move P' hi (fun r e t hp=> .inl (xa hN.dw hN.ln jb hp)) fun l hl=> .inl (e1.2.2.2 l hl);exact h1.same e1.1 e1.2.1 e1.2.2.1
 ·show PQ G q (ak ns (s.pn q0).toNat (jX (ns (s.pn q0).toNat) s q0 n),s);unfold jX;split
  ·rw[eO];exact P
  rename_i hc;have hd:=gg q0 hq;unfold kS at hd;have c1:¬s.pn q0= -1:=fun g=>hc (.inl g);have J8:(s.pn q0).toNat<5:=by omega
  have C0:(ns (s.pn q0).toNat).up=true:=by
   cases hx:(ns (s.pn q0).toNat).up with
   |true=>rfl
   |false=>exact absurd (.inr (.inr (.inl hx))) hc
  have c4:((ns (s.pn q0).toNat).mo q0).e=s.pe q0:=AD.1 fun g=>hc (.inr (.inr (.inr (.inl g))));have c5:(cW ((ns (s.pn q0).toNat).mo q0) n).2=0:=AD.1 fun g=>hc (.inr (.inr (.inr (.inr g))));obtain⟨g1,g2⟩:=xe c5;rw[g2];refine P.node J8 (fun r e t hp=> ?_) rfl;by_cases eq:q=q0
  case neg=>
   left;refine ee (n:=ns (s.pn q0).toNat) (n':={ns (s.pn q0).toNat with mo:=ak (ns (s.pn q0).toNat).mo q0 ⟨2,((ns (s.pn q0).toNat).mo q0).e,((ns (s.pn q0).toNat).mo q0).f,n,((ns (s.pn q0).toNat).mo q0).o,((ns (s.pn q0).toNat).mo q0).es⟩}) C0 C0 ?_ (fun _ _ _ _=>rfl) hp;show(ak (ns (s.pn q0).toNat).mo q0 _ q).r=_∧(ak (ns (s.pn q0).toNat).mo q0 _ q).e=_∧(ak (ns (s.pn q0).toNat).mo q0 _ q).t=_;rw[aI eq];exact⟨rfl,rfl,rfl⟩
  subst eq;have me:=Pos.mo C0 q;have o:=P'.p _ J8 _ _ _ me;have VN:ak (ns (s.pn q).toNat).mo q (⟨2,((ns (s.pn q).toNat).mo q).e,((ns (s.pn q).toNat).mo q).f,n,((ns (s.pn q).toNat).mo q).o,((ns (s.pn q).toNat).mo q).es⟩:Bt) q=_:=aj ..;rcases hp with⟨_,hp|⟨_,hp⟩|⟨a,B,hp,hp2⟩⟩|⟨hp,_⟩
  ·have hp:r=(ak (ns (s.pn q).toNat).mo q (⟨2,((ns (s.pn q).toNat).mo q).e,((ns (s.pn q).toNat).mo q).f,n,((ns (s.pn q).toNat).mo q).o,((ns (s.pn q).toNat).mo q).es⟩:Bt) q).r∧e=(ak (ns (s.pn q).toNat).mo q (⟨2,((ns (s.pn q).toNat).mo q).e,((ns (s.pn q).toNat).mo q).f,n,((ns (s.pn q).toNat).mo q).o,((ns (s.pn q).toNat).mo q).es⟩:Bt) q).e∧t=_:=hp;rw[VN]at hp;obtain⟨rfl,rfl,_⟩:=hp;right;refine⟨⟨fun g=>absurd g c1,o.a,fun _=>by show((ns (s.pn q).toNat).mo q).e≤_;omega,fun _=>o.b (.inl g1),fun _=>o.d (.inl g1),fun g=> ?_,fun g=> ?_,fun g=> ?_⟩,fun ep g=> ?_,fun g=> ?_,fun g=> ?_,fun ep g=> ?_⟩
   ·have g:(2:Int)=1:=g;omega
   ·have g:(2:Int)=3:=g;omega
   ·exact⟨.inr (.inl rfl),(o.x g).2⟩
   ·have:=g _ _ _ me;show ep<((ns (s.pn q).toNat).mo q).e∨(((ns (s.pn q).toNat).mo q).e=ep∧¬(2:Int)=4);omega
   ·have:=g _ _ _ me;omega
   ·have:=g _ _ _ me;omega
   ·have:=g _ _ _ me;show ep<((ns (s.pn q).toNat).mo q).e∨(((ns (s.pn q).toNat).mo q).e=ep∧((2:Int)=3∨(2:Int)=0));omega
  ·have hp:r=1∧e=(ak (ns (s.pn q).toNat).mo q (⟨2,((ns (s.pn q).toNat).mo q).e,((ns (s.pn q).toNat).mo q).f,n,((ns (s.pn q).toNat).mo q).o,((ns (s.pn q).toNat).mo q).es⟩:Bt) q).e∧t=0:=hp;rw[VN]at hp;obtain⟨rfl,rfl,rfl⟩:=hp;left;have okB:=(NI.up (j_ _ J8) C0).mo q hq;have hs:=okB.cG;unfold Bt.b_ bg at hs;exact .inl ⟨C0,.inl ⟨g1.symm,rfl,by omega⟩⟩
  ·exact .inl (.inl ⟨C0,.inr (.inr ⟨a,B,hp,hp2⟩)⟩)
  ·have hp:(ns (s.pn q).toNat).up=false:=hp;rw[C0]at hp;cases hp
theorem pq0(jb:q<4):PQ (fun _ _=>False) q (Uu,Q1):=by
 refine⟨fun i hi r e t hp=> ?_,(fun l hl=>by cases hl),(fun i hi l hl=>by cases hl),(fun i hi ep g=>by cases g)⟩;rcases hp.calm (show(Uu i).up=true from rfl) rfl with⟨rfl,rfl,rfl⟩|⟨g,_⟩
 ·exact⟨fun _=> .inl rfl,by show(0:Int)≤0+1;decide,fun g=>by have g:(0:Int)=2∨(0:Int)=3:=g;omega,fun g=>by have g:(0:Int)=1∨(0:Int)=2∨(0:Int)=3:=g;omega,fun g=>by have g:(0:Int)=1∨(0:Int)=2:=g;omega,fun g=>by have g:(0:Int)=1:=g;omega,fun g=>by have g:(0:Int)=3:=g;omega,fun g=>by have g:((i:Nat):Int)= -1:=g.trans (Ae jb);omega⟩
 ·have g:(0:Int)=2:=g;omega
theorem Df(jb:q<4)(D:tG)(n:Nat)(hn:n≤100000)(ok:∀j,j<n→Lq.fQ (Lq.av D j)=0):∀k,k≤n→PQ (fun _ _=>False) q (gk D k)
 |0,_=>pq0 jb
 |k+1,hk=>GX (gY D n hn ok k (by omega)) (lT (ok k (by omega))) jb (Df jb D n hn ok k (by omega))
end
section
open Rv
theorem aau{D E:tG}{n j:Nat}(hj:j<n)(hl:11*n≤D.length):∀o,o<11→Lq.av (D++E) j o=Lq.av D j o:=fun o ho=>by
 unfold Lq.av;rw[Aw,Aw,AZ (by omega)]
theorem aas{D E:tG}{n:Nat}(hl:D.length=11*n)(j:Nat):∀o,o<11→Lq.av (D++E) (n+j) o=Lq.av E j o:=fun o ho=>by
 unfold Lq.av;rw[Aw,Aw,AQ (by omega),show 11*(n+j)+o-D.length=11*j+o by omega]
theorem aaC{D E:tG}{n:Nat}(hl:11*n≤D.length):∀k,k≤n→gk (D++E) k=gk D k
 |0,_=>rfl
 |k+1,hk=>by
  show j8 (gk (D++E) k) _=j8 (gk D k) _;rw[aaC hl k (by omega)];exact tz (aau (by omega) hl)
theorem aaY{D E:tG}{n m:Nat}(hl:D.length=11*n)(h:∀j,j<n→Lq.fQ (Lq.av D j)=0)(he:∀j,j<m→Lq.fQ (Lq.av E j)=0):∀j,j<n+m→Lq.fQ (Lq.av (D++E) j)=0:=fun j hj=>by
 by_cases e:j<n
 ·exact(jF (aau e (by omega))).trans (h j e)
 ·obtain⟨i,rfl⟩:∃i,j=n+i:=⟨j-n,by omega⟩;exact(jF (aas hl i)).trans (he i (by omega))
theorem aaZ(n:Int)(m:Nat)(h:0<m):∃i:Nat,aA n m=i∧i<m:=by
 obtain⟨h1,h2⟩:=di n m (by omega);exact⟨(aA n m).toNat,by omega,by omega⟩
abbrev qT(w w':tA)(g l c:Nat)(D:tG):Prop:=bZ w w'∧w'.ownsRow w.heap.size 63 11 (.slice (some ⟨g,0,none⟩) l c) l (D.map (Value.int .i64))
theorem qT.row{w w':tA}{g l c:Nat}{D:tG}(h:qT w w' g l c D)(hs:∀u∈D,0≤u∧u≤1000000):RowK .i64 w' (some ⟨g,0,none⟩) (11*l) D:=by
 obtain⟨a1,c1,e,r1,_⟩:=RowK.eK h.2 fun u hu=>qP (hs u hu);cases e;exact r1
namespace Rv
section
variable{n:Nat}{ops:tP}{f:Nat→AV}{fn:Func}{Rr:Ending→World→Prop}{T:tF}{Φ R:tJ}{H:List En}{ks:List Fr}{t:Ord}{i d:Nat}{md:Md}
theorem ahk{s e sz lD base l mc b:Nat}{x y:AV}{v:tK}{L:tM}{R0:tJ}{en:En}(j m:Nat)(hm:0<m)(h1:Rz n ops f i=some (d,s,x,y))(ht:jI Tryz.prog s e sz lD=true)(hb:∀w,Mem w (hs H) (fun b=>v.ownBlock=some b∨T b) Φ (fun w=>R0 w∧w.ownsRow base e sz v l L)→base≤w.heap.size)(hR:∀w w',R0 w→dB (fun b=>base≤b) w w'→R0 w')(hn:∀g c,l+m≤c→G Tryz.prog fn Rr n (fun b=>(Value.slice (some ⟨g,0,none⟩) (l+m) c).ownBlock=some b∨T b) Φ (fun w=>R0 w∧w.ownsRow base e sz (.slice (some ⟨g,0,none⟩) (l+m) c) (l+m) (L++dD en.l)) (.g md ops t::ks) (ua f d (vv (.slice (some ⟨g,0,none⟩) (l+m) c))) H)(hx:x.val=v:=by rfl)(hy:y.val= .slice (some ⟨b,0,none⟩) m mc:=by rfl)(he:nth H j=some en:=by rfl)(ha:en.a=b:=by rfl)(hl:eX en.l=m*sz:=by rfl)(N9:(dD en.l).all (·.oneCell')=true:=by rfl)(Kg:l+m≤maxLen:=by(try dsimp only);unfold maxLen;omega)(Dt:(l+m)*lD≤140737488355328:=by(try dsimp only);omega)(hv:md.vs.contains i=false:=by rfl):G Tryz.prog fn Rr n (fun b=>v.ownBlock=some b∨T b) Φ (fun w=>R0 w∧w.ownsRow base e sz v l L) (.g md ops (.ef i t)::ks) f H:=
 apr h1 hx hy ht (by rw[de];exact hl) (fun w hS j2 u hu=>by
  have fb:=vV hS j he;have hj:=(Ap.1 hu).1;rw[de]at hj;have:=fb.at j2 hj;rw[iu _ hj,Aw,hu,ha]at this;rw[BM,Aj]
  exact this) (fun u hu=>List.all_eq_true.1 N9 u hu) hm Kg Dt hb hR hn hv
end
end Rv
theorem abE{w:tA}{base e sz n:Nat}{v:tK}{xs:tM}(h:w.ownsRow base e sz v n xs)(h0:0<n):∃g c,v= .slice (some ⟨g,0,none⟩) n c∧n≤c∧base≤g∧g<w.heap.size:=by
 rcases h.2 with⟨_,h1⟩|⟨g,c,cur,rfl,hb,hg,hc,_⟩
 ·omega
 ·exact⟨g,c,rfl,hc,hb,cI hg⟩
theorem qR{w:tA}{o:Oc}{t:j7}(h:lO w o t){i:Nat}(hi:i<5):w.cell? ⟨t.R,0+i*1,none⟩=some (.slice (some ⟨t.Y i,0,none⟩) 4 (t.C i)):=by
 rw[Aj,Cj];exact UY h hi
theorem nz{w:tA}{o:Oc}{t:j7}(h:lO w o t){i q:Nat}(hi:i<5)(hq:q<4)(j:Nat)(hj:j<6):w.cell? ⟨t.Y i,0+q*6+j,none⟩=some (bF (o.bs i q) (t.A i q) (t.K i q) j):=by
 rw[Aj];exact(h.b i hi).cell q hq j hj
theorem kL(B:Bt)(a:tB)(c:Nat)(w:tA):cA 18 #[vF (bF B a c) 6] w (rB (.bool (decide (B.r=1∨B.r=2))) w):=by
 have ob:aW (bF B a c) 6:=fun i hi=>by
  match i,hi with
  |0,_|1,_|2,_|3,_|4,_|5,_=>rfl
 refine en (H:=[]) _ [vf 6 (bF B a c)] Tryz.func18 rfl rfl (m0 w) (r [] rfl fun _=> ?_);by_cases h1:B.r=1
 ·exact r [1] rfl fun _=>fin fun w hS=>⟨by rw[As (.inl h1)];rfl,hS.now.2⟩
 by_cases h2:B.r=2
 ·exact r [0,1] rfl fun _=>fin fun w hS=>⟨by rw[As (.inr h2)];rfl,hS.now.2⟩
 ·exact r [0,0] rfl fun _=>fin fun w hS=>⟨by rw[Ak (by omega)];rfl,hS.now.2⟩
theorem Yn{s:Ws}{l:Lt}{q:Nat}(hl:0≤l.fr)(h:¬s.pn q= -1):¬(dI s l).pn q= -1:=by
 unfold dI;split
 ·show ¬bw s.pn l.q l.fr q= -1;unfold bw;split
  ·omega
  ·exact h
 ·exact h
theorem NX(ns:Nat→Nd){s:Ws}{l:Lt}{q:Nat}(hl:0≤l.fr)(h:¬s.pn q= -1):¬(bH ns s l).2.pn q= -1:=by
 unfold bH;split
 ·exact h
 split
 ·exact Yn hl h
 split
 ·exact h
 ·exact h
theorem U9{q:Nat}:∀(ls:List Lt) (p:(Nat→Nd)×Ws),(∀l∈ls,0≤l.fr)→¬p.2.pn q= -1→¬(ls.foldl (fun p l=>bH p.1 p.2 l) p).2.pn q= -1
 |[],_,_,h=>h
 |l::ls,p,hl,h=>by
  rw[BZ];exact U9 ls _ (fun x hx=>hl x (Az _ hx)) (NX p.1 (hl l Aq) h)
theorem Yo{i:Nat}{n:Nd}{s:Ws}(h:NI i n)(hi:i<5):(eB n s).2.pn=s.pn:=by
 have e:=h.i;unfold eB;split
 ·rfl
 rename_i C0;have up:n.up=true:=by simpa using C0
 cases ha:n.af with
 |some x=>exact(Fj (h.up up) ha (by omega)).pn
 |none=>
  obtain⟨⟨_,_,hs,_⟩,_⟩:=CZ (s:=s) n.wt.length (h.up up) ha (by omega) h.tu h.ln h.wt;exact hs.pn
theorem aaT{j:Nat}{p:(Nat→Nd)×Ws}(h:Inv j p){f:tH}(hn:(f 1).toNat<5){x:Nat}(hx:¬p.2.pn x= -1):¬(j8 p f).2.pn x= -1:=by
 obtain⟨ns,s⟩:=p;unfold j8;have sL:=h.n _ hn;have iG:=h.fl;generalize(f 1).toNat=n,(f 2).toNat=q,(f 3).toNat=j,f 4=kp,(⟨f 5,f 6,f 7,f 8,f 9,f 10⟩:Ev)=e,f 0=k at*;dsimp only at sL iG hx⊢;unfold Qn;split
 ·unfold dO;split
  ·show ¬bw s.pn q _ x= -1;unfold bw;split
   ·omega
   ·exact hx
  ·exact hx
 split
 ·exact hx
 split
 ·show ¬(eB (ns n) s).2.pn x= -1;rw[Yo sL hn];exact hx
 split
 ·unfold jc;split
  ·exact hx
  rename_i l hl;have hl:=iG l (Ar hl);split
  ·split<;>exact hx
  ·exact NX ns hl.f0 (by split<;>exact hx)
 split
 ·exact U9 s.fl (ns,{s with fl:=[]}) (fun l hl=>(iG l hl).f0) hx
 split
 ·exact hx
 split
 ·unfold cQ;split
  ·exact hx
  split
  ·unfold iL;split<;>exact hx
  ·exact hx
 ·exact hx
theorem U_{D:tG}{n:Nat}(hn:n≤100000)(ok:∀j,j<n→Lq.fQ (Lq.av D j)=0){x m:Nat}(h:¬(gk D m).2.pn x= -1):∀k,m+k≤n→¬(gk D (m+k)).2.pn x= -1
 |0,_=>h
 |k+1,hk=>aaT (f:=Lq.av D (m+k)) (gY D n hn ok (m+k) (by omega)) (by have:=(lT (ok (m+k) (by omega))).n;omega) (U_ hn ok h k (by omega))
theorem Yp(r:Rec):(cp [r]).length≤46:=by
 rw[kH];exact(vu [bn r]).2
theorem QJ{B:Bt}(h:B=Bt.zero):(fh B 1).2=0:=by
 unfold fh;rw[h,Aa (fun h=>h Bt.dx),Aa (by omega),Aa (fun h=>h rfl),Aa (by show ¬(1:Int)≤0;omega)]
theorem mk_one{ns:Nat→Nd}{s:Ws}{n q:Nat}(hd:bN s.pn s.pe)(hp:s.pn q= -1)(hN:ns n=Uu n):j8 (ns,s) (lA [1,(n:Int),(q:Int),0,0,0,0,0,0,0,0])=(ak ns n {Uu n with dl:=cp [aU q],sy:=((cp [aU q]).length:Int),mo:=ak (fun _=>Bt.zero) q ⟨1,1,0,0,0,[]⟩},{s with pn:=bw s.pn q n,pe:=bw s.pe q 1}):=by
 show(ak ns (n:Int).toNat (dO (ns (n:Int).toNat) s (q:Int).toNat).1,(dO (ns (n:Int).toNat) s (q:Int).toNat).2)=_;rw[Bu,Bu,hN];have h1:=Yp (aU q);have hc:NF (Uu n) s q:=⟨⟨hd,hp⟩,rfl,rfl,QJ rfl,by show 0+(cp [aU q]).length≤100000;omega⟩;unfold dO;rw[Ae hc];have e:(Uu n).dl.length+(cp [aU q]).length=(cp [aU q]).length:=Aj _;rw[e];rfl
theorem Vb{D:tG}(h0:∀o,o<11→Lq.av D 0 o=lA [1,0,0,0,0,0,0,0,0,0,0] o)(h1:∀o,o<11→Lq.av D 1 o=lA [1,1,1,0,0,0,0,0,0,0,0] o):(gk D 2).2={Q1 with pn:=bw (bw (dX 4) 0 0) 1 1,pe:=bw (bw bK 0 1) 1 1}:=by
 have e1:gk D 1=_:=(tz (p:=(Uu,Q1)) h0).trans (mk_one (n:=0) (q:=0) QC.dir rfl rfl);have k1:bN (gk D 1).2.pn (gk D 1).2.pe:=by
  rw[e1];exact GR QC.dir (.inr ⟨by decide,by decide,by decide,by decide⟩)
 show(j8 (gk D 1) _).2=_;rw[tz h1];rw[e1]at k1⊢;exact AB Prod.snd (mk_one (n:=1) (q:=1) k1 rfl rfl)
theorem Vc(G:tG)(cr:Bool)(n:Nat)(hn:n≤1000){q:Nat}(hq:q<2)(k:Nat)(hk:k≤n):¬(gk (mm G cr n) (2+k)).2.pn q= -1:=by
 have h0:∀o,o<11→Lq.av (mm G cr n) 0 o=lA [1,0,0,0,0,0,0,0,0,0,0] o:=by
  intro o ho;rw[cK _ _ o ho];rcases yJ G cr n 0 (by omega)with⟨_,e⟩|⟨e,_⟩|⟨e,_⟩
  ·rw[e]
  ·omega
  ·omega
 have h1:∀o,o<11→Lq.av (mm G cr n) 1 o=lA [1,1,1,0,0,0,0,0,0,0,0] o:=by
  intro o ho;rw[cK _ _ o ho];rcases yJ G cr n 1 (by omega)with⟨e,_⟩|⟨_,e⟩|⟨e,_⟩
  ·omega
  ·rw[e]
  ·omega
 have hf:=Vb h0 h1;refine U_ (n:=n+2) (by omega) (fun j hj=>rS G cr n j hj) (m:=2) ?_ k (by omega);rw[hf];obtain rfl|rfl:q=0∨q=1:=by omega
 ·decide
 ·decide
theorem abf(G:tG)(cr:Bool)(n:Nat)(hn:n≤1000){q:Nat}(hq:q<2):¬(gk (mm G cr n) (n+2)).2.pn q= -1:=by
 rw[Nat.add_comm];exact Vc G cr n hn hq n (Ac _)
def JY(bs:Nat→Nat→Bt)(q n:Nat):Prop:=(bs n q).r=1∨(bs n q).r=2∨(bs n q).r=3
instance(bs:Nat→Nat→Bt)(q n:Nat):Decidable (JY bs q n):=by unfold JY;infer_instance
def Dx(bs:Nat→Nat→Bt)(q:Nat):Nat→Int×Bool
 |0=>(-1,true)
 |n+1=>if ¬JY bs q n then Dx bs q n else if(Dx bs q n).1<0∨(bs (Dx bs q n).1.toNat q).e<(bs n q).e then((n:Int),true)else if(bs n q).e=(bs (Dx bs q n).1.toNat q).e then((Dx bs q n).1,false)else Dx bs q n
theorem Mf(bs:Nat→Nat→Bt)(q:Nat):∀n,(Dx bs q n=(-1,true)∧∀k,k<n→¬JY bs q k)∨∃m,m<n∧JY bs q m∧(Dx bs q n).1=(m:Int)∧(∀k,k<n→JY bs q k→(bs k q).e≤(bs m q).e)∧((Dx bs q n).2=true∨∃k,k<n∧¬k=m∧JY bs q k∧(bs k q).e=(bs m q).e)
 |0=> .inl ⟨rfl,fun k hk=>absurd hk (AF _)⟩
 |n+1=>by
  have ih:=Mf bs q n;rw[Dx];by_cases hs:JY bs q n
  case neg=>
   rw[Ae hs];rcases ih with⟨h1,h2⟩|⟨m,h1,h2,h3,h4,h5⟩
   ·exact .inl ⟨h1,fun k hk=>if e:k=n then e▸hs else h2 k (by omega)⟩
   ·exact .inr ⟨m,by omega,h2,h3,fun k hk xJ=>if e:k=n then absurd (e▸xJ) hs else h4 k (by omega) xJ,h5.imp id fun⟨k,g1,g2⟩=>⟨k,by omega,g2⟩⟩
  rw[Aa fun g=>g hs];by_cases h0:(Dx bs q n).1<0∨(bs (Dx bs q n).1.toNat q).e<(bs n q).e
  ·rw[Ae h0];refine .inr ⟨n,by omega,hs,rfl,fun k hk xJ=> ?_,.inl rfl⟩;by_cases e:k=n
   ·rw[e];exact Bq _
   ·rcases ih with⟨_,h2⟩|⟨m,h1,h2,h3,h4,_⟩
    ·exact absurd xJ (h2 k (by omega))
    ·rw[h3,Bu]at h0;have:=h4 k (by omega) xJ;omega
  rw[Aa h0];rcases ih with⟨h1,_⟩|⟨m,h1,h2,h3,h4,h5⟩
  ·rw[h1]at h0;exact absurd (.inl (by show(-1:Int)<0;decide)) h0
  rw[h3,Bu]at h0⊢;have h4':∀k,k<n+1→JY bs q k→(bs k q).e≤(bs m q).e:=fun k hk xJ=>by
   by_cases e:k=n
   ·rw[e];omega
   ·exact h4 k (by omega) xJ
  by_cases he:(bs n q).e=(bs m q).e
  ·rw[Ae he];exact .inr ⟨m,by omega,h2,rfl,h4',.inr ⟨n,by omega,by omega,hs,he⟩⟩
  ·rw[Aa he];exact .inr ⟨m,by omega,h2,h3,h4',h5.imp id fun⟨k,g1,g2⟩=>⟨k,by omega,g2⟩⟩
theorem aaU{G:Nat→Int→Prop}{q:Nat}{p:(Nat→Nd)×Ws}(P:PQ G q p)(hp:0≤p.2.pn q∧p.2.pn q<5):∃m:Nat,m<5∧Dx (fun i=>kX (p.1 i)) q 5=((m:Int),true)∧JY (fun i=>kX (p.1 i)) q m∧((kX (p.1 m) q).e=p.2.pe q∨(kX (p.1 m) q).e=p.2.pe q+1)∧((kX (p.1 m) q).e=p.2.pe q→(m:Int)=p.2.pn q):=by
 have v:=fun i=>Pos.Yl (p.1 i) q;have hN:((p.2.pn q).toNat:Int)=p.2.pn q:=Bh hp.1;obtain⟨x1,x2⟩:=(P.p (p.2.pn q).toNat (by omega) _ _ _ (v _)).x hN;rcases Mf (fun i=>kX (p.1 i)) q 5 with⟨_,h⟩|⟨m,h1,h2,h3,h4,h5⟩
 ·exact absurd x1 (h _ (by omega))
 have o:=P.p m h1 _ _ _ (v m);have a:=o.a;have ge:=h4 (p.2.pn q).toNat (by omega) x1;refine⟨m,h1,Prod.ext h3 (h5.resolve_right ?_),h2,by omega,o.b h2⟩;rintro⟨k,k1,k2,k3,k4⟩;have ok:=P.p k k1 _ _ _ (v k);by_cases e:(kX (p.1 m) q).e=p.2.pe q
 ·have b1:=o.b h2 e;have b2:=ok.b k3 (by omega);omega
 ·have r1:(kX (p.1 m) q).r=1:=by
   rcases h2 with g|g
   ·exact g
   ·have:=o.a2 g;omega
  have r2:(kX (p.1 k) q).r=1:=by
   rcases k3 with g|g
   ·exact g
   ·have:=ok.a2 g;omega
  have s1:=o.c r1 (by omega);have s2:=ok.c r2 (by omega);have g1:=(s1.2 _ _ _ (v _)).2.2;have g2:=(s2.2 _ _ _ (v _)).2.2;omega
theorem D7(o:Oc)(t:j7)(q:Nat)(hq:q<4)(w:tA)(hO:∀w',bZ w w'→lO w' o t):cA 17 #[vF (mZ o t) 18,iV (q:Int)] w (rB (.tuple #[iV (Dx o.bs q 5).1,.bool (Dx o.bs q 5).2]) w):=by
 have og:aW (mZ o t) 18:=ny;refine en (H:=[]) _ [vf 18 (mZ o t),vi (q:Int)] Tryz.func17 rfl rfl (nZ (w:=w) (U:=fun _=>False) (fun _ h=>h.elim) (G:=fun w'=>lO w' o t) fun w2 c=>hO w2 (c.below (Ac _) fun _ _ h=>h)) (r [] rfl fun β=> ?_);refine uD (X:=Nat×Int×Bool) (fun x=>[(1,vi (q:Int)),(2,vp 0 0 (β 0)),(6,vi x.2.1),(7,vv (.bool x.2.2)),(8,vi (x.1:Int))]) (fun _=>[⟨β 0,40,[.f 18 (mZ o t)]⟩]) (fun _ _=>False) (fun _ w'=>bZ w w') (fun x=>x.1≤5∧x.2=Dx o.bs q x.1) (fun x=>5-x.1) (0,-1,true) ⟨rfl,rfl,rfl,rfl,rfl,trivial⟩ (fun _ hS=>hS) ⟨Al _,rfl⟩ ?_;rintro f ⟨n,at_,one⟩ ⟨hn,hx⟩;have hn:n≤5:=hn;have hx:(at_,one)=Dx o.bs q n:=hx;by_cases C8:n<5
 case neg=>
  obtain rfl:n=5:=by omega
  exact r [0] rfl fun _=>fin fun w hS=>⟨by rw[←hx];rfl,hS.now.2⟩
 have h9:5-(n+1)<5-n:=by omega
 obtain⟨B,hB⟩:∃B,o.bs n q=B:=⟨_,rfl⟩;have ob:aW (bF B (t.A n q) (t.K n q)) 6:=fun i hi=>by
  match i,hi with
  |0,_|1,_|2,_|3,_|4,_|5,_=>rfl
 refine r [1] rfl fun _=>Rv.l1 (q:=0+n*1) rfl (.slice (some ⟨t.Y n,0,none⟩) 4 (t.C n)) (fun w hS=>qR hS.now.1 C8) ?_;refine r [] rfl fun _=>lf (q:=0+q*6) rfl 6 (bF B (t.A n q) (t.K n q)) (fun w hS j hj=>by rw[←hB];exact nz hS.now.1 C8 hq j hj) ?_;obtain⟨g,hg⟩:∃g,g=decide (B.r=1∨B.r=2):=⟨_,rfl⟩;refine r [] rfl fun γ=>Rv.cb rfl (vv (.bool g)) (fun w _=>hg▸kL B _ _ w) ?_;have skip:¬JY o.bs q n→(at_,one)=Dx o.bs q (n+1):=fun h=>by rw[Dx,Ae h];exact hx
 have next:JY o.bs q n→Dx o.bs q (n+1)=if at_<0∨(o.bs at_.toNat q).e<B.e then((n:Int),true)else if B.e=(o.bs at_.toNat q).e then(at_,false)else(at_,one):=fun h=>by
  rw[Dx,Aa fun g=>g h,←hx,hB]
 have lim:∀m:Nat,at_=m→m<5:=fun m e=>by
  rcases Mf o.bs q n with⟨h1,_⟩|⟨k,h1,_,h3,_⟩
  ·rw[←hx]at h1;have:=AB Prod.fst h1;dsimp only at this;omega
  ·rw[←hx]at h3;dsimp only at h3;omega
 cases g with
 |true=>
  have hs:JY o.bs q n:=by
   have:=Bi hg.symm;unfold JY;rw[hB];omega
  by_cases h0:at_<0
  ·exact rz [1,1,1] [((n+1:Nat):Int)] rfl fun _=>bJ (n+1,n,true) ⟨rfl,rfl,rfl,rfl,rfl,trivial⟩ (fun _ hS=>hS.take 1) ⟨C8,by show((n:Int),true)=_;rw[next hs,Ae (.inl h0)]⟩ h9
  obtain⟨m,rfl⟩:∃m:Nat,at_=m:=⟨at_.toNat,by omega⟩;have hm:=lim m rfl;rw[Bu]at next;refine r [1,0] rfl fun _=>Rv.l1 (q:=0+m*1) rfl (.slice (some ⟨t.Y m,0,none⟩) 4 (t.C m)) (fun w hS=>qR hS.now.1 hm) ?_;refine r [] rfl fun _=>Rv.l1 (q:=0+q*6+1) rfl (iV (o.bs m q).e) (fun w hS=>nz hS.now.1 hm hq 1 (by decide)) ?_;by_cases h1:(o.bs m q).e<B.e
  ·exact rz [1,1] [((n+1:Nat):Int)] rfl fun _=>bJ (n+1,n,true) ⟨rfl,rfl,rfl,rfl,rfl,trivial⟩ (fun _ hS=>hS.take 1) ⟨C8,by show((n:Int),true)=_;rw[next hs,Ae (.inr h1)]⟩ h9
  refine r [0,1] rfl fun _=>Rv.l1 (q:=0+m*1) rfl (.slice (some ⟨t.Y m,0,none⟩) 4 (t.C m)) (fun w hS=>qR hS.now.1 hm) ?_;refine r [] rfl fun _=>Rv.l1 (q:=0+q*6+1) rfl (iV (o.bs m q).e) (fun w hS=>nz hS.now.1 hm hq 1 (by decide)) ?_;by_cases he:B.e=(o.bs m q).e
  ·exact rz [1,1] [((n+1:Nat):Int)] rfl fun _=>bJ (n+1,(m:Int),false) ⟨rfl,rfl,rfl,rfl,rfl,trivial⟩ (fun _ hS=>hS.take 1) ⟨C8,by show((m:Int),false)=_;rw[next hs,Aa (by omega),Ae he]⟩ h9
  ·exact rz [0,1] [((n+1:Nat):Int)] rfl fun _=>bJ (n+1,(m:Int),one) ⟨rfl,rfl,rfl,rfl,rfl,trivial⟩ (fun _ hS=>hS.take 1) ⟨C8,by show((m:Int),one)=_;rw[next hs,Aa (by omega),Aa he]⟩ h9
 |false=>
  have hr:=of_decide_eq_false hg.symm;by_cases r3:B.r=3
  ·have hs:JY o.bs q n:=by
    unfold JY;rw[hB];omega
   by_cases h0:at_<0
   ·exact rz [0,1,1,1] [((n+1:Nat):Int)] rfl fun _=>bJ (n+1,n,true) ⟨rfl,rfl,rfl,rfl,rfl,trivial⟩ (fun _ hS=>hS.take 1) ⟨C8,by show((n:Int),true)=_;rw[next hs,Ae (.inl h0)]⟩ h9
   obtain⟨m,rfl⟩:∃m:Nat,at_=m:=⟨at_.toNat,by omega⟩;have hm:=lim m rfl;rw[Bu]at next;refine r [0,1,0] rfl fun _=>Rv.l1 (q:=0+m*1) rfl (.slice (some ⟨t.Y m,0,none⟩) 4 (t.C m)) (fun w hS=>qR hS.now.1 hm) ?_;refine r [] rfl fun _=>Rv.l1 (q:=0+q*6+1) rfl (iV (o.bs m q).e) (fun w hS=>nz hS.now.1 hm hq 1 (by decide)) ?_;by_cases h1:(o.bs m q).e<B.e
   ·exact rz [1,1] [((n+1:Nat):Int)] rfl fun _=>bJ (n+1,n,true) ⟨rfl,rfl,rfl,rfl,rfl,trivial⟩ (fun _ hS=>hS.take 1) ⟨C8,by show((n:Int),true)=_;rw[next hs,Ae (.inr h1)]⟩ h9
   refine r [0,1] rfl fun _=>Rv.l1 (q:=0+m*1) rfl (.slice (some ⟨t.Y m,0,none⟩) 4 (t.C m)) (fun w hS=>qR hS.now.1 hm) ?_;refine r [] rfl fun _=>Rv.l1 (q:=0+q*6+1) rfl (iV (o.bs m q).e) (fun w hS=>nz hS.now.1 hm hq 1 (by decide)) ?_;by_cases he:B.e=(o.bs m q).e
   ·exact rz [1,1] [((n+1:Nat):Int)] rfl fun _=>bJ (n+1,(m:Int),false) ⟨rfl,rfl,rfl,rfl,rfl,trivial⟩ (fun _ hS=>hS.take 1) ⟨C8,by show((m:Int),false)=_;rw[next hs,Aa (by omega),Ae he]⟩ h9
   ·exact rz [0,1] [((n+1:Nat):Int)] rfl fun _=>bJ (n+1,(m:Int),one) ⟨rfl,rfl,rfl,rfl,rfl,trivial⟩ (fun _ hS=>hS.take 1) ⟨C8,by show((m:Int),one)=_;rw[next hs,Aa (by omega),Aa he]⟩ h9
  ·exact rz [1,1] [((n+1:Nat):Int)] rfl fun _=>bJ (n+1,at_,one) ⟨rfl,rfl,rfl,rfl,rfl,trivial⟩ (fun _ hS=>hS.take 1) ⟨C8,skip (by unfold JY;rw[hB];omega)⟩ h9
namespace Rv
section
variable{n:Nat}{ops:tP}{f:Nat→AV}{fn:Func}{Rr:Ending→World→Prop}{T:tF}{Φ R:tJ}{H:List En}{ks:List Fr}{t:Ord}{i d:Nat}{md:Md}
theorem Vf{s e sz lD base l m mc b o:Nat}{x y:AV}{v:tK}{L:tM}{D:tG}{R0:tJ}(hD:D.length=m*sz)(hm:0<m)(h1:Rz n ops f i=some (d,s,x,y))(ht:jI Tryz.prog s e sz lD=true)(dq:∀w,Mem w (hs H) (fun b=>v.ownBlock=some b∨T b) Φ (fun w=>R0 w∧w.ownsRow base e sz v l L)→RowK .i64 w (some ⟨b,o,none⟩) (m*sz) D)(hb:∀w,Mem w (hs H) (fun b=>v.ownBlock=some b∨T b) Φ (fun w=>R0 w∧w.ownsRow base e sz v l L)→base≤w.heap.size)(hR:∀w w',R0 w→dB (fun b=>base≤b) w w'→R0 w')(hn:∀g c,l+m≤c→G Tryz.prog fn Rr n (fun b=>(Value.slice (some ⟨g,0,none⟩) (l+m) c).ownBlock=some b∨T b) Φ (fun w=>R0 w∧w.ownsRow base e sz (.slice (some ⟨g,0,none⟩) (l+m) c) (l+m) (L++D.map (Value.int .i64))) (.g md ops t::ks) (ua f d (vv (.slice (some ⟨g,0,none⟩) (l+m) c))) H)(hx:x.val=v:=by rfl)(hy:y.val= .slice (some ⟨b,o,none⟩) m mc:=by rfl)(Kg:l+m≤maxLen:=by(try dsimp only);unfold maxLen;omega)(Dt:(l+m)*lD≤140737488355328:=by(try dsimp only);omega)(hv:md.vs.contains i=false:=by rfl):G Tryz.prog fn Rr n (fun b=>v.ownBlock=some b∨T b) Φ (fun w=>R0 w∧w.ownsRow base e sz v l L) (.g md ops (.ef i t)::ks) f H:=
 apr h1 hx hy ht (by rw[AW];exact hD) (fun w hS j u hu=>by
  have hj:=(Ap.1 hu).1;rw[AW,hD]at hj;have h:=(dq w hS).at j hj;rw[Ax]at hu;rw[Aw]at h;cases hx:D[j]? with
  |none=>rw[hx]at hu;cases hu
  |some z=>
   rw[hx]at hu h;cases hu;rw[BM];exact h) (fun u hu=>by
  obtain⟨z,_,rfl⟩:=Ay.1 hu
  rfl) hm Kg Dt hb hR hn hv
end
end Rv
theorem Yq{i q:Nat}{n:Nd}(hN:NI i n)(hq:q<4):(kX n q).Ok:=by
 cases hu:n.up with
 |true=>
  rw[show kX n=n.mo from Ae hu];exact(hN.up hu).mo q hq
 |false=>
  obtain⟨dJ,dC,Bs,dw⟩:=hN.dw hu;rw[dw.bs hN.ln hu q hq];exact(dw.tm.all q hq).1
structure dL(Q:Nat→List Int→Prop)(D:tG)(n:Nat):Prop where
 len:D.length=11*n
 act:∀j,j<n→Q j (c_ D j)
theorem dL.app{Q:Nat→List Int→Prop}{D l:tG}{n:Nat}(h:dL Q D n)(hl:l.length=11)(hq:Q n l):dL Q (D++l) (n+1):=by
 refine⟨by rw[Ag,h.len,hl];omega,fun j hj=> ?_⟩;by_cases e:j<n
 ·rw[fL (by rw[h.len];omega)];exact h.act j e
 ·obtain rfl:j=n:=by omega
  have:=eW (E:=l) (j:=0) h.len;rw[Cn]at this;rw[this,na hl];exact hq
theorem dL.fQ{Q:Nat→List Int→Prop}{D:tG}{n:Nat}(h:dL Q D n)(hq:∀j l,Q j l→Lq.fQ (lA l)=0)(j:Nat)(hj:j<n):Lq.fQ (Lq.av D j)=0:=by
 rw[jF (cK _ _)];exact hq _ _ (h.act j hj)
def db(P:Int→Bool)(D:tG):Nat→List Int
 |0=>[]
 |k+1=>if P (Lq.av D k 0)=true then db P D k++c_ D k else db P D k
def bO(P:Int→Bool)(D:tG):Nat→Nat
 |0=>0
 |k+1=>if P (Lq.av D k 0)=true then bO P D k+1 else bO P D k
section
variable{P:Int→Bool}{D:tG}{n:Nat}
theorem gZ:∀k,bO P D k≤k
 |0=>Ac _
 |k+1=>by
  have:=gZ k;rw[bO];split<;>omega
theorem fE{j:Nat}(h:11*(j+1)≤D.length):(c_ D j).length=11:=by
 unfold c_;rw[AM,AK];omega
theorem lh(hl:11*n≤D.length):∀k,k≤n→dL (fun j l=>∃i,j≤i∧i<k∧P (Lq.av D i 0)=true∧l=c_ D i) (db P D k) (bO P D k)
 |0,_=>⟨rfl,fun j hj=>absurd hj (AF _)⟩
 |k+1,hk=>by
  have ih:=lh hl k (by omega)
  have up:dL (fun j l=>∃i,j≤i∧i<k+1∧P (Lq.av D i 0)=true∧l=c_ D i) (db P D k) (bO P D k):=⟨ih.len,fun j hj=>by
   obtain⟨i,h1,h2,h3,h4⟩:=ih.act j hj
   exact⟨i,h1,by omega,h3,h4⟩⟩
  by_cases hp:P (Lq.av D k 0)=true
  ·rw[db,bO,Ae hp,Ae hp];exact up.app (fE (by omega)) ⟨k,gZ k,by omega,hp,rfl⟩
  ·rw[db,bO,Aa hp,Aa hp];exact up
theorem im:∀k,∀u∈db P D k,u∈D
 |0,_,h=>by cases h
 |k+1,u,h=>by
  rw[db]at h;split at h
  ·rcases Ah.1 h with h|h
   ·exact im k u h
   ·exact Bl (AJ h)
  ·exact im k u h
end
def cP:Nat→List Int
 |0=>[]
 |k+1=>cP k++[9,(k:Int),0,0,0,0,0,0,0,0,0]
def dm:Nat→List Int
 |0=>[]
 |k+1=>dm k++[3,(k:Int),0,0,0,0,0,0,0,0,0]
def bT(D:tG):Nat→List Int
 |0=>D++cP 5
 |k+1=>bT D k++dm 5++[7,0,0,0,0,0,0,0,0,0,0]
def xg(l:tG):Prop:=(∃i:Nat,i<5∧l=[9,(i:Int),0,0,0,0,0,0,0,0,0])∨(∃i:Nat,i<5∧l=[3,(i:Int),0,0,0,0,0,0,0,0,0])∨l=[7,0,0,0,0,0,0,0,0,0,0]
theorem dL.qU{Q:Nat→List Int→Prop}{D:tG}{n:Nat}(h:dL Q D n)(hq:∀j l,n≤j→xg l→Q j l):∀k,k≤5→dL Q (D++cP k) (n+k)
 |0,_=>by rw[cP,Au];exact h
 |k+1,hk=>by
  rw[cP,←AA];exact(h.qU hq k (by omega)).app rfl (hq _ _ (by omega) (.inl ⟨k,by omega,rfl⟩))
theorem dL.steps{Q:Nat→List Int→Prop}{D:tG}{n:Nat}(h:dL Q D n)(hq:∀j l,n≤j→xg l→Q j l):∀k,k≤5→dL Q (D++dm k) (n+k)
 |0,_=>by rw[dm,Au];exact h
 |k+1,hk=>by
  rw[dm,←AA];exact(h.steps hq k (by omega)).app rfl (hq _ _ (by omega) (.inr (.inl ⟨k,by omega,rfl⟩)))
theorem dL.fair{Q:Nat→List Int→Prop}{D:tG}{n:Nat}(h:dL Q D n)(hq:∀j l,n≤j→xg l→Q j l):∀r,dL Q (bT D r) (n+5+6*r)
 |0=>h.qU hq 5 (Ac _)
 |r+1=>by
  have h1:=(h.fair hq r).steps (fun j l hj=>hq j l (by omega)) 5 (Ac _);exact h1.app (l:=[7,0,0,0,0,0,0,0,0,0,0]) rfl (hq _ _ (by omega) (.inr (.inr rfl)))
theorem xg.fQ{l:tG}(h:xg l):Lq.fQ (lA l)=0:=by
 rcases h with⟨i,hi,rfl⟩|⟨i,hi,rfl⟩|rfl
 ·exact rQ (by omega)
 ·exact vH (by omega)
 ·exact yI
theorem xg.sm{l:tG}(h:xg l):∀u∈l,0≤u∧u≤1000000:=by
 intro u hu;rcases h with⟨i,hi,rfl⟩|⟨i,hi,rfl⟩|rfl<;>simp only[List.mem_cons,List.not_mem_nil,or_false]at hu<;>omega
theorem nC{D:tG}(h:∀u∈D,0≤u∧u≤1000000):∀r,∀u∈bT D r,0≤u∧u≤1000000
 |0,u,hu=>by
  rcases Ah.1 hu with hu|hu
  ·exact h u hu
  ·simp only[cP,List.nil_append,List.cons_append,List.mem_cons,List.not_mem_nil,or_false]at hu;omega
 |r+1,u,hu=>by
  rw[bT]at hu;rcases Ah.1 hu with hu|hu
  ·rcases Ah.1 hu with hu|hu
   ·exact nC h r u hu
   ·simp only[dm,List.nil_append,List.cons_append,List.mem_cons,List.not_mem_nil,or_false]at hu;omega
  ·simp only[List.mem_cons,List.not_mem_nil,or_false]at hu;omega
end
def ku(s:Ws)(q:Nat)(x y:Int):Prop:=y≤s.pe q∧-1≤x∧(x<0→y=0)∧(y=s.pe q→x=s.pn q)
def TA(C:Int→Int→Int→Ev→Prop)(s:Ws)(t:Tl):Prop:=∃(nd:Int) (q:Nat) (op:Ev),C t.nu nd q op∧q<4∧ku s q t.pn t.pe∧((t.an.c=7∨t.an.c=12)∨(t.pn<0∧∃y∈s.sv,y.nu=t.nu∧y.an=t.an))
def KL(C:Int→Int→Int→Ev→Prop)(s:Ws)(l:Lt):Prop:=(l.kd=0→C l.nu l.dst l.q l.op)∧(l.kd=1→TA C s ⟨l.nu,l.an,l.pn,l.pe⟩)∧(l.kd=7→ku s l.q l.pn l.pe)
structure KW(C:Int→Int→Int→Ev→Prop)(s:Ws):Prop where
 fl:∀l∈s.fl,KL C s l
 sv:∀y∈s.sv,y.nu<0∨C y.nu y.nd y.q y.op
 td:∀t∈s.td,TA C s t
structure KN(C:Int→Int→Int→Ev→Prop)(s:Ws)(i:Nat)(n:Nd):Prop where
 wt:∀l∈n.wt,KL C s l∧(l.kd=0→l.dst=i)
 af:∀l an,n.af=some (.serve l an)→C l.nu l.dst l.q l.op∧l.dst=i
 hn:n.up=true→∀q,q<4→ku s q (n.hn q) (n.he q)
structure dK(s s':Ws):Prop where
 h:∀q,q<4→∀x y,ku s q x y→ku s' q x y
 v:∀y∈s.sv,y∈s'.sv
section
variable{C:Int→Int→Int→Ev→Prop}{s s':Ws}{i:Nat}{n:Nd}
structure Kd(C:Int→Int→Int→Ev→Prop)(s s':Ws)(i:Nat)(n':Nd):Prop where
 w:KW C s'
 n:KN C s' i n'
 u:dK s s'
 d:s'.pn=s.pn∧s'.pe=s.pe
end
section
open Rv
theorem Dj{D:tG}{k:Nat}(h:11*(k+1)≤D.length):dD [.f 11 fun j=>iV (Lq.av D k j)]=(c_ D k).map (Value.int .i64):=by
 refine BH fun j=> ?_;by_cases hj:j<11
 ·refine(bW (fun j=>iV (Lq.av D k j)) 0 11 j hj).trans ?_;rw[Aj,cK _ _ j hj,Ax];have hl:=fE h;show _=((c_ D k)[j]?).map _;rw[Ai (by omega)];show some (iV ((c_ D k).getD j 0))=_;rw[Aw,Ai (by omega)];rfl
 ·rw[Be,Be]
  ·rw[AW,fE h];omega
  ·show 11≤j;omega
theorem kb{P:Int→Bool}{D:tG}{k:Nat}(h:P (Lq.av D k 0)=true):db P D (k+1)=db P D k++c_ D k∧bO P D (k+1)=bO P D k+1:=⟨Ae h,Ae h⟩
theorem qZ{P:Int→Bool}{D:tG}{k:Nat}(h:¬P (Lq.av D k 0)=true):db P D (k+1)=db P D k∧bO P D (k+1)=bO P D k:=⟨Aa h,Aa h⟩
theorem q7(a:tB)(len cap:Nat)(D:tG)(w:tA)(h:RowK .i64 w a (11*len) D)(h0:0<len)(hl:len≤50000)(rr:Nat)(hr:rr≤5000):cA 20 #[.slice a len cap,iV (rr:Int)] w fun x w'=>∃v,x= .returned v∧w'.ownsRow w.heap.size 63 11 v (len+5+6*rr) ((bT D rr).map (Value.int .i64))∧bZ w w':=by
 obtain⟨b,o,rfl⟩:=h.form (by omega);have hD:=h.bP;refine en (H:=[]) _ [vv (.slice (some ⟨b,o,none⟩) len cap),vi (rr:Int)] Tryz.func20 rfl rfl (m0 w) (r [] rfl fun _=>jt (fun w2 hS=>hS.xR w.heap.size 63 11) ?_);refine Vf (m:=len) (b:=b) (o:=o) (hD.trans (Bn _ _)) h0 rfl cZ (fun w hS=>by rw[Bn];exact h.below hS.now.2.1) (fun w hS=>hS.now.2.1.size) (fun _ _ h c=>cB h c (Ac _)) fun g2 c2 jM=> ?_;refine r [] rfl fun _=>uD (X:=Nat×Nat×Nat×Nat) (fun x=>[(1,vi (rr:Int)),(5,vv (.slice (some ⟨x.2.2.1,0,none⟩) x.2.1 x.2.2.2)),(6,vi (x.1:Int))]) (fun _=>[]) (fun x b'=>(Value.slice (some ⟨x.2.2.1,0,none⟩) x.2.1 x.2.2.2).ownBlock=some b'∨False) (fun x w'=>qT w w' x.2.2.1 x.2.1 x.2.2.2 (D++cP x.1)) (fun x=>x.1≤5∧x.2.1=len+x.1) (fun x=>5-x.1) (0,0+len,g2,c2) ⟨rfl,rfl,rfl,trivial⟩ (fun w hS=>hS.sr fun w h=>⟨h.1,by show World.ownsRow w _ _ _ _ _ ((D++[]).map _);rw[Au];exact h.2⟩) ⟨Al _,Nat.add_comm _ _⟩ ?_;rintro f ⟨k,L,g,c⟩ ⟨hk,hL⟩;have hk:k≤5:=hk;have hL:L=len+k:=hL;by_cases aN:k<5
 ·refine r [1] rfl fun α=>nJ 0 rfl cZ (fun w hS=>hS.now.2.1.size) (fun _ _ h c=>cB h c (Ac _)) fun g3 c3 hc3=> ?_;exact rz [1] [((k+1:Nat):Int)] rfl fun _=>bJ (k+1,L+1,g3,c3) ⟨rfl,rfl,rfl,trivial⟩ (fun w hS=>(hS.take 0).sr fun w h=>⟨h.1,by show World.ownsRow w _ _ _ _ _ ((D++cP (k+1)).map _);rw[cP,←AA,AE];exact h.2⟩) ⟨aN,by show L+1=len+(k+1);omega⟩ (show 5-(k+1)<5-k by omega)
 obtain rfl:k=5:=by omega
 refine r [0] rfl fun _=>uD (X:=Nat×Nat×Nat×Nat) (fun x=>[(1,vi (rr:Int)),(5,vv (.slice (some ⟨x.2.2.1,0,none⟩) x.2.1 x.2.2.2)),(7,vi (x.1:Int))]) (fun _=>[]) (fun x b'=>(Value.slice (some ⟨x.2.2.1,0,none⟩) x.2.1 x.2.2.2).ownBlock=some b'∨False) (fun x w'=>qT w w' x.2.2.1 x.2.1 x.2.2.2 (bT D x.1)) (fun x=>x.1≤rr∧x.2.1=len+5+6*x.1) (fun x=>rr-x.1) (0,L,g,c) ⟨rfl,rfl,rfl,trivial⟩ (fun w hS=>hS) ⟨Al _,hL⟩ ?_;clear aN hL hk;rintro f2 ⟨k,L,g,c⟩ ⟨hk,hL⟩;have hk:k≤rr:=hk;have hL:L=len+5+6*k:=hL;by_cases aN:k<rr
 case neg=>
  obtain rfl:k=rr:=by omega
  exact r [0] rfl fun _=>fin fun w hS=>⟨_,rfl,by rw[←hL];exact hS.now.2.2,hS.now.2.1⟩
 refine r [1] rfl fun _=>uD (X:=Nat×Nat×Nat×Nat) (fun x=>[(1,vi (rr:Int)),(5,vv (.slice (some ⟨x.2.2.1,0,none⟩) x.2.1 x.2.2.2)),(7,vi (k:Int)),(8,vi (x.1:Int))]) (fun _=>[]) (fun x b'=>(Value.slice (some ⟨x.2.2.1,0,none⟩) x.2.1 x.2.2.2).ownBlock=some b'∨False) (fun x w'=>qT w w' x.2.2.1 x.2.1 x.2.2.2 (bT D k++dm x.1)) (fun x=>x.1≤5∧x.2.1=L+x.1) (fun x=>5-x.1) (0,L,g,c) ⟨rfl,rfl,rfl,rfl,trivial⟩ (fun w hS=>hS.sr fun w h=>⟨h.1,by show World.ownsRow w _ _ _ _ _ ((bT D k++[]).map _);rw[Au];exact h.2⟩) ⟨Al _,rfl⟩ ?_;rintro f3 ⟨j,M,g4,c4⟩ ⟨hj,hM⟩;have hj:j≤5:=hj;have hM:M=L+j:=hM;by_cases Ly:j<5
 ·refine r [1] rfl fun α=>nJ 0 rfl cZ (fun w hS=>hS.now.2.1.size) (fun _ _ h c=>cB h c (Ac _)) fun g3 c3 hc3=> ?_;exact rz [1] [((j+1:Nat):Int)] rfl fun _=>bJ (j+1,M+1,g3,c3) ⟨rfl,rfl,rfl,rfl,trivial⟩ (fun w hS=>(hS.take 0).sr fun w h=>⟨h.1,by show World.ownsRow w _ _ _ _ _ ((bT D k++dm (j+1)).map _);rw[dm,←AA,AE];exact h.2⟩) ⟨Ly,by show M+1=L+(j+1);omega⟩ (show 5-(j+1)<5-j by omega)
 obtain rfl:j=5:=by omega
 refine r [0] rfl fun α=>nJ 0 rfl cZ (fun w hS=>hS.now.2.1.size) (fun _ _ h c=>cB h c (Ac _)) fun g3 c3 hc3=> ?_;exact rz [1] [((k+1:Nat):Int)] rfl fun _=>bJ (k+1,M+1,g3,c3) ⟨rfl,rfl,rfl,trivial⟩ (fun w hS=>(hS.take 0).sr fun w h=>⟨h.1,by show World.ownsRow w _ _ _ _ _ ((bT D k++dm 5++[7,0,0,0,0,0,0,0,0,0,0]).map _);rw[AE];exact h.2⟩) ⟨aN,by show M+1=len+5+6*(k+1);omega⟩ (show rr-(k+1)<rr-k by omega)
abbrev bI(k:Int):Bool:=decide (k=2)
theorem lx(b o len cap:Nat)(D:tG)(w:tA)(h:RowK .i64 w (some ⟨b,o,none⟩) (11*len) D)(hl:len≤50000):cA 21 #[.slice (some ⟨b,o,none⟩) len cap] w fun x w'=>∃v,x= .returned v∧w'.ownsRow w.heap.size 63 11 v (bO bI D len) ((db bI D len).map (Value.int .i64))∧bZ w w':=by
 have hD:=h.bP;refine en (H:=[]) _ [vv (.slice (some ⟨b,o,none⟩) len cap)] Tryz.func21 rfl rfl (m0 w) (r [] rfl fun _=>jt (fun w2 hS=>hS.xR w.heap.size 63 11) ?_);refine uD (X:=Nat×Value) (fun x=>[(0,vv (.slice (some ⟨b,o,none⟩) len cap)),(3,vv x.2),(4,vi (x.1:Int))]) (fun _=>[]) (fun x b'=>x.2.ownBlock=some b'∨False) (fun x w'=>bZ w w'∧w'.ownsRow w.heap.size 63 11 x.2 (bO bI D x.1) ((db bI D x.1).map (Value.int .i64))) (fun x=>x.1≤len) (fun x=>len-x.1) (0,.slice none 0 0) ⟨rfl,rfl,rfl,trivial⟩ (fun _ hS=>hS) (Al _) ?_;rintro f ⟨k,v⟩ hk;have hk:k≤len:=hk;by_cases aN:k<len
 case neg=>
  obtain rfl:k=len:=by omega
  exact r [0] rfl fun _=>fin fun w hS=>⟨v,rfl,hS.now.2.2,hS.now.2.1⟩
 have h9:len-(k+1)<len-k:=by omega
 have cR:=gZ (P:=bI) (D:=D) k;obtain⟨K,iC⟩:∃K,Lq.av D k 0=K:=⟨_,rfl⟩;refine r [1] rfl fun _=>Rv.l1 (q:=o+k*11+0) rfl (iV K) (fun w hS=>by rw[←iC];exact ju (k:=k) (m:=11) (g:=fun j=>iV (Lq.av D k j)) (h.below hS.now.2.1) (by omega) (fun j _=>rfl) 0 (by omega)) ?_;by_cases k2:K=2
 case neg=>
  obtain⟨e1,e2⟩:=qZ (P:=bI) (D:=D) (k:=k) (by rw[iC];simp[k2]);exact rz [0,1] [((k+1:Nat):Int)] rfl fun _=>bJ (k+1,v) ⟨rfl,rfl,rfl,trivial⟩ (fun w hS=>hS.sr fun w h=>⟨h.1,by rw[e1,e2];exact h.2⟩) aN h9
 obtain⟨e1,e2⟩:=kb (P:=bI) (D:=D) (k:=k) (by rw[iC];simp[k2]);refine r [1] rfl fun _=>lf (q:=o+k*11) rfl 11 (fun j=>iV (Lq.av D k j)) (fun w hS=>ju (k:=k) (m:=11) (g:=fun j=>iV (Lq.av D k j)) (h.below hS.now.2.1) (by omega) (fun j _=>rfl)) ?_;refine r [] rfl fun α=>nJ 0 rfl cZ (fun w hS=>hS.now.2.1.size) (fun _ _ h c=>cB h c (Ac _)) fun g2 c2 jM=> ?_;exact rz [1] [((k+1:Nat):Int)] rfl fun _=>bJ (k+1,.slice (some ⟨g2,0,none⟩) (bO bI D k+1) c2) ⟨rfl,rfl,rfl,trivial⟩ (fun w hS=>(hS.take 0).sr fun w h=>⟨h.1,by rw[e1,e2,AE,←Dj (by omega)];exact h.2⟩) aN h9
theorem rh{D:tG}{n:Nat}(hl:D.length=11*n)(h:∀j,j<n→Lq.fQ (Lq.av D j)=0)(r:Nat):∀j,j<n+5+6*r→Lq.fQ (Lq.av (bT D r) j)=0:=fun j hj=>(dL.fair (Q:=fun _ l=>Lq.fQ (lA l)=0) ⟨hl,fun j hj=>by have:=h j hj;rw[jF (cK _ _)]at this;exact this⟩ (fun _ _ _ g=>g.fQ) r).fQ (fun _ _ g=>g) j hj
def aa2(s:St)(x:Ev):Prop:=gU (s.wt x.p.toNat) (s.wz x.p.toNat) x.i=true∨x.i<s.wt x.p.toNat-8
theorem Step.taken{s s':St}{v:Ev}{an:An}{c:Bool}(st:Step s v s' an c)(hc:c=true):(∀x,aa2 s x→aa2 s' x)∧(v.k=1→aa2 s' v∧¬aa2 s v):=by
 cases st with
 |iI|iJ|fS|eI|fT|eJ|fU|fV=>cases hc
 |recv hk h hg=>exact⟨fun _ h=>h,fun g=>by omega⟩
 |FW hk h m hm ha=>exact⟨fun _ h=>h,fun g=>by omega⟩
 |stop hk h R' ho=>exact⟨fun _ h=>h,fun g=>by omega⟩
 |FV hk h hn hr hx=>
  have key:∀x:Ev,(aa2 s x∨(x.p.toNat=v.p.toNat∧x.i=v.i))→gU (xU s.wt v.p.toNat (h_ (s.wt v.p.toNat) v.i) x.p.toNat) (xU s.wz v.p.toNat (eZ (s.wt v.p.toNat) (s.wz v.p.toNat) v.i) x.p.toNat) x.i=true∨x.i<xU s.wt v.p.toNat (h_ (s.wt v.p.toNat) v.i) x.p.toNat-8:=fun x hx=>by
   unfold xU;by_cases e:x.p.toNat=v.p.toNat
   ·simp only[if_pos e];by_cases g:x.i<h_ (s.wt v.p.toNat) v.i-8
    ·exact .inr g
    ·left;rw[aba (by omega)];rcases hx with hx|⟨_,hx⟩
     ·unfold aa2 at hx;rw[e]at hx;rcases hx with hx|hx
      ·rw[hx,Bool.or_true]
      ·have:=(RC (s.wt v.p.toNat) v.i).1;omega
     ·rw[hx,As rfl,Bool.true_or]
   ·simp only[if_neg e];exact hx.resolve_right fun g=>e g.1
  refine⟨fun x hx=>key x (.inl hx),fun _=>⟨key v (.inr ⟨rfl,rfl⟩),fun g=> ?_⟩⟩;rcases g with g|g
  ·rw[hn]at g;cases g
  ·omega
theorem bz.once{es:List Ev}{s:St}{bu:List An}(h:bz es s bu):(∀v∈es,v.k=1→aa2 s v)∧∀(i k:Nat) (u v:Ev),k<i→es[i]? =some u→es[k]? =some v→u.k=1→v.k=1→u.p=v.p→¬u.i=v.i:=by
 induction h with
 |nil=>exact⟨fun v h=>(List.not_mem_nil h).elim,fun i k u v _ h=>by cases h⟩
 | @snoc es s s' bu v an h hv st ih=>
  obtain⟨t1,t2⟩:=st.taken rfl;refine⟨fun x hx hk=> ?_,fun i k x y J4 hi hk x1 y1 hp he=> ?_⟩
  ·rcases Ah.1 hx with hx|hx
   ·exact t1 x (ih.1 x hx hk)
   ·obtain rfl:=Ab.1 hx;exact(t2 hk).1
  ·have hl:=(Ap.1 hi).1;rw[Ag,BV]at hl;rw[AZ (by omega)]at hk;by_cases hil:i<es.length
   ·rw[AZ hil]at hi;exact ih.2 i k x y J4 hi hk x1 y1 hp he
   ·obtain rfl:i=es.length:=by omega
    rw[AQ (Ac _),Nat.sub_self]at hi;cases hi;have g:=ih.1 y (Ar hk) y1;refine(t2 x1).2 ?_;unfold aa2 at g⊢;rw[hp,he];exact g
theorem abe(b o len cap:Nat)(D:tG)(w:tA)(h:RowK .i64 w (some ⟨b,o,none⟩) (11*len) D)(hl:len≤50000):cA 25 #[.slice (some ⟨b,o,none⟩) len cap] w fun x w'=>∃m:Nat,x= .returned (iV (m:Int))∧bZ w w'∧m≤200+20*len:=by
 refine en (H:=[]) _ [vv (.slice (some ⟨b,o,none⟩) len cap)] Tryz.func25 rfl rfl (m0 w) (r [] rfl fun _=> ?_);refine uD (X:=Nat×Nat) (fun x=>[(0,vv (.slice (some ⟨b,o,none⟩) len cap)),(3,vi (x.2:Int)),(4,vi (x.1:Int))]) (fun _=>[]) (fun _ _=>False) (fun _ w'=>bZ w w') (fun x=>x.1≤len∧x.2≤200+20*x.1) (fun x=>len-x.1) (0,200) ⟨rfl,rfl,rfl,trivial⟩ (fun _ hS=>hS) ⟨Al _,Ac _⟩ ?_;rintro f ⟨k,n⟩ ⟨hk,hn⟩;have hk:k≤len:=hk;have hn:n≤200+20*k:=hn;by_cases aN:k<len
 case neg=>
  obtain rfl:k=len:=by omega
  exact r [0] rfl fun _=>fin fun w hS=>⟨n,rfl,hS.now.2,hn⟩
 have h9:len-(k+1)<len-k:=by omega
 obtain⟨x,hx⟩:∃x,Lq.av D k 0=x:=⟨_,rfl⟩;refine r [1] rfl fun _=>Rv.l1 (q:=o+k*11) rfl (iV x) (fun w2 hS=>hx▸ju (k:=k) (m:=11) (g:=fun i=>iV (Lq.av D k i)) (h.below hS.now.2) (by omega) (fun _ _=>rfl) 0 (by decide)) ?_;by_cases x1:x=1
 ·exact rz [1,1,1] [((n+20:Nat):Int),((k+1:Nat):Int)] rfl fun _=>bJ (k+1,n+20) ⟨rfl,rfl,rfl,trivial⟩ (fun _ hS=>hS) ⟨aN,by show n+20≤200+20*(k+1);omega⟩ h9
 by_cases x2:x=2
 ·exact rz [0,1,1,1] [((n+20:Nat):Int),((k+1:Nat):Int)] rfl fun _=>bJ (k+1,n+20) ⟨rfl,rfl,rfl,trivial⟩ (fun _ hS=>hS) ⟨aN,by show n+20≤200+20*(k+1);omega⟩ h9
 by_cases x3:x=6
 ·exact rz [0,0,1,1,1] [((n+20:Nat):Int),((k+1:Nat):Int)] rfl fun _=>bJ (k+1,n+20) ⟨rfl,rfl,rfl,trivial⟩ (fun _ hS=>hS) ⟨aN,by show n+20≤200+20*(k+1);omega⟩ h9
 by_cases x4:x=10
 ·exact rz [0,0,0,1,1,1] [((n+20:Nat):Int),((k+1:Nat):Int)] rfl fun _=>bJ (k+1,n+20) ⟨rfl,rfl,rfl,trivial⟩ (fun _ hS=>hS) ⟨aN,by show n+20≤200+20*(k+1);omega⟩ h9
 by_cases x5:x=8
 ·exact rz [0,0,0,0,1,1,1] [((n+20:Nat):Int),((k+1:Nat):Int)] rfl fun _=>bJ (k+1,n+20) ⟨rfl,rfl,rfl,trivial⟩ (fun _ hS=>hS) ⟨aN,by show n+20≤200+20*(k+1);omega⟩ h9
 ·exact rz [0,0,0,0,0,1] [((k+1:Nat):Int)] rfl fun _=>bJ (k+1,n) ⟨rfl,rfl,rfl,trivial⟩ (fun _ hS=>hS) ⟨aN,by show n≤200+20*(k+1);omega⟩ h9
def twL(F:tG)(j:Nat)(p:Int):List Int:=[Lq.av F j 0,p,Lq.av F j 2,Lq.av F j 3,Lq.av F j 4,Lq.av F j 5,Lq.av F j 6,Lq.av F j 7,Lq.av F j 8,Lq.av F j 9,Lq.av F j 10,7,0,0,0,0,0,0,0,0,0,0,3,p,0,0,0,0,0,0,0,0,0,3,p,0,0,0,0,0,0,0,0,0]
theorem abi{G:tG}{cr:Bool}{n j:Nat}(hj:j<bO bI (mm G cr n) (n+2)){p:Int}(hp:0≤p∧p<3):(∀i,i<4→Lq.fQ (Lq.av (twL (db bI (mm G cr n) (n+2)) j p) i)=0)∧∀u∈twL (db bI (mm G cr n) (n+2)) j p,0≤u∧u≤1000000:=by
 have hl:=qO G cr n;have h5:=lh (P:=bI) (D:=mm G cr n) (n:=n+2) (by omega) (n+2) (Ac _);obtain⟨i,i1,i2,i3,i4⟩:=h5.act j hj;obtain⟨F,hF⟩:∃F,db bI (mm G cr n) (n+2)=F:=⟨_,rfl⟩;rw[hF]at i4⊢;obtain⟨l,hL⟩:∃l,c_ F j=l:=⟨_,rfl⟩;have hc:bI (lA l 0)=true:=by rw[←hL,i4,←cK _ _ 0 (by decide)];exact i3
 have ga:GA cr l:=by
  rcases yJ G cr n i i2 with⟨_,e⟩|⟨_,e⟩|⟨_,e⟩
  ·rw[←hL,i4,e]at hc;cases hc
  ·rw[←hL,i4,e]at hc;cases hc
  ·rw[←hL,i4];exact e
 have ea:∀o,o<11→Lq.av F j o=lA l o:=fun o ho=>by rw[cK _ _ o ho,hL]
 have e:twL F j p=[lA l 0,p,lA l 2,lA l 3,lA l 4,lA l 5,lA l 6,lA l 7,lA l 8,lA l 9,lA l 10,7,0,0,0,0,0,0,0,0,0,0,3,p,0,0,0,0,0,0,0,0,0,3,p,0,0,0,0,0,0,0,0,0]:=by
  unfold twL;rw[ea 0 (by decide),ea 2 (by decide),ea 3 (by decide),ea 4 (by decide),ea 5 (by decide),ea 6 (by decide),ea 7 (by decide),ea 8 (by decide),ea 9 (by decide),ea 10 (by decide)]
 rw[e];constructor
 ·intro i hi
  match i,hi with
  |0,_=>
   cases ga with
   |FV n q x y b hn hq hp2 hi hb=>exact Yj (n:=p) (q:=q) (p:=x) (i:=y) (b:=b) (by omega) (by omega) (by omega) (by omega) (by omega)
   |recv n q hn hq=>exact U3 (n:=p) (q:=q) (by omega) (by omega)
   |FW n q x y hn hq he hi=>exact Yk (n:=p) (q:=q) (e:=x) (i:=y) (by omega) (by omega) (by omega) (by omega)
   |step|carry|adB|double|move|NQ|start|all=>cases hc
  |1,_=>exact yI
  |2,_=>exact vH (n:=p) (by omega)
  |3,_=>exact vH (n:=p) (by omega)
 ·have sm:=ga.sm;have g:∀o,0≤lA l o∧lA l o≤1000000:=fun o=>by
   show 0≤l.getD o 0∧l.getD o 0≤1000000;rw[Aw];by_cases ho:o<l.length
   ·rw[Ai ho];exact sm _ (BE ho)
   ·rw[Be (by omega)];decide
  intro u hu;simp only[List.mem_cons,List.not_mem_nil,or_false]at hu;rcases hu with rfl|rfl|rfl|rfl|rfl|rfl|rfl|rfl|rfl|rfl|rfl|hu
  ·exact g 0
  ·omega
  ·exact g 2
  ·exact g 3
  ·exact g 4
  ·exact g 5
  ·exact g 6
  ·exact g 7
  ·exact g 8
  ·exact g 9
  ·exact g 10
  ·omega
structure TwS(D:tG)(L:Nat):Prop where
 len:D.length=11*L
 fQ:∀j,j<L→Lq.fQ (Lq.av D j)=0
 sm:∀u∈D,0≤u∧u≤1000000
 md:∀q,q<2→¬(gk D L).2.pn q= -1
theorem TwS.more{D:tG}{L:Nat}(h:TwS D L){E:tG}{m:Nat}(hE:E.length=11*m)(hL:L+m≤100000)(c:∀i,i<m→Lq.fQ (Lq.av E i)=0)(s:∀u∈E,0≤u∧u≤1000000):TwS (D++E) (L+m):=by
 have hc:=aaY (m:=m) h.len h.fQ c;refine⟨by rw[Ag,h.len,hE];omega,hc,fun u hu=>(Ah.1 hu).elim (h.sm u) (s u),fun q hq=> ?_⟩;refine U_ hL hc (m:=L) ?_ m (Ac _);rw[aaC (by rw[h.len];exact Ac _) L (Ac _)];exact h.md q hq
theorem aa8(D:tG):∀r,∃E,bT D r=D++E
 |0=>⟨_,rfl⟩
 |k+1=>by
  obtain⟨E,e⟩:=aa8 D k;exact⟨E++dm 5++[7,0,0,0,0,0,0,0,0,0,0],by rw[bT,e];simp only[List.append_assoc]⟩
theorem aa7(w:tA)(hK:Lq.gl w)(a:tB)(len cap:Nat)(GD:tG)(h:RowK .i64 w a (5*len) GD)(rY:len≤cap)(qe:a=none→cap=0)(hs:cap*40≤140737488351232)(a2:tB)(aa1 abg:Nat)(GDZ:tG)(h2:RowK .i64 w a2 (5*aa1) GDZ)(akc:aa1≤abg)(aiV:a2=none→abg=0)(hs2:abg*40≤140737488351232):cA 10 #[.slice a len cap,.slice a2 aa1 abg] w (rB (.bool true) w):=by
 obtain⟨n,hn⟩:∃n,n=min len 80:=⟨_,rfl⟩;have hD:(mm GD true n).length=11*(n+2):=qO _ _ _;have fw:=fun j hj=>rS GD true n j hj;have uk:=wY GD true n;obtain⟨m,hm⟩:∃m,bO bI (mm GD true n) (n+2)=m:=⟨_,rfl⟩;obtain⟨F,hF⟩:∃F,db bI (mm GD true n) (n+2)=F:=⟨_,rfl⟩;have rX:m≤n+2:=hm▸gZ _;have sF:∀u∈F,0≤u∧u≤1000000:=fun u hu=>uk u (im (P:=bI) (n+2) u (hF.symm▸hu));have t0:TwS (mm GD true n) (n+2):=⟨hD,fw,uk,fun q hq=>abf GD true n (by omega) hq⟩;have tc:∀j,j<m→∀p:Nat,p<3→(∀i,i<4→Lq.fQ (Lq.av (twL F j p) i)=0)∧∀u∈twL F j p,0≤u∧u≤1000000:=fun j hj p hp=>by
  have:=abi (G:=GD) (cr:=true) (n:=n) (j:=j) (by rw[hm];exact hj) (p:=(p:Int)) (by omega);rw[hF]at this;exact this
 refine en (H:=[]) _ [vv (.slice a len cap),vv (.slice a2 aa1 abg)] Tryz.func10 rfl rfl (m0 w) (r [] rfl fun _=> ?_);refine mG rfl (by kernel_rfl) fun w1 hS=>(m_ a len cap 80 true GD w1 (h.below hS.now.2) (by omega) (by omega)).mono fun _ w2 ⟨v1,e,o1,b⟩=> ?_;rw[←hn]at o1;obtain⟨g1,c1,rfl,my,n_,Vi⟩:=abE o1 (by omega);refine⟨vv (.slice (some ⟨g1,0,none⟩) (n+2) c1),[],fun b'=>(Value.slice (some ⟨g1,0,none⟩) (n+2) c1).ownBlock=some b'∨False,fun _=>True,fun w'=>qT w w' g1 (n+2) c1 (mm GD true n),e,.inr b,Mem.start (fun b' hb'=>hb'.elim (fun hb'=>by cases hb';exact Vi) fun h=>h.elim) (fun _ _=>trivial) (fun w3 b3=>⟨Below.next (Below.next hS.now.2 b) b3,aJ (rC o1 hS.now.2.size) fun g _ hg=>b3.block g hg⟩), ?_⟩;clear hS b o1 n_ Vi e;refine r [] rfl fun _=>cx rfl (fun y:Option Addr×Nat=>vv (.slice y.1 m y.2)) (fun y=>m≤y.2∧(0<m→∃b o,y.1=some ⟨b,o,none⟩)) (fun y w=>RowK .i64 w y.1 (11*m) F) (fun w1 hS=>(lx g1 0 (n+2) c1 (mm GD true n) w1 (qT.row hS.now.2 uk) (by omega)).mono fun _ w2 ⟨v1,e,o1,b⟩=> ?_) ?_
 ·rw[hm,hF]at o1;obtain⟨a1,c1,rfl,r1,hc,_,_,pt⟩:=RowK.eK o1 fun u hu=>qP (sF u hu);exact⟨(a1,c1),e,b,⟨hc,fun hp=>r1.form (by omega)⟩,fun hl=>bM r1 pt hl⟩
 rintro⟨ca,cc⟩ ⟨QP,hcf⟩;have QP:m≤cc:=QP;have hcf:0<m→∃b o,ca=some ⟨b,o,none⟩:=hcf;refine r [] rfl fun _=>aeZ 2 (X:=Nat×Nat×Nat×List Int) (fun x=>[(5,vv (.slice (some ⟨x.2.1,0,none⟩) x.1 x.2.2.1))]) (fun _=>[]) (fun x b'=>(Value.slice (some ⟨x.2.1,0,none⟩) x.1 x.2.2.1).ownBlock=some b'∨False) (fun _ w=>True∧RowK .i64 w ca (11*m) F) (fun x w'=>qT w w' x.2.1 x.1 x.2.2.1 x.2.2.2) (fun x=>2≤x.1∧x.1≤n+42∧TwS x.2.2.2 x.1) ?_ ?_
 case refine_2=>
  refine uD (X:=Nat×Nat×Nat×Nat×List Int) (fun x=>[(1,vv (.slice a2 aa1 abg)),(5,vv (.slice (some ⟨x.2.2.1,0,none⟩) x.2.1 x.2.2.2.1)),(6,vv (.slice ca m cc)),(7,vi (x.1:Int))]) (fun _=>[]) (fun x b'=>(Value.slice (some ⟨x.2.2.1,0,none⟩) x.2.1 x.2.2.2.1).ownBlock=some b'∨False) (fun x w'=>qT w w' x.2.2.1 x.2.1 x.2.2.2.1 x.2.2.2.2) (fun x=>x.1≤aa1∧x.1≤10∧x.2.1=n+2+4*x.1∧TwS x.2.2.2.2 x.2.1) (fun x=>10-x.1) (0,n+2,g1,c1,mm GD true n) ⟨rfl,rfl,rfl,rfl,trivial⟩ (fun _ hS=>hS) ⟨Al _,Al _,rfl,t0⟩ ?_;rintro f ⟨k,L,g,c,D⟩ ⟨hk,aeo,hL,tS⟩;have hk:k≤aa1:=hk;have aeo:k≤10:=aeo;have hL:L=n+2+4*k:=hL;have tS:TwS D L:=tS;by_cases x1:k<aa1
  case neg=>exact r [0] rfl fun _=>bJ (L,g,c,D) ⟨rfl,trivial⟩ (fun _ hS=>hS) ⟨by omega,by omega,tS⟩ Bp
  by_cases x2:k<10
  case neg=>exact r [1,0] rfl fun _=>bJ (L,g,c,D) ⟨rfl,trivial⟩ (fun _ hS=>hS) ⟨by omega,by omega,tS⟩ Bp
  by_cases x3:0<m
  case neg=>exact r [1,1,0] rfl fun _=>bJ (L,g,c,D) ⟨rfl,trivial⟩ (fun _ hS=>hS) ⟨by omega,by omega,tS⟩ Bp
  obtain⟨b2,o2,rfl⟩:=h2.form (by omega);obtain⟨cb,co,rfl⟩:=hcf x3;have abr:∀(w':tA) (j:Nat),j<5→bZ w w'→w'.cell? ⟨b2,o2+k*5+j,none⟩=some (iV (iN GDZ k j)):=fun w' j hj hb=>ju (k:=k) (m:=5) (g:=fun j=>iV (iN GDZ k j)) (h2.below hb) (by omega) (fun _ _=>rfl) j hj;obtain⟨j,ej,hj⟩:=aaZ (iN GDZ k 1) m x3;obtain⟨p,ep,hp⟩:=aaZ (iN GDZ k 2) 3 (by decide);obtain⟨tc1,tc2⟩:=tc j hj p hp;have la:∀(w:tA) (i:Nat),i<11→RowK .i64 w (some ⟨cb,co,none⟩) (11*m) F→w.cell? ⟨cb,co+j*11+i,none⟩=some (iV (Lq.av F j i)):=fun w i hi hw=>ju (k:=j) (m:=11) (g:=fun i=>iV (Lq.av F j i)) hw (by omega) (fun _ _=>rfl) i hi;refine r [1,1,1] rfl fun _=>Rv.l1 (q:=o2+k*5+1) rfl (iV (iN GDZ k 1)) (fun w' hS=>abr w' 1 (by decide) hS.now.2.1) ?_;refine r [] rfl fun _=>Rv.cb rfl (vi (j:Int)) (fun w _=>ej▸jm (iN GDZ k 1) m w (Yh h2 x1 1 (by decide)) (by omega) (by omega)) ?_;refine r [] rfl fun _=>lf (q:=co+j*11) rfl 11 (fun i=>iV (Lq.av F j i)) (fun w hS i hi=>la w i hi hS.now.1.2) ?_;refine r [] rfl fun α=>Rv.l1 (q:=o2+k*5+2) rfl (iV (iN GDZ k 2)) (fun w' hS=>abr w' 2 (by decide) hS.now.2.1) ?_;refine r [] rfl fun _=>Rv.cb rfl (vi (p:Int)) (fun w _=>ep▸jm (iN GDZ k 2) 3 w (Yh h2 x1 2 (by decide)) (by decide) (by decide)) ?_;refine r [] rfl fun γ=> ?_;refine ahk 1 4 (by decide) rfl cZ (fun w hS=>hS.now.2.1.size) (fun _ _ h c=>cB h c (Ac _)) (fun g9 c9 hc9=> ?_) (hl:=by kernel_rfl);exact rz [1] [((k+1:Nat):Int)] rfl fun _=>bJ (k+1,L+4,g9,c9,D++twL F j p) ⟨rfl,rfl,rfl,rfl,trivial⟩ (fun w hS=>(hS.take 0).sr fun w h=>⟨h.1,by show World.ownsRow w _ _ _ _ _ ((D++twL F j p).map _);rw[AE];exact h.2⟩) ⟨x1,x2,by show L+4=n+2+4*(k+1);omega,tS.more (m:=4) rfl (by omega) tc1 tc2⟩ (show 10-(k+1)<10-k by omega)
 rintro f ⟨L,g,c,D⟩ ⟨hL2,hL,tS⟩;have hL2:2≤L:=hL2;have hL:L≤n+42:=hL;have tS:TwS D L:=tS;have akd:n≤80:=by omega
 clear t0 tc fw uk hD hm hF sF hcf QP;refine r [] rfl fun _=>cq rfl (fun m:Nat=>vi (m:Int)) (fun m=>m≤200+20*L) (fun w1 hS=>(abe g 0 L c D w1 (qT.row hS.now.2 tS.sm) (by omega)).mono fun _ w2 ⟨m,e,b,hm⟩=>⟨m,e,b,hm⟩) fun rr rV=> ?_;obtain⟨M,hM⟩:∃M,M=L+5+6*rr:=⟨_,rfl⟩;obtain⟨D2,hD2⟩:∃D2,D2=bT D rr:=⟨_,rfl⟩;have k1:∀j,j<M→Lq.fQ (Lq.av D2 j)=0:=by rw[hD2,hM];exact rh tS.len tS.fQ rr
 have s1:∀u∈D2,0≤u∧u≤1000000:=hD2▸nC tS.sm rr;have hM9:M≤20000:=by omega
 obtain⟨O,hO⟩:∃O,kZ D2 M=O:=⟨_,rfl⟩;have hinv:=gY D2 M (by omega) k1 M (Ac _);have xV:∀q,q<2→¬(gk D2 M).2.pn q= -1:=fun q hq=>by
  have:=U_ (D:=D2) (n:=M) (by omega) k1 (x:=q) (m:=L) ?_ (M-L) (by omega)
  ·rw[show L+(M-L)=M by omega]at this;exact this
  ·obtain⟨E,e⟩:=aa8 D rr;rw[hD2,e,aaC (by rw[tS.len];exact Ac _) L (Ac _)];exact tS.md q hq
 have hau:∀q,q<2→∃m:Nat,m<5∧Dx O.bs q 5=((m:Int),true)∧(O.bs m q).Ok:=fun q hq=>by
  have hd:=hinv.dir q (by omega);have hk:=xV q hq;unfold kS at hd;obtain⟨m,g1,g2,_⟩:=aaU (Df (by omega) D2 M (by omega) k1 M (Ac _)) (q:=q) (by omega);rw[←hO];exact⟨m,g1,g2,Yq (hinv.n m g1) (by omega)⟩
 have JZ:∀{w:tA} {v:tK} {k:Nat},w.ownsRow k 63 11 v (L+5+6*rr) ((bT D rr).map (Value.int .i64))→w.ownsRow k 63 11 v M (D2.map (Value.int .i64)):=fun h=>by rw[hM,hD2];exact h
 refine r [] rfl fun _=>cx rfl (fun y:Option Addr×Nat=>vv (.slice y.1 M y.2)) (fun y=>M≤y.2∧∃b o,y.1=some ⟨b,o,none⟩) (fun y w=>RowK .i64 w y.1 (11*M) D2) (fun w1 hS=>(q7 _ L c D w1 (qT.row hS.now.2 tS.sm) (by omega) (by omega) rr (by omega)).mono fun _ w2 ⟨v1,e,o1,b⟩=> ?_) ?_
 ·obtain⟨a1,c1,rfl,r1,hc,_,_,pt⟩:=RowK.eK (JZ o1) fun u hu=>qP (s1 u hu);obtain⟨b1,q1,rfl⟩:=r1.form (by omega);exact⟨(some ⟨b1,q1,none⟩,c1),e,b,⟨hc,_,_,rfl⟩,fun hl=>bM r1 pt hl⟩
 rintro⟨_,c9⟩ ⟨hc9,b9,o9,rfl⟩;refine r [] rfl fun _=>cx rfl (fun t:j7=>vt [.g [.f 18 (mZ O t)],.o (.bool true)]) (fun _=>True) (fun t w=>lO w O t) (fun w1 hS=>hO▸(yH _ M c9 D2 w1 (hK.next hS.now.2.1) hS.now.1.2 (by omega) k1).mono fun _ w2 ⟨t,e,ho,b⟩=>⟨t,e,b,trivial,fun hl=>ho.mono fun b _ hu=>hl b hu⟩) fun t _=> ?_;clear JZ xV hinv k1 s1 hO hD2 hM;have og:aW (mZ O t) 18:=ny;refine r [] rfl fun β=>uD (X:=Nat) (fun q=>[(9,vp 0 0 (β 0)),(10,vv (.bool true)),(11,vi (q:Int))]) (fun _=>[⟨β 0,40,[.f 18 (mZ O t)]⟩]) (fun _ b'=>(Value.slice (some ⟨g,0,none⟩) L c).ownBlock=some b'∨False) (fun _ w'=>qT w w' g L c D) (fun q=>q≤2) (fun q=>2-q) 0 ⟨rfl,rfl,rfl,trivial⟩ (fun _ hS=>hS) (Al _) ?_;rintro f2 q hq;have hq:q≤2:=hq;by_cases UT:q<2
 case neg=>
  obtain rfl:q=2:=by omega
  exact r [0] rfl fun _=>fin fun w hS=>⟨rfl,hS.now.2.1⟩
 have jb:q<4:=by omega
 have h9:2-(q+1)<2-q:=by omega
 obtain⟨m1,hm5,hau1,ok⟩:=hau q UT;obtain⟨B,hB⟩:∃B,O.bs m1 q=B:=⟨_,rfl⟩;obtain⟨A,hA⟩:∃A,t.A m1 q=A:=⟨_,rfl⟩;rw[hB]at ok;obtain⟨s0,bu,told⟩:=ok.told;have once:=told.once.2;have hlen:=ok.len;obtain⟨es,YT⟩:∃es,B.es=es:=⟨_,rfl⟩;rw[YT]at once hlen;refine r [1] rfl fun _=>Rv.cb rfl (vt [.o (iV (m1:Int)),.o (.bool true)]) (fun w hS=> ?_) ?_
 ·have:=D7 O t q jb w fun w' b=>(hS.g w' (dB.of b)).2;rw[hau1]at this;exact this
 refine r [0] rfl fun _=>Rv.l1 (q:=0+m1*1) rfl (.slice (some ⟨t.Y m1,0,none⟩) 4 (t.C m1)) (fun w hS=>qR hS.now.1.2 hm5) ?_;refine r [] rfl fun _=>Rv.l1 (q:=0+q*6+5) rfl (.slice A es.length (t.K m1 q)) (fun w hS=>by have:=nz hS.now.1.2 hm5 jb 5 (by decide);rw[hB,hA]at this;rw[←YT];exact this) ?_;have dq:∀w,lO w O t→RowK .i64 w A (6*es.length) (au es):=fun w hO=>by
  have:=((hO.b m1 hm5).bin q jb).row;rw[hB,hA,YT]at this;exact this
 clear hA hB hau hau1;refine r [] rfl fun _=>uD (X:=Nat) (fun i=>[(9,vp 0 0 (β 0)),(10,vv (.bool true)),(11,vi (q:Int)),(14,vv (.slice A es.length (t.K m1 q))),(15,vi (i:Int))]) (fun _=>[⟨β 0,40,[.f 18 (mZ O t)]⟩]) (fun _ b'=>(Value.slice (some ⟨g,0,none⟩) L c).ownBlock=some b'∨False) (fun _ w'=>qT w w' g L c D) (fun i=>i≤es.length) (fun i=>es.length-i) 0 ⟨rfl,rfl,rfl,rfl,rfl,trivial⟩ (fun _ hS=>hS) (Al _) ?_;rintro f3 i hi;have hi:i≤es.length:=hi;by_cases hil:i<es.length
 case neg=>
  exact rz [0,1] [((q+1:Nat):Int)] rfl fun _=>bJ (q+1) ⟨rfl,rfl,rfl,trivial⟩ (fun _ hS=>hS) UT h9
 have h8:es.length-(i+1)<es.length-i:=by omega
 refine VP fun w9 hS9=> ?_;obtain⟨eb,eo,rfl⟩:=(dq w9 hS9.now.1.2).form (by omega);clear hS9;have la:∀(w:tA) (x:Nat) (u:Ev),lO w O t→es[x]? =some u→∀j,j<6→w.cell? ⟨eb,eo+x*6+j,none⟩=some (iV ((bf u).getD j 0)):=fun w x u hO hu=>by
  obtain⟨hx,e⟩:=Ap.1 hu;exact ju (k:=x) (m:=6) (g:=fun j=>iV ((bf u).getD j 0)) (dq w hO) (by omega) fun j hj=>by rw[mr es x hx j hj,e]
 obtain⟨u,hu⟩:∃u,es[i]? =some u:=⟨_,Ai hil⟩;refine r [1] rfl fun _=>uD (X:=Nat) (fun k=>[(9,vp 0 0 (β 0)),(10,vv (.bool true)),(11,vi (q:Int)),(14,vv (.slice (some ⟨eb,eo,none⟩) es.length (t.K m1 q))),(15,vi (i:Int)),(16,vi (k:Int))]) (fun _=>[⟨β 0,40,[.f 18 (mZ O t)]⟩]) (fun _ b'=>(Value.slice (some ⟨g,0,none⟩) L c).ownBlock=some b'∨False) (fun _ w'=>qT w w' g L c D) (fun k=>k≤i) (fun k=>i-k) 0 ⟨rfl,rfl,rfl,rfl,rfl,rfl,trivial⟩ (fun _ hS=>hS) (Al _) ?_;rintro f4 k hk;have hk:k≤i:=hk;by_cases J4:k<i
 case neg=>
  exact rz [0,1] [((i+1:Nat):Int)] rfl fun _=>bJ (i+1) ⟨rfl,rfl,rfl,rfl,rfl,trivial⟩ (fun _ hS=>hS) hil h8
 have h7:i-(k+1)<i-k:=by omega
 have J6:k<es.length:=by omega
 obtain⟨v,hv⟩:∃v,es[k]? =some v:=⟨_,Ai J6⟩;have on:=once i k u v J4 hu hv;have lu:=fun w hO=>la w i u hO hu;have lv:=fun w hO=>la w k v hO hv;obtain⟨uk_,up_,ui_,ub_,uh_,un_⟩:=u;obtain⟨vk_,vp',vi',vb_,vh_,vn_⟩:=v;have on:uk_=1→vk_=1→up_=vp'→¬ui_=vi':=on;refine r [1,1] rfl fun _=>Rv.l1 (q:=eo+i*6) rfl (iV uk_) (fun w hS=>lu w hS.now.1.2 0 (by decide)) ?_;by_cases z1:uk_=1
 case neg=>exact rz [0,1] [((k+1:Nat):Int)] rfl fun _=>bJ (k+1) ⟨rfl,rfl,rfl,rfl,rfl,rfl,trivial⟩ (fun _ hS=>hS) J4 h7
 refine r [1] rfl fun _=>Rv.l1 (q:=eo+k*6) rfl (iV vk_) (fun w hS=>lv w hS.now.1.2 0 (by decide)) ?_;by_cases z2:vk_=1
 case neg=>exact rz [0,1] [((k+1:Nat):Int)] rfl fun _=>bJ (k+1) ⟨rfl,rfl,rfl,rfl,rfl,rfl,trivial⟩ (fun _ hS=>hS) J4 h7
 refine r [1] rfl fun _=>Rv.l1 (q:=eo+i*6+1) rfl (iV up_) (fun w hS=>lu w hS.now.1.2 1 (by decide)) ?_;refine r [] rfl fun _=>Rv.l1 (q:=eo+k*6+1) rfl (iV vp') (fun w hS=>lv w hS.now.1.2 1 (by decide)) ?_;by_cases z3:up_=vp'
 case neg=>exact rz [0,1] [((k+1:Nat):Int)] rfl fun _=>bJ (k+1) ⟨rfl,rfl,rfl,rfl,rfl,rfl,trivial⟩ (fun _ hS=>hS) J4 h7
 have z4:=on z1 z2 z3;refine r [1] rfl fun _=>Rv.l1 (q:=eo+i*6+2) rfl (iV ui_) (fun w hS=>lu w hS.now.1.2 2 (by decide)) ?_;refine r [] rfl fun _=>Rv.l1 (q:=eo+k*6+2) rfl (iV vi') (fun w hS=>lv w hS.now.1.2 2 (by decide)) ?_;exact rz [0,1] [((k+1:Nat):Int)] rfl fun _=>bJ (k+1) ⟨rfl,rfl,rfl,rfl,rfl,rfl,trivial⟩ (fun _ hS=>hS) J4 h7
end
end Go.Proofs.YtpgkjpomaffbmaaGreatDoor
