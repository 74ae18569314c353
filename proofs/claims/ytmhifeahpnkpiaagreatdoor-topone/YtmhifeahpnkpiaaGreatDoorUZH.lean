/- Out of my texts: TdB@TopOneOwn, PrA@TopOneOwn, PrB@TopOneOwn, PrC@TopOneOwn, PrD@TopOneOwn, PtA@TopOneOwn. -/
import Derived.Test.YtmhifeahpnkpiaaGreatDoorUAA
import Derived.Test.YtmhifeahpnkpiaaGreatDoorUAF
set_option maxRecDepth 20000
set_option maxHeartbeats 8000000
set_option linter.unusedVariables false
namespace Go.Proofs.YtmhifeahpnkpiaaGreatDoor
open Go.RowKit
section
open Rv
namespace Rv
end Rv
theorem ki{w:tA}{o:Oc}{t:iJ}(h:jQ w o t){i:Nat}(hi:i<5):w.cell? ⟨t.R,0+i*1,none⟩=some (.slice (some ⟨t.Y i,0,none⟩) 4 (t.C i)):=by
 rw[Ae,BC];exact Nb h hi
theorem iA{w:tA}{o:Oc}{t:iJ}(h:jQ w o t){i q:Nat}(hi:i<5)(hq:q<4)(j:Nat)(hj:j<6):w.cell? ⟨t.Y i,0+q*6+j,none⟩=some (bF (o.bs i q) (t.A i q) (t.K i q) j):=by
 rw[Ae];exact(h.b i hi).cell q hq j hj
end
def Cv:Af→Option (Nat×Bt)
 | .serve _ _=>none
 | .begin l B=>some (l.q,B)
 | .shut l B=>some (l.q,B)
 | .take l B=>some (l.q,B)
 | .kG q B=>some (q,B)
def Pos(n:Nd)(q:Nat)(r e t:Int):Prop:=
 (n.up=true∧((r=(n.mo q).r∧e=(n.mo q).e∧t=(n.mo q).t)∨((n.mo q).r=2∧r=1∧e=(n.mo q).e∧t=0)∨∃a B,n.af=some a∧Cv a=some (q,B)∧r=B.r∧e=B.e∧t=B.t))∨
 (n.up=false∧r=(TP n q).r∧e=(TP n q).e∧t=(TP n q).t)
def aaj(n:Nd)(q:Nat)(P:Int→Int→Int→Prop):Prop:=∀r e t,Pos n q r e t→P r e t
theorem Pos.vis(n:Nd)(q:Nat):Pos n q (TP n q).r (TP n q).e (TP n q).t:=by
 cases h:n.up with
 |false=>exact .inr ⟨h,rfl,rfl,rfl⟩
 |true=>
  have e:TP n q=n.mo q:=by unfold TP;rw[if_pos h]
  rw[e];exact .inl ⟨h,.inl ⟨rfl,rfl,rfl⟩⟩
theorem Pos.mo{n:Nd}(h:n.up=true)(q:Nat):Pos n q (n.mo q).r (n.mo q).e (n.mo q).t:= .inl ⟨h,.inl ⟨rfl,rfl,rfl⟩⟩
theorem Pos.calm{n:Nd}{q:Nat}{r e t:Int}(h:Pos n q r e t)(hu:n.up=true)(ha:n.af=none):(r=(n.mo q).r∧e=(n.mo q).e∧t=(n.mo q).t)∨((n.mo q).r=2∧r=1∧e=(n.mo q).e∧t=0):=by
 rcases h with⟨_,h|h|⟨a,B,h,_⟩⟩|⟨h,_⟩
 ·exact .inl h
 ·exact .inr h
 ·rw[ha]at h;cases h
 ·rw[hu]at h;cases h
theorem abf{B D:Bt}{l:List Rec}(h:kI B l D):¬B.r=2→¬D.r=2:=by
 induction h with
 |nil B=>exact id
 |cons hf ha h ih=>exact fun hB=>ih (Xx hB (Ek ha).2.2.1)
theorem aaS{B D:Bt}{l:List Rec}(h:kI B l D):(∀r∈l,r.k=5∨r.k=6)→∀j E,kI B (l.take j) E→(E.r=B.r∧E.e=B.e∧E.t=B.t)∨E=D:=by
 induction h with
 |nil B=>
  intro _ j E hE;rw[List.take_nil]at hE;rw[hE.nil_eq];exact .inr rfl
 |cons hf ha h ih=>
  rename_i B B1 D r l;intro hk j E hE;cases j with
  |zero=>rw[hE.nil_eq];exact .inl ⟨rfl,rfl,rfl⟩
  |succ j=>
   cases hE with
   |cons hf' CC h'=>
    rename_i B2;obtain rfl:B1=B2:=by
     have:=ha.symm.trans CC;injection this
    have hd:=(Ek ha).2.2.1;have kW:∀x∈l,x.k=5∨x.k=6:=fun x hx=>hk x (AF _ hx);rcases hk r Aw with k5|k6
    ·unfold cS at hd;rw[if_neg (by omega),if_neg (by omega),if_neg (by omega),if_neg (by omega),if_pos k5]at hd;split at hd
     ·cases hd;rcases ih kW j E h' with e|e
      ·exact .inl e
      ·exact .inr e
     ·cases hd
    ·have h1:B1.r=1:=by
      unfold cS at hd;rw[if_neg (by omega),if_neg (by omega),if_neg (by omega),if_neg (by omega),if_neg (by omega),if_pos k6]at hd;split at hd
      ·cases hd;rfl
      ·cases hd
     have stop:∀{m:List Rec} {F:Bt},(∀x∈m,x.k=5∨x.k=6)→kI B1 m F→F=B1:=fun {m F} hm hr=>by
      cases hr with
      |nil=>rfl
      |cons hf2 CE hr2=>
       rename_i B3 r2 l2;have Cy:=(Ek CE).2.2.1;have:=hm r2 Aw;unfold cS at Cy;rw[if_neg (by omega),if_neg (by omega),if_neg (by omega),if_neg (by omega)]at Cy;split at Cy
       ·rw[if_neg (by omega)]at Cy;cases Cy
       ·rw[if_pos (by omega),if_neg (by omega)]at Cy;cases Cy
     right;rw[stop kW h,stop (fun x hx=>kW x (AK hx)) h']
theorem AfP.q{mo:Nat→Bt}{q:Nat}{D:Bt}{a:Af}(h:AfP mo q D a):(Cv a=none∧∃l,D=tb ((mo q).more l))∨Cv a=some (q,D):=by
 cases a with
 |serve l an=>exact .inl ⟨rfl,_,h.2.2.2⟩
 |begin l B=>obtain⟨rfl,_,rfl⟩:=h;exact .inr rfl
 |shut l B=>obtain⟨rfl,_,rfl⟩:=h;exact .inr rfl
 |take l B=>obtain⟨rfl,_,rfl⟩:=h;exact .inr rfl
 |kG q B=>obtain⟨rfl,_,rfl⟩:=h;exact .inr rfl
theorem Pos.tb{n:Nd}{q:Nat}(h:n.up=true){B:Bt}(e:B.r=(tb (n.mo q)).r∧B.e=(tb (n.mo q)).e∧B.t=(tb (n.mo q)).t):Pos n q B.r B.e B.t:=by
 by_cases h2:(n.mo q).r=2
 ·rw[I7 h2]at e;exact .inl ⟨h,.inr (.inl ⟨h2,e⟩)⟩
 ·rw[kZ h2]at e;exact .inl ⟨h,.inl e⟩
theorem abg(B:Bt)(l:List Ev):(tb (B.more l)).r=(tb B).r∧(tb (B.more l)).e=(tb B).e∧(tb (B.more l)).t=(tb B).t:=by
 by_cases h:B.r=2
 ·rw[I7 h,I7 (show(B.more l).r=2 from h)];exact⟨rfl,rfl,rfl⟩
 ·rw[kZ h,kZ (show ¬(B.more l).r=2 from h)];exact⟨rfl,rfl,rfl⟩
theorem aaT{n:Nd}(h:Up n)(hu:n.up=true)(hl:n.dl.length≤100000){kp:Int}(hk:0≤kp){q:Nat}(hq:q<4){r e t:Int}(hp:Pos (iI n kp) q r e t):Pos n q r e t:=by
 obtain⟨dO,dH,Bs,dw,ra,Ba,_,_,_,_,hBa,hc⟩:=h.Ud hk;have hb:=dw.bs (by show(List.take _ n.dl).length≤_;rw[AL];omega) rfl q hq;rcases hp with⟨e1,_⟩|⟨_,e1⟩
 ·cases e1
 rw[hb]at e1;obtain⟨rfl,rfl,rfl⟩:=e1;rcases hc with⟨_,rfl⟩|⟨rb,a,q',D,j,E,ha,pd,_,hE,rfl⟩
 ·exact .tb hu (by rw[hBa q hq];exact⟨rfl,rfl,rfl⟩)
 by_cases e1:q=q'
 ·subst e1;rw[az];have ab2:E=D→Pos n q E.r E.e E.t:=by
   rintro rfl;rcases pd.af.q with⟨_,l,e⟩|e
   ·exact .tb hu (by rw[e];exact abg _ _)
   ·exact .inl ⟨hu,.inr (.inr ⟨a,E,ha,e,rfl,rfl,rfl⟩)⟩
  rcases pd.one with o|o
  ·cases j with
   |zero=>rw[hE.nil_eq];exact .tb hu ⟨rfl,rfl,rfl⟩
   |succ j=>
    rw[AJ (by omega)]at hE
    exact ab2 (by
     have hD:=pd.run
     match rb,o,hE,hD with
     |[x],_,hE,hD=>
      cases hE with
      |cons _ a1 b1=>
       cases hD with
       |cons _ a2 b2=>
        have:=a1.symm.trans a2;injection this with e1 _
        rw[b1.nil_eq,b2.nil_eq,e1])
  ·rcases aaS pd.run o j E hE with e|e
   ·exact .tb hu e
   ·exact ab2 e
 ·rw[bD e1,hBa q hq];exact .tb hu ⟨rfl,rfl,rfl⟩
theorem aaU{n:Nd}{s:Ws}(h:n.up=false→Dw n)(hl:n.dl.length≤100000){q:Nat}(hq:q<4){r e t:Int}(hp:Pos (ee n s).1 q r e t):Pos n q r e t:=by
 by_cases hu:n.up=true
 ·have e1:ee n s=(n,s):=if_pos (.inl hu);rwa [e1]at hp
 by_cases hk:n.sk=true
 ·have e1:ee n s=(n,s):=if_pos (.inr hk);rwa [e1]at hp
 have hu:n.up=false:=by simpa using hu
 have hk:n.sk=false:=by simpa using hk
 obtain⟨dO,dH,Bs,dw⟩:=h hu;obtain⟨Em,hB,hs⟩:=I_ (s:=s) dw hl hu hk;have hb:=dw.bs hl hu q hq;rw[hs]at hp;unfold jP at hp;split at hp
 ·rename_i hc;have ok:=dw.tm.all q hq;rcases hp with⟨_,e1|⟨e1,_⟩|⟨a,B,e1,_⟩⟩|⟨e1,_⟩
  ·have hw:(r=(Bs q).r∧e=(Bs q).e∧t=(Bs q).t):=by
    have e1:r=(bm (Em q)).1.r∧e=(bm (Em q)).1.e∧t=(bm (Em q)).1.t:=e1;have pr:=hc.1 q hq;rw[hB q hq]at e1 pr;rcases Lg pr ok.2 with⟨_,e2⟩|⟨h1,e2,_⟩
    ·rw[e2]at e1;exact e1
    ·rw[e2]at e1;have hs:=ok.1.cO;unfold Bt.cH bB at hs;obtain⟨rfl,rfl,rfl⟩:=e1;exact⟨h1.symm,rfl,by show(0:Int)=_;omega⟩
   exact .inr ⟨hu,by rw[hb];exact hw⟩
  ·have e1:(bm (Em q)).1.r=2:=e1;have pr:=hc.1 q hq;rw[hB q hq]at e1 pr;rcases Lg pr ok.2 with⟨_,e2⟩|⟨h1,e2,_⟩
   ·rw[e2]at e1;exact absurd e1 ok.2
   ·rw[e2]at e1;cases e1
  ·cases e1
  ·cases e1
 ·have d2:=P7 (sy:=nC (bI (dO++dH)).length n.sy) dw;have Ge:=d2.bs (by show(List.take _ n.dl).length≤_;rw[AL];omega) hu q hq;rcases hp with⟨e1,_⟩|⟨_,e1⟩
  ·rw[show _=n.up from rfl,hu]at e1;cases e1
  ·rw[Ge]at e1;exact .inr ⟨hu,by rw[hb];exact e1⟩
def Cu(n:Nd)(q:Nat)(ep:Int):Prop:=aaj n q fun r e _=>ep<e∨(e=ep∧¬r=4)
def CB(n:Nd)(q:Nat)(ep:Int):Prop:=aaj n q fun r e _=>ep<e∨(e=ep∧(r=3∨r=0))
def Clp(n:Nd)(q:Nat)(ep:Int):Prop:=aaj n q fun r e _=>r=1∧e=ep
def Cw(q:Nat)(ns:Nat→Nd)(pn pe k:Int):Prop:=0≤pn∧aaj (ns pn.toNat) q fun r e t=>r=3∧e=pe∧t=k
def LC(q:Nat)(ns:Nat→Nd)(pn pe:Int)(l:Lt):Prop:=
 (l.kd=2→l.ep≤pe+1)∧(l.kd=4→l.la=true→(l.ep=pe+1∧Cw q ns pn pe l.dst)∨(l.ep≤pe∧Cu (ns l.dst.toNat) q l.ep))∧
 (l.kd=5→l.ep≤pe∨(l.ep=pe+1∧Clp (ns l.fr.toNat) q (pe+1)))∧(l.kd=7→l.pe≤pe)
structure aaz(q:Nat)(ns:Nat→Nd)(pn pe:Int)(i:Nat)(r e t:Int):Prop where
 z:pn= -1→r=0∨r=4
 a:e≤pe+1
 a2:r=2∨r=3→e≤pe
 b:r=1∨r=2∨r=3→e=pe→(i:Int)=pn
 d:r=1∨r=2→pe≤e
 c:r=1→e=pe+1→Cw q ns pn pe i
 s:r=3→e<pe→Cu (ns t.toNat) q (e+1)
 x:(i:Int)=pn→(r=1∨r=2∨r=3)∧e=pe
structure Pq(G:Nat→Int→Prop)(q:Nat)(ns:Nat→Nd)(pn pe:Int)(fl:List Lt):Prop where
 p:∀i,i<5→aaj (ns i) q (aaz q ns pn pe i)
 l:∀l∈fl,l.q=q→LC q ns pn pe l
 w:∀i,i<5→∀l∈(ns i).wt,l.q=q→LC q ns pn pe l∧(l.kd=4→l.dst=i)
 k:∀i,i<5→∀ep,G i ep→1≤ep∧CB (ns i) q ep
structure Fn(q:Nat)(ns:Nat→Nd)(pn pe:Int)(i:Nat)(r e t:Int):Prop where
 ok:aaz q ns pn pe i r e t
 g1:∀ep,Cu (ns i) q ep→ep<e∨(e=ep∧¬r=4)
 g2:¬aaj (ns i) q fun r e _=>r=3∧e=pe
 g3:¬aaj (ns i) q fun r e _=>r=1∧e=pe+1
 g4:∀ep,CB (ns i) q ep→ep<e∨(e=ep∧(r=3∨r=0))
section
variable{G:Nat→Int→Prop}{q i:Nat}{ns:Nat→Nd}{pn pe:Int}{fl:List Lt}
theorem LC.plain{l:Lt}(h2:¬l.kd=2)(h4:¬l.kd=4)(h5:¬l.kd=5)(h7:¬l.kd=7):LC q ns pn pe l:=⟨fun h=>absurd h h2,fun h=>absurd h h4,fun h=>absurd h h5,fun h=>absurd h h7⟩
theorem Pq.move(h:Pq G q ns pn pe fl)(hi:i<5){n':Nd}(hP:∀r e t,Pos n' q r e t→Pos (ns i) q r e t∨Fn q ns pn pe i r e t)(hw:∀l∈n'.wt,l∈(ns i).wt∨(l.q=q→LC q ns pn pe l∧(l.kd=4→l.dst=i))):Pq G q (au ns i n') pn pe fl:=by
 have tN:∀j ep,Cu (ns j) q ep→Cu (au ns i n' j) q ep:=fun j ep hn=>by
  by_cases e:j=i
  ·subst e;rw[az];intro r e t hp;exact(hP r e t hp).elim (hn r e t) fun g=>g.g1 ep hn
  ·rw[bD e];exact hn
 have tS:∀k,Cw q ns pn pe k→Cw q (au ns i n') pn pe k:=fun k hk=>⟨hk.1,by
  have h2:=hk.2;by_cases e:pn.toNat=i
  ·rw[e]at h2⊢;rw[az];intro r e t hp;exact(hP r e t hp).elim (h2 r e t) fun g=>absurd (fun r e t hp=>⟨(h2 r e t hp).1,(h2 r e t hp).2.1⟩) g.g2
  ·rw[bD e];exact h2⟩
 have tC:∀j,Clp (ns j) q (pe+1)→Clp (au ns i n' j) q (pe+1):=fun j hn=>by
  by_cases e:j=i
  ·subst e;rw[az];intro r e t hp;exact(hP r e t hp).elim (hn r e t) fun g=>absurd hn g.g3
  ·rw[bD e];exact hn
 have tL:∀l,LC q ns pn pe l→LC q (au ns i n') pn pe l:=fun l hl=>⟨hl.1,fun h1 h2=>(hl.2.1 h1 h2).imp (fun g=>⟨g.1,tS _ g.2⟩) (fun g=>⟨g.1,tN _ _ g.2⟩),fun h1=>(hl.2.2.1 h1).imp id fun g=>⟨g.1,tC _ g.2⟩,hl.2.2.2⟩;have tO:∀j r e t,aaz q ns pn pe j r e t→aaz q (au ns i n') pn pe j r e t:=fun j r e t o=>⟨o.z,o.a,o.a2,o.b,o.d,fun h1 h2=>tS _ (o.c h1 h2),fun h1 h2=>tN _ _ (o.s h1 h2),o.x⟩;refine⟨fun j hj r e t hp=> ?_,fun l hl hq=>tL l (h.l l hl hq),fun j hj l hl hq=> ?_,fun j hj ep g=>⟨(h.k j hj ep g).1,fun r e t hp=> ?_⟩⟩
 ·by_cases e1:j=i
  ·subst e1;rw[az]at hp;exact tO _ _ _ _ ((hP r e t hp).elim (h.p j hj r e t) fun g=>g.ok)
  ·rw[bD e1]at hp;exact tO _ _ _ _ (h.p j hj r e t hp)
 ·by_cases e1:j=i
  ·subst e1;rw[az]at hl;have:=(hw l hl).elim (fun g=>h.w j hj l g hq) fun g=>g hq;exact⟨tL _ this.1,this.2⟩
  ·rw[bD e1]at hl;exact⟨tL _ (h.w j hj l hl hq).1,(h.w j hj l hl hq).2⟩
 ·have hs:=(h.k j hj ep g).2;by_cases e1:j=i
  ·subst e1;rw[az]at hp;exact(hP r e t hp).elim (hs r e t) fun g=>g.g4 ep hs
  ·rw[bD e1]at hp;exact hs r e t hp
theorem Pq.send(h:Pq G q ns pn pe fl){ls:List Lt}(hl:∀l∈ls,l.q=q→LC q ns pn pe l):Pq G q ns pn pe (fl++ls):=⟨h.p,fun x hx hq=>(Ao.1 hx).elim (fun g=>h.l x g hq) fun g=>hl x g hq,h.w,h.k⟩
theorem Pq.less(h:Pq G q ns pn pe fl){UY:List Lt}(hl:∀l∈UY,l∈fl):Pq G q ns pn pe UY:=⟨h.p,fun x hx hq=>h.l x (hl x hx) hq,h.w,h.k⟩
theorem Pq.flip(h:Pq G q ns pn pe fl){fr:Int}(h0:0≤fr)(h5:fr<5)(hp:0≤pn)(hp5:pn<5)(hc:Clp (ns fr.toNat) q (pe+1)):Pq G q ns fr (pe+1) fl:=by
 have hf:((fr.toNat:Nat):Int)=fr:=Bz h0;have Ms:((pn.toNat:Nat):Int)=pn:=Bz hp;have v1:=Pos.vis (ns fr.toNat) q;obtain⟨c1,c2⟩:=hc _ _ _ v1;have hS:=(h.p fr.toNat (by omega) _ _ _ v1).c c1 c2;rw[hf]at hS;have v2:=Pos.vis (ns pn.toNat) q;obtain⟨d1,d2,d3⟩:=hS.2 _ _ _ v2;have one:∀k,Cw q ns pn pe k→k=fr:=fun k hk=>(hk.2 _ _ _ v2).2.2.symm.trans d3;have nip:Cu (ns fr.toNat) q (pe+1):=fun r e t hp=>by
  obtain⟨g1,g2⟩:=hc r e t hp;exact .inr ⟨g2,by omega⟩
 have tL:∀l,LC q ns pn pe l→LC q ns fr (pe+1) l:=fun l hl=>⟨fun g=>by have:=hl.1 g;omega,fun g1 g2=> .inr (by
  rcases hl.2.1 g1 g2 with⟨e1,e2⟩|⟨e1,e2⟩
  ·rw[one _ e2,e1];exact⟨Bq _,nip⟩
  ·exact⟨by omega,e2⟩),fun g=> .inl (by rcases hl.2.2.1 g with e|⟨e,_⟩<;>omega),fun g=>by have:=hl.2.2.2 g;omega⟩
 refine⟨fun j hj r e t hp=> ?_,fun l hl hq=>tL l (h.l l hl hq),fun j hj l hl hq=>⟨tL _ (h.w j hj l hl hq).1,(h.w j hj l hl hq).2⟩,h.k⟩;have o:=h.p j hj r e t hp;have atp:(j:Int)=pn→r=3∧e=pe∧t=fr:=fun g=>by
  have:pn.toNat=j:=by omega
  exact hS.2 r e t (this▸hp)
 refine⟨fun g=>by omega,by have:=o.a;omega,fun g=>by have:=o.a2 g;omega,fun g1 g2=> ?_,fun g=> ?_,fun g1 g2=>by have:=o.a;omega,fun g1 g2=> ?_,fun g=>by have:=hc r e t (by rw[show fr.toNat=j by omega];exact hp);omega⟩
 ·have g1:r=1:=by
   rcases g1 with g1|g1
   ·exact g1
   ·have:=o.a2 g1;omega
  exact one _ (o.c g1 g2)
 ·have:=o.d g;by_cases e1:e=pe
  ·have:=atp (o.b (by omega) e1);omega
  ·omega
 ·by_cases e1:e=pe
  ·rw[(atp (o.b (by omega) e1)).2.2,e1];exact nip
  ·exact o.s g1 (by omega)
end
abbrev PQ(G:Nat→Int→Prop)(q:Nat)(p:(Nat→Nd)×Ws):Prop:=Pq G q p.1 (p.2.pn q) (p.2.pe q) p.2.fl
theorem aaf{n n':Nd}{q:Nat}(hu:n.up=true)(Cx:n'.up=true)(hm:(n'.mo q).r=(n.mo q).r∧(n'.mo q).e=(n.mo q).e∧(n'.mo q).t=(n.mo q).t)(ha:∀a B,n'.af=some a→Cv a=some (q,B)→n.af=n'.af){r e t:Int}(h:Pos n' q r e t):Pos n q r e t:=by
 rcases h with⟨_,h|⟨h1,h2⟩|⟨a,B,h1,h2,h3⟩⟩|⟨h,_⟩
 ·rw[hm.1,hm.2.1,hm.2.2]at h;exact .inl ⟨hu,.inl h⟩
 ·rw[hm.1]at h1;rw[hm.2.1]at h2;exact .inl ⟨hu,.inr (.inl ⟨h1,h2⟩)⟩
 ·exact .inl ⟨hu,.inr (.inr ⟨a,B,(ha a B h1 h2).trans h1,h2,h3⟩)⟩
 ·rw[Cx]at h;cases h
theorem abz{n:Nd}{a:Af}{rs:List Rec}{q:Nat}(hu:n.up=true){r e t:Int}(h:Pos ((pA n a rs).getD n) q r e t):Pos n q r e t∨∃B,Cv a=some (q,B)∧r=B.r∧e=B.e∧t=B.t:=by
 unfold pA at h;split at h
 ·rcases h with⟨_,h|h|⟨a',B,h1,h2,h3⟩⟩|⟨h,_⟩
  ·exact .inl (.inl ⟨hu,.inl h⟩)
  ·exact .inl (.inl ⟨hu,.inr (.inl h)⟩)
  ·have h1:some a=some a':=h1;cases h1;exact .inr ⟨B,h2,h3⟩
  ·have h:n.up=false:=h;rw[hu]at h;cases h
 ·exact .inl h
theorem ab4{n:Nd}{a:Af}{rs:List Rec}:((pA n a rs).getD n).wt=n.wt:=by
 unfold pA;split<;>rfl
section
variable{G:Nat→Int→Prop}{q i:Nat}{ns:Nat→Nd}{s:Ws}
theorem PQ.node(h:PQ G q (ns,s))(hi:i<5){n':Nd}(hP:∀r e t,Pos n' q r e t→Pos (ns i) q r e t∨Fn q ns (s.pn q) (s.pe q) i r e t)(hw:n'.wt=(ns i).wt):PQ G q (au ns i n',s):=Pq.move h hi hP fun l hl=> .inl (hw▸hl)
theorem PQ.aaV(h:PQ G q (ns,s)){s':Ws}{l:Lt}(e1:s'.pn=s.pn)(e2:s'.pe=s.pe)(e3:s'.fl=s.fl++[l])(hl:l.q=q→LC q ns (s.pn q) (s.pe q) l):PQ G q (ns,s'):=by
 show Pq G q ns (s'.pn q) (s'.pe q) s'.fl;rw[e1,e2,e3];exact Pq.send h fun x hx=>by rw[Ab.1 hx];exact hl
theorem PQ.same(h:PQ G q (ns,s)){s':Ws}(e1:s'.pn=s.pn)(e2:s'.pe=s.pe)(e3:s'.fl=s.fl):PQ G q (ns,s'):=by
 show Pq G q ns (s'.pn q) (s'.pe q) s'.fl;rw[e1,e2,e3];exact h
theorem PQ.part(h:PQ G q (ns,s))(hi:i<5){n:Nd}(hn:ns i=n)(zM:n.i=i)(hu:n.up=true)(ha:n.af=none)(q0:Nat)(hv:Int):PQ G q (ns,aaA n s q0 hv):=by
 have h':Pq G q ns (s.pn q) (s.pe q) s.fl:=h;unfold aaA;split
 ·refine h.aaV rfl rfl rfl fun hq=>⟨fun g=>(by cases g),fun _ Cz=> ?_,fun g=>(by cases g),fun g=>(by cases g)⟩;obtain rfl:q0=q:=hq;have h3:(n.mo q0).r=3:=by
   have Cz:(partOf (n.mo q0) hv).2.1=true:=Cz;unfold partOf at Cz;split at Cz
   ·cases Cz
   ·exact(of_decide_eq_true Cz).1
  have o:=h'.p i hi (n.mo q0).r (n.mo q0).e (n.mo q0).t (by rw[hn];exact Pos.mo hu q0);have e1:=o.a2 (.inr h3);show((n.mo q0).e+1=_∧Cw q0 ns _ _ (n.mo q0).t)∨((n.mo q0).e+1≤_∧Cu (ns (n.mo q0).t.toNat) q0 ((n.mo q0).e+1));by_cases e:(n.mo q0).e=s.pe q0
  ·left;have e2:=o.b (.inr (.inr h3)) e;refine⟨by rw[e],by omega, ?_⟩;rw[show(s.pn q0).toNat=i by omega,hn];intro r e1 t hp;rcases hp.calm hu ha with⟨g1,g2,g3⟩|⟨g1,_⟩
   ·exact⟨g1.trans h3,g2.trans e,g3⟩
   ·omega
  ·exact .inr ⟨by omega,o.s h3 (by omega)⟩
 ·exact h
theorem PQ.push(hi:i<5):∀(k:Nat) (n:Nd) (ns:Nat→Nd),PQ G q (ns,s)→ns i=n→n.i=i→n.up=true→n.af=none→PQ G q (au ns i (eX k n s).1,(eX k n s).2)
 |0,n,ns,h,hn,_,_,_=>by
  show PQ G q (au ns i n,s);rw[←hn,qN];exact h
 |k+1,n,ns,h,hn,zM,hu,ha=>by
  have turn:∀tu,Pq G q (au ns i {n with tu:=tu}) (s.pn q) (s.pe q) s.fl:=fun tu=>h.node hi (fun r e t hp=> .inl (by rw[hn];exact aaf (n:=n) (n':={n with tu:=tu}) hu hu ⟨rfl,rfl,rfl⟩ (fun _ _ _ _=>rfl) hp)) (by rw[hn]);unfold eX;split
  ·have:=PQ.push hi k {n with tu:=(n.tu+1) % 4} (au ns i {n with tu:=(n.tu+1) % 4}) (turn _) (az ..) zM hu ha;rw[sx]at this;exact this
  ·refine Pq.send (turn _) fun l hl hq=> ?_;have o:=(turn ((n.tu+1) % 4)).p i hi _ _ _ (by rw[az];exact Pos.mo (n:={n with tu:=(n.tu+1) % 4}) hu q);have hm:(({n with tu:=(n.tu+1) % 4}:Nd).mo q)=n.mo q:=rfl;rw[hm]at o;unfold fL at hl;split at hl
   ·rename_i h2;rw[Ab.1 hl]at hq⊢;obtain rfl:n.tu=q:=hq;exact⟨fun _=>by have:=o.a2 (.inl h2);show(n.mo n.tu).e+1≤_;omega,fun g=>(by cases g),fun g=>(by cases g),fun g=>(by cases g)⟩
   split at hl
   ·rename_i h3;rcases BQ.1 hl with hl|hl
    ·rw[hl]at hq⊢;obtain rfl:n.tu=q:=hq;exact⟨fun _=>by have:=o.a2 (.inr h3);show(n.mo n.tu).e+1≤_;omega,fun g=>(by cases g),fun g=>(by cases g),fun g=>(by cases g)⟩
    ·rw[Ab.1 hl];exact .plain (by show ¬(6:Int)=2;decide) (by show ¬(6:Int)=4;decide) (by show ¬(6:Int)=5;decide) (by show ¬(6:Int)=7;decide)
   split at hl
   ·rename_i h1;rw[Ab.1 hl]at hq⊢;obtain rfl:n.tu=q:=hq;refine⟨fun g=>(by cases g),fun g=>(by cases g),fun _=> ?_,fun g=>(by cases g)⟩;show(n.mo n.tu).e≤_∨((n.mo n.tu).e=_∧Clp (au ns i _ (n.i:Int).toNat) n.tu _);have:=o.a;by_cases e:(n.mo n.tu).e≤s.pe n.tu
    ·exact .inl e
    ·refine .inr ⟨by omega, ?_⟩;rw[AO,zM,az];intro r e1 t hp;rcases hp.calm hu ha with⟨g1,g2,_⟩|⟨g1,_⟩
     ·exact⟨g1.trans h1.1,by have:e1=(n.mo n.tu).e:=g2;omega⟩
     ·have g1:(n.mo n.tu).r=2:=g1;omega
   ·cases hl
theorem aaJ{B:Bt}{ep fr:Int}(h:(aU B ep fr).2=0):(aU B ep fr).1=B∨(¬(B.r=1∨B.r=2∨B.r=3)∧B.e<ep∧(aU B ep fr).1=⟨4,ep,fr,0,0,[]⟩):=by
 unfold aU at h⊢;split at h
 ·cases h
 ·rename_i h1;rw[if_neg h1];split at h
  ·cases h
  ·rename_i h2;rw[if_neg h2];split at h
   ·cases h
   ·rename_i h3;rw[if_neg h3];split at h
    ·rename_i h4;rw[if_pos h4];exact .inl rfl
    ·rename_i h4;rw[if_neg h4];split at h
     ·cases h
     ·rename_i h5;rw[if_neg h5];exact .inr ⟨h3,by omega,rfl⟩
theorem aaW{B:Bt}{ep CY:Int}{l:List Ev}{la:Bool}(h:(bj B ep CY l la).2=0):B.e=ep:=by
 unfold bj at h;split at h
 ·cases h
 split at h
 ·cases h
 split at h
 ·cases h
 ·rename_i g;exact Ay.1 g
theorem aaX{B:Bt}{ep:Int}(h:(bG B ep).2=0):B.e<ep:=by
 unfold bG at h;split at h
 ·cases h
 split at h
 ·cases h
 split at h
 ·cases h
 ·omega
theorem PQ.ZM(h:PQ G q (ns,s))(hi:i<5){n:Nd}(hn:ns i=n)(zM:n.i=i)(hu:n.up=true)(ha:n.af=none)(ok:∀q,q<4→(n.mo q).Ok){l:Lt}(hw:mD l)(hl:l.q=q→LC q ns (s.pn q) (s.pe q) l∧(l.kd=4→l.dst=i)):PQ G q (au ns i (cJ n s l).1,(cJ n s l).2):=by
 have me:Pos (ns i) q (n.mo q).r (n.mo q).e (n.mo q).t:=hn▸Pos.mo hu q;have h':Pq G q ns (s.pn q) (s.pe q) s.fl:=h;have o:=h'.p i hi _ _ _ me;have idle:PQ G q (au ns i n,s):=by rw[←hn,qN];exact h
 have wr:∀{m:Nd} {a:Af} {rs:List Rec},m.up=true→m.wt=n.wt→(∀r e t,Pos m q r e t→Pos n q r e t)→(∀B,Cv a=some (q,B)→Pos n q B.r B.e B.t∨Fn q ns (s.pn q) (s.pe q) i B.r B.e B.t)→PQ G q (au ns i ((pA m a rs).getD m),s):=fun {m a rs} hm lV hp hB=>h.node hi (fun r e t hp1=>by
  rw[hn];rcases abz hm hp1 with g|⟨B,g1,rfl,rfl,rfl⟩
  ·exact .inl (hp r e t g)
  ·exact hB B g1) (by rw[ab4,lV,hn])
 have CM:∀{r e t:Int},aaz q ns (s.pn q) (s.pe q) i r e t→(∀ep,(ep<(n.mo q).e∨((n.mo q).e=ep∧¬(n.mo q).r=4))→ep<e∨(e=ep∧¬r=4))→¬((n.mo q).r=3∧(n.mo q).e=s.pe q)→¬((n.mo q).r=1∧(n.mo q).e=s.pe q+1)→(∀ep,(ep<(n.mo q).e∨((n.mo q).e=ep∧((n.mo q).r=3∨(n.mo q).r=0)))→ep<e∨(e=ep∧(r=3∨r=0)))→Fn q ns (s.pn q) (s.pe q) i r e t:=fun o' g1 g2 g3 g4=>⟨o',fun ep g=>g1 ep (g _ _ _ me),fun g=>g2 (g _ _ _ me),fun g=>g3 (g _ _ _ me),fun ep g=>g4 ep (g _ _ _ me)⟩;unfold cJ;split
 ·
  unfold gy;split
  ·exact idle.aaV rfl rfl rfl fun _=> .plain (by show ¬(1:Int)=2;decide) (by show ¬(1:Int)=4;decide) (by show ¬(1:Int)=5;decide) (by show ¬(1:Int)=7;decide)
  have bw:∀an,PQ G q (au ns i n,iy n s l an):=fun an=>idle.aaV rfl rfl rfl fun _=> .plain (by show ¬(1:Int)=2;decide) (by show ¬(1:Int)=4;decide) (by show ¬(1:Int)=5;decide) (by show ¬(1:Int)=7;decide);split
  ·exact bw _
  split
  ·rename_i n' e;have:=wr (m:=n) (a:= .serve l (dt (n.mo l.q) l.op).2.1) (rs:=[⟨2,l.q,(n.mo l.q).e,0,l.op⟩]) hu rfl (fun _ _ _ g=>g) fun B g=>by cases g
   rw[e]at this;exact this
  ·exact bw _
 split
 ·
  rename_i k2;unfold jL;split
  ·exact idle
  rename_i hb;split
  ·exact idle.aaV rfl rfl rfl fun _=> .plain (by show ¬(3:Int)=2;decide) (by show ¬(3:Int)=4;decide) (by show ¬(3:Int)=5;decide) (by show ¬(3:Int)=7;decide)
  rename_i he;refine wr hu rfl (fun _ _ _ g=>g) fun B g=> ?_;have g:some (l.q,_)=some (q,B):=g;injection g with g
  obtain⟨rfl,rfl⟩:=AR g;rcases aaJ (Ay.1 hb)with e|⟨h1,h2,e⟩
  ·rw[e]at he;exact absurd rfl he
  rw[e];have JZ:=(hl rfl).1.1 k2;exact .inr (CM ⟨fun _=> .inr rfl,JZ,fun g=>(by have g:(4:Int)=2∨(4:Int)=3:=g;omega),fun g=>(by have g:(4:Int)=1∨(4:Int)=2∨(4:Int)=3:=g;omega),fun g=>(by have g:(4:Int)=1∨(4:Int)=2:=g;omega),fun g=>(by have g:(4:Int)=1:=g;omega),fun g=>(by have g:(4:Int)=3:=g;omega),fun g=>(by have:=o.x g;omega)⟩ (fun ep g=> .inl (by show ep<l.ep;omega)) (by omega) (by omega) (fun ep g=> .inl (by show ep<l.ep;omega)))
 split
 ·
  unfold h_;split
  ·exact idle
  split
  ·exact idle
  rename_i hc;have hc:=Ay.1 hc;obtain⟨hr,CI⟩:=uk (ok l.q hw.q) hc;split
  ·rename_i he;have hs:(bf (n.mo l.q) l.pl).1.r=(n.mo l.q).r∧(bf (n.mo l.q) l.pl).1.e=(n.mo l.q).e∧(bf (n.mo l.q) l.pl).1.t=(n.mo l.q).t:=by
    rcases CI with⟨_,e⟩|⟨h2,e⟩|⟨_,e⟩
    ·rw[e];exact⟨rfl,rfl,rfl⟩
    ·rw[e]at he;have he:(3:Int)=(n.mo l.q).r:=he;omega
    ·rw[e];exact⟨rfl,rfl,rfl⟩
   have h2:PQ G q (au ns i {n with mo:=au n.mo l.q (bf (n.mo l.q) l.pl).1},s):=h.node hi (fun r e t hp=> .inl (by
    rw[hn];refine aaf (n':={n with mo:=au n.mo l.q (bf (n.mo l.q) l.pl).1}) hu hu ?_ (fun _ _ g _=>rfl) hp;by_cases e1:q=l.q
    ·subst e1;show(au n.mo l.q _ l.q).r=_∧(au n.mo l.q _ l.q).e=_∧(au n.mo l.q _ l.q).t=_;rw[az];exact hs
    ·show(au n.mo l.q _ q).r=_∧(au n.mo l.q _ q).e=_∧(au n.mo l.q _ q).t=_
     rw[bD e1];exact⟨rfl,rfl,rfl⟩)) (by rw[hn])
   exact h2.part hi (az ..) zM hu ha l.q l.pl
  ·rename_i he;refine wr hu rfl (fun _ _ _ g=>g) fun B g=> ?_;have g:some (l.q,_)=some (q,B):=g;injection g with g
   obtain⟨rfl,rfl⟩:=AR g;rcases CI with⟨_,e⟩|⟨h2,e⟩|⟨_,e⟩
   ·rw[e]at he;exact absurd rfl he
   ·rw[e];have hd:=o.d (.inr h2);have CE:=o.a2 (.inl h2);exact .inr (CM ⟨fun g=>(by have:=o.z g;omega),(by show(n.mo l.q).e≤_;omega),fun _=>CE,fun _=>o.b (.inr (.inl h2)),fun g=>(by have g:(3:Int)=1∨(3:Int)=2:=g;omega),fun g=>(by have g:(3:Int)=1:=g;omega),fun _ g=>(by have g:(n.mo l.q).e<_:=g;omega),fun g=>(by have:=o.x g;exact⟨.inr (.inr rfl),this.2⟩)⟩ (fun ep g=>(by show ep<(n.mo l.q).e∨((n.mo l.q).e=ep∧¬(3:Int)=4);omega)) (by omega) (by omega) (fun ep g=>(by show ep<(n.mo l.q).e∨((n.mo l.q).e=ep∧((3:Int)=3∨(3:Int)=0));omega)))
   ·rw[e]at he;exact absurd rfl he
 split
 ·
  rename_i k4;unfold takeN;split
  ·exact idle
  rename_i hc;have hc:=Ay.1 hc;split
  ·exact idle
  refine wr hu rfl (fun _ _ _ g=>g) fun B g=> ?_;have g:some (l.q,_)=some (q,B):=g;injection g with g
  obtain⟨rfl,rfl⟩:=AR g;obtain⟨_,h4,_,new,e⟩:=FX hc;have JZ:=aaW hc;rw[e];obtain⟨Rn,hdst⟩:=hl rfl;cases Cz:l.la with
  |false=>exact .inl (hn▸me)
  |true=>
   have Rn:=Rn.2.1 k4 Cz;rw[hdst k4]at Rn;rcases Rn with⟨e1,e2⟩|⟨e1,e2⟩
   ·have e3:(n.mo l.q).e=s.pe l.q+1:=JZ.trans e1;refine .inr (CM (r:=1) (e:=(n.mo l.q).e) (t:=0) ⟨fun g=>(by have:=e2.1;omega),(by omega),fun g=>(by omega),fun _ g=>(by omega),fun _=>(by omega),fun _ _=>e2,fun g=>(by omega),fun g=>(by have:=o.x g;omega)⟩ (fun ep g=>(by omega)) (by omega) (by omega) (fun ep g=>(by omega)))
   ·rw[AO]at e2;have:=e2 _ _ _ me;omega
 ·
  rename_i k0 k2 k3 k4;have k7:l.kd=7:=by have:=hw.kd;omega
  unfold jM;have hh:(eJ n l).up=true∧(eJ n l).wt=n.wt∧∀r e t,Pos (eJ n l) q r e t→Pos n q r e t:=by
   unfold eJ;split
   ·exact⟨hu,rfl,fun r e t hp=>aaf (n':={n with hn:=au n.hn l.q l.pn,he:=au n.he l.q l.pe}) hu hu ⟨rfl,rfl,rfl⟩ (fun _ _ _ _=>rfl) hp⟩
   ·exact⟨hu,rfl,fun _ _ _ g=>g⟩
  split
  ·rename_i hf;refine wr hh.1 hh.2.1 hh.2.2 fun B g=> ?_;have g:some (l.q,_)=some (q,B):=g;injection g with g
   obtain⟨rfl,rfl⟩:=AR g;obtain⟨h3,e⟩:=FW hf;have hfe:=aaX hf;have h7:=(hl rfl).1.2.2.2 k7;rw[e];exact .inr (CM (r:=0) (e:=(n.mo l.q).e) (t:=0) ⟨fun _=> .inl rfl,o.a,fun g=>(by omega),fun g=>(by omega),fun g=>(by omega),fun g=>(by omega),fun g=>(by omega),fun g=>(by have:=o.x g;omega)⟩ (fun ep g=>(by omega)) (by omega) (by omega) (fun ep g=>(by omega)))
  ·exact h.node hi (fun r e t hp=> .inl (by rw[hn];exact hh.2.2 r e t hp)) (by rw[hh.2.1,hn])
end
theorem abi(n:Nd)(s:Ws)(l:Lt):(cJ n s l).1.wt=n.wt:=(sj n s l).1.2
section
variable{G:Nat→Int→Prop}{q i:Nat}
theorem PQ.work(hi:i<5):∀(k:Nat) (n:Nd) (s:Ws) (ns:Nat→Nd),PQ G q (ns,s)→ns i=n→n.i=i→n.up=true→n.af=none→Up n→(∀l∈n.wt,mD l)→PQ G q (au ns i (dX k n s).1,(dX k n s).2)
 |0,n,s,ns,h,hn,zM,hu,ha,_,_=>PQ.push hi 4 n ns h hn zM hu ha
 |k+1,n,s,ns,h,hn,zM,hu,ha,up,hw=>by
  unfold dX;split
  ·exact PQ.push hi 4 n ns h hn zM hu ha
  rename_i l ls e;have h':Pq G q ns (s.pn q) (s.pe q) s.fl:=h;have hl:l∈(ns i).wt:=by rw[hn,e];exact Aw
  have CH:∀x∈ls,x∈n.wt:=fun x hx=>by rw[e];exact AF _ hx
  have h1:Pq G q ns (s.pn q) (s.pe q) (s.fl++[l]):=Pq.send h' fun x hx hq=>by
   rw[Ab.1 hx]at hq⊢;exact(h'.w i hi l hl hq).1
  have h2:=Pq.move h1 hi (n':={n with wt:=ls}) (fun r e t hp=> .inl (by rw[hn];exact aaf (n:=n) (n':={n with wt:=ls}) hu hu ⟨rfl,rfl,rfl⟩ (fun _ _ _ _=>rfl) hp)) (fun x hx=> .inl (by rw[hn];exact CH x hx));have FF:mD l:=hw l (hn▸hl);have up2:Up {n with wt:=ls}:=up.congr rfl rfl rfl rfl;have h3:=PQ.ZM (q:=q) (i:=i) (ns:=au ns i {n with wt:=ls}) (s:=s) (h2.less fun x hx=>Br _ hx) hi (az ..) zM hu ha up2.mo FF fun hq=>⟨h2.l l (Bo _ Aw) hq,(h'.w i hi l hl hq).2⟩;rw[sx]at h3;obtain⟨g1,g2,g3,_⟩:=M4 (s:=s) (l:=l) up2 ha FF;split
  ·exact h3
  ·rename_i hs;have CE:(cJ {n with wt:=ls} s l).1.af=none:=by
    cases hx:(cJ {n with wt:=ls} s l).1.af with
    |none=>rfl
    |some a=>rw[hx]at hs;exact absurd rfl hs
   have h4:=PQ.work hi k _ _ _ h3 (az ..) (g3.trans zM) (g2.trans hu) CE g1 (fun x hx=>by rw[abi]at hx;exact hw x (CH x hx));rw[sx]at h4;exact h4
theorem aaE{n n':Nd}(hu:n.up=true)(Cx:n'.up=true)(CC:n'.af=none)(hm:∀q,((n'.mo q).r=(n.mo q).r∧(n'.mo q).e=(n.mo q).e∧(n'.mo q).t=(n.mo q).t)∨∃a,n.af=some a∧Cv a=some (q,n'.mo q)∧¬(n'.mo q).r=2){r e t:Int}(h:Pos n' q r e t):Pos n q r e t:=by
 rcases hm q with g|⟨a,g1,g2,g3⟩
 ·exact aaf hu Cx g (fun a B h1 _=>by rw[CC]at h1;cases h1) h
 ·rcases h.calm Cx CC with g|⟨g,_⟩
  ·exact .inl ⟨hu,.inr (.inr ⟨a,_,g1,g2,g⟩)⟩
  ·exact absurd g g3
theorem PQ.step{ns:Nat→Nd}{s:Ws}(h:PQ G q (ns,s))(hi:i<5)(hN:NI i (ns i)):PQ G q (au ns i (eK (ns i) s).1,(eK (ns i) s).2):=by
 by_cases hu:(ns i).up=false
 ·rw[qK hu,qN];exact h
 have hu:(ns i).up=true:=by simpa using hu
 have up:=hN.up hu;cases ha:(ns i).af with
 |none=>
  rw[nQ hu ha];exact PQ.work hi _ _ s ns h rfl hN.i hu ha up hN.wt
 |some a=>
  rw[qL hu ha];obtain⟨dO,dH,Bs,_,_,_,_,e5⟩:=up.ex;rcases e5 with⟨e,_⟩|⟨a',q',D,e,pd⟩
  ·rw[ha]at e;cases e
  rw[ha]at e;cases e
  have hD:¬D.r=2:=abf pd.run (by
   by_cases g:((ns i).mo q').r=2
   ·rw[I7 g];show ¬(1:Int)=2;decide
   ·rw[kZ g];exact g)
  have put:∀q0 B,Cv a=some (q0,B)→¬B.r=2→PQ G q (au ns i {ns i with sy:=(ns i).dl.length,af:=none,mo:=au (ns i).mo q0 B},s):=fun q0 B g1 g2=>h.node hi (fun r e t hp=> .inl (aaE hu (n':={ns i with sy:=(ns i).dl.length,af:=none,mo:=au (ns i).mo q0 B}) hu rfl (fun p=>by
   show((au (ns i).mo q0 B p).r=_∧(au (ns i).mo q0 B p).e=_∧(au (ns i).mo q0 B p).t=_)∨∃a,(ns i).af=some a∧Cv a=some (p,au (ns i).mo q0 B p)∧¬(au (ns i).mo q0 B p).r=2;by_cases g:p=q0
   ·subst g;rw[az];exact .inr ⟨a,ha,g1,g2⟩
   ·rw[bD g]
    exact .inl ⟨rfl,rfl,rfl⟩) hp)) rfl
  have p3:∀{ns':Nat→Nd} {s':Ws} {l:Lt},PQ G q (ns',s)→s'.pn=s.pn→s'.pe=s.pe→s'.fl=s.fl++[l]→l.kd=3∨l.kd=1→PQ G q (ns',s'):=fun {ns' s' l} g e1 e2 e3 hk=>g.aaV e1 e2 e3 fun _=> .plain (by omega) (by omega) (by omega) (by omega);have OY:=pd.af;cases a with
  |serve l an=>
   obtain⟨rfl,hr,Jt,_⟩:=OY;have e1:(dt ((ns i).mo l.q) l.op).1=((ns i).mo l.q).more [l.op]:=by rw[o_ Jt]
   refine p3 (l:=mq l.nu an (-1) 0) (ns':=au ns i {ns i with sy:=(ns i).dl.length,af:=none,mo:=au (ns i).mo l.q (dt ((ns i).mo l.q) l.op).1}) ?_ rfl rfl rfl (.inr rfl);rw[e1];refine h.node hi (fun r e t hp=> .inl (aaE hu (n':={ns i with sy:=(ns i).dl.length,af:=none,mo:=au (ns i).mo l.q (((ns i).mo l.q).more [l.op])}) hu rfl (fun p=> ?_) hp)) rfl;show((au (ns i).mo l.q (((ns i).mo l.q).more [l.op]) p).r=_∧(au (ns i).mo l.q (((ns i).mo l.q).more [l.op]) p).e=_∧(au (ns i).mo l.q (((ns i).mo l.q).more [l.op]) p).t=_)∨_;by_cases g:p=l.q
   ·subst g;rw[az];exact .inl ⟨rfl,rfl,rfl⟩
   ·rw[bD g];exact .inl ⟨rfl,rfl,rfl⟩
  |begin l B=>
   obtain⟨rfl,_,rfl⟩:=OY;exact p3 (put l.q D rfl hD) rfl rfl rfl (.inl rfl)
  |shut l B=>
   obtain⟨rfl,_,rfl⟩:=OY;exact PQ.part (put l.q D rfl hD) hi (az ..) hN.i hu rfl l.q l.pl
  |take l B=>
   obtain⟨rfl,_,rfl⟩:=OY;have g:=put l.q D rfl hD;show PQ G q (_,if D.r=1 then _ else _);split
   ·exact g.same rfl rfl rfl
   ·exact p3 g rfl rfl rfl (.inl rfl)
  |kG q0 B=>
   obtain⟨rfl,_,rfl⟩:=OY;exact put q0 D rfl hD
theorem PQ.E3{ns:Nat→Nd}{s:Ws}{l:Lt}(ok:Ja l)(dir:de s.pn s.pe)(mZ:q<4):∃L,(bH ns s l).2.fl=s.fl++L∧∀F,Pq G q ns (s.pn q) (s.pe q) F→l∈F→Pq G q (bH ns s l).1 ((bH ns s l).2.pn q) ((bH ns s l).2.pe q) (F++L):=by
 have pl:∀{ns:Nat→Nd} {pn pe:Int} {F:List Lt} {a b:Int},Pq G q ns pn pe F→(l.q=q→b≤pe)→Pq G q ns pn pe (F++[qa l.fr l.q a b]):=fun {ns pn pe F a b} g hb=>Pq.send g fun x hx hq=>by
  rw[Ab.1 hx]at hq⊢;exact⟨fun g=>(by cases g),fun g=>(by cases g),fun g=>(by cases g),fun _=>hb hq⟩
 unfold bH;split
 ·exact⟨[],(As _).symm,fun F h _=>by rw[As];exact h⟩
 split
 ·rename_i k5;unfold g_;split
  ·rename_i hc;obtain⟨_,Ms,hg⟩:=hc;refine⟨[qa l.fr l.q (cB s.pn l.q l.fr l.q) (cB s.pe l.q (s.pe l.q+1) l.q)],rfl,fun F h hF=> ?_⟩;show Pq G q ns (cB s.pn l.q l.fr q) (cB s.pe l.q (s.pe l.q+1) q) (F++_);by_cases e:l.q=q
   ·subst e;have ed:∀(f:tH) x,cB f l.q x l.q=x:=fun f x=>if_pos rfl;rw[ed,ed];unfold yo at hg;split at hg
    ·omega
    split at hg
    ·omega
    have hd:=dir l.q mZ;unfold Ho at hd;rcases(h.l l hF rfl).2.2.1 k5 with g|⟨_,g⟩
    ·omega
    ·exact pl (h.flip ok.f0 ok.f5 (by omega) (by omega) g) fun _=>Bq _
   ·have ed:∀(f:tH) x,cB f l.q x q=f q:=fun f x=>if_neg fun g=>e g.symm;rw[ed,ed];exact pl h fun g=>absurd g e
  ·exact⟨[qa l.fr l.q (s.pn l.q) (s.pe l.q)],rfl,fun F h hF=>pl h fun g=>by rw[g];exact Bq _⟩
 split
 ·exact⟨[qa l.fr l.q (s.pn l.q) (s.pe l.q)],rfl,fun F h hF=>pl h fun g=>by rw[g];exact Bq _⟩
 ·rename_i k1 k5 k6;refine⟨[],(As _).symm,fun F h hF=> ?_⟩;rw[As];obtain⟨_,hd0,hd5⟩:mD l∧0≤l.dst∧l.dst<5:=by
   rcases ok.ok.kd with g|⟨g,_⟩|⟨g,_⟩|g
   ·exact absurd g k1
   ·exact absurd g k5
   ·exact absurd g k6
   ·exact g
  show Pq G q (au ns l.dst.toNat _) (s.pn q) (s.pe q) F;by_cases hu:(ns l.dst.toNat).up=true
  ·rw[if_pos hu];refine Pq.move h (by omega) (fun r e t hp=> .inl (aaf (n':={ns l.dst.toNat with wt:=(ns l.dst.toNat).wt++[l]}) hu hu ⟨rfl,rfl,rfl⟩ (fun _ _ _ _=>rfl) hp)) fun x hx=> ?_;rcases Ao.1 hx with hx|hx
   ·exact .inl hx
   ·rw[Ab.1 hx];exact .inr fun hq=>⟨h.l l hF hq,fun _=>by omega⟩
  ·rw[if_neg hu,qN];exact h
theorem aa3(mZ:q<4):∀(ls:List Lt) {p0:(Nat→Nd)×Ws} {m:Nat} (p:(Nat→Nd)×Ws),Cm p0 p m→(∀l∈ls,Ja l)→Pq G q p.1 (p.2.pn q) (p.2.pe q) (p.2.fl++ls)→PQ G q (ls.foldl (fun p l=>bH p.1 p.2 l) p)
 |[],_,_,p,_,_,h=>by rw[As]at h;exact h
 |l::ls,_,_,p,hc,hl,h=>by
  rw[BR];obtain⟨L,e,hF⟩:=PQ.E3 (q:=q) (ns:=p.1) (s:=p.2) (hl l Aw) hc.dir mZ;refine aa3 mZ ls _ (M_ hc (hl l Aw)) (fun x hx=>hl x (AF _ hx)) ((hF _ h (Bo _ Aw)).less fun x hx=> ?_);rw[e]at hx;rcases Ao.1 hx with hx|hx
  ·rcases Ao.1 hx with hx|hx
   ·exact Br _ (Br _ hx)
   ·exact Bo _ hx
  ·exact Br _ (Bo _ (AF _ hx))
theorem PQ.make{ns:Nat→Nd}{s:Ws}(h:PQ G q (ns,s))(hi:i<5)(hN:NI i (ns i))(vu:∀l∈s.fl,Ja l)(CF:∀j,j<5→NI j (ns j)){q0:Nat}(hq0:q0<4):PQ G q (au ns i (bP (ns i) s q0).1,(bP (ns i) s q0).2):=by
 unfold bP;split
 case isFalse=>rw[qN];exact h
 rename_i hc;obtain⟨⟨hd,Ms⟩,hu,ha,hm,_⟩:=hc;have h':Pq G q ns (s.pn q) (s.pe q) s.fl:=h;obtain⟨n',sC,Cx,CC,CK,hm'⟩:∃n':Nd,n'={ns i with dl:=(ns i).dl++bI [aB q0],sy:=(((ns i).dl.length+(bI [aB q0]).length:Nat):Int),mo:=au (ns i).mo q0 ⟨1,1,0,0,0,[]⟩}∧n'.up=true∧n'.af=none∧n'.wt=(ns i).wt∧n'.mo=au (ns i).mo q0 ⟨1,1,0,0,0,[]⟩:=⟨_,rfl,hu,ha,rfl,rfl⟩;show Pq G q (au ns i {ns i with dl:=(ns i).dl++bI [aB q0],sy:=(((ns i).dl.length+(bI [aB q0]).length:Nat):Int),mo:=au (ns i).mo q0 ⟨1,1,0,0,0,[]⟩}) (cB s.pn q0 (ns i).i q) (cB s.pe q0 1 q) s.fl;rw[←sC];clear sC;by_cases e:q=q0
 case neg=>
  have ed:∀(f:tH) x,cB f q0 x q=f q:=fun f x=>if_neg e;rw[ed,ed]
  exact h.node hi (fun r e1 t hp=> .inl (aaf hu Cx (by
   rw[hm',bD e];exact⟨rfl,rfl,rfl⟩) (fun a B g _=>by rw[CC]at g;cases g) hp)) CK
 subst e;have ed:∀(f:tH) x,cB f q x q=x:=fun f x=>if_pos rfl;rw[ed,ed,hN.i];have Tp:s.pe q=0:=by
  have:=hd q hq0;unfold Ho at this;omega
 rw[Ms,Tp]at h';have me:∀{r e t:Int},Pos n' q r e t→r=1∧e=1:=fun {r e t} hp=>by
  have hx:=hp.calm Cx CC;rw[hm',az]at hx;rcases hx with⟨g1,g2,_⟩|⟨g1,_⟩
  ·exact⟨g1,g2⟩
  ·cases g1
 have tL:∀l,(l.kd=5→l.fr.toNat<5)→LC q ns (-1) 0 l→LC q (au ns i n') i 1 l:=fun l h5 hl=>⟨fun g=>by have:=hl.1 g;omega,fun g1 g2=> .inr (by
  rcases hl.2.1 g1 g2 with⟨_,g,_⟩|⟨g,gn⟩
  ·omega
  ·refine⟨by omega,fun r e t hp=> ?_⟩;by_cases e1:l.dst.toNat=i
   ·rw[e1,az]at hp;have:=me hp;omega
   ·rw[bD e1]at hp;exact gn r e t hp),fun g=> .inl (by
  rcases hl.2.2.1 g with g1|⟨_,g1⟩
  ·omega
  ·have v:=Pos.vis (ns l.fr.toNat) q;have:=g1 _ _ _ v;have:=(h'.p _ (h5 g) _ _ _ v).z rfl
   omega),fun g=>by have:=hl.2.2.2 g;omega⟩
 refine⟨fun j hj r e t hp=> ?_,fun l hl hq=>tL l (fun _=>by have:=(vu l hl).f0;have:=(vu l hl).f5;omega) (h'.l l hl hq),fun j hj l hl hq=> ?_,fun j hj ep g=>⟨(h'.k j hj ep g).1,fun r e t hp=> ?_⟩⟩
 ·by_cases e1:j=i
  ·subst e1;rw[az]at hp;obtain⟨rfl,rfl⟩:=me hp;exact⟨fun g=>by omega,by omega,fun g=>by omega,fun _ _=>rfl,fun _=>Bq _,fun _ g=>by omega,fun g=>by omega,fun _=>⟨.inl rfl,rfl⟩⟩
  ·rw[bD e1]at hp;have o:=h'.p j hj r e t hp;have z:=o.z rfl;exact⟨fun g=>by omega,by have:=o.a;omega,fun g=>by omega,fun g=>by omega,fun g=>by omega,fun g=>by omega,fun g=>by omega,fun g=>by omega⟩
 ·have hw:l∈(ns j).wt:=by
   by_cases e1:j=i
   ·subst e1;rw[az,CK]at hl;exact hl
   ·rw[bD e1]at hl;exact hl
  have:=h'.w j hj l hw hq;exact⟨tL l (fun g=>by have:=((CF j hj).wt l hw).kd;omega) this.1,this.2⟩
 ·obtain⟨k1,k2⟩:=h'.k j hj ep g;by_cases e1:j=i
  ·subst e1;rw[az]at hp;have CJ:((ns j).mo q).e<1:=by
    unfold dS at hm;split at hm
    ·cases hm
    split at hm
    ·cases hm
    split at hm
    ·cases hm
    split at hm
    ·cases hm
    ·omega
   have:=k2 _ _ _ (Pos.mo hu q);omega
  ·rw[bD e1]at hp;exact k2 r e t hp
theorem aaY{B:Bt}{nd:Int}(h:(dT B nd).2=0):B.r=1∧(dT B nd).1=⟨2,B.e,B.f,nd,B.o,B.es⟩:=by
 unfold dT at h⊢;split at h
 ·cases h
 ·rename_i h1;rw[if_neg h1];split at h
  ·cases h
  ·rename_i h2;rw[if_neg h2];split at h
   ·cases h
   ·rename_i h3;rw[if_neg h3];split at h
    ·cases h
    ·rename_i h4;rw[if_neg h4];split at h
     ·cases h
     ·rename_i h5;rw[if_neg h5];exact⟨Ay.1 h4,rfl⟩
theorem abB{k:Nat}{p:(Nat→Nd)×Ws}(h:Inv k p){f:tH}(ok:YM f)(mZ:q<4)(P:PQ G q p):PQ G q (dB p f):=by
 obtain⟨ns,s⟩:=p;have hi:(f 1).toNat<5:=by have:=ok.n;omega
 have hq:(f 2).toNat<4:=by have:=ok.q;omega
 have UZ:=ok.kp;have hN:=h.n _ hi;have CF:=h.n;have vu:=h.fl;have Xf:=h.dir;have P':Pq G q ns (s.pn q) (s.pe q) s.fl:=P;unfold dB;generalize(f 1).toNat=n,(f 2).toNat=q0,(f 3).toNat=j,f 4=kp,(⟨f 5,f 6,f 7,f 8,f 9,f 10⟩:Ev)=e,f 0=k at*;dsimp only at hN CF vu Xf⊢;unfold U2;split
 ·exact P.make hi hN vu CF hq
 split
 ·exact P.aaV rfl rfl rfl fun _=> .plain (by show ¬(0:Int)=2;decide) (by show ¬(0:Int)=4;decide) (by show ¬(0:Int)=5;decide) (by show ¬(0:Int)=7;decide)
 split
 ·exact P.step hi hN
 split
 ·unfold eM;split
  ·exact P
  rename_i l hl;have hm:=Ap hl;have less:∀s':Ws,s'=(if k=6 then s else {s with fl:=s.fl.eraseIdx (j % s.fl.length)})→s'.pn=s.pn∧s'.pe=s.pe∧∀x∈s'.fl,x∈s.fl:=by
   rintro s' rfl;split
   ·exact⟨rfl,rfl,fun _ g=>g⟩
   ·exact⟨rfl,rfl,fun x g=>Ci g⟩
  obtain⟨l1,l2,l3⟩:=less _ rfl;generalize(if k=6 then s else {s with fl:=s.fl.eraseIdx (j % s.fl.length)})=s' at l1 l2 l3⊢;split
  ·show Pq G q ns (s'.pn q) (s'.pe q) s'.fl;rw[l1,l2];exact P'.less l3
  ·obtain⟨L,e1,e2⟩:=PQ.E3 (q:=q) (ns:=ns) (s:=s') (vu l hm) (by rw[l1,l2];exact Xf) mZ;show Pq G q (bH ns s' l).1 _ _ (bH ns s' l).2.fl;rw[e1];refine(e2 s.fl (by rw[l1,l2];exact P') hm).less fun x hx=> ?_;rcases Ao.1 hx with hx|hx
   ·exact Br _ (l3 x hx)
   ·exact Bo _ hx
 split
 ·exact aa3 mZ s.fl (p0:=(ns,{s with fl:=[]})) (m:=0) (ns,{s with fl:=[]}) ⟨h.n,(fun l hl=>by cases hl),Xf,Aa _,rfl,Aa _,rfl⟩ vu P'
 split
 ·show PQ G q (au ns n (mW (ns n) kp),s);unfold mW;split
  ·rename_i hu;exact Pq.move P' hi (fun r e t hp=> .inl (aaT (hN.up hu) hu hN.ln UZ.1 mZ hp)) fun l hl=>by cases hl
  ·rw[qN];exact P
 split
 ·have e1:(ee (ns n) s).2.pn=s.pn∧(ee (ns n) s).2.pe=s.pe∧(ee (ns n) s).2.fl=s.fl∧∀l∈(ee (ns n) s).1.wt,l∈(ns n).wt:=by
   unfold ee;split
   ·exact⟨rfl,rfl,rfl,fun _ g=>g⟩
   split
   ·unfold jP;split
    ·exact⟨rfl,rfl,rfl,fun _ g=>by cases g⟩
    ·exact⟨rfl,rfl,rfl,fun _ g=>g⟩
   ·exact⟨rfl,rfl,rfl,fun _ g=>g⟩
  have h1:PQ G q (au ns n (ee (ns n) s).1,s):=Pq.move P' hi (fun r e t hp=> .inl (aaU hN.dw hN.ln mZ hp)) fun l hl=> .inl (e1.2.2.2 l hl);exact h1.same e1.1 e1.2.1 e1.2.2.1
 ·show PQ G q (au ns (s.pn q0).toNat (nT (ns (s.pn q0).toNat) s q0 n),s);unfold nT;split
  ·rw[qN];exact P
  rename_i hc;have hd:=Xf q0 hq;unfold Ho at hd;have c1:¬s.pn q0= -1:=fun g=>hc (.inl g);have Ya:(s.pn q0).toNat<5:=by omega
  have C9:(ns (s.pn q0).toNat).up=true:=by
   cases hx:(ns (s.pn q0).toNat).up with
   |true=>rfl
   |false=>exact absurd (.inr (.inr (.inl hx))) hc
  have c4:((ns (s.pn q0).toNat).mo q0).e=s.pe q0:=Ay.1 fun g=>hc (.inr (.inr (.inr (.inl g))));have c5:(dT ((ns (s.pn q0).toNat).mo q0) n).2=0:=Ay.1 fun g=>hc (.inr (.inr (.inr (.inr g))));obtain⟨g1,g2⟩:=aaY c5;rw[g2];refine P.node Ya (fun r e t hp=> ?_) rfl;by_cases eq:q=q0
  case neg=>
   left;refine aaf (n:=ns (s.pn q0).toNat) (n':={ns (s.pn q0).toNat with mo:=au (ns (s.pn q0).toNat).mo q0 ⟨2,((ns (s.pn q0).toNat).mo q0).e,((ns (s.pn q0).toNat).mo q0).f,n,((ns (s.pn q0).toNat).mo q0).o,((ns (s.pn q0).toNat).mo q0).es⟩}) C9 C9 ?_ (fun _ _ _ _=>rfl) hp;show(au (ns (s.pn q0).toNat).mo q0 _ q).r=_∧(au (ns (s.pn q0).toNat).mo q0 _ q).e=_∧(au (ns (s.pn q0).toNat).mo q0 _ q).t=_;rw[bD eq];exact⟨rfl,rfl,rfl⟩
  subst eq;have me:=Pos.mo C9 q;have o:=P'.p _ Ya _ _ _ me;have CJ:au (ns (s.pn q).toNat).mo q (⟨2,((ns (s.pn q).toNat).mo q).e,((ns (s.pn q).toNat).mo q).f,n,((ns (s.pn q).toNat).mo q).o,((ns (s.pn q).toNat).mo q).es⟩:Bt) q=_:=az ..;rcases hp with⟨_,hp|⟨_,hp⟩|⟨a,B,hp,hp2⟩⟩|⟨hp,_⟩
  ·have hp:r=(au (ns (s.pn q).toNat).mo q (⟨2,((ns (s.pn q).toNat).mo q).e,((ns (s.pn q).toNat).mo q).f,n,((ns (s.pn q).toNat).mo q).o,((ns (s.pn q).toNat).mo q).es⟩:Bt) q).r∧e=(au (ns (s.pn q).toNat).mo q (⟨2,((ns (s.pn q).toNat).mo q).e,((ns (s.pn q).toNat).mo q).f,n,((ns (s.pn q).toNat).mo q).o,((ns (s.pn q).toNat).mo q).es⟩:Bt) q).e∧t=_:=hp;rw[CJ]at hp;obtain⟨rfl,rfl,_⟩:=hp;right;refine⟨⟨fun g=>absurd g c1,o.a,fun _=>by show((ns (s.pn q).toNat).mo q).e≤_;omega,fun _=>o.b (.inl g1),fun _=>o.d (.inl g1),fun g=> ?_,fun g=> ?_,fun g=> ?_⟩,fun ep g=> ?_,fun g=> ?_,fun g=> ?_,fun ep g=> ?_⟩
   ·have g:(2:Int)=1:=g;omega
   ·have g:(2:Int)=3:=g;omega
   ·exact⟨.inr (.inl rfl),(o.x g).2⟩
   ·have:=g _ _ _ me;show ep<((ns (s.pn q).toNat).mo q).e∨(((ns (s.pn q).toNat).mo q).e=ep∧¬(2:Int)=4);omega
   ·have:=g _ _ _ me;omega
   ·have:=g _ _ _ me;omega
   ·have:=g _ _ _ me;show ep<((ns (s.pn q).toNat).mo q).e∨(((ns (s.pn q).toNat).mo q).e=ep∧((2:Int)=3∨(2:Int)=0));omega
  ·have hp:r=1∧e=(au (ns (s.pn q).toNat).mo q (⟨2,((ns (s.pn q).toNat).mo q).e,((ns (s.pn q).toNat).mo q).f,n,((ns (s.pn q).toNat).mo q).o,((ns (s.pn q).toNat).mo q).es⟩:Bt) q).e∧t=0:=hp;rw[CJ]at hp;obtain⟨rfl,rfl,rfl⟩:=hp;left;have okB:=(NI.up (CF _ Ya) C9).mo q hq;have hs:=okB.cO;unfold Bt.cH bB at hs;exact .inl ⟨C9,.inl ⟨g1.symm,rfl,by omega⟩⟩
  ·exact .inl (.inl ⟨C9,.inr (.inr ⟨a,B,hp,hp2⟩)⟩)
  ·have hp:(ns (s.pn q).toNat).up=false:=hp;rw[C9]at hp;cases hp
theorem pq0(mZ:q<4):PQ (fun _ _=>False) q (ph,MT):=by
 refine⟨fun i hi r e t hp=> ?_,(fun l hl=>by cases hl),(fun i hi l hl=>by cases hl),(fun i hi ep g=>by cases g)⟩;rcases hp.calm (show(ph i).up=true from rfl) rfl with⟨rfl,rfl,rfl⟩|⟨g,_⟩
 ·exact⟨fun _=> .inl rfl,by show(0:Int)≤0+1;decide,fun g=>by have g:(0:Int)=2∨(0:Int)=3:=g;omega,fun g=>by have g:(0:Int)=1∨(0:Int)=2∨(0:Int)=3:=g;omega,fun g=>by have g:(0:Int)=1∨(0:Int)=2:=g;omega,fun g=>by have g:(0:Int)=1:=g;omega,fun g=>by have g:(0:Int)=3:=g;omega,fun g=>by have g:((i:Nat):Int)= -1:=g.trans (if_pos mZ);omega⟩
 ·have g:(0:Int)=2:=g;omega
theorem aa4(mZ:q<4)(D:tG)(n:Nat)(hn:n≤100000)(ok:∀j,j<n→Lq.fw (Lq.aD D j)=0):∀k,k≤n→PQ (fun _ _=>False) q (bN D k)
 |0,_=>pq0 mZ
 |k+1,hk=>abB (gC D n hn ok k (by omega)) (vk (ok k (by omega))) mZ (aa4 mZ D n hn ok k (by omega))
theorem acK{p:(Nat→Nd)×Ws}(P:PQ G q p){i j:Nat}(hi:i<5)(hj:j<5)(h1:(TP (p.1 i) q).r=1∨(TP (p.1 i) q).r=2)(h2:(TP (p.1 j) q).r=1∨(TP (p.1 j) q).r=2):i=j:=by
 have v1:=Pos.vis (p.1 i) q;have v2:=Pos.vis (p.1 j) q;have o1:=P.p i hi _ _ _ v1;have o2:=P.p j hj _ _ _ v2;have a1:=o1.a;have a2:=o2.a;have d1:=o1.d h1;have d2:=o2.d h2;have sl:∀{k x:Nat},(TP (p.1 x) q).r=1∨(TP (p.1 x) q).r=2→x<5→Cw q p.1 (p.2.pn q) (p.2.pe q) k→¬(TP (p.1 x) q).e=p.2.pe q:=fun {k x} hx hx5 hs he=>by
  have hb:=(P.p x hx5 _ _ _ (Pos.vis (p.1 x) q)).b (by omega) he;have:=hs.2;rw[←hb,AO]at this;have:=(this _ _ _ (Pos.vis (p.1 x) q)).1;omega
 by_cases e1:(TP (p.1 i) q).e=p.2.pe q
 ·by_cases e2:(TP (p.1 j) q).e=p.2.pe q
  ·have b1:=o1.b (by omega) e1;have b2:=o2.b (by omega) e2;omega
  ·have r2:(TP (p.1 j) q).r=1:=by
    rcases h2 with g|g
    ·exact g
    ·have:=o2.a2 (.inl g);omega
   exact absurd e1 (sl h1 hi (o2.c r2 (by omega)))
 ·have r1:(TP (p.1 i) q).r=1:=by
   rcases h1 with g|g
   ·exact g
   ·have:=o1.a2 (.inl g);omega
  have s1:=o1.c r1 (by omega);by_cases e2:(TP (p.1 j) q).e=p.2.pe q
  ·exact absurd e2 (sl h2 hj s1)
  ·have r2:(TP (p.1 j) q).r=1:=by
    rcases h2 with g|g
    ·exact g
    ·have:=o2.a2 (.inl g);omega
   have s2:=o2.c r2 (by omega);have v:=Pos.vis (p.1 (p.2.pn q).toNat) q;have:=(s1.2 _ _ _ v).2.2;have:=(s2.2 _ _ _ v).2.2;omega
end
section
open Rv
def aa0(f:tQ):Nat→Nat
 |0=>0
 |n+1=>if f n=true then aa0 f n+1 else aa0 f n
theorem abb{f:tQ}:∀n,(∀i,i<n→¬f i=true)→aa0 f n=0
 |0,_=>rfl
 |n+1,h=>by rw[aa0,if_neg (h n (by omega)),abb n fun i hi=>h i (by omega)]
theorem abl{f:tQ}(h:∀i j,i<5→j<5→f i=true→f j=true→i=j):∀n,n≤5→aa0 f n≤1
 |0,_=>Ak _
 |n+1,hn=>by
  rw[aa0];split
  ·rename_i e;rw[abb n fun i hi g=>by have:=h i n (by omega) (by omega) g e;omega];exact Aa _
  ·exact abl h n (by omega)
theorem aa_(B:Bt)(a:tB)(c:Nat)(w:tA):cA 21 #[vF (bF B a c) 6] w (rB (.bool (decide (B.r=1∨B.r=2))) w):=by
 have ob:aS (bF B a c) 6:=fun i hi=>by
  match i,hi with
  |0,_|1,_|2,_|3,_|4,_|5,_=>rfl
 refine en (H:=[]) _ [vf 6 (bF B a c)] Tryz.func21 rfl rfl (m0 w) (r [] rfl fun _=> ?_);by_cases h1:B.r=1
 ·exact r [1] rfl fun _=>fin fun w hS=>⟨by rw[Aq (.inl h1)];rfl,hS.now.2⟩
 by_cases h2:B.r=2
 ·exact r [0,1] rfl fun _=>fin fun w hS=>⟨by rw[Aq (.inr h2)];rfl,hS.now.2⟩
 ·exact r [0,0] rfl fun _=>fin fun w hS=>⟨by rw[Ai (by omega)];rfl,hS.now.2⟩
theorem abj(w:tA)(hK:Lq.eV w)(a:tB)(len cap:Nat)(GD:tG)(h:RowK .i64 w a (5*len) GD)(qv:len≤cap)(pz:a=none→cap=0)(hs:cap*40≤140737488351232):cA 4 #[.slice a len cap] w (rB (.bool true) w):=by
 obtain⟨n,hn⟩:∃n,n=min len 60:=⟨_,rfl⟩;obtain⟨D,hDe⟩:∃D,a_ GD true n=D:=⟨_,rfl⟩;have eC:∀j,j<n+2→Lq.fw (Lq.aD D j)=0:=hDe▸fun j hj=>uu GD true n j hj;have sq:∀u∈D,0≤u∧u≤1000000:=hDe▸sB GD true n;have p_:∀k,k≤n+2→∀q,q<4→∀m,m≤5→aa0 (fun i=>decide (((c_ D k).bs i q).r=1∨((c_ D k).bs i q).r=2)) m≤1:=fun k hk q hq=>abl fun i j hi hj h1 h2=>acK (aa4 hq D (n+2) (by omega) eC k hk) hi hj (of_decide_eq_true h1) (of_decide_eq_true h2);refine en (H:=[]) _ [vv (.slice a len cap)] Tryz.func4 rfl rfl (m0 w) (r [] rfl fun _=> ?_);refine cx rfl (fun y:Option Addr×Nat=>vv (.slice y.1 (n+2) y.2)) (fun y=>n+2≤y.2∧∃b o,y.1=some ⟨b,o,none⟩) (fun y w=>RowK .i64 w y.1 (11*(n+2)) D) (fun w1 hS=>(kh a len cap 60 true GD w1 (h.below hS.now.2) (by omega) (by omega)).mono fun _ w2 ⟨v1,e,o1,b⟩=> ?_) ?_
 ·rw[←hn,hDe]at o1;obtain⟨a1,c1,rfl,r1,hc,_,_,ux⟩:=RowK.eO o1 fun u hu=>rG (sq u hu);obtain⟨b1,q1,rfl⟩:=r1.form (by omega);exact⟨(some ⟨b1,q1,none⟩,c1),e,b,⟨hc,_,_,rfl⟩,fun hl=>bW r1 ux hl⟩
 rintro⟨_,c1⟩ ⟨pr,b,o,rfl⟩;refine r [] rfl fun _=>cx rfl (fun y:Nat×Nat×(Nat→iJ)=>vt [.o (.slice (some ⟨y.1,0,none⟩) (n+2+1) y.2.1),.o (.bool true)]) (fun _=>True) (fun y w=>∀q,q<n+2+1→jQ w (c_ D q) (y.2.2 q)∧∀j,j<18→w.cell? ⟨y.1,0+q*18+j,none⟩=some (dP (c_ D q) (y.2.2 q) j)) (fun w1 hS=>(ur _ (n+2) c1 D w1 (hK.next hS.now.2) hS.now.1.2 pr (by omega) eC).mono fun _ w2 ⟨Y,c,ts,e,ho,b⟩=>⟨(Y,c,ts),e,b,trivial,fun hl w3 c3 q hq=>by simp only[Nat.zero_add];exact(ho.mono fun b _ hu=>hl b hu) w3 c3 q hq⟩) ?_;rintro⟨Y,c,ts⟩-;refine r [] rfl fun _=>EV (X:=Nat) (fun k=>[(3,vv (.slice (some ⟨Y,0,none⟩) (n+2+1) c)),(4,vv (.bool true)),(5,vi (k:Int))]) (fun _=>[]) (fun _ _=>False) (fun _ w'=>bZ w w') (fun k=>k≤n+3) (fun k=>n+3-k) 0 ⟨rfl,rfl,rfl,trivial⟩ (fun _ hS=>hS) (Ak _) ?_;rintro f k hk;have hk:k≤n+3:=hk;by_cases aM:k<n+3
 case neg=>
  obtain rfl:k=n+3:=by omega
  exact r [0] rfl fun _=>fin fun w hS=>⟨rfl,hS.now.2⟩
 refine r [1] rfl fun _=>EV (X:=Nat) (fun q=>[(3,vv (.slice (some ⟨Y,0,none⟩) (n+2+1) c)),(4,vv (.bool true)),(5,vi (k:Int)),(6,vi (q:Int))]) (fun _=>[]) (fun _ _=>False) (fun _ w'=>bZ w w') (fun q=>q≤2) (fun q=>2-q) 0 ⟨rfl,rfl,rfl,rfl,trivial⟩ (fun _ hS=>hS) (Ak _) ?_;rintro f2 q hq;have hq:q≤2:=hq;by_cases hq2:q<2
 case neg=>
  obtain rfl:q=2:=by omega
  exact rz [0,1] [((k+1:Nat):Int)] rfl fun _=>b_ (k+1) ⟨rfl,rfl,rfl,trivial⟩ (fun _ hS=>hS) aM (show n+3-(k+1)<n+3-k by omega)
 have h1:=p_ k (by omega) q (by omega);refine r [1] rfl fun _=>EV (X:=Nat×Nat) (fun x=>[(3,vv (.slice (some ⟨Y,0,none⟩) (n+2+1) c)),(4,vv (.bool true)),(5,vi (k:Int)),(6,vi (q:Int)),(7,vi (x.2:Int)),(8,vi (x.1:Int))]) (fun _=>[]) (fun _ _=>False) (fun _ w'=>bZ w w') (fun x=>x.1≤5∧x.2=aa0 (fun i=>decide (((c_ D k).bs i q).r=1∨((c_ D k).bs i q).r=2)) x.1) (fun x=>5-x.1) (0,0) ⟨rfl,rfl,rfl,rfl,rfl,rfl,trivial⟩ (fun _ hS=>hS) ⟨Ak _,rfl⟩ ?_;rintro f3 ⟨m,z⟩ ⟨hm,hz⟩;have hm:m≤5:=hm;have hz:z=aa0 _ m:=hz;have z1:z≤1:=by rw[hz];exact h1 m hm
 refine r [] rfl fun _=>Rv.l1 (q:=0+k*18+14) rfl (.slice (some ⟨(ts k).R,0,none⟩) 5 (ts k).c) (fun w hS=>(hS.now.1.2 k (by omega)).2 14 (by decide)) ?_;by_cases hm5:m<5
 case neg=>
  exact rz [0,0,1] [((q+1:Nat):Int)] rfl fun _=>b_ (q+1) ⟨rfl,rfl,rfl,rfl,trivial⟩ (fun _ hS=>hS) hq2 (show 2-(q+1)<2-q by omega)
 refine r [1] rfl fun _=>Rv.l1 (q:=0+k*18+14) rfl (.slice (some ⟨(ts k).R,0,none⟩) 5 (ts k).c) (fun w hS=>(hS.now.1.2 k (by omega)).2 14 (by decide)) ?_;refine r [] rfl fun _=>Rv.l1 (q:=0+m*1) rfl (.slice (some ⟨(ts k).Y m,0,none⟩) 4 ((ts k).C m)) (fun w hS=>ki (hS.now.1.2 k (by omega)).1 hm5) ?_;refine r [] rfl fun _=>lf (q:=0+q*6) rfl 6 (bF ((c_ D k).bs m q) ((ts k).A m q) ((ts k).K m q)) (fun w hS j hj=>iA (hS.now.1.2 k (by omega)).1 hm5 (by omega) j hj) ?_;obtain⟨g,hg⟩:∃g,g=decide (((c_ D k).bs m q).r=1∨((c_ D k).bs m q).r=2):=⟨_,rfl⟩;refine r [] rfl fun _=>Rv.cb rfl (vv (.bool g)) (fun w _=>hg▸aa_ _ _ _ w) ?_;cases g with
 |true=>exact rz [1,1] [((z+1:Nat):Int),((m+1:Nat):Int)] rfl fun _=>b_ (m+1,z+1) ⟨rfl,rfl,rfl,rfl,rfl,rfl,trivial⟩ (fun _ hS=>hS) ⟨hm5,by show z+1=aa0 _ (m+1);rw[aa0,if_pos hg.symm,hz]⟩ (show 5-(m+1)<5-m by omega)
 |false=>exact rz [1] [((m+1:Nat):Int)] rfl fun _=>b_ (m+1,z) ⟨rfl,rfl,rfl,rfl,rfl,rfl,trivial⟩ (fun _ hS=>hS) ⟨hm5,by show z=aa0 _ (m+1);rw[aa0,if_neg (by rw[←hg];decide),hz]⟩ (show 5-(m+1)<5-m by omega)
end
end Go.Proofs.YtmhifeahpnkpiaaGreatDoor
