/- Out of my texts: TgA@TopLostOwn, TdB@TopLostOwn, TmA@TopLostOwn, FlA@TopLostOwn, TlA@TopLostOwn, TlB@TopLostOwn. -/
import Derived.Test.YtmhifeahpnkpiaaGreatDoorTAA
import Derived.Test.YtmhifeahpnkpiaaGreatDoorTAF
set_option maxRecDepth 20000
set_option maxHeartbeats 8000000
set_option linter.unusedVariables false
namespace Go.Proofs.YtmhifeahpnkpiaaGreatDoor
open Go.RowKit
section
open Rv
namespace Rv
section
variable{n:Nat}{fn:Func}{Rr:Ending→World→Prop}{M:tD}{Φ R:tI}{H:List En}{ks:List Fr}{f:Nat→AV}
theorem gp{en:En}(j:Nat)(he:nth H j=some en)(l':List Sg)(hz:fX l'=fX en.l)(hg:dz en.l=dz l')(hn:G Tryz.prog fn Rr n M Φ R ks f (H.set j ⟨en.a,en.t,l'⟩)):G Tryz.prog fn Rr n M Φ R ks f H:=by
 refine jH (fun w hS=> ?_) hn;have El:=he;rw[fF]at El;have AQ:(hs H)[j]? =some en.ib:=by rw[List.getElem?_map,El];rfl
 have JG:=hS.congr j AQ (cK l') (fun i hi=>by
  have hi:i<fX en.l:=hi;show cK en.l i=cK l' i
  rw[ma _ hi,ma _ (hz▸hi),hg])
 have e4:hs (H.set j ⟨en.a,en.t,l'⟩)=(hs H).set j ⟨en.a,en.t,fX en.l,cK l'⟩:=by
  rw[hs,List.map_set];show _=List.set _ j (⟨en.a,en.t,fX en.l,cK l'⟩:bQ);rw[←hz];rfl
 rw[e4];exact JG
end
end Rv
abbrev ig(w w':tA)(g l c:Nat)(D:tF):Prop:=bZ w w'∧w'.ownsRow w.heap.size 57 11 (.slice (some ⟨g,0,none⟩) l c) l (D.map (Value.int .i64))
theorem ig.row{w w':tA}{g l c:Nat}{D:tF}(h:ig w w' g l c D)(hs:∀u∈D,0≤u∧u≤1000000):RowK .i64 w' (some ⟨g,0,none⟩) (11*l) D:=by
 obtain⟨a1,c1,e,r1,_⟩:=RowK.fY h.2 fun u hu=>BS (hs u hu);cases e;exact r1
namespace Rv
end Rv
theorem DO{w:tA}{base e sz n:Nat}{v:tJ}{xs:tK}(h:w.ownsRow base e sz v n xs)(h0:0<n):∃g c,v= .slice (some ⟨g,0,none⟩) n c∧n≤c∧base≤g∧g<w.heap.size:=by
 rcases h.2 with⟨_,h1⟩|⟨g,c,cur,rfl,hb,hg,hc,_⟩
 ·omega
 ·exact⟨g,c,rfl,hc,hb,cj hg⟩
theorem DQ(r:Rec):(bP [r]).length≤46:=by
 rw[iT];exact(oV [bj r]).2
theorem BX{B:Bt}(h:B=Bt.zero):(fJ B 1).2=0:=by
 unfold fJ;rw[h,if_neg (fun h=>h Bt.cR),if_neg (by omega),if_neg (fun h=>h rfl),if_neg (by show ¬(1:Int)≤0;omega)]
theorem mk_one{ns:Nat→Nd}{s:Ws}{n q:Nat}(hd:dB s.pn s.pe)(hp:s.pn q= -1)(hN:ns n=wA n):fQ (ns,s) (lA [1,(n:Int),(q:Int),0,0,0,0,0,0,0,0])=(aj ns n {wA n with dl:=bP [aI q],sy:=((bP [aI q]).length:Int),mo:=aj (fun _=>Bt.zero) q ⟨1,1,0,0,0,[]⟩},{s with pn:=cP s.pn q n,pe:=cP s.pe q 1}):=by
 show(aj ns (n:Int).toNat (cY (ns (n:Int).toNat) s (q:Int).toNat).1,(cY (ns (n:Int).toNat) s (q:Int).toNat).2)=_;rw[Int.toNat_natCast,Int.toNat_natCast,hN];have h1:=DQ (aI q);have hc:KH (wA n) s q:=⟨⟨hd,hp⟩,rfl,rfl,BX rfl,by show 0+(bP [aI q]).length≤100000;omega⟩;unfold cY;rw[if_pos hc];have e:(wA n).dl.length+(bP [aI q]).length=(bP [aI q]).length:=Nat.zero_add _;rw[e];rfl
theorem zl{D:tF}(h0:∀o,o<11→Lq.aO D 0 o=lA [1,0,0,0,0,0,0,0,0,0,0] o)(h1:∀o,o<11→Lq.aO D 1 o=lA [1,1,1,0,0,0,0,0,0,0,0] o):(dg D 2).2={SX with pn:=cP (cP (eD 4) 0 0) 1 1,pe:=cP (cP bD 0 1) 1 1}:=by
 have e1:dg D 1=_:=(lW (p:=(wA,SX)) h0).trans (mk_one (n:=0) (q:=0) Sb.dir rfl rfl);have k1:dB (dg D 1).2.pn (dg D 1).2.pe:=by
  rw[e1];exact DK Sb.dir (.inr ⟨by decide,by decide,by decide,by decide⟩)
 show(fQ (dg D 1) _).2=_;rw[lW h1];rw[e1]at k1⊢;exact congrArg Prod.snd (mk_one (n:=1) (q:=1) k1 rfl rfl)
structure l8(Q:Nat→List Int→Prop)(D:tF)(n:Nat):Prop where
 len:D.length=11*n
 act:∀j,j<n→Q j (fm D j)
theorem l8.app{Q:Nat→List Int→Prop}{D l:tF}{n:Nat}(h:l8 Q D n)(hl:l.length=11)(hq:Q n l):l8 Q (D++l) (n+1):=by
 refine⟨by rw[List.length_append,h.len,hl];omega,fun j hj=> ?_⟩;by_cases e:j<n
 ·rw[iD (by rw[h.len];omega)];exact h.act j e
 ·obtain rfl:j=n:=by omega
  have:=lX (E:=l) (j:=0) h.len;rw[Nat.add_zero]at this;rw[this,uj hl];exact hq
theorem l8.gC{Q:Nat→List Int→Prop}{D:tF}{n:Nat}(h:l8 Q D n)(hq:∀j l,Q j l→Lq.gC (lA l)=0)(j:Nat)(hj:j<n):Lq.gC (Lq.aO D j)=0:=by
 rw[nI (iI _ _)];exact hq _ _ (h.act j hj)
theorem l8.at0{Q:Nat→List Int→Prop}{D:tF}{n:Nat}(h:l8 Q D n){j:Nat}(hj:j<n){l:tF}(e:fm D j=l):∀o,o<11→Lq.aO D j o=lA l o:=fun o ho=>by rw[iI _ _ o ho,e]
def kF(P:Int→Bool)(D:tF):Nat→List Int
 |0=>[]
 |k+1=>if P (Lq.aO D k 0)=true then kF P D k++fm D k else kF P D k
def ji(P:Int→Bool)(D:tF):Nat→Nat
 |0=>0
 |k+1=>if P (Lq.aO D k 0)=true then ji P D k+1 else ji P D k
section
variable{P:Int→Bool}{D:tF}{n:Nat}
theorem qD:∀k,ji P D k≤k
 |0=>Nat.le_refl _
 |k+1=>by
  have:=qD k;rw[ji];split<;>omega
theorem qf{j:Nat}(h:11*(j+1)≤D.length):(fm D j).length=11:=by
 unfold fm;rw[List.length_take,List.length_drop];omega
theorem zm(hl:11*n≤D.length):∀k,k≤n→l8 (fun j l=>∃i,j≤i∧i<k∧P (Lq.aO D i 0)=true∧l=fm D i) (kF P D k) (ji P D k)
 |0,_=>⟨rfl,fun j hj=>absurd hj (Nat.not_lt_zero _)⟩
 |k+1,hk=>by
  have ih:=zm hl k (by omega)
  have up:l8 (fun j l=>∃i,j≤i∧i<k+1∧P (Lq.aO D i 0)=true∧l=fm D i) (kF P D k) (ji P D k):=⟨ih.len,fun j hj=>by
   obtain⟨i,h1,h2,h3,h4⟩:=ih.act j hj
   exact⟨i,h1,by omega,h3,h4⟩⟩
  by_cases hp:P (Lq.aO D k 0)=true
  ·rw[kF,ji,if_pos hp,if_pos hp];exact up.app (qf (by omega)) ⟨k,qD k,by omega,hp,rfl⟩
  ·rw[kF,ji,if_neg hp,if_neg hp];exact up
theorem GF(hl:11*n≤D.length)(h0:P (Lq.aO D 0 0)=true)(h1:P (Lq.aO D 1 0)=true):∀k,k+2≤n→2≤ji P D (k+2)∧fm (kF P D (k+2)) 0=fm D 0∧fm (kF P D (k+2)) 1=fm D 1
 |0,hk=>by
  have e1:kF P D 1=fm D 0:=by rw[kF,if_pos h0];rfl
  have n1:ji P D 1=1:=by rw[ji,if_pos h0];rfl
  have l0:(fm D 0).length=11:=qf (by omega);have l1:(fm D 1).length=11:=qf (by omega);rw[show 0+2=1+1 from rfl,kF,ji,if_pos h1,if_pos h1,e1,n1];refine⟨Nat.le_refl _, ?_, ?_⟩
  ·rw[iD (by omega),uj l0]
  ·have:=lX (D:=fm D 0) (E:=fm D 1) (n:=1) (j:=0) l0;rw[this,uj l1]
 |k+1,hk=>by
  obtain⟨i1,i2,i3⟩:=GF hl h0 h1 k (by omega);have hlen:=(zm (P:=P) hl (k+2) (by omega)).len;rw[show k+1+2=(k+2)+1 from rfl,kF,ji];split
  ·exact⟨by omega,by rw[iD (by omega)];exact i2,by rw[iD (by omega)];exact i3⟩
  ·exact⟨i1,i2,i3⟩
theorem uo:∀k,∀u∈kF P D k,u∈D
 |0,_,h=>by cases h
 |k+1,u,h=>by
  rw[kF]at h;split at h
  ·rcases List.mem_append.1 h with h|h
   ·exact uo k u h
   ·exact List.mem_of_mem_drop (List.mem_of_mem_take h)
  ·exact uo k u h
end
abbrev VS:List Int:=[1,0,0,0,0,0,0,0,0,0,0]
abbrev VT:List Int:=[1,1,1,0,0,0,0,0,0,0,0]
def VU(cr:Bool)(P:Int→Bool)(j:Nat)(l:tF):Prop:=(j=0∧l=VS)∨(j=1∧l=VT)∨(2≤j∧GA cr l∧P (lA l 0)=true)
theorem K5(G:tF)(cr:Bool)(P:Int→Bool)(hP:P 1=true)(n:Nat):l8 (VU cr P) (kF P (bn G cr n) (n+2)) (ji P (bn G cr n) (n+2))∧2≤ji P (bn G cr n) (n+2):=by
 have hl:=jE G cr n;have a0:fm (bn G cr n) 0=VS:=by
  rcases o6 G cr n 0 (by omega)with⟨_,e⟩|⟨e,_⟩|⟨e,_⟩
  ·exact e
  ·omega
  ·omega
 have a1:fm (bn G cr n) 1=VT:=by
  rcases o6 G cr n 1 (by omega)with⟨e,_⟩|⟨_,e⟩|⟨e,_⟩
  ·omega
  ·exact e
  ·omega
 obtain⟨h2,h3,h4⟩:=GF (P:=P) (D:=bn G cr n) (n:=n+2) (by omega) (by rw[iI _ _ 0 (by decide),a0];exact hP) (by rw[iI _ _ 0 (by decide),a1];exact hP) n (by omega);have h5:=zm (P:=P) (D:=bn G cr n) (n:=n+2) (by omega) (n+2) (Nat.le_refl _);refine⟨⟨h5.len,fun j hj=> ?_⟩,h2⟩;by_cases e0:j=0
 ·exact .inl ⟨e0,by rw[e0,h3,a0]⟩
 by_cases e1:j=1
 ·exact .inr (.inl ⟨e1,by rw[e1,h4,a1]⟩)
 obtain⟨i,i1,i2,i3,i4⟩:=h5.act j hj;rcases o6 G cr n i i2 with⟨e,_⟩|⟨e,_⟩|⟨_,e⟩
 ·omega
 ·omega
 ·rw[iI _ _ 0 (by decide),←i4]at i3;exact .inr (.inr ⟨by omega,by rw[i4];exact e,i3⟩)
theorem VU.gC{cr:Bool}{P:Int→Bool}{j:Nat}{l:tF}(h:VU cr P j l):Lq.gC (lA l)=0:=by
 rcases h with⟨_,e⟩|⟨_,e⟩|⟨_,e,_⟩
 ·rw[e];exact nJ (by decide) (by decide)
 ·rw[e];exact nJ (by decide) (by decide)
 ·exact e.gC
structure zn(p:(Nat→Nd)×Ws):Prop where
 up:∀i,i<5→(p.1 i).up=true
 wt:∀i,i<5→(p.1 i).wt=[]
 af:∀i,i<5→(p.1 i).af=none
 sv:p.2.sv=[]
 td:p.2.td=[]
theorem zn.put{ns:Nat→Nd}{s s':Ws}(h:zn (ns,s)){n':Nd}(i:Nat)(h1:n'.up=true)(h2:n'.wt=[])(h3:n'.af=none)(h4:s'.sv=[])(h5:s'.td=[]):zn (aj ns i n',s'):=by
 have all:∀P:Nd→Prop,P n'→(∀j,j<5→P (ns j))→∀j,j<5→P (aj ns i n' j):=fun P g1 g2 j hj=>by
  by_cases e:j=i
  ·rw[e,au];exact g1
  ·rw[bk e];exact g2 j hj
 exact⟨all (fun n=>n.up=true) h1 h.up,all (fun n=>n.wt=[]) h2 h.wt,all (fun n=>n.af=none) h3 h.af,h4,h5⟩
theorem zo{j:Nat}{p:(Nat→Nd)×Ws}(h:Inv j p){f:tG}(hn:(f 1).toNat<5)(hk:f 0=1∨f 0=2∨f 0=3∨f 0=5∨f 0=10)(L:zn p):zn (fQ p f)∧(¬f 0=1→(fQ p f).2.pn=p.2.pn∧(fQ p f).2.pe=p.2.pe):=by
 obtain⟨ns,s⟩:=p;have uw:=h.n _ hn;have DL:=L.up _ hn;have kK:=L.wt _ hn;have MK:=L.af _ hn;unfold fQ;generalize(f 1).toNat=n,(f 2).toNat=q,(f 3).toNat=j,f 4=kp,(⟨f 5,f 6,f 7,f 8,f 9,f 10⟩:Ev)=e,f 0=k at*;dsimp only at uw DL kK MK⊢;rcases hk with rfl|rfl|rfl|rfl|rfl
 ·refine⟨?_,fun h=>absurd rfl h⟩;show zn (aj ns n (cY (ns n) s q).1,(cY (ns n) s q).2);unfold cY;split
  ·exact L.put n DL kK MK L.sv L.td
  ·exact L.put n DL kK MK L.sv L.td
 ·exact⟨⟨L.up,L.wt,L.af,L.sv,L.td⟩,fun _=>⟨rfl,rfl⟩⟩
 ·show zn (aj ns n (eN (ns n) s).1,(eN (ns n) s).2)∧(_→(eN (ns n) s).2.pn=s.pn∧(eN (ns n) s).2.pe=s.pe);rw[ny DL MK,yL kK];obtain⟨g1,g2,g3,_⟩:=ue 4 (s:=s) (uw.up DL) (by rw[uw.i];exact hn) uw.tu;obtain⟨M,g4,g5⟩:=g1.sv;obtain rfl:M=[]:=List.eq_nil_of_length_eq_zero (by omega);exact⟨L.put n ((w_ 4 (s:=s) (uw.up DL)).2.1.trans DL) (g2.trans kK) (g3.trans MK) (by rw[g4,List.append_nil];exact L.sv) (g1.td.trans L.td),fun _=>⟨g1.pn,g1.pe⟩⟩
 ·show zn (eC ns s 5 j)∧(_→(eC ns s 5 j).2.pn=s.pn∧(eC ns s 5 j).2.pe=s.pe);unfold eC;split
  ·exact⟨L,fun _=>⟨rfl,rfl⟩⟩
  ·exact⟨⟨L.up,L.wt,L.af,L.sv,L.td⟩,fun _=>⟨rfl,rfl⟩⟩
 ·refine⟨?_,fun _=>⟨rfl,rfl⟩⟩;have hd:=h.dir;show zn (aj ns (s.pn q).toNat (nC (ns (s.pn q).toNat) s q n),s);by_cases hq:(s.pn q).toNat<5
  ·have e:∀n':Nd,(nC (ns (s.pn q).toNat) s q n)=n'→n'.up=true∧n'.wt=[]∧n'.af=none:=by
    rintro n' rfl;unfold nC;split
    ·exact⟨L.up _ hq,L.wt _ hq,L.af _ hq⟩
    ·exact⟨L.up _ hq,L.wt _ hq,L.af _ hq⟩
   obtain⟨e1,e2,e3⟩:=e _ rfl;exact L.put _ e1 e2 e3 L.sv L.td
  ·have all:∀P:Nd→Prop,(∀j,j<5→P (ns j))→∀j,j<5→P (aj ns (s.pn q).toNat (nC (ns (s.pn q).toNat) s q n) j):=fun P g2 j hj=>by
    rw[bk (by omega)];exact g2 j hj
   exact⟨all (fun n=>n.up=true) L.up,all (fun n=>n.wt=[]) L.wt,all (fun n=>n.af=none) L.af,L.sv,L.td⟩
theorem abK:zn (wA,SX):=⟨fun _ _=>rfl,fun _ _=>rfl,fun _ _=>rfl,rfl,rfl⟩
abbrev jM(k:Int):Bool:=decide (¬k=4∧¬k=6∧¬k=7)
theorem GA.lost{l:tF}(h:GA false l)(hp:jM (lA l 0)=true):lA l 0=2∨lA l 0=3∨lA l 0=5∨lA l 0=10:=by
 have hp:¬lA l 0=4∧¬lA l 0=6∧¬lA l 0=7:=of_decide_eq_true hp;cases h with
 |zT=>exact .inl rfl
 |recv=>exact .inl rfl
 |zU=>exact .inl rfl
 |step=>exact .inr (.inl rfl)
 |carry=>exact absurd rfl hp.1
 |Sl=>exact .inr (.inr (.inl rfl))
 |double=>exact absurd rfl hp.2.1
 |move=>exact .inr (.inr (.inr rfl))
 |BN _ _ hc=>cases hc
 |start _ hc=>cases hc
 |all=>exact absurd rfl hp.2.2
theorem GG{D:tF}{n:Nat}(hn:n≤100000)(A:l8 (VU false jM) D n):∀k,2+k≤n→zn (dg D (2+k))∧(dg D (2+k)).2.pn=cP (cP (eD 4) 0 0) 1 1∧(dg D (2+k)).2.pe=cP (cP bD 0 1) 1 1
 |0,hk=>by
  have ed:=fun j hj=>A.gC (fun _ _ h=>VU.gC h) j hj;have e0:fm D 0=VS:=by
   rcases A.act 0 (by omega)with⟨_,e⟩|⟨e,_⟩|⟨e,_⟩
   ·exact e
   ·omega
   ·omega
  have e1:fm D 1=VT:=by
   rcases A.act 1 (by omega)with⟨e,_⟩|⟨_,e⟩|⟨e,_⟩
   ·omega
   ·exact e
   ·omega
  have h0:=A.at0 (j:=0) (by omega) e0;have h1:=A.at0 (j:=1) (by omega) e1;have hf:=zl h0 h1;have k0:Lq.aO D 0 0=1:=h0 0 (by decide);have k1:Lq.aO D 1 0=1:=h1 0 (by decide);have m0:Lq.aO D 0 1=0:=h0 1 (by decide);have m1:Lq.aO D 1 1=1:=h1 1 (by decide);refine⟨?_,by rw[hf],by rw[hf]⟩;refine(zo (gk D n hn ed 1 (by omega)) (f:=Lq.aO D 1) (by rw[m1];decide) (.inl k1) ?_).1;exact(zo (gk D n hn ed 0 (by omega)) (f:=Lq.aO D 0) (by rw[m0];decide) (.inl k0) abK).1
 |k+1,hk=>by
  have ed:=fun j hj=>A.gC (fun _ _ h=>VU.gC h) j hj;obtain⟨h1,h2,h3⟩:=GG hn A k (by omega);have hb:2+k<n:=by omega
  rcases A.act (2+k) hb with⟨e,_⟩|⟨e,_⟩|⟨_,e,e2⟩
  ·omega
  ·omega
  have hk0:=e.lost e2;have e0:Lq.aO D (2+k) 0=lA (fm D (2+k)) 0:=iI _ _ 0 (by decide);rw[←e0]at hk0;obtain⟨g1,g2⟩:=zo (gk D n hn ed (2+k) (by omega)) (f:=Lq.aO D (2+k)) (by have:=(vh (ed (2+k) hb)).n;omega) (.inr hk0) h1;obtain⟨g3,g4⟩:=g2 (by omega);exact⟨g1,g3.trans h2,g4.trans h3⟩
theorem SA{D:tF}{k:Nat}(h:11*(k+1)≤D.length):dz [.f 11 fun j=>iV (Lq.aO D k j)]=(fm D k).map (Value.int .i64):=by
 refine List.ext_getElem? fun j=> ?_;by_cases hj:j<11
 ·refine(cg (fun j=>iV (Lq.aO D k j)) 0 11 j hj).trans ?_;rw[Nat.zero_add,iI _ _ j hj,List.getElem?_map];have hl:=qf h;show _=((fm D k)[j]?).map _;rw[List.getElem?_eq_getElem (by omega)];show some (iV ((fm D k).getD j 0))=_;rw[List.getD_eq_getElem?_getD,List.getElem?_eq_getElem (by omega)];rfl
 ·rw[List.getElem?_eq_none,List.getElem?_eq_none]
  ·rw[List.length_map,qf h];omega
  ·show 11≤j;omega
theorem K7{P:Int→Bool}{D:tF}{k:Nat}(h:P (Lq.aO D k 0)=true):kF P D (k+1)=kF P D k++fm D k∧ji P D (k+1)=ji P D k+1:=⟨if_pos h,if_pos h⟩
theorem SC{P:Int→Bool}{D:tF}{k:Nat}(h:¬P (Lq.aO D k 0)=true):kF P D (k+1)=kF P D k∧ji P D (k+1)=ji P D k:=⟨if_neg h,if_neg h⟩
theorem DS(w:tA)(hK:Lq.eO w)(a:tB)(len cap:Nat)(GD:tF)(h:RowK .i64 w a (5*len) GD)(qk:len≤cap)(pk:a=none→cap=0)(hs:cap*40≤140737488351232):cA 10 #[.slice a len cap] w (rB (.bool true) w):=by
 obtain⟨n,hn⟩:∃n,n=min len 80:=⟨_,rfl⟩;obtain⟨D,hDe⟩:∃D,bn GD false n=D:=⟨_,rfl⟩;have hD:D.length=11*(n+2):=hDe▸jE _ _ _;have rX:∀u∈D,0≤u∧u≤1000000:=hDe▸se GD false n;obtain⟨A,m2⟩:=K5 GD false jM (by decide) n;rw[hDe]at A m2;have m1:=qD (P:=jM) (D:=D) (n+2);have k1:=fun j hj=>A.gC (fun _ _ h=>VU.gC h) j hj;have s1:∀u∈kF jM D (n+2),0≤u∧u≤1000000:=fun u hu=>rX u (uo _ u hu);obtain⟨lr,Io,Q8⟩:=GG (by omega) A (ji jM D (n+2)-2) (by omega);rw[show 2+(ji jM D (n+2)-2)=ji jM D (n+2) by omega]at lr Io Q8;refine en (H:=[]) _ [vv (.slice a len cap)] Tryz.func10 rfl rfl (m0 w) (r [] rfl fun _=> ?_);refine cx rfl (fun y:Option Addr×Nat=>vv (.slice y.1 (n+2) y.2)) (fun y=>n+2≤y.2∧∃b o,y.1=some ⟨b,o,none⟩) (fun y w=>RowK .i64 w y.1 (11*(n+2)) D) (fun w1 hS=>(jZ a len cap 80 false GD w1 (h.below hS.now.2) (by omega) (by omega)).mono fun _ w2 ⟨v1,e,o1,b⟩=> ?_) ?_
 ·rw[←hn,hDe]at o1;obtain⟨a1,c1,rfl,r1,hc,_,_,uu⟩:=RowK.fY o1 fun u hu=>BS (rX u hu);obtain⟨b1,q1,rfl⟩:=r1.form (by omega);exact⟨(some ⟨b1,q1,none⟩,c1),e,b,⟨hc,_,_,rfl⟩,fun hl=>bT r1 uu hl⟩
 rintro⟨_,c1⟩ ⟨mm,b,o,rfl⟩;refine r [] rfl fun _=>jH (fun w2 hS=>hS.zJ w.heap.size 57 11) ?_;refine Cv (X:=Nat×Value) (fun x=>[(3,vv (.slice (some ⟨b,o,none⟩) (n+2) c1)),(4,vv x.2),(5,vi (x.1:Int))]) (fun _=>[]) (fun x b'=>x.2.ownBlock=some b'∨False) (fun x w'=>bZ w w'∧w'.ownsRow w.heap.size 57 11 x.2 (ji jM D x.1) ((kF jM D x.1).map (Value.int .i64))) (fun x=>x.1≤n+2) (fun x=>n+2-x.1) (0,.slice none 0 0) ⟨rfl,rfl,rfl,trivial⟩ (fun _ hS=>hS) (Nat.zero_le _) ?_;rintro f ⟨k,v⟩ hk;have hk:k≤n+2:=hk;by_cases aL:k<n+2
 case pos=>
  have h9:n+2-(k+1)<n+2-k:=by omega
  have cF:=qD (P:=jM) (D:=D) k;obtain⟨K,gW⟩:∃K,Lq.aO D k 0=K:=⟨_,rfl⟩;have ld:∀w,RowK .i64 w (some ⟨b,o,none⟩) (11*(n+2)) D→w.cell? ⟨b,o+k*11+0,none⟩=some (iV K):=fun w hw=>by rw[←gW];exact jJ (k:=k) (m:=11) (g:=fun j=>iV (Lq.aO D k j)) hw (by omega) (fun j _=>rfl) 0 (by omega)
  have off:¬jM K=true→_:=fun e=>SC (P:=jM) (D:=D) (k:=k) (by rw[gW];exact e);refine r [1] rfl fun _=>Rv.l1 (q:=o+k*11+0) rfl (iV K) (fun w hS=>ld w hS.now.1.2) ?_;by_cases k4:K=4
  ·obtain⟨e1,e2⟩:=off (by simp[k4]);exact rz [0,1] [((k+1:Nat):Int)] rfl fun _=>bU (k+1,v) ⟨rfl,rfl,rfl,trivial⟩ (fun w hS=>hS.sr fun w h=>⟨h.1,by rw[e1,e2];exact h.2⟩) aL h9
  refine r [1] rfl fun _=>Rv.l1 (q:=o+k*11+0) rfl (iV K) (fun w hS=>ld w hS.now.1.2) ?_;by_cases k6:K=6
  ·obtain⟨e1,e2⟩:=off (by simp[k6]);exact rz [0,1] [((k+1:Nat):Int)] rfl fun _=>bU (k+1,v) ⟨rfl,rfl,rfl,trivial⟩ (fun w hS=>hS.sr fun w h=>⟨h.1,by rw[e1,e2];exact h.2⟩) aL h9
  refine r [1] rfl fun _=>Rv.l1 (q:=o+k*11+0) rfl (iV K) (fun w hS=>ld w hS.now.1.2) ?_;by_cases k7:K=7
  ·obtain⟨e1,e2⟩:=off (by simp[k7]);exact rz [0,1] [((k+1:Nat):Int)] rfl fun _=>bU (k+1,v) ⟨rfl,rfl,rfl,trivial⟩ (fun w hS=>hS.sr fun w h=>⟨h.1,by rw[e1,e2];exact h.2⟩) aL h9
  obtain⟨e1,e2⟩:=K7 (P:=jM) (D:=D) (k:=k) (by rw[gW];simp[k4,k6,k7]);refine r [1] rfl fun _=>lf (q:=o+k*11) rfl 11 (fun j=>iV (Lq.aO D k j)) (fun w hS=>jJ (k:=k) (m:=11) (g:=fun j=>iV (Lq.aO D k j)) hS.now.1.2 (by omega) (fun j _=>rfl)) ?_;refine r [] rfl fun α=>qJ 0 rfl eK (fun w hS=>hS.now.2.1.size) (fun _ _ h c=>cS h c (Nat.le_refl _)) fun g2 c2 jo=> ?_;exact rz [1] [((k+1:Nat):Int)] rfl fun _=>bU (k+1,.slice (some ⟨g2,0,none⟩) (ji jM D k+1) c2) ⟨rfl,rfl,rfl,trivial⟩ (fun w hS=>(hS.take 0).sr fun w h=>⟨h.1,by rw[e1,e2,List.map_append,←SA (by omega)];exact h.2⟩) aL h9
 obtain rfl:k=n+2:=by omega
 refine SI fun w9 hS=> ?_;obtain⟨g,c,rfl,hc,hb,hg⟩:=DO (n:=ji jM D (n+2)) (v:=v) hS.now.2.2 (by omega);obtain⟨m,hm⟩:∃m,ji jM D (n+2)=m:=⟨_,rfl⟩;obtain⟨D1,hD1⟩:∃D1,kF jM D (n+2)=D1:=⟨_,rfl⟩;dsimp only;rw[hm]at k1 lr Io Q8 m1⊢;rw[hD1]at k1 s1 lr Io Q8⊢;obtain⟨O,hO⟩:∃O,cX D1 m=O:=⟨_,rfl⟩;have e1:O.sv.length=0:=by rw[←hO];exact congrArg List.length lr.sv
 have e2:O.td.length=0:=by rw[←hO];exact congrArg List.length lr.td
 have e3:O.pn=cP (cP (eD 4) 0 0) 1 1:=by rw[←hO];exact Io
 have e4:O.pe=cP (cP bD 0 1) 1 1:=by rw[←hO];exact Q8
 refine r [0] rfl fun _=>cx rfl (fun t:jC=>vt [.g [.f 18 (dN O t)],.o (.bool true)]) (fun _=>True) (fun t w=>kC w O t) (fun w1 hS=>hO▸(mA (some ⟨g,0,none⟩) m c D1 w1 (hK.next hS.now.2.1) (ig.row hS.now.2 s1) (by omega) k1).mono fun _ w2 ⟨t,e,ho,b⟩=>⟨t,e,b,trivial,fun hl=>ho.mono fun b _ hu=>hl b hu⟩) fun t _=> ?_;have og:aT (dN O t) 18:=iH;refine r [] rfl fun β=>gp 0 rfl [.f 6 (dN O t),.f 2 (lF [iV 0,iV 1]),.f 2 (lF [iV 1,iV 1]),.f 8 fun i=>dN O t (i+10)] rfl ?_ ?_
 ·show bW (dN O t) 0 18=_;have f0:dN O t 6=iV 0:=by show iV (O.pn 0)=_;rw[e3];rfl
  have f1:dN O t 7=iV 1:=by show iV (O.pe 0)=_;rw[e4];rfl
  have f2:dN O t 8=iV 1:=by show iV (O.pn 1)=_;rw[e3];rfl
  have f3:dN O t 9=iV 1:=by show iV (O.pe 1)=_;rw[e4];rfl
  show[dN O t 0,dN O t 1,dN O t 2,dN O t 3,dN O t 4,dN O t 5,dN O t 6,dN O t 7,dN O t 8,dN O t 9,dN O t 10,dN O t 11,dN O t 12,dN O t 13,dN O t 14,dN O t 15,dN O t 16,dN O t 17]=_;rw[f0,f1,f2,f3];rfl
 refine r [1,1,0] rfl fun _=> ?_;refine eqs (b:=true) rfl (fun w=>gu 9998 0 1 w) rfl ?_;refine r [0] rfl fun _=> ?_;refine eqs (b:=true) rfl (fun w=>gu 9998 1 1 w) rfl ?_;exact r [] rfl fun _=>fin fun w hS=>⟨rfl,hS.now.2.1⟩
end
end Go.Proofs.YtmhifeahpnkpiaaGreatDoor
