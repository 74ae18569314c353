/- Out of my texts: TdA@TopNewOwn, TdB@TopNewOwn, TmA@TopNewOwn, TnA@TopNewOwn, TnB@TopNewOwn. -/
import Derived.Test.YtmhifeahpnkpiaaGreatDoorTAA
import Derived.Test.YtmhifeahpnkpiaaGreatDoorTAF
set_option maxRecDepth 20000
set_option maxHeartbeats 8000000
set_option linter.unusedVariables false
namespace Go.Proofs.YtmhifeahpnkpiaaGreatDoor
open Go.RowKit
section
open Rv
theorem zk{D E:tF}{n j:Nat}(hj:j<n)(hl:11*n≤D.length):∀o,o<11→Lq.aO (D++E) j o=Lq.aO D j o:=fun o ho=>by
 unfold Lq.aO;rw[List.getD_eq_getElem?_getD,List.getD_eq_getElem?_getD,List.getElem?_append_left (by omega)]
theorem vV{D E:tF}{n:Nat}(hl:D.length=11*n)(j:Nat):∀o,o<11→Lq.aO (D++E) (n+j) o=Lq.aO E j o:=fun o ho=>by
 unfold Lq.aO;rw[List.getD_eq_getElem?_getD,List.getD_eq_getElem?_getD,List.getElem?_append_right (by omega),show 11*(n+j)+o-D.length=11*j+o by omega]
theorem BV{D E:tF}{n:Nat}(hl:11*n≤D.length):∀k,k≤n→dg (D++E) k=dg D k
 |0,_=>rfl
 |k+1,hk=>by
  show fQ (dg (D++E) k) _=fQ (dg D k) _;rw[BV hl k (by omega)];exact lW (zk (by omega) hl)
theorem qe{D l:tF}{n:Nat}(hl:D.length=11*n):dg (D++l) (n+1)=fQ (dg D n) (lA l):=by
 show fQ (dg (D++l) n) _=_;rw[BV (by omega) n (Nat.le_refl _)];refine lW fun o ho=> ?_;rw[show n=n+0 from rfl,vV hl 0 o ho];unfold Lq.aO lA;rw[Nat.mul_zero,Nat.zero_add]
theorem um{D E:tF}{n m:Nat}(hl:D.length=11*n)(h:∀j,j<n→Lq.gC (Lq.aO D j)=0)(he:∀j,j<m→Lq.gC (Lq.aO E j)=0):∀j,j<n+m→Lq.gC (Lq.aO (D++E) j)=0:=fun j hj=>by
 by_cases e:j<n
 ·exact(nI (zk e (by omega))).trans (h j e)
 ·obtain⟨i,rfl⟩:∃i,j=n+i:=⟨j-n,by omega⟩;exact(nI (vV hl i)).trans (he i (by omega))
theorem GB{D l m:tF}{n:Nat}(hl:D.length=11*n)(hm:l.length=11):dg (D++(l++m)) (n+2)=fQ (fQ (dg D n) (lA l)) (lA m):=by
 rw[←List.append_assoc,show n+2=(n+1)+1 from rfl,qe (by rw[List.length_append];omega),qe hl]
theorem lY(n:Int)(m:Nat)(h:0<m):∃i:Nat,av n m=i∧i<m:=by
 obtain⟨h1,h2⟩:=cH n m (by omega);exact⟨(av n m).toNat,by omega,by omega⟩
abbrev ig(w w':tA)(g l c:Nat)(D:tF):Prop:=bZ w w'∧w'.ownsRow w.heap.size 57 11 (.slice (some ⟨g,0,none⟩) l c) l (D.map (Value.int .i64))
theorem ig.row{w w':tA}{g l c:Nat}{D:tF}(h:ig w w' g l c D)(hs:∀u∈D,0≤u∧u≤1000000):RowK .i64 w' (some ⟨g,0,none⟩) (11*l) D:=by
 obtain⟨a1,c1,e,r1,_⟩:=RowK.fY h.2 fun u hu=>BS (hs u hu);cases e;exact r1
namespace Rv
end Rv
theorem lZ{w:tA}{o:Oc}{t:jC}(h:kC w o t){i:Nat}(hi:i<5):w.cell? ⟨t.R,0+i*1,none⟩=some (.slice (some ⟨t.Y i,0,none⟩) 4 (t.C i)):=by
 rw[Nat.zero_add,Nat.mul_one];exact Xa h hi
theorem jF{w:tA}{o:Oc}{t:jC}(h:kC w o t){i q:Nat}(hi:i<5)(hq:q<4)(j:Nat)(hj:j<6):w.cell? ⟨t.Y i,0+q*6+j,none⟩=some (bF (o.bs i q) (t.A i q) (t.K i q) j):=by
 rw[Nat.zero_add];exact(h.b i hi).cell q hq j hj
theorem DQ(r:Rec):(bP [r]).length≤46:=by
 rw[iT];exact(oV [bj r]).2
theorem BX{B:Bt}(h:B=Bt.zero):(fJ B 1).2=0:=by
 unfold fJ;rw[h,if_neg (fun h=>h Bt.cR),if_neg (by omega),if_neg (fun h=>h rfl),if_neg (by show ¬(1:Int)≤0;omega)]
theorem mk_one{ns:Nat→Nd}{s:Ws}{n q:Nat}(hd:dB s.pn s.pe)(hp:s.pn q= -1)(hN:ns n=wA n):fQ (ns,s) (lA [1,(n:Int),(q:Int),0,0,0,0,0,0,0,0])=(aj ns n {wA n with dl:=bP [aI q],sy:=((bP [aI q]).length:Int),mo:=aj (fun _=>Bt.zero) q ⟨1,1,0,0,0,[]⟩},{s with pn:=cP s.pn q n,pe:=cP s.pe q 1}):=by
 show(aj ns (n:Int).toNat (cY (ns (n:Int).toNat) s (q:Int).toNat).1,(cY (ns (n:Int).toNat) s (q:Int).toNat).2)=_;rw[Int.toNat_natCast,Int.toNat_natCast,hN];have h1:=DQ (aI q);have hc:KH (wA n) s q:=⟨⟨hd,hp⟩,rfl,rfl,BX rfl,by show 0+(bP [aI q]).length≤100000;omega⟩;unfold cY;rw[if_pos hc];have e:(wA n).dl.length+(bP [aI q]).length=(bP [aI q]).length:=Nat.zero_add _;rw[e];rfl
abbrev La(m k:Nat):Nd:={wA m with dl:=bP [aI k],sy:=((bP [aI k]).length:Int),mo:=aj (fun _=>Bt.zero) k ⟨1,1,0,0,0,[]⟩}
abbrev ZD(k:Nat):Nat→Bt:=aj (fun _=>Bt.zero) k ⟨1,1,0,0,0,[]⟩
theorem abO{m k:Nat}(hm:m<5)(hk:k<4):Up (La m k):=by
 have h:=BQ (n:=wA m) (q:=k) ((Sb.n m hm).up rfl) hk rfl (BX rfl);exact h.congr rfl (by show _=(((wA m).dl.length+(bP [aI k]).length:Nat):Int);rw[show(wA m).dl.length=0 from rfl,Nat.zero_add]) rfl rfl
theorem abP{m k:Nat}(hm:m<5)(hk:k<4):zE (gS (La m k) 0) [aI k] [] (ZD k):=by
 obtain⟨dC,dx,Bs,h,ra,Ba,e1,e2,e3,e4,e5,e6⟩:=(abO hm hk).Jg (kp:=0) (Int.le_refl _);have ed:∀r∈[aI k],nD r:=fun r hr=>by
  rw[List.mem_singleton.1 hr];exact⟨oQ hk,fun _=>rfl⟩
 have hl:(gS (La m k) 0).dl=bP [aI k]:=by
  show(bP [aI k]).take (leftOf (bP [aI k]).length ((bP [aI k]).length:Int) 0)=_;have:leftOf (bP [aI k]).length ((bP [aI k]).length:Int) 0=(bP [aI k]).length:=by
   unfold leftOf;split<;>omega
  rw[this,List.take_length]
 have tm:zD [aI k] (ZD k):=by
  refine zD.snoc (rs:=[]) zD.nil (ed _ List.mem_cons_self) hk rfl ?_;have ZC:(⟨1,1,0,0,0,[]⟩:Bt).Ok:=⟨.inr (.inl ⟨rfl,by decide,by decide,rfl,rfl,rfl⟩),by decide,St.zero,[],.nil⟩;refine eJ Bt.cR (oQ hk) ?_ ZC;unfold cE;rw[if_pos rfl,if_pos ⟨rfl,rfl,by show(0:Int)<1;decide⟩]
 refine⟨tm, ?_, ?_, ?_,fun r hr=>by cases hr⟩
 ·rw[hl];exact yV ed
 ·rw[hl];exact List.take_length
 ·show((bP [aI k]).length:Int).toNat=_;rw[Int.toNat_natCast]
theorem Lb{k q:Nat}(hk:k<4)(hq:q<4){Bs:Nat→Bt}(h:∀q,q<4→Bs q=ZD k q):a7 (Bs q)=if q=k then(⟨1,1,0,0,0,[Ev.brk]⟩,0)else(Bt.zero,0):=by
 rw[h q hq];by_cases e:q=k
 ·subst e;have ZC:(⟨1,1,0,0,0,[]⟩:Bt).Ok:=⟨.inr (.inl ⟨rfl,by decide,by decide,rfl,rfl,rfl⟩),by decide,St.zero,[],.nil⟩;have hb:(⟨1,1,0,0,0,[]⟩:Bt).broken.Ok:=⟨.inr (.inl ⟨rfl,by decide,by decide,rfl,rfl,rfl⟩),by decide,_,_,bm.snoc bm.nil Ev.CS (.stop (s:=St.zero) rfl (by decide) [] ⟨rfl,.refl _,fun i j _ h=>absurd h (Nat.not_lt_zero _)⟩)⟩;rw[show ZD q q=(⟨1,1,0,0,0,[]⟩:Bt) from au ..,if_pos rfl];unfold a7;rw[if_neg (fun g=>g ZC),if_neg (fun g=>g (.inl rfl)),if_neg (fun g=>g hb)];rfl
 ·rw[show ZD k q=Bt.zero from bk e,if_neg e];unfold a7;rw[if_neg (fun g=>g Bt.cR),if_pos (by show ¬((0:Int)=1∨(0:Int)=2);decide)]
theorem VX{k:Nat}(hk:k<4){Bs:Nat→Bt}(h:∀q,q<4→Bs q=ZD k q):(aX Bs 4).length=1:=by
 rw[o4 4 (Nat.le_refl _) h];obtain rfl|rfl|rfl|rfl:k=0∨k=1∨k=2∨k=3:=by omega
 all_goals rfl
theorem VY{m k:Nat}(hm:m<5)(hk:k<4){D:tF}(hD:D=[1,(m:Int),(k:Int),0,0,0,0,0,0,0,0]++([8,(m:Int),0,0,0,0,0,0,0,0,0]++[9,(m:Int),0,0,0,0,0,0,0,0,0])):Aj ((dg D 3).1 m) k=⟨1,1,0,0,0,[Ev.brk]⟩∧(dg D 3).2.pn k=m∧(dg D 3).2.pe k=1∧(dg D 3).2.sv.length=1:=by
 have e0:dg [1,(m:Int),(k:Int),0,0,0,0,0,0,0,0] 1=_:=(qe (D:=[]) (n:=0) rfl).trans (mk_one (ns:=wA) (s:=SX) (n:=m) (q:=k) Sb.dir (by show eD 4 k= -1;unfold eD;rw[if_pos hk]) rfl);have e:dg D 3=_:=hD▸GB (D:=[1,(m:Int),(k:Int),0,0,0,0,0,0,0,0]) (l:=[8,(m:Int),0,0,0,0,0,0,0,0,0]) (m:=[9,(m:Int),0,0,0,0,0,0,0,0,0]) (n:=1) rfl rfl;rw[e0]at e;obtain⟨s1,GP⟩:∃s1:Ws,s1={SX with pn:=cP SX.pn k m,pe:=cP SX.pe k 1}:=⟨_,rfl⟩;have e1:fQ (aj wA m (La m k),s1) (lA [8,(m:Int),0,0,0,0,0,0,0,0,0])=(aj wA m (gS (La m k) 0),s1):=by
  show(aj (aj wA m (La m k)) (m:Int).toNat (mK (aj wA m (La m k) (m:Int).toNat) 0),s1)=_;rw[Int.toNat_natCast,au,oY];exact congrArg (fun x=>(aj wA m x,s1)) (if_pos rfl)
 obtain⟨Bs,hB,hs⟩:=yY (s:=s1) (abP hm hk) (by show(List.take _ (bP [aI k])).length≤100000;have:=DQ (aI k);rw[List.length_take];omega) rfl rfl;have e2:fQ (aj wA m (gS (La m k) 0),s1) (lA [9,(m:Int),0,0,0,0,0,0,0,0,0])=(aj wA m (iR (gS (La m k) 0) s1 Bs (bP ([aI k]++[])).length []).1,(iR (gS (La m k) 0) s1 Bs (bP ([aI k]++[])).length []).2):=by
  show(aj (aj wA m (gS (La m k) 0)) (m:Int).toNat (du (aj wA m (gS (La m k) 0) (m:Int).toNat) s1).1,(du (aj wA m (gS (La m k) 0) (m:Int).toNat) s1).2)=_;rw[Int.toNat_natCast,au,oY,hs]
 have hlen:=VX hk hB;have hc:(∀q,q<4→(a7 (Bs q)).2=0)∧(bP ([aI k]++[])).length+(bP (aX Bs 4)).length≤100000:=by
  refine⟨fun q hq=> ?_, ?_⟩
  ·rw[Lb hk hq hB];split<;>rfl
  ·have h1:=DQ (aI k);have h2:(bP (aX Bs 4)).length≤46*(aX Bs 4).length:=by
    rw[iT];have:=(oV ((aX Bs 4).map bj)).2;rw[List.length_map]at this;exact this
   rw[List.append_nil];omega
 have e3:iR (gS (La m k) 0) s1 Bs (bP ([aI k]++[])).length []=_:=if_pos hc;rw[e3]at e2;have e4:dg D 3=_:=e.trans ((congrArg (fun p=>fQ p _) (by rw[←GP];exact e1)).trans e2);rw[e4];refine⟨?_, ?_, ?_, ?_⟩
 ·show Aj (aj wA m _ m) k=_;rw[au];unfold Aj;rw[if_pos rfl];show(a7 (Bs k)).1=_;rw[Lb hk hk hB,if_pos rfl]
 ·show s1.pn k=m;rw[GP];exact if_pos rfl
 ·show s1.pe k=1;rw[GP];exact if_pos rfl
 ·show(s1.sv++gN _ _ []++(aX Bs 4).map _).length=1;rw[List.length_append,List.length_map,hlen,GP];rfl
theorem GI(w:tA)(hK:Lq.eO w)(q:Int)(hq:(Lit.int .i64 q).wf=true)(nn:Int)(Wx:(Lit.int .i64 nn).wf=true):cA 12 #[iV q,iV nn] w (rB (.bool true) w):=by
 obtain⟨k,ek,hk⟩:=lY q 4 (by decide);obtain⟨m,em,hm⟩:=lY nn 5 (by decide);obtain⟨D,hD⟩:∃D,D=[1,(m:Int),(k:Int),0,0,0,0,0,0,0,0]++([8,(m:Int),0,0,0,0,0,0,0,0,0]++[9,(m:Int),0,0,0,0,0,0,0,0,0]):=⟨_,rfl⟩;obtain⟨r1,r2,r3,r4⟩:=VY hm hk hD
 have k1:∀j,j<3→Lq.gC (Lq.aO D j)=0:=hD▸um (n:=1) (m:=2) rfl (fun j hj=>by
  obtain rfl:j=0:=by omega
  exact nJ (n:=(m:Int)) (q:=(k:Int)) (by omega) (by omega)) fun j hj=>by
  obtain rfl|rfl:j=0∨j=1:=by omega
  ·exact vl (n:=(m:Int)) (kp:=0) (by omega) (by omega)
  ·exact vk (n:=(m:Int)) (by omega)
 have s1:∀u∈D,0≤u∧u≤1000000:=fun u hu=>by
  rw[hD]at hu;simp only[List.cons_append,List.nil_append,List.mem_cons,List.not_mem_nil,or_false]at hu;omega
 obtain⟨O,hO⟩:∃O,cX D 3=O:=⟨_,rfl⟩;have eB:O.bs m k=⟨1,1,0,0,0,[Ev.brk]⟩:=by rw[←hO];exact r1
 have e1:O.pn k=m:=by rw[←hO];exact r2
 have e2:O.pe k=1:=by rw[←hO];exact r3
 have e3:O.sv.length=1:=by rw[←hO];exact r4
 refine en (H:=[]) _ [vi q,vi nn] Tryz.func12 rfl rfl (m0 w) (r [] rfl fun _=> ?_);refine Rv.cb rfl (vi (k:Int)) (fun w _=>ek▸dr q 4 w hq (by decide) (by decide)) (r [] rfl fun _=>Rv.cb rfl (vi (m:Int)) (fun w _=>em▸dr nn 5 w Wx (by decide) (by decide)) (r [] rfl fun α=> ?_));refine ro 0 11 3 3 (fun _ h=>h) ?_ rfl rfl;refine jH (M':=fun b'=>(Value.slice (some ⟨α 0,0,none⟩) 3 3).ownBlock=some b'∨False) (R':=fun w'=>ig w w' (α 0) 3 3 D) (H':=[]) (fun w hS=>hS.sr fun w h=>⟨h.1,by rw[hD];exact h.2⟩) ?_;refine cx rfl (fun t:jC=>vt [.g [.f 18 (dN O t)],.o (.bool true)]) (fun _=>True) (fun t w=>kC w O t) (fun w1 hS=>hO▸(mA (some ⟨α 0,0,none⟩) 3 3 D w1 (hK.next hS.now.2.1) (ig.row hS.now.2 s1) (by omega) k1).mono fun _ w2 ⟨t,e,ho,b⟩=>⟨t,e,b,trivial,fun hl=>ho.mono fun b _ hu=>hl b hu⟩) fun t _=> ?_;have og:aT (dN O t) 18:=iH;refine SI fun w9 hS=> ?_;have hb:=(hS.now.1.2.b m hm).bin k hk;rw[eB]at hb;obtain⟨ga,oa,eA⟩:=hb.row.form (by show 0<6*1;decide);clear hb hS;have cl:∀w,kC w O t→∀j,j<6→w.cell? ⟨t.Y m,0+k*6+j,none⟩=some (lF [iV 1,iV 1,iV 0,iV 0,iV 0,.slice (some ⟨ga,oa,none⟩) 1 (t.K m k)] j):=fun w h j hj=>by
  have:=jF h hm hk j hj;rw[eB,eA]at this;exact this
 have ob:aT (lF [iV 1,iV 1,iV 0,iV 0,iV 0,.slice (some ⟨ga,oa,none⟩) 1 (t.K m k)]) 6:=fun i hi=>by
  match i,hi with
  |0,_|1,_|2,_|3,_|4,_|5,_=>rfl
 refine r [] rfl fun β=>Rv.l1 (q:=0+m*1) rfl (.slice (some ⟨t.Y m,0,none⟩) 4 (t.C m)) (fun w hS=>lZ hS.now.1.2 hm) ?_;refine r [] rfl fun _=>lf (q:=0+k*6) rfl 6 (lF [iV 1,iV 1,iV 0,iV 0,iV 0,.slice (some ⟨ga,oa,none⟩) 1 (t.K m k)]) (fun w hS j hj=>cl w hS.now.1.2 j hj) ?_;refine r [1,1,1] rfl fun _=>Rv.l1 (q:=oa+0*6+0) rfl (iV 4) (fun w hS=> ?_) ?_
 ·have hb:=(hS.now.1.2.b m hm).bin k hk;have hr:=hb.row;rw[eB,eA]at hr;exact hr.at 0 (by show 0<6*1;decide)
 refine r [1,1] rfl fun _=>lo rfl rfl 0 rfl 2 (lF [iV (m:Int),iV 1]) (fun i hi=> ?_) ?_
 ·rcases(show k=0∨k=1∨k=2∨k=3 by omega)with rfl|rfl|rfl|rfl<;>rcases(show i=0∨i=1 by omega)with rfl|rfl
  all_goals first|exact congrArg (Value.int .i64) e1|exact congrArg (Value.int .i64) e2
 exact r [] rfl fun _=>eqs (b:=true) rfl (fun w=>gu 9998 m 1 w) rfl (r [1] rfl fun _=>fin fun w hS=>⟨rfl,hS.now.2.1⟩)
end
end Go.Proofs.YtmhifeahpnkpiaaGreatDoor
