/- Out of my texts: TdA@TopMadeOwn, TdB@TopMadeOwn, TmA@TopMadeOwn, TmB@TopMadeOwn. -/
import Derived.Test.YtmhifeahpnkpiaaGreatDoorTAA
import Derived.Test.YtmhifeahpnkpiaaGreatDoorTAF
set_option maxRecDepth 20000
set_option maxHeartbeats 8000000
set_option linter.unusedVariables false
namespace Go.Proofs.YtmhifeahpnkpiaaGreatDoor
open Go.RowKit
section
open Rv
theorem zk{D E:tF}{n j:Nat}(hj:j<n)(hl:11*n≤D.length):∀o,o<11→Lq.aO (D++E) j o=Lq.aO D j o:=fun o ho=>by
 unfold Lq.aO;rw[List.getD_eq_getElem?_getD,List.getD_eq_getElem?_getD,List.getElem?_append_left (by omega)]
theorem vV{D E:tF}{n:Nat}(hl:D.length=11*n)(j:Nat):∀o,o<11→Lq.aO (D++E) (n+j) o=Lq.aO E j o:=fun o ho=>by
 unfold Lq.aO;rw[List.getD_eq_getElem?_getD,List.getD_eq_getElem?_getD,List.getElem?_append_right (by omega),show 11*(n+j)+o-D.length=11*j+o by omega]
theorem BV{D E:tF}{n:Nat}(hl:11*n≤D.length):∀k,k≤n→dg (D++E) k=dg D k
 |0,_=>rfl
 |k+1,hk=>by
  show fQ (dg (D++E) k) _=fQ (dg D k) _;rw[BV hl k (by omega)];exact lW (zk (by omega) hl)
theorem qe{D l:tF}{n:Nat}(hl:D.length=11*n):dg (D++l) (n+1)=fQ (dg D n) (lA l):=by
 show fQ (dg (D++l) n) _=_;rw[BV (by omega) n (Nat.le_refl _)];refine lW fun o ho=> ?_;rw[show n=n+0 from rfl,vV hl 0 o ho];unfold Lq.aO lA;rw[Nat.mul_zero,Nat.zero_add]
theorem um{D E:tF}{n m:Nat}(hl:D.length=11*n)(h:∀j,j<n→Lq.gC (Lq.aO D j)=0)(he:∀j,j<m→Lq.gC (Lq.aO E j)=0):∀j,j<n+m→Lq.gC (Lq.aO (D++E) j)=0:=fun j hj=>by
 by_cases e:j<n
 ·exact(nI (zk e (by omega))).trans (h j e)
 ·obtain⟨i,rfl⟩:∃i,j=n+i:=⟨j-n,by omega⟩;exact(nI (vV hl i)).trans (he i (by omega))
theorem lY(n:Int)(m:Nat)(h:0<m):∃i:Nat,av n m=i∧i<m:=by
 obtain⟨h1,h2⟩:=cH n m (by omega);exact⟨(av n m).toNat,by omega,by omega⟩
abbrev ig(w w':tA)(g l c:Nat)(D:tF):Prop:=bZ w w'∧w'.ownsRow w.heap.size 57 11 (.slice (some ⟨g,0,none⟩) l c) l (D.map (Value.int .i64))
theorem ig.row{w w':tA}{g l c:Nat}{D:tF}(h:ig w w' g l c D)(hs:∀u∈D,0≤u∧u≤1000000):RowK .i64 w' (some ⟨g,0,none⟩) (11*l) D:=by
 obtain⟨a1,c1,e,r1,_⟩:=RowK.fY h.2 fun u hu=>BS (hs u hu);cases e;exact r1
namespace Rv
end Rv
theorem lZ{w:tA}{o:Oc}{t:jC}(h:kC w o t){i:Nat}(hi:i<5):w.cell? ⟨t.R,0+i*1,none⟩=some (.slice (some ⟨t.Y i,0,none⟩) 4 (t.C i)):=by
 rw[Nat.zero_add,Nat.mul_one];exact Xa h hi
theorem jF{w:tA}{o:Oc}{t:jC}(h:kC w o t){i q:Nat}(hi:i<5)(hq:q<4)(j:Nat)(hj:j<6):w.cell? ⟨t.Y i,0+q*6+j,none⟩=some (bF (o.bs i q) (t.A i q) (t.K i q) j):=by
 rw[Nat.zero_add];exact(h.b i hi).cell q hq j hj
theorem VR{s:Ws}{l:Lt}{q:Nat}(hl:0≤l.fr)(h:¬s.pn q= -1):¬(jc s l).pn q= -1:=by
 unfold jc;split
 ·show ¬cP s.pn l.q l.fr q= -1;unfold cP;split
  ·omega
  ·exact h
 ·exact h
theorem K3(ns:Nat→Nd){s:Ws}{l:Lt}{q:Nat}(hl:0≤l.fr)(h:¬s.pn q= -1):¬(bJ ns s l).2.pn q= -1:=by
 unfold bJ;split
 ·exact h
 split
 ·exact VR hl h
 split
 ·exact h
 ·exact h
theorem Su{q:Nat}:∀(ls:List Lt) (p:(Nat→Nd)×Ws),(∀l∈ls,0≤l.fr)→¬p.2.pn q= -1→¬(ls.foldl (fun p l=>bJ p.1 p.2 l) p).2.pn q= -1
 |[],_,_,h=>h
 |l::ls,p,hl,h=>by
  rw[List.foldl_cons];exact Su ls _ (fun x hx=>hl x (List.mem_cons_of_mem _ hx)) (K3 p.1 (hl l List.mem_cons_self) h)
theorem K4{i:Nat}{n:Nd}{s:Ws}(h:NI i n)(hi:i<5):(eN n s).2.pn=s.pn:=by
 have e:=h.i;unfold eN;split
 ·rfl
 rename_i DL;have up:n.up=true:=by simpa using DL
 cases ha:n.af with
 |some x=>exact(qC (h.up up) ha (by omega)).pn
 |none=>
  obtain⟨⟨_,_,hs,_⟩,_⟩:=qa (s:=s) n.wt.length (h.up up) ha (by omega) h.tu h.ln h.wt;exact hs.pn
theorem YT{j:Nat}{p:(Nat→Nd)×Ws}(h:Inv j p){f:tG}(hn:(f 1).toNat<5){x:Nat}(hx:¬p.2.pn x= -1):¬(fQ p f).2.pn x= -1:=by
 obtain⟨ns,s⟩:=p;unfold fQ;have uw:=h.n _ hn;have vq:=h.fl;generalize(f 1).toNat=n,(f 2).toNat=q,(f 3).toNat=j,f 4=kp,(⟨f 5,f 6,f 7,f 8,f 9,f 10⟩:Ev)=e,f 0=k at*;dsimp only at uw vq hx⊢;unfold SY;split
 ·unfold cY;split
  ·show ¬cP s.pn q _ x= -1;unfold cP;split
   ·omega
   ·exact hx
  ·exact hx
 split
 ·exact hx
 split
 ·show ¬(eN (ns n) s).2.pn x= -1;rw[K4 uw hn];exact hx
 split
 ·unfold eC;split
  ·exact hx
  rename_i l hl;have hl:=vq l (List.mem_of_getElem? hl);split
  ·split<;>exact hx
  ·exact K3 ns hl.f0 (by split<;>exact hx)
 split
 ·exact Su s.fl (ns,{s with fl:=[]}) (fun l hl=>(vq l hl).f0) hx
 split
 ·exact hx
 split
 ·unfold du;split
  ·exact hx
  split
  ·unfold iR;split<;>exact hx
  ·exact hx
 ·exact hx
theorem Sv{D:tF}{n:Nat}(hn:n≤100000)(ok:∀j,j<n→Lq.gC (Lq.aO D j)=0){x m:Nat}(h:¬(dg D m).2.pn x= -1):∀k,m+k≤n→¬(dg D (m+k)).2.pn x= -1
 |0,_=>h
 |k+1,hk=>YT (f:=Lq.aO D (m+k)) (gk D n hn ok (m+k) (by omega)) (by have:=(vh (ok (m+k) (by omega))).n;omega) (Sv hn ok h k (by omega))
theorem DQ(r:Rec):(bP [r]).length≤46:=by
 rw[iT];exact(oV [bj r]).2
theorem BX{B:Bt}(h:B=Bt.zero):(fJ B 1).2=0:=by
 unfold fJ;rw[h,if_neg (fun h=>h Bt.cR),if_neg (by omega),if_neg (fun h=>h rfl),if_neg (by show ¬(1:Int)≤0;omega)]
theorem mk_one{ns:Nat→Nd}{s:Ws}{n q:Nat}(hd:dB s.pn s.pe)(hp:s.pn q= -1)(hN:ns n=wA n):fQ (ns,s) (lA [1,(n:Int),(q:Int),0,0,0,0,0,0,0,0])=(aj ns n {wA n with dl:=bP [aI q],sy:=((bP [aI q]).length:Int),mo:=aj (fun _=>Bt.zero) q ⟨1,1,0,0,0,[]⟩},{s with pn:=cP s.pn q n,pe:=cP s.pe q 1}):=by
 show(aj ns (n:Int).toNat (cY (ns (n:Int).toNat) s (q:Int).toNat).1,(cY (ns (n:Int).toNat) s (q:Int).toNat).2)=_;rw[Int.toNat_natCast,Int.toNat_natCast,hN];have h1:=DQ (aI q);have hc:KH (wA n) s q:=⟨⟨hd,hp⟩,rfl,rfl,BX rfl,by show 0+(bP [aI q]).length≤100000;omega⟩;unfold cY;rw[if_pos hc];have e:(wA n).dl.length+(bP [aI q]).length=(bP [aI q]).length:=Nat.zero_add _;rw[e];rfl
theorem Sw{p:(Nat→Nd)×Ws}{n q:Nat}(h:¬p.2.pn q= -1):fQ p (lA [1,(n:Int),(q:Int),0,0,0,0,0,0,0,0])=p:=by
 obtain⟨ns,s⟩:=p;show(aj ns (n:Int).toNat (cY (ns (n:Int).toNat) s (q:Int).toNat).1,(cY (ns (n:Int).toNat) s (q:Int).toNat).2)=_;rw[Int.toNat_natCast,Int.toNat_natCast];unfold cY;rw[if_neg fun hc=>h hc.1.2,my]
theorem zl{D:tF}(h0:∀o,o<11→Lq.aO D 0 o=lA [1,0,0,0,0,0,0,0,0,0,0] o)(h1:∀o,o<11→Lq.aO D 1 o=lA [1,1,1,0,0,0,0,0,0,0,0] o):(dg D 2).2={SX with pn:=cP (cP (eD 4) 0 0) 1 1,pe:=cP (cP bD 0 1) 1 1}:=by
 have e1:dg D 1=_:=(lW (p:=(wA,SX)) h0).trans (mk_one (n:=0) (q:=0) Sb.dir rfl rfl);have k1:dB (dg D 1).2.pn (dg D 1).2.pe:=by
  rw[e1];exact DK Sb.dir (.inr ⟨by decide,by decide,by decide,by decide⟩)
 show(fQ (dg D 1) _).2=_;rw[lW h1];rw[e1]at k1⊢;exact congrArg Prod.snd (mk_one (n:=1) (q:=1) k1 rfl rfl)
theorem N2(G:tF)(cr:Bool)(n:Nat)(hn:n≤1000){q:Nat}(hq:q<2):¬(dg (bn G cr n) (n+2)).2.pn q= -1:=by
 have h0:∀o,o<11→Lq.aO (bn G cr n) 0 o=lA [1,0,0,0,0,0,0,0,0,0,0] o:=by
  intro o ho;rw[iI _ _ o ho];rcases o6 G cr n 0 (by omega)with⟨_,e⟩|⟨e,_⟩|⟨e,_⟩
  ·rw[e]
  ·omega
  ·omega
 have h1:∀o,o<11→Lq.aO (bn G cr n) 1 o=lA [1,1,1,0,0,0,0,0,0,0,0] o:=by
  intro o ho;rw[iI _ _ o ho];rcases o6 G cr n 1 (by omega)with⟨e,_⟩|⟨_,e⟩|⟨e,_⟩
  ·omega
  ·rw[e]
  ·omega
 have hf:=zl h0 h1;rw[Nat.add_comm];refine Sv (n:=n+2) (by omega) (fun j hj=>uk G cr n j hj) (m:=2) ?_ n (by omega);rw[hf];obtain rfl|rfl:q=0∨q=1:=by omega
 ·decide
 ·decide
namespace Rv
section
variable{n:Nat}{ops:tL}{f:Nat→AV}{fn:Func}{Rr:Ending→World→Prop}{T:tD}{Φ R:tI}{H:List En}{ks:List Fr}{t:Ord}{i d:Nat}{md:Md}
theorem abI{s e sz ku base l m mc b o:Nat}{x y:AV}{v:tJ}{L:tK}{D:tF}{R0:tI}(hD:D.length=m*sz)(hm:0<m)(h1:OW n ops f i=some (d,s,x,y))(ht:jk Tryz.prog s e sz ku=true)(de:∀w,Mem w (hs H) (fun b=>v.ownBlock=some b∨T b) Φ (fun w=>R0 w∧w.ownsRow base e sz v l L)→RowK .i64 w (some ⟨b,o,none⟩) (m*sz) D)(hb:∀w,Mem w (hs H) (fun b=>v.ownBlock=some b∨T b) Φ (fun w=>R0 w∧w.ownsRow base e sz v l L)→base≤w.heap.size)(hR:∀w w',R0 w→dk (fun b=>base≤b) w w'→R0 w')(hn:∀g c,l+m≤c→G Tryz.prog fn Rr n (fun b=>(Value.slice (some ⟨g,0,none⟩) (l+m) c).ownBlock=some b∨T b) Φ (fun w=>R0 w∧w.ownsRow base e sz (.slice (some ⟨g,0,none⟩) (l+m) c) (l+m) (L++D.map (Value.int .i64))) (.g md ops t::ks) (ua f d (vv (.slice (some ⟨g,0,none⟩) (l+m) c))) H)(hx:x.val=v:=by rfl)(hy:y.val= .slice (some ⟨b,o,none⟩) m mc:=by rfl)(G7:l+m≤maxLen:=by(try dsimp only);unfold maxLen;omega)(zx:(l+m)*ku≤140737488355328:=by(try dsimp only);omega)(hv:md.vs.contains i=false:=by rfl):G Tryz.prog fn Rr n (fun b=>v.ownBlock=some b∨T b) Φ (fun w=>R0 w∧w.ownsRow base e sz v l L) (.g md ops (.ef i t)::ks) f H:=
 pd h1 hx hy ht (by rw[List.length_map];exact hD) (fun w hS j u hu=>by
  have hj:=(List.getElem?_eq_some_iff.1 hu).1;rw[List.length_map,hD]at hj;have h:=(de w hS).at j hj;rw[List.getElem?_map]at hu;rw[List.getD_eq_getElem?_getD]at h;cases hx:D[j]? with
  |none=>rw[hx]at hu;cases hu
  |some z=>
   rw[hx]at hu h;cases hu;rw[Addr.add_mid];exact h) (fun u hu=>by
  obtain⟨z,_,rfl⟩:=List.mem_map.1 hu
  rfl) hm G7 zx hb hR hn hv
theorem abJ{s e sz ku base m mc b o:Nat}{x y:AV}{D:tF}{R0:tI}(hD:D.length=m*sz)(hm:0<m)(h1:OW n ops f i=some (d,s,x,y))(ht:jk Tryz.prog s e sz ku=true)(de:∀w,Mem w (hs H) (fun b=>(Value.slice none 0 0).ownBlock=some b∨T b) Φ (fun w=>R0 w∧w.ownsRow base e sz (.slice none 0 0) 0 [])→RowK .i64 w (some ⟨b,o,none⟩) (m*sz) D)(hb:∀w,Mem w (hs H) (fun b=>(Value.slice none 0 0).ownBlock=some b∨T b) Φ (fun w=>R0 w∧w.ownsRow base e sz (.slice none 0 0) 0 [])→base≤w.heap.size)(hR:∀w w',R0 w→dk (fun b=>base≤b) w w'→R0 w')(hn:∀g c,m≤c→G Tryz.prog fn Rr n (fun b=>(Value.slice (some ⟨g,0,none⟩) m c).ownBlock=some b∨T b) Φ (fun w=>R0 w∧w.ownsRow base e sz (.slice (some ⟨g,0,none⟩) m c) m (D.map (Value.int .i64))) (.g md ops t::ks) (ua f d (vv (.slice (some ⟨g,0,none⟩) m c))) H)(hx:x.val= .slice none 0 0:=by rfl)(hy:y.val= .slice (some ⟨b,o,none⟩) m mc:=by rfl)(G7:m≤maxLen:=by(try dsimp only);unfold maxLen;omega)(zx:m*ku≤140737488355328:=by(try dsimp only);omega)(hv:md.vs.contains i=false:=by rfl):G Tryz.prog fn Rr n (fun b=>(Value.slice none 0 0).ownBlock=some b∨T b) Φ (fun w=>R0 w∧w.ownsRow base e sz (.slice none 0 0) 0 []) (.g md ops (.ef i t)::ks) f H:=
 abI hD hm h1 ht de hb hR (fun g c hc=>by
  rw[Nat.zero_add]at hc⊢;exact hn g c hc) hx hy (by rw[Nat.zero_add];exact G7) (by rw[Nat.zero_add];exact zx) hv
end
end Rv
theorem Ap(n e:tG)(w:tA):(Op.equalIn 10000 29 (gG n e) (gG n e)).run Tryz.prog w= .ok true w:=by
 have hq:=vm n e w;rw[run_equalIn_agg (P:=Tryz.prog) w 9999 29 _ _ Tryz.underlying29 (by kernel_rfl)];simp[go_sem,hq]
theorem DR(w:tA)(hK:Lq.eO w)(a:tB)(len cap:Nat)(GD:tF)(h:RowK .i64 w a (5*len) GD)(qk:len≤cap)(pk:a=none→cap=0)(hs:cap*40≤140737488351232)(q:Int)(hq:(Lit.int .i64 q).wf=true)(nn:Int)(Wx:(Lit.int .i64 nn).wf=true):cA 8 #[.slice a len cap,iV q,iV nn] w (rB (.bool true) w):=by
 obtain⟨n,hn⟩:∃n,n=min len 60:=⟨_,rfl⟩;have hD:(bn GD true n).length=11*(n+2):=jE _ _ _;have ed:=fun j hj=>uk GD true n j hj;have rX:=se GD true n;obtain⟨x,ex,hx⟩:=lY q 2 (by decide);obtain⟨y,ey,hy⟩:=lY nn 5 (by decide);have we:=N2 GD true n (by omega) hx;obtain⟨D1,hD1⟩:∃D1,D1=bn GD true n++[1,(y:Int),(x:Int),0,0,0,0,0,0,0,0]:=⟨_,rfl⟩;have ag:cX D1 (n+3)=cX (bn GD true n) (n+2):=by unfold cX;rw[hD1,qe hD,Sw we]
 have k1:∀j,j<n+3→Lq.gC (Lq.aO D1 j)=0:=hD1▸um (m:=1) hD ed fun j hj=>by
  obtain rfl:j=0:=by omega
  exact nJ (n:=(y:Int)) (q:=(x:Int)) (by omega) (by omega)
 have s1:∀u∈D1,0≤u∧u≤1000000:=fun u hu=>by
  rw[hD1]at hu;rcases List.mem_append.1 hu with hu|hu
  ·exact rX u hu
  ·simp only[List.mem_cons,List.not_mem_nil,or_false]at hu;omega
 refine en (H:=[]) _ [vv (.slice a len cap),vi q,vi nn] Tryz.func8 rfl rfl (m0 w) (r [] rfl fun _=> ?_);refine cx rfl (fun y:Option Addr×Nat=>vv (.slice y.1 (n+2) y.2)) (fun y=>n+2≤y.2∧∃b o,y.1=some ⟨b,o,none⟩) (fun y w=>RowK .i64 w y.1 (11*(n+2)) (bn GD true n)) (fun w1 hS=>(jZ a len cap 60 true GD w1 (h.below hS.now.2) (by omega) (by omega)).mono fun _ w2 ⟨v1,e,o1,b⟩=> ?_) ?_
 ·rw[←hn]at o1;obtain⟨a1,c1,rfl,r1,hc,_,_,uu⟩:=RowK.fY o1 fun u hu=>BS (rX u hu);obtain⟨b1,q1,rfl⟩:=r1.form (by omega);exact⟨(some ⟨b1,q1,none⟩,c1),e,b,⟨hc,_,_,rfl⟩,fun hl=>bT r1 uu hl⟩
 rintro⟨_,c1⟩ ⟨mm,b,o,rfl⟩;obtain⟨O,hO⟩:∃O,cX (bn GD true n) (n+2)=O:=⟨_,rfl⟩;rw[hO]at ag;refine r [] rfl fun _=>cx rfl (fun t:jC=>vt [.g [.f 18 (dN O t)],.o (.bool true)]) (fun _=>True) (fun t w=>kC w O t) (fun w1 hS=>hO▸(mA _ (n+2) c1 (bn GD true n) w1 (hK.next hS.now.2) hS.now.1.2 (by omega) ed).mono fun _ w2 ⟨t,e,ho,b⟩=>⟨t,e,b,trivial,fun hl=>ho.mono fun b _ hu=>hl b hu⟩) fun t _=> ?_;have og:aT (dN O t) 18:=iH;refine r [] rfl fun β=>jH (fun w2 hS=>hS.zJ w.heap.size 57 11) (abJ (m:=n+2) (b:=b) (o:=o) (hD.trans (Nat.mul_comm _ _)) (by omega) rfl eK (fun w hS=>by rw[Nat.mul_comm];exact hS.now.1.1.2) (fun w hS=>hS.now.2.1.size) (fun _ _ h c=>cS h c (Nat.le_refl _)) fun g2 c2 jo=> ?_);refine r [] rfl fun _=>Rv.cb rfl (vi (x:Int)) (fun w _=>ex▸dr q 2 w hq (by decide) (by decide)) (r [] rfl fun _=>Rv.cb rfl (vi (y:Int)) (fun w _=>ey▸dr nn 5 w Wx (by decide) (by decide)) (r [] rfl fun α=> ?_));refine qJ 1 rfl eK (fun w hS=>hS.now.2.1.size) (fun _ _ h c=>cS h c (Nat.le_refl _)) fun g3 c3 hc3=> ?_;refine jH (M':=fun b'=>(Value.slice (some ⟨g3,0,none⟩) (n+3) c3).ownBlock=some b'∨False) (R':=fun w'=>ig w w' g3 (n+3) c3 D1) (H':=[⟨β 0,34,[.f 18 (dN O t)]⟩]) (fun w hS=>by rw[hD1];exact(hS.take 1).sr fun w h=>⟨h.1,by rw[List.map_append];exact h.2⟩) ?_;refine r [] rfl fun _=>cx rfl (fun t:jC=>vt [.g [.f 18 (dN O t)],.o (.bool true)]) (fun _=>True) (fun t w=>kC w O t) (fun w1 hS=>ag▸(mA (some ⟨g3,0,none⟩) (n+3) c3 D1 w1 (hK.next hS.now.2.1) (ig.row hS.now.2 s1) (by omega) k1).mono fun _ w2 ⟨t,e,ho,b⟩=>⟨t,e,b,trivial,fun hl=>ho.mono fun b _ hu=>hl b hu⟩) fun t2 _=> ?_;have og2:aT (dN O t2) 18:=iH;refine r [] rfl fun γ=>eqs (b:=false) rfl (fun w=>Ap O.pn O.pe w) rfl ?_;refine r [0,0] rfl fun _=>Cv (X:=Nat) (fun i=>[(8,vp 0 0 (β 0)),(10,vp 1 0 (γ 0)),(12,vi (i:Int))]) (fun _=>[⟨β 0,34,[.f 18 (dN O t)]⟩,⟨γ 0,34,[.f 18 (dN O t2)]⟩]) (fun _ b'=>(Value.slice (some ⟨g3,0,none⟩) (n+3) c3).ownBlock=some b'∨False) (fun _ w'=>ig w w' g3 (n+3) c3 D1) (fun i=>i≤5) (fun i=>5-i) 0 ⟨rfl,rfl,rfl,trivial⟩ (fun _ hS=>hS) (Nat.zero_le _) ?_;rintro f i hi;have hi:i≤5:=hi;by_cases hi5:i<5
 case neg=>
  obtain rfl:i=5:=by omega
  exact r [0] rfl fun _=>fin fun w hS=>⟨rfl,hS.now.2.1⟩
 refine r [1] rfl fun _=>Cv (X:=Nat) (fun q=>[(8,vp 0 0 (β 0)),(10,vp 1 0 (γ 0)),(12,vi (i:Int)),(13,vi (q:Int))]) (fun _=>[⟨β 0,34,[.f 18 (dN O t)]⟩,⟨γ 0,34,[.f 18 (dN O t2)]⟩]) (fun _ b'=>(Value.slice (some ⟨g3,0,none⟩) (n+3) c3).ownBlock=some b'∨False) (fun _ w'=>ig w w' g3 (n+3) c3 D1) (fun q=>q≤4) (fun q=>4-q) 0 ⟨rfl,rfl,rfl,rfl,trivial⟩ (fun _ hS=>hS) (Nat.zero_le _) ?_;rintro f2 q hq;have hq:q≤4:=hq;by_cases mN:q<4
 case neg=>
  obtain rfl:q=4:=by omega
  exact rz [0,1] [((i+1:Nat):Int)] rfl fun _=>bU (i+1) ⟨rfl,rfl,rfl,trivial⟩ (fun _ hS=>hS) hi5 (show 5-(i+1)<5-i by omega)
 refine r [1,1] rfl fun _=>Rv.l1 (q:=0+i*1) rfl (.slice (some ⟨t.Y i,0,none⟩) 4 (t.C i)) (fun w hS=>lZ hS.now.1.1.2 hi5) ?_;refine r [] rfl fun _=>Rv.l1 (q:=0+q*6+0) rfl (iV (O.bs i q).r) (fun w hS=>jF hS.now.1.1.2 hi5 mN 0 (by decide)) ?_;refine r [] rfl fun _=>Rv.l1 (q:=0+i*1) rfl (.slice (some ⟨t2.Y i,0,none⟩) 4 (t2.C i)) (fun w hS=>lZ hS.now.1.2 hi5) ?_;refine r [] rfl fun _=>Rv.l1 (q:=0+q*6+0) rfl (iV (O.bs i q).r) (fun w hS=>jF hS.now.1.2 hi5 mN 0 (by decide)) ?_;refine r [0] rfl fun _=>Rv.l1 (q:=0+i*1) rfl (.slice (some ⟨t.Y i,0,none⟩) 4 (t.C i)) (fun w hS=>lZ hS.now.1.1.2 hi5) ?_;refine r [] rfl fun _=>Rv.l1 (q:=0+q*6+5) rfl (.slice (t.A i q) (O.bs i q).es.length (t.K i q)) (fun w hS=>jF hS.now.1.1.2 hi5 mN 5 (by decide)) ?_;refine r [] rfl fun _=>Rv.l1 (q:=0+i*1) rfl (.slice (some ⟨t2.Y i,0,none⟩) 4 (t2.C i)) (fun w hS=>lZ hS.now.1.2 hi5) ?_;refine r [] rfl fun _=>Rv.l1 (q:=0+q*6+5) rfl (.slice (t2.A i q) (O.bs i q).es.length (t2.K i q)) (fun w hS=>jF hS.now.1.2 hi5 mN 5 (by decide)) ?_;exact rz [0,1] [((q+1:Nat):Int)] rfl fun _=>bU (q+1) ⟨rfl,rfl,rfl,rfl,trivial⟩ (fun _ hS=>hS) mN (show 4-(q+1)<4-q by omega)
end
end Go.Proofs.YtmhifeahpnkpiaaGreatDoor
