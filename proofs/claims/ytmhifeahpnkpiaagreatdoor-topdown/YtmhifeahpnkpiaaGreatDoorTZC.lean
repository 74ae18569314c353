/- Out of my texts: TgA@TopDownOwn, TdA@TopDownOwn, TdB@TopDownOwn. -/
import Derived.Test.YtmhifeahpnkpiaaGreatDoorTAA
import Derived.Test.YtmhifeahpnkpiaaGreatDoorTAF
set_option maxRecDepth 20000
set_option maxHeartbeats 8000000
set_option linter.unusedVariables false
namespace Go.Proofs.YtmhifeahpnkpiaaGreatDoor
open Go.RowKit
section
open Rv
namespace Rv
end Rv
theorem BU(ns:Nat→Nd)(s:Ws)(l:Lt):(bJ ns s l).2.sv=s.sv∧∃L,(bJ ns s l).2.td=s.td++L:=by
 have hf:(jc s l).sv=s.sv∧(jc s l).td=s.td:=by unfold jc;split<;>exact⟨rfl,rfl⟩
 unfold bJ;split
 ·exact⟨rfl,_,rfl⟩
 split
 ·exact⟨hf.1,[],by rw[List.append_nil];exact hf.2⟩
 split
 ·exact⟨rfl,[],by rw[List.append_nil];rfl⟩
 ·exact⟨rfl,[],by rw[List.append_nil]⟩
theorem zj:∀(ls:List Lt) (p:(Nat→Nd)×Ws),(ls.foldl (fun p l=>bJ p.1 p.2 l) p).2.sv=p.2.sv∧∃L,(ls.foldl (fun p l=>bJ p.1 p.2 l) p).2.td=p.2.td++L
 |[],_=>⟨rfl,[],(List.append_nil _).symm⟩
 |l::ls,p=>by
  obtain⟨h1,L,h2⟩:=BU p.1 p.2 l;obtain⟨h3,M,h4⟩:=zj ls (bJ p.1 p.2 l);rw[List.foldl_cons];exact⟨h3.trans h1,L++M,by rw[h4,h2,List.append_assoc]⟩
theorem zk{D E:tF}{n j:Nat}(hj:j<n)(hl:11*n≤D.length):∀o,o<11→Lq.aO (D++E) j o=Lq.aO D j o:=fun o ho=>by
 unfold Lq.aO;rw[List.getD_eq_getElem?_getD,List.getD_eq_getElem?_getD,List.getElem?_append_left (by omega)]
theorem vV{D E:tF}{n:Nat}(hl:D.length=11*n)(j:Nat):∀o,o<11→Lq.aO (D++E) (n+j) o=Lq.aO E j o:=fun o ho=>by
 unfold Lq.aO;rw[List.getD_eq_getElem?_getD,List.getD_eq_getElem?_getD,List.getElem?_append_right (by omega),show 11*(n+j)+o-D.length=11*j+o by omega]
theorem BV{D E:tF}{n:Nat}(hl:11*n≤D.length):∀k,k≤n→dg (D++E) k=dg D k
 |0,_=>rfl
 |k+1,hk=>by
  show fQ (dg (D++E) k) _=fQ (dg D k) _;rw[BV hl k (by omega)];exact lW (zk (by omega) hl)
theorem qe{D l:tF}{n:Nat}(hl:D.length=11*n):dg (D++l) (n+1)=fQ (dg D n) (lA l):=by
 show fQ (dg (D++l) n) _=_;rw[BV (by omega) n (Nat.le_refl _)];refine lW fun o ho=> ?_;rw[show n=n+0 from rfl,vV hl 0 o ho];unfold Lq.aO lA;rw[Nat.mul_zero,Nat.zero_add]
theorem um{D E:tF}{n m:Nat}(hl:D.length=11*n)(h:∀j,j<n→Lq.gC (Lq.aO D j)=0)(he:∀j,j<m→Lq.gC (Lq.aO E j)=0):∀j,j<n+m→Lq.gC (Lq.aO (D++E) j)=0:=fun j hj=>by
 by_cases e:j<n
 ·exact(nI (zk e (by omega))).trans (h j e)
 ·obtain⟨i,rfl⟩:∃i,j=n+i:=⟨j-n,by omega⟩;exact(nI (vV hl i)).trans (he i (by omega))
theorem GB{D l m:tF}{n:Nat}(hl:D.length=11*n)(hm:l.length=11):dg (D++(l++m)) (n+2)=fQ (fQ (dg D n) (lA l)) (lA m):=by
 rw[←List.append_assoc,show n+2=(n+1)+1 from rfl,qe (by rw[List.length_append];omega),qe hl]
structure DnS(i:Nat)(p p':(Nat→Nd)×Ws):Prop where
 n:p'.1 i=p.1 i
 sv:p'.2.sv=p.2.sv
theorem GC{i:Nat}:∀(ls:List Lt) (p:(Nat→Nd)×Ws),(p.1 i).up=false→(ls.foldl (fun p l=>bJ p.1 p.2 l) p).1 i=p.1 i
 |[],_,_=>rfl
 |l::ls,p,h=>by
  have e:(bJ p.1 p.2 l).1 i=p.1 i:=by
   unfold bJ;split
   ·rfl
   split
   ·rfl
   split
   ·rfl
   ·show aj p.1 l.dst.toNat _ i=_;unfold aj;split
    ·rename_i hi;rw[←hi,if_neg (by rw[h];decide)]
    ·rfl
  rw[List.foldl_cons,GC ls _ (by rw[e];exact h),e]
theorem Sq{i:Nat}(hi:i<5){p:(Nat→Nd)×Ws}(h:(p.1 i).up=false):DnS i p (fQ (fQ p (lA [3,(i:Int),0,0,0,0,0,0,0,0,0])) (lA [7,0,0,0,0,0,0,0,0,0,0])):=by
 have e:fQ p (lA [3,(i:Int),0,0,0,0,0,0,0,0,0])=p:=by
  obtain⟨ns,s⟩:=p;show(aj ns (i:Int).toNat (eN (ns (i:Int).toNat) s).1,(eN (ns (i:Int).toNat) s).2)=_;rw[Int.toNat_natCast,qz h];refine Prod.ext (funext fun j=> ?_) rfl;show aj ns i (ns i) j=ns j;unfold aj;split
  ·rename_i hj;rw[hj]
  ·rfl
 rw[e];exact⟨GC p.2.fl (p.1,{p.2 with fl:=[]}) h,(zj p.2.fl (p.1,{p.2 with fl:=[]})).1⟩
def Jn(D:tF)(i:Nat):Nat→List Int
 |0=>D
 |k+1=>Jn D i k++[3,(i:Int),0,0,0,0,0,0,0,0,0,7,0,0,0,0,0,0,0,0,0,0]
theorem xa{D:tF}{i n:Nat}(hl:D.length=11*n):∀k,(Jn D i k).length=11*(n+2*k)
 |0=>hl
 |k+1=>by rw[Jn,List.length_append,xa hl k,show([3,(i:Int),0,0,0,0,0,0,0,0,0,7,0,0,0,0,0,0,0,0,0,0]:tF).length=22 from rfl];omega
theorem K0{D:tF}{i n:Nat}(hi:i<5)(hl:D.length=11*n)(h:((dg D n).1 i).up=false):∀k,DnS i (dg D n) (dg (Jn D i k) (n+2*k))
 |0=>⟨rfl,rfl⟩
 |k+1=>by
  have h0:=K0 hi hl h k;have h1:=Sq hi (p:=dg (Jn D i k) (n+2*k)) (by rw[h0.n];exact h);have e:dg (Jn D i (k+1)) (n+2*(k+1))=_:=GB (D:=Jn D i k) (l:=[3,(i:Int),0,0,0,0,0,0,0,0,0]) (m:=[7,0,0,0,0,0,0,0,0,0,0]) (xa hl k) rfl;rw[e];exact⟨h1.n.trans h0.n,h1.sv.trans h0.sv⟩
theorem K1{D:tF}{i n:Nat}(hi:i<5)(hl:D.length=11*n)(h:∀j,j<n→Lq.gC (Lq.aO D j)=0):∀k j,j<n+2*k→Lq.gC (Lq.aO (Jn D i k) j)=0
 |0=>h
 |k+1=>um (m:=2) (xa hl k) (K1 hi hl h k) fun j hj=>by
  obtain rfl|rfl:j=0∨j=1:=by omega
  ·exact zd (n:=(i:Int)) (by omega)
  ·exact DM
theorem Sr{D:tF}{i:Nat}(hi:i<5)(h:∀u∈D,0≤u∧u≤1000000):∀k,∀u∈Jn D i k,0≤u∧u≤1000000
 |0=>h
 |k+1=>fun u hu=>by
  rw[Jn]at hu;rcases List.mem_append.1 hu with hu|hu
  ·exact Sr hi h k u hu
  ·simp only[List.mem_cons,List.not_mem_nil,or_false]at hu;omega
theorem Jo{p:(Nat→Nd)×Ws}{i:Nat}{kp:Int}:((fQ p (lA [8,(i:Int),0,0,kp,0,0,0,0,0,0])).1 i).up=false:=by
 show(aj p.1 (i:Int).toNat (mK (p.1 (i:Int).toNat) kp) i).up=false;rw[Int.toNat_natCast,au];unfold mK;split
 ·rfl
 ·rename_i h;simpa using h
theorem lY(n:Int)(m:Nat)(h:0<m):∃i:Nat,av n m=i∧i<m:=by
 obtain⟨h1,h2⟩:=cH n m (by omega);exact⟨(av n m).toNat,by omega,by omega⟩
abbrev ig(w w':tA)(g l c:Nat)(D:tF):Prop:=bZ w w'∧w'.ownsRow w.heap.size 57 11 (.slice (some ⟨g,0,none⟩) l c) l (D.map (Value.int .i64))
theorem ig.row{w w':tA}{g l c:Nat}{D:tF}(h:ig w w' g l c D)(hs:∀u∈D,0≤u∧u≤1000000):RowK .i64 w' (some ⟨g,0,none⟩) (11*l) D:=by
 obtain⟨a1,c1,e,r1,_⟩:=RowK.fY h.2 fun u hu=>BS (hs u hu);cases e;exact r1
namespace Rv
section
variable{n:Nat}{ops:tL}{f:Nat→AV}{fn:Func}{Rr:Ending→World→Prop}{T:tD}{Φ R:tI}{H:List En}{ks:List Fr}{t:Ord}{i d:Nat}{md:Md}
theorem aeU{s e sz ku base l mc b:Nat}{x y:AV}{v:tJ}{L:tK}{R0:tI}{en:En}(j m:Nat)(hm:0<m)(h1:OW n ops f i=some (d,s,x,y))(ht:jk Tryz.prog s e sz ku=true)(hb:∀w,Mem w (hs H) (fun b=>v.ownBlock=some b∨T b) Φ (fun w=>R0 w∧w.ownsRow base e sz v l L)→base≤w.heap.size)(hR:∀w w',R0 w→dk (fun b=>base≤b) w w'→R0 w')(hn:∀g c,l+m≤c→G Tryz.prog fn Rr n (fun b=>(Value.slice (some ⟨g,0,none⟩) (l+m) c).ownBlock=some b∨T b) Φ (fun w=>R0 w∧w.ownsRow base e sz (.slice (some ⟨g,0,none⟩) (l+m) c) (l+m) (L++dz en.l)) (.g md ops t::ks) (ua f d (vv (.slice (some ⟨g,0,none⟩) (l+m) c))) H)(hx:x.val=v:=by rfl)(hy:y.val= .slice (some ⟨b,0,none⟩) m mc:=by rfl)(he:nth H j=some en:=by rfl)(ha:en.a=b:=by rfl)(hl:fX en.l=m*sz:=by rfl)(Hc:(dz en.l).all (·.oneCell')=true:=by rfl)(G7:l+m≤maxLen:=by(try dsimp only);unfold maxLen;omega)(zx:(l+m)*ku≤140737488355328:=by(try dsimp only);omega)(hv:md.vs.contains i=false:=by rfl):G Tryz.prog fn Rr n (fun b=>v.ownBlock=some b∨T b) Φ (fun w=>R0 w∧w.ownsRow base e sz v l L) (.g md ops (.ef i t)::ks) f H:=
 pd h1 hx hy ht (by rw[cG];exact hl) (fun w hS j2 u hu=>by
  have fb:=rF hS j he;have hj:=(List.getElem?_eq_some_iff.1 hu).1;rw[cG]at hj;have:=fb.at j2 hj;rw[ma _ hj,List.getD_eq_getElem?_getD,hu,ha]at this;rw[Addr.add_mid,Nat.zero_add]
  exact this) (fun u hu=>List.all_eq_true.1 Hc u hu) hm G7 zx hb hR hn hv
end
end Rv
theorem DO{w:tA}{base e sz n:Nat}{v:tJ}{xs:tK}(h:w.ownsRow base e sz v n xs)(h0:0<n):∃g c,v= .slice (some ⟨g,0,none⟩) n c∧n≤c∧base≤g∧g<w.heap.size:=by
 rcases h.2 with⟨_,h1⟩|⟨g,c,cur,rfl,hb,hg,hc,_⟩
 ·omega
 ·exact⟨g,c,rfl,hc,hb,cj hg⟩
theorem Ss{o:Oc}{t:jC}{i:Nat}(hi:i<5):dN o t (1+i)= .bool (o.up i):=by
 show Ac _ _ _ _ _ _ _ _ (1+i)=_;unfold Ac wm;rw[if_neg (by omega),if_pos (by omega),Nat.add_sub_cancel_left,if_pos hi]
theorem lZ{w:tA}{o:Oc}{t:jC}(h:kC w o t){i:Nat}(hi:i<5):w.cell? ⟨t.R,0+i*1,none⟩=some (.slice (some ⟨t.Y i,0,none⟩) 4 (t.C i)):=by
 rw[Nat.zero_add,Nat.mul_one];exact Xa h hi
theorem jF{w:tA}{o:Oc}{t:jC}(h:kC w o t){i q:Nat}(hi:i<5)(hq:q<4)(j:Nat)(hj:j<6):w.cell? ⟨t.Y i,0+q*6+j,none⟩=some (bF (o.bs i q) (t.A i q) (t.K i q) j):=by
 rw[Nat.zero_add];exact(h.b i hi).cell q hq j hj
theorem DP(w:tA)(hK:Lq.eO w)(a:tB)(len cap:Nat)(GD:tF)(h:RowK .i64 w a (5*len) GD)(qk:len≤cap)(pk:a=none→cap=0)(hs:cap*40≤140737488351232)(who:Int)(hw:(Lit.int .i64 who).wf=true)(keep:Int)(SS:(Lit.int .i64 keep).wf=true)(steps:Int)(gx:(Lit.int .i64 steps).wf=true):cA 7 #[.slice a len cap,iV who,iV keep,iV steps] w (rB (.bool true) w):=by
 obtain⟨n,hn⟩:∃n,n=min len 80:=⟨_,rfl⟩;have hD:(bn GD true n).length=11*(n+2):=jE _ _ _;have ed:=fun j hj=>uk GD true n j hj;have rX:=se GD true n;obtain⟨i,ei,hi⟩:=lY who 3 (by decide);obtain⟨kp,ek,hkp2⟩:=lY keep 100 (by decide);obtain⟨st,es,QP⟩:=lY steps 8 (by decide);refine en (H:=[]) _ [vv (.slice a len cap),vi who,vi keep,vi steps] Tryz.func7 rfl rfl (m0 w) (r [] rfl fun _=> ?_);refine Rv.cb rfl (vi (i:Int)) (fun w _=>ei▸dr who 3 w hw (by decide) (by decide)) (r [] rfl fun _=> ?_);refine j_ rfl (by kernel_rfl) fun w1 hS=>(jZ a len cap 80 true GD w1 (h.below hS.now.2) (by omega) (by omega)).mono fun _ w2 ⟨v1,e,o1,b⟩=> ?_;rw[←hn]at o1;obtain⟨g1,c1,rfl,mm,l9,GN⟩:=DO o1 (by omega);refine⟨vv (.slice (some ⟨g1,0,none⟩) (n+2) c1),[],fun b'=>(Value.slice (some ⟨g1,0,none⟩) (n+2) c1).ownBlock=some b'∨False,fun _=>True,fun w'=>ig w w' g1 (n+2) c1 (bn GD true n),e,.inr b,Mem.start (fun b' hb'=>hb'.elim (fun hb'=>by cases hb';exact GN) fun h=>h.elim) (fun _ _=>trivial) (fun w3 b3=>⟨Below.next (Below.next hS.now.2 b) b3,aG (kU o1 hS.now.2.size) fun g _ hg=>b3.block g hg⟩), ?_⟩;clear hS b o1 l9 GN e;refine r [] rfl fun _=>Rv.cb rfl (vi (kp:Int)) (fun w _=>ek▸dr keep 100 w SS (by decide) (by decide)) (r [] rfl fun α=> ?_);refine qJ 0 rfl eK (fun w hS=>hS.now.2.1.size) (fun _ _ h c=>cS h c (Nat.le_refl _)) fun g2 c2 jo=> ?_;obtain⟨D1,hD1⟩:∃D1,D1=bn GD true n++[8,(i:Int),0,0,(kp:Int),0,0,0,0,0,0]:=⟨_,rfl⟩;refine jH (M':=fun b'=>(Value.slice (some ⟨g2,0,none⟩) (n+2+1) c2).ownBlock=some b'∨False) (R':=fun w'=>ig w w' g2 (n+2+1) c2 D1) (H':=[]) (fun w hS=>(hS.take 0).sr fun w h=>⟨h.1,by rw[hD1,List.map_append];exact h.2⟩) ?_;have l1:D1.length=11*(n+3):=by rw[hD1,List.length_append,hD];rfl
 have k1:∀j,j<n+3→Lq.gC (Lq.aO D1 j)=0:=hD1▸um (m:=1) hD ed fun j hj=>by
  obtain rfl:j=0:=by omega
  exact vl (n:=(i:Int)) (kp:=(kp:Int)) (by omega) (by omega)
 have s1:∀u∈D1,0≤u∧u≤1000000:=fun u hu=>by
  rw[hD1]at hu;rcases List.mem_append.1 hu with hu|hu
  ·exact rX u hu
  ·simp only[List.mem_cons,List.not_mem_nil,or_false]at hu;omega
 have u1:((dg D1 (n+3)).1 i).up=false:=by rw[hD1,qe hD];exact Jo
 have dn:=K0 (by omega) l1 u1 st;have ahQ:n≤80:=by omega
 clear hD1 hD ed rX hn mm jo;refine r [] rfl fun _=>cx rfl (fun t:jC=>vt [.g [.f 18 (dN (cX D1 (n+3)) t)],.o (.bool true)]) (fun _=>True) (fun t w=>kC w (cX D1 (n+3)) t) (fun w1 hS=>(mA (some ⟨g2,0,none⟩) (n+3) c2 D1 w1 (hK.next hS.now.2.1) (ig.row hS.now.2 s1) (by omega) k1).mono fun _ w2 ⟨t,e,ho,b⟩=>⟨t,e,b,trivial,fun hl=>ho.mono fun b _ hu=>hl b hu⟩) fun t _=> ?_;have og:aT (dN (cX D1 (n+3)) t) 18:=iH;refine r [] rfl fun β=> ?_;refine Cv (X:=Nat×Nat×Nat) (fun x=>[(3,vi steps),(9,vi (i:Int)),(10,vv (.slice (some ⟨x.2.1,0,none⟩) (n+3+2*x.1) x.2.2)),(11,vp 0 0 (β 0)),(12,vv (.bool true)),(13,vi (x.1:Int))]) (fun _=>[⟨β 0,34,[.f 18 (dN (cX D1 (n+3)) t)]⟩]) (fun x b'=>(Value.slice (some ⟨x.2.1,0,none⟩) (n+3+2*x.1) x.2.2).ownBlock=some b'∨False) (fun x w'=>ig w w' x.2.1 (n+3+2*x.1) x.2.2 (Jn D1 i x.1)) (fun x=>x.1≤st) (fun x=>st-x.1) (0,g2,c2) ⟨rfl,rfl,rfl,rfl,rfl,rfl,trivial⟩ (fun _ hS=>hS) (Nat.zero_le _) ?_;rintro f ⟨k,g,c⟩ hk;have hk:k≤st:=hk;refine r [] rfl fun _=>Rv.cb rfl (vi (st:Int)) (fun w _=>es▸dr steps 8 w gx (by decide) (by decide)) ?_;by_cases aL:k<st
 ·refine r [1] rfl fun α=>aeU 1 2 (by decide) rfl eK (fun w hS=>hS.now.2.1.size) (fun _ _ h c=>cS h c (Nat.le_refl _)) fun g9 c9 hc9=> ?_;exact rz [1] [((k+1:Nat):Int)] rfl fun _=>bU (k+1,g9,c9) ⟨rfl,rfl,rfl,rfl,rfl,rfl,trivial⟩ (fun w hS=>(hS.take 1).sr fun w h=>⟨h.1,by show World.ownsRow w _ _ _ _ _ ((Jn D1 i k++_).map _);rw[List.map_append];exact h.2⟩) (show k+1≤st by omega) (show st-(k+1)<st-k by omega)
 obtain rfl:k=st:=by omega
 have l2:=xa (i:=i) l1 k;have k2:=K1 (i:=i) (by omega) l1 k1 k;have s2:=Sr (i:=i) (by omega) s1 k;obtain⟨D2,hD2⟩:∃D2,Jn D1 i k=D2:=⟨_,rfl⟩;refine r [0] rfl fun _=>cx rfl (fun t:jC=>vt [.g [.f 18 (dN (cX D2 (n+3+2*k)) t)],.o (.bool true)]) (fun _=>True) (fun t w=>kC w (cX D2 (n+3+2*k)) t) (fun w1 hS=>hD2▸(mA (some ⟨g,0,none⟩) (n+3+2*k) c (Jn D1 i k) w1 (hK.next hS.now.2.1) (ig.row hS.now.2 s2) (by omega) k2).mono fun _ w2 ⟨t,e,ho,b⟩=>⟨t,e,b,trivial,fun hl=>ho.mono fun b _ hu=>hl b hu⟩) fun t2 _=> ?_;have og2:aT (dN (cX D2 (n+3+2*k)) t2) 18:=iH;rw[hD2]at dn;have e1:(cX D1 (n+3)).up i=false:=u1;have e2:(cX D2 (n+3+2*k)).up i=false:=(congrArg Nd.up dn.n).trans u1;have e3:(cX D2 (n+3+2*k)).sv=(cX D1 (n+3)).sv:=dn.sv;have e4:(cX D2 (n+3+2*k)).bs i=(cX D1 (n+3)).bs i:=congrArg Aj dn.n;have e5:(cX D2 (n+3+2*k)).sv.length=(cX D1 (n+3)).sv.length:=by rw[e3]
 refine r [1] rfl fun γ=>Z8 rfl rfl 0 rfl (.bool false) (by show dN _ _ (0+1+i*1)=_;rw[Nat.zero_add,Nat.mul_one,Ss (by omega),e1]) (r [1] rfl fun _=>Z8 rfl rfl 1 rfl (.bool false) (by show dN _ _ (0+1+i*1)=_;rw[Nat.zero_add,Nat.mul_one,Ss (by omega),e2]) (r [0] rfl fun _=> ?_));refine Cv (X:=Nat) (fun q=>[(9,vi (i:Int)),(11,vp 0 0 (β 0)),(14,vp 1 0 (γ 0)),(16,vi (q:Int))]) (fun _=>[⟨β 0,34,[.f 18 (dN (cX D1 (n+3)) t)]⟩,⟨γ 0,34,[.f 18 (dN (cX D2 (n+3+2*k)) t2)]⟩]) (fun _ b'=>(Value.slice (some ⟨g,0,none⟩) (n+3+2*k) c).ownBlock=some b'∨False) (fun _ w'=>ig w w' g (n+3+2*k) c (Jn D1 i k)) (fun q=>q≤4) (fun q=>4-q) 0 ⟨rfl,rfl,rfl,rfl,trivial⟩ (fun _ hS=>hS) (Nat.zero_le _) ?_;rintro f3 q hq;have hq:q≤4:=hq;by_cases mN:q<4
 case neg=>
  obtain rfl:q=4:=by omega
  exact r [0] rfl fun _=>fin fun w hS=>⟨rfl,hS.now.2.1⟩
 have e6:=congrFun e4 q;have e7:((cX D2 (n+3+2*k)).bs i q).r=((cX D1 (n+3)).bs i q).r:=congrArg Bt.r e6;have e8:((cX D2 (n+3+2*k)).bs i q).e=((cX D1 (n+3)).bs i q).e:=congrArg Bt.e e6;have e9:((cX D2 (n+3+2*k)).bs i q).es.length=((cX D1 (n+3)).bs i q).es.length:=by rw[e6]
 refine r [1,1] rfl fun _=>Rv.l1 (q:=0+i*1) rfl (.slice (some ⟨t.Y i,0,none⟩) 4 (t.C i)) (fun w hS=>lZ hS.now.1.1.2 (by omega)) ?_;refine r [] rfl fun _=>Rv.l1 (q:=0+q*6+0) rfl (iV ((cX D1 (n+3)).bs i q).r) (fun w hS=>jF hS.now.1.1.2 (by omega) mN 0 (by decide)) ?_;refine r [] rfl fun _=>Rv.l1 (q:=0+i*1) rfl (.slice (some ⟨t2.Y i,0,none⟩) 4 (t2.C i)) (fun w hS=>lZ hS.now.1.2 (by omega)) ?_;refine r [] rfl fun _=>Rv.l1 (q:=0+q*6+0) rfl (iV ((cX D2 (n+3+2*k)).bs i q).r) (fun w hS=>jF hS.now.1.2 (by omega) mN 0 (by decide)) ?_;refine r [0] rfl fun _=>Rv.l1 (q:=0+i*1) rfl (.slice (some ⟨t.Y i,0,none⟩) 4 (t.C i)) (fun w hS=>lZ hS.now.1.1.2 (by omega)) ?_;refine r [] rfl fun _=>Rv.l1 (q:=0+q*6+1) rfl (iV ((cX D1 (n+3)).bs i q).e) (fun w hS=>jF hS.now.1.1.2 (by omega) mN 1 (by decide)) ?_;refine r [] rfl fun _=>Rv.l1 (q:=0+i*1) rfl (.slice (some ⟨t2.Y i,0,none⟩) 4 (t2.C i)) (fun w hS=>lZ hS.now.1.2 (by omega)) ?_;refine r [] rfl fun _=>Rv.l1 (q:=0+q*6+1) rfl (iV ((cX D2 (n+3+2*k)).bs i q).e) (fun w hS=>jF hS.now.1.2 (by omega) mN 1 (by decide)) ?_;refine r [0] rfl fun _=>Rv.l1 (q:=0+i*1) rfl (.slice (some ⟨t.Y i,0,none⟩) 4 (t.C i)) (fun w hS=>lZ hS.now.1.1.2 (by omega)) ?_;refine r [] rfl fun _=>Rv.l1 (q:=0+q*6+5) rfl (.slice (t.A i q) ((cX D1 (n+3)).bs i q).es.length (t.K i q)) (fun w hS=>jF hS.now.1.1.2 (by omega) mN 5 (by decide)) ?_;refine r [] rfl fun _=>Rv.l1 (q:=0+i*1) rfl (.slice (some ⟨t2.Y i,0,none⟩) 4 (t2.C i)) (fun w hS=>lZ hS.now.1.2 (by omega)) ?_;refine r [] rfl fun _=>Rv.l1 (q:=0+q*6+5) rfl (.slice (t2.A i q) ((cX D2 (n+3+2*k)).bs i q).es.length (t2.K i q)) (fun w hS=>jF hS.now.1.2 (by omega) mN 5 (by decide)) ?_;exact rz [0,1] [((q+1:Nat):Int)] rfl fun _=>bU (q+1) ⟨rfl,rfl,rfl,rfl,trivial⟩ (fun _ hS=>hS) mN (show 4-(q+1)<4-q by omega)
end
end Go.Proofs.YtmhifeahpnkpiaaGreatDoor
