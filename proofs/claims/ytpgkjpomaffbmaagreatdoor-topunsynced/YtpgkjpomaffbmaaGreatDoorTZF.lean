/- Out of my texts: PrA@TopUnsyncedOwn, PrB@TopUnsyncedOwn, TdA@TopUnsyncedOwn, TdB@TopUnsyncedOwn, PtA@TopUnsyncedOwn, TmB@TopUnsyncedOwn, SlA@TopUnsyncedOwn, KaA@TopUnsyncedOwn, UnA@TopUnsyncedOwn. -/
import Derived.Test.YtpgkjpomaffbmaaGreatDoorTAA
import Derived.Test.YtpgkjpomaffbmaaGreatDoorTAB
import Derived.Test.YtpgkjpomaffbmaaGreatDoorTAC
import Derived.Test.YtpgkjpomaffbmaaGreatDoorTAF
set_option maxRecDepth 20000
set_option maxHeartbeats 8000000
set_option linter.unusedVariables false
namespace Go.Proofs.YtpgkjpomaffbmaaGreatDoor
open Go.RowKit
def yi:Af→Option (Nat×Bt)
 | .serve _ _=>none
 | .begin l B=>some (l.q,B)
 | .shut l B=>some (l.q,B)
 | .take l B=>some (l.q,B)
 | .fA q B=>some (q,B)
def Pos(n:Nd)(q:Nat)(r e t:Int):Prop:=
 (n.up=true∧((r=(n.mo q).r∧e=(n.mo q).e∧t=(n.mo q).t)∨((n.mo q).r=2∧r=1∧e=(n.mo q).e∧t=0)∨∃a B,n.af=some a∧yi a=some (q,B)∧r=B.r∧e=B.e∧t=B.t))∨
 (n.up=false∧r=(kX n q).r∧e=(kX n q).e∧t=(kX n q).t)
def iO(n:Nd)(q:Nat)(P:Int→Int→Int→Prop):Prop:=∀r e t,Pos n q r e t→P r e t
def yK(n:Nd)(q:Nat)(ep:Int):Prop:=iO n q fun r e _=>ep<e∨(e=ep∧¬r=4)
def Mc(n:Nd)(q:Nat)(ep:Int):Prop:=iO n q fun r e _=>ep<e∨(e=ep∧(r=3∨r=0))
def GV(q:Nat)(ns:Nat→Nd)(pn pe k:Int):Prop:=0≤pn∧iO (ns pn.toNat) q fun r e t=>r=3∧e=pe∧t=k
structure k_(q:Nat)(ns:Nat→Nd)(pn pe:Int)(i:Nat)(r e t:Int):Prop where
 z:pn= -1→r=0∨r=4
 a:e≤pe+1
 a2:r=2∨r=3→e≤pe
 b:r=1∨r=2∨r=3→e=pe→(i:Int)=pn
 d:r=1∨r=2→pe≤e
 c:r=1→e=pe+1→GV q ns pn pe i
 s:r=3→e<pe→yK (ns t.toNat) q (e+1)
 x:(i:Int)=pn→(r=1∨r=2∨r=3)∧e=pe
structure Fn(q:Nat)(ns:Nat→Nd)(pn pe:Int)(i:Nat)(r e t:Int):Prop where
 ok:k_ q ns pn pe i r e t
 g1:∀ep,yK (ns i) q ep→ep<e∨(e=ep∧¬r=4)
 g2:¬iO (ns i) q fun r e _=>r=3∧e=pe
 g3:¬iO (ns i) q fun r e _=>r=1∧e=pe+1
 g4:∀ep,Mc (ns i) q ep→ep<e∨(e=ep∧(r=3∨r=0))
section
open Rv
theorem aau{D E:tG}{n j:Nat}(hj:j<n)(hl:11*n≤D.length):∀o,o<11→Lq.av (D++E) j o=Lq.av D j o:=fun o ho=>by
 unfold Lq.av;rw[Aw,Aw,AZ (by omega)]
theorem aas{D E:tG}{n:Nat}(hl:D.length=11*n)(j:Nat):∀o,o<11→Lq.av (D++E) (n+j) o=Lq.av E j o:=fun o ho=>by
 unfold Lq.av;rw[Aw,Aw,AQ (by omega),show 11*(n+j)+o-D.length=11*j+o by omega]
theorem aaC{D E:tG}{n:Nat}(hl:11*n≤D.length):∀k,k≤n→gk (D++E) k=gk D k
 |0,_=>rfl
 |k+1,hk=>by
  show j8 (gk (D++E) k) _=j8 (gk D k) _;rw[aaC hl k (by omega)];exact tz (aau (by omega) hl)
theorem aaD{D l:tG}{n:Nat}(hl:D.length=11*n):gk (D++l) (n+1)=j8 (gk D n) (lA l):=by
 show j8 (gk (D++l) n) _=_;rw[aaC (by omega) n (Ac _)];refine tz fun o ho=> ?_;rw[show n=n+0 from rfl,aas hl 0 o ho];unfold Lq.av lA;rw[Nat.mul_zero,Aj]
theorem aaY{D E:tG}{n m:Nat}(hl:D.length=11*n)(h:∀j,j<n→Lq.fQ (Lq.av D j)=0)(he:∀j,j<m→Lq.fQ (Lq.av E j)=0):∀j,j<n+m→Lq.fQ (Lq.av (D++E) j)=0:=fun j hj=>by
 by_cases e:j<n
 ·exact(jF (aau e (by omega))).trans (h j e)
 ·obtain⟨i,rfl⟩:∃i,j=n+i:=⟨j-n,by omega⟩;exact(jF (aas hl i)).trans (he i (by omega))
theorem aaW{p:(Nat→Nd)×Ws}{i:Nat}{kp:Int}:((j8 p (lA [8,(i:Int),0,0,kp,0,0,0,0,0,0])).1 i).up=false:=by
 show(ak p.1 (i:Int).toNat (jZ (p.1 (i:Int).toNat) kp) i).up=false;rw[Bu,aj];unfold jZ;split
 ·rfl
 ·rename_i h;simpa using h
theorem aaZ(n:Int)(m:Nat)(h:0<m):∃i:Nat,aA n m=i∧i<m:=by
 obtain⟨h1,h2⟩:=di n m (by omega);exact⟨(aA n m).toNat,by omega,by omega⟩
abbrev qT(w w':tA)(g l c:Nat)(D:tG):Prop:=bZ w w'∧w'.ownsRow w.heap.size 63 11 (.slice (some ⟨g,0,none⟩) l c) l (D.map (Value.int .i64))
theorem qT.row{w w':tA}{g l c:Nat}{D:tG}(h:qT w w' g l c D)(hs:∀u∈D,0≤u∧u≤1000000):RowK .i64 w' (some ⟨g,0,none⟩) (11*l) D:=by
 obtain⟨a1,c1,e,r1,_⟩:=RowK.eK h.2 fun u hu=>qP (hs u hu);cases e;exact r1
namespace Rv
end Rv
theorem abb{o:Oc}{t:j7}{i:Nat}(hi:i<5):mZ o t (1+i)= .bool (o.up i):=by
 show Gr _ _ _ _ _ _ _ _ (1+i)=_;unfold Gr Cy;rw[Aa (by omega),Ae (by omega),Cu,Ae hi]
theorem qR{w:tA}{o:Oc}{t:j7}(h:lO w o t){i:Nat}(hi:i<5):w.cell? ⟨t.R,0+i*1,none⟩=some (.slice (some ⟨t.Y i,0,none⟩) 4 (t.C i)):=by
 rw[Aj,Cj];exact UY h hi
theorem nz{w:tA}{o:Oc}{t:j7}(h:lO w o t){i q:Nat}(hi:i<5)(hq:q<4)(j:Nat)(hj:j<6):w.cell? ⟨t.Y i,0+q*6+j,none⟩=some (bF (o.bs i q) (t.A i q) (t.K i q) j):=by
 rw[Aj];exact(h.b i hi).cell q hq j hj
theorem kL(B:Bt)(a:tB)(c:Nat)(w:tA):cA 18 #[vF (bF B a c) 6] w (rB (.bool (decide (B.r=1∨B.r=2))) w):=by
 have ob:aW (bF B a c) 6:=fun i hi=>by
  match i,hi with
  |0,_|1,_|2,_|3,_|4,_|5,_=>rfl
 refine en (H:=[]) _ [vf 6 (bF B a c)] Tryz.func18 rfl rfl (m0 w) (r [] rfl fun _=> ?_);by_cases h1:B.r=1
 ·exact r [1] rfl fun _=>fin fun w hS=>⟨by rw[As (.inl h1)];rfl,hS.now.2⟩
 by_cases h2:B.r=2
 ·exact r [0,1] rfl fun _=>fin fun w hS=>⟨by rw[As (.inr h2)];rfl,hS.now.2⟩
 ·exact r [0,0] rfl fun _=>fin fun w hS=>⟨by rw[Ak (by omega)];rfl,hS.now.2⟩
namespace Rv
section
variable{n:Nat}{ops:tP}{f:Nat→AV}{fn:Func}{Rr:Ending→World→Prop}{T:tF}{Φ R:tJ}{H:List En}{ks:List Fr}{t:Ord}{i d:Nat}{md:Md}
theorem Vf{s e sz lD base l m mc b o:Nat}{x y:AV}{v:tK}{L:tM}{D:tG}{R0:tJ}(hD:D.length=m*sz)(hm:0<m)(h1:Rz n ops f i=some (d,s,x,y))(ht:jI Tryz.prog s e sz lD=true)(dq:∀w,Mem w (hs H) (fun b=>v.ownBlock=some b∨T b) Φ (fun w=>R0 w∧w.ownsRow base e sz v l L)→RowK .i64 w (some ⟨b,o,none⟩) (m*sz) D)(hb:∀w,Mem w (hs H) (fun b=>v.ownBlock=some b∨T b) Φ (fun w=>R0 w∧w.ownsRow base e sz v l L)→base≤w.heap.size)(hR:∀w w',R0 w→dB (fun b=>base≤b) w w'→R0 w')(hn:∀g c,l+m≤c→G Tryz.prog fn Rr n (fun b=>(Value.slice (some ⟨g,0,none⟩) (l+m) c).ownBlock=some b∨T b) Φ (fun w=>R0 w∧w.ownsRow base e sz (.slice (some ⟨g,0,none⟩) (l+m) c) (l+m) (L++D.map (Value.int .i64))) (.g md ops t::ks) (ua f d (vv (.slice (some ⟨g,0,none⟩) (l+m) c))) H)(hx:x.val=v:=by rfl)(hy:y.val= .slice (some ⟨b,o,none⟩) m mc:=by rfl)(Kg:l+m≤maxLen:=by(try dsimp only);unfold maxLen;omega)(Dt:(l+m)*lD≤140737488355328:=by(try dsimp only);omega)(hv:md.vs.contains i=false:=by rfl):G Tryz.prog fn Rr n (fun b=>v.ownBlock=some b∨T b) Φ (fun w=>R0 w∧w.ownsRow base e sz v l L) (.g md ops (.ef i t)::ks) f H:=
 apr h1 hx hy ht (by rw[AW];exact hD) (fun w hS j u hu=>by
  have hj:=(Ap.1 hu).1;rw[AW,hD]at hj;have h:=(dq w hS).at j hj;rw[Ax]at hu;rw[Aw]at h;cases hx:D[j]? with
  |none=>rw[hx]at hu;cases hu
  |some z=>
   rw[hx]at hu h;cases hu;rw[BM];exact h) (fun u hu=>by
  obtain⟨z,_,rfl⟩:=Ay.1 hu
  rfl) hm Kg Dt hb hR hn hv
theorem adZ{s e sz lD base m mc b o:Nat}{x y:AV}{D:tG}{R0:tJ}(hD:D.length=m*sz)(hm:0<m)(h1:Rz n ops f i=some (d,s,x,y))(ht:jI Tryz.prog s e sz lD=true)(dq:∀w,Mem w (hs H) (fun b=>(Value.slice none 0 0).ownBlock=some b∨T b) Φ (fun w=>R0 w∧w.ownsRow base e sz (.slice none 0 0) 0 [])→RowK .i64 w (some ⟨b,o,none⟩) (m*sz) D)(hb:∀w,Mem w (hs H) (fun b=>(Value.slice none 0 0).ownBlock=some b∨T b) Φ (fun w=>R0 w∧w.ownsRow base e sz (.slice none 0 0) 0 [])→base≤w.heap.size)(hR:∀w w',R0 w→dB (fun b=>base≤b) w w'→R0 w')(hn:∀g c,m≤c→G Tryz.prog fn Rr n (fun b=>(Value.slice (some ⟨g,0,none⟩) m c).ownBlock=some b∨T b) Φ (fun w=>R0 w∧w.ownsRow base e sz (.slice (some ⟨g,0,none⟩) m c) m (D.map (Value.int .i64))) (.g md ops t::ks) (ua f d (vv (.slice (some ⟨g,0,none⟩) m c))) H)(hx:x.val= .slice none 0 0:=by rfl)(hy:y.val= .slice (some ⟨b,o,none⟩) m mc:=by rfl)(Kg:m≤maxLen:=by(try dsimp only);unfold maxLen;omega)(Dt:m*lD≤140737488355328:=by(try dsimp only);omega)(hv:md.vs.contains i=false:=by rfl):G Tryz.prog fn Rr n (fun b=>(Value.slice none 0 0).ownBlock=some b∨T b) Φ (fun w=>R0 w∧w.ownsRow base e sz (.slice none 0 0) 0 []) (.g md ops (.ef i t)::ks) f H:=
 Vf hD hm h1 ht dq hb hR (fun g c hc=>by
  rw[Aj]at hc⊢;exact hn g c hc) hx hy (by rw[Aj];exact Kg) (by rw[Aj];exact Dt) hv
end
end Rv
theorem Yq{i q:Nat}{n:Nd}(hN:NI i n)(hq:q<4):(kX n q).Ok:=by
 cases hu:n.up with
 |true=>
  rw[show kX n=n.mo from Ae hu];exact(hN.up hu).mo q hq
 |false=>
  obtain⟨dJ,dC,Bs,dw⟩:=hN.dw hu;rw[dw.bs hN.ln hu q hq];exact(dw.tm.all q hq).1
end
def ku(s:Ws)(q:Nat)(x y:Int):Prop:=y≤s.pe q∧-1≤x∧(x<0→y=0)∧(y=s.pe q→x=s.pn q)
def TA(C:Int→Int→Int→Ev→Prop)(s:Ws)(t:Tl):Prop:=∃(nd:Int) (q:Nat) (op:Ev),C t.nu nd q op∧q<4∧ku s q t.pn t.pe∧((t.an.c=7∨t.an.c=12)∨(t.pn<0∧∃y∈s.sv,y.nu=t.nu∧y.an=t.an))
def KL(C:Int→Int→Int→Ev→Prop)(s:Ws)(l:Lt):Prop:=(l.kd=0→C l.nu l.dst l.q l.op)∧(l.kd=1→TA C s ⟨l.nu,l.an,l.pn,l.pe⟩)∧(l.kd=7→ku s l.q l.pn l.pe)
structure KW(C:Int→Int→Int→Ev→Prop)(s:Ws):Prop where
 fl:∀l∈s.fl,KL C s l
 sv:∀y∈s.sv,y.nu<0∨C y.nu y.nd y.q y.op
 td:∀t∈s.td,TA C s t
structure KN(C:Int→Int→Int→Ev→Prop)(s:Ws)(i:Nat)(n:Nd):Prop where
 wt:∀l∈n.wt,KL C s l∧(l.kd=0→l.dst=i)
 af:∀l an,n.af=some (.serve l an)→C l.nu l.dst l.q l.op∧l.dst=i
 hn:n.up=true→∀q,q<4→ku s q (n.hn q) (n.he q)
structure dK(s s':Ws):Prop where
 h:∀q,q<4→∀x y,ku s q x y→ku s' q x y
 v:∀y∈s.sv,y∈s'.sv
section
variable{C:Int→Int→Int→Ev→Prop}{s s':Ws}{i:Nat}{n:Nd}
structure Kd(C:Int→Int→Int→Ev→Prop)(s s':Ws)(i:Nat)(n':Nd):Prop where
 w:KW C s'
 n:KN C s' i n'
 u:dK s s'
 d:s'.pn=s.pn∧s'.pe=s.pe
end
section
open Rv
theorem aaX{n:Nd}(h:Up n)(hl:n.dl.length≤100000){q:Nat}(hq:q<4):kX (qI n 0) q=tb (n.mo q):=by
 obtain⟨dJ,dC,Bs,e1,e2,e3,e4,e5⟩:=h.ex;have hdl:(qI n 0).dl=cp dJ:=by
  show n.dl.take (leftOf n.dl.length n.sy 0)=_;have hlen:n.dl.length=(cp dJ).length+(cp dC).length:=by rw[e1,Ag]
  have:leftOf n.dl.length n.sy 0=(cp dJ).length:=by
   unfold leftOf;rw[e2];split<;>omega
  rw[this,e1,Ci rfl]
 have dw:D0 (qI n 0) dJ [] Bs:=by
  refine⟨by rw[Au];exact e3, ?_, ?_, ?_,fun r hr=>by cases hr⟩
  ·rw[Au,hdl];exact JK e3.f
  ·rw[Au,hdl];exact BC
  ·show n.sy.toNat=_;rw[e2,Bu]
 rw[dw.bs (by rw[hdl];have:=AB List.length e1;rw[Ag]at this;omega) rfl q hq,e4 q hq]
theorem abc{k i q:Nat}{p:(Nat→Nd)×Ws}(h:Inv k p)(hi:i<5)(hq:q<4):kX ((j8 p (lA [8,(i:Int),0,0,0,0,0,0,0,0,0])).1 i) q=tb (kX (p.1 i) q):=by
 have hN:=h.n i hi;show kX (ak p.1 (i:Int).toNat (jZ (p.1 (i:Int).toNat) 0) i) q=_;rw[Bu,aj];cases hu:(p.1 i).up with
 |true=>
  rw[show jZ (p.1 i) 0=qI (p.1 i) 0 from Ae hu,aaX (hN.up hu) hN.ln hq,show kX (p.1 i)=(p.1 i).mo from Ae hu]
 |false=>
  rw[show jZ (p.1 i) 0=p.1 i from Aa (by rw[hu];decide)];obtain⟨dJ,dC,Bs,dw⟩:=hN.dw hu;rw[dw.bs hN.ln hu q hq,gK (dw.tm.all q hq).2]
theorem aaG{A:tG}{l n:Nat}(h:mK A A l l n):n=l:=by
 rcases h.stop with e|e|e
 ·exact e
 ·exact e
 ·exact absurd (fun _ _=>rfl) e
theorem aaq(w:tA)(hK:Lq.gl w)(a:tB)(len cap:Nat)(GD:tG)(h:RowK .i64 w a (5*len) GD)(rY:len≤cap)(qe:a=none→cap=0)(hs:cap*40≤140737488351232)(who:Int)(hw:(Lit.int .i64 who).wf=true):cA 9 #[.slice a len cap,iV who] w (rB (.bool true) w):=by
 obtain⟨n,hn⟩:∃n,n=min len 80:=⟨_,rfl⟩;have hD:(mm GD true n).length=11*(n+2):=qO _ _ _;have fw:=fun j hj=>rS GD true n j hj;have uk:=wY GD true n;obtain⟨i,ei,hi⟩:=aaZ who 3 (by decide);obtain⟨D1,hD1⟩:∃D1,D1=mm GD true n++[8,(i:Int),0,0,0,0,0,0,0,0,0]:=⟨_,rfl⟩;have k1:∀j,j<n+3→Lq.fQ (Lq.av D1 j)=0:=hD1▸aaY (m:=1) hD fw fun j hj=>by
  obtain rfl:j=0:=by omega
  exact QE (n:=(i:Int)) (kp:=0) (by omega) (by omega)
 have s1:∀u∈D1,0≤u∧u≤1000000:=fun u hu=>by
  rw[hD1]at hu;rcases Ah.1 hu with hu|hu
  ·exact uk u hu
  ·simp only[List.mem_cons,List.not_mem_nil,or_false]at hu;omega
 obtain⟨O,hO⟩:∃O,kZ (mm GD true n) (n+2)=O:=⟨_,rfl⟩;obtain⟨O1,hO1⟩:∃O,kZ D1 (n+3)=O:=⟨_,rfl⟩;have hinv:=gY (mm GD true n) (n+2) (by omega) fw (n+2) (Ac _);have u1:O1.up i=false:=by rw[←hO1];show((gk D1 (n+3)).1 i).up=false;rw[hD1,aaD hD];exact aaW
 have b1:∀q,q<4→O1.bs i q=tb (O.bs i q)∧(O.bs i q).Ok:=fun q hq=>by
  rw[←hO1,←hO];refine⟨?_,Yq (hinv.n i (by omega)) hq⟩;show kX ((gk D1 (n+3)).1 i) q=_;rw[hD1,aaD hD];exact abc hinv (by omega) hq
 refine en (H:=[]) _ [vv (.slice a len cap),vi who] Tryz.func9 rfl rfl (m0 w) (r [] rfl fun _=> ?_);refine cx rfl (fun y:Option Addr×Nat=>vv (.slice y.1 (n+2) y.2)) (fun y=>n+2≤y.2∧∃b o,y.1=some ⟨b,o,none⟩) (fun y w=>RowK .i64 w y.1 (11*(n+2)) (mm GD true n)) (fun w1 hS=>(m_ a len cap 80 true GD w1 (h.below hS.now.2) (by omega) (by omega)).mono fun _ w2 ⟨v1,e,o1,b⟩=> ?_) ?_
 ·rw[←hn]at o1;obtain⟨a1,c1,rfl,r1,hc,_,_,pt⟩:=RowK.eK o1 fun u hu=>qP (uk u hu);obtain⟨b1,q1,rfl⟩:=r1.form (by omega);exact⟨(some ⟨b1,q1,none⟩,c1),e,b,⟨hc,_,_,rfl⟩,fun hl=>bM r1 pt hl⟩
 rintro⟨_,c1⟩ ⟨my,b,o,rfl⟩;refine r [] rfl fun _=>cx rfl (fun t:j7=>vt [.g [.f 18 (mZ O t)],.o (.bool true)]) (fun _=>True) (fun t w=>lO w O t) (fun w1 hS=>hO▸(yH _ (n+2) c1 (mm GD true n) w1 (hK.next hS.now.2) hS.now.1.2 (by omega) fw).mono fun _ w2 ⟨t,e,ho,b⟩=>⟨t,e,b,trivial,fun hl=>ho.mono fun b _ hu=>hl b hu⟩) fun t _=> ?_;have og:aW (mZ O t) 18:=ny;refine r [] rfl fun β=>Rv.cb rfl (vi (i:Int)) (fun w _=>ei▸jm who 3 w hw (by decide) (by decide)) (r [] rfl fun _=> ?_);refine jt (fun w2 hS=>hS.xR w.heap.size 63 11) (adZ (m:=n+2) (b:=b) (o:=o) (hD.trans (Bn _ _)) (by omega) rfl cZ (fun w hS=>by rw[Bn];exact hS.now.1.1.2) (fun w hS=>hS.now.2.1.size) (fun _ _ h c=>cB h c (Ac _)) fun g2 c2 jM=> ?_);refine r [] rfl fun α=>nJ 1 rfl cZ (fun w hS=>hS.now.2.1.size) (fun _ _ h c=>cB h c (Ac _)) fun g3 c3 hc3=> ?_;refine jt (M':=fun b'=>(Value.slice (some ⟨g3,0,none⟩) (n+3) c3).ownBlock=some b'∨False) (R':=fun w'=>qT w w' g3 (n+3) c3 D1) (H':=[⟨β 0,40,[.f 18 (mZ O t)]⟩]) (fun w hS=>by rw[hD1];exact(hS.take 1).sr fun w h=>⟨h.1,by rw[AE];exact h.2⟩) ?_;refine r [] rfl fun _=>cx rfl (fun t:j7=>vt [.g [.f 18 (mZ O1 t)],.o (.bool true)]) (fun _=>True) (fun t w=>lO w O1 t) (fun w1 hS=>hO1▸(yH (some ⟨g3,0,none⟩) (n+3) c3 D1 w1 (hK.next hS.now.2.1) (qT.row hS.now.2 s1) (by omega) k1).mono fun _ w2 ⟨t,e,ho,b⟩=>⟨t,e,b,trivial,fun hl=>ho.mono fun b _ hu=>hl b hu⟩) fun t2 _=> ?_;have og2:aW (mZ O1 t2) 18:=ny;refine r [] rfl fun γ=>uD (X:=Nat) (fun q=>[(6,vp 0 0 (β 0)),(8,vi (i:Int)),(9,vp 1 0 (γ 0)),(11,vi (q:Int))]) (fun _=>[⟨β 0,40,[.f 18 (mZ O t)]⟩,⟨γ 0,40,[.f 18 (mZ O1 t2)]⟩]) (fun _ b'=>(Value.slice (some ⟨g3,0,none⟩) (n+3) c3).ownBlock=some b'∨False) (fun _ w'=>qT w w' g3 (n+3) c3 D1) (fun q=>q≤2) (fun q=>2-q) 0 ⟨rfl,rfl,rfl,rfl,trivial⟩ (fun _ hS=>hS) (Al _) ?_;rintro f q hq;have hq:q≤2:=hq;by_cases UT:q<2
 case neg=>
  exact r [0,1] rfl fun _=>lo1 rfl rfl 1 rfl (.bool false) (by show mZ _ _ (0+1+i*1)=_;rw[Aj,Cj,abb (by omega),u1]) (r [] rfl fun _=>fin fun w hS=>⟨rfl,hS.now.2.1⟩)
 have h9:2-(q+1)<2-q:=by omega
 obtain⟨B,hB⟩:∃B,O.bs i q=B:=⟨_,rfl⟩;obtain⟨B1,hB1⟩:∃B,O1.bs i q=B:=⟨_,rfl⟩;obtain⟨e1,ok⟩:=b1 q (by omega);rw[hB,hB1]at e1;rw[hB]at ok;have hlen:=ok.len;have c1':B1.e=B.e∧B1.es=B.es∧(B.r=1∨B.r=2→B1.r=1)∧(B.r=3→B1.r=3):=by
  rw[e1];by_cases g:B.r=2
  ·rw[si g];exact⟨rfl,rfl,fun _=>rfl,fun g2=>by omega⟩
  ·rw[gK g];exact⟨rfl,rfl,fun g2=>by omega,fun g2=>g2⟩
 obtain⟨x1,x2,x3,x4⟩:=c1';have x5:B1.es.length=B.es.length:=by rw[x2]
 have ob:∀(B:Bt) a c,aW (bF B a c) 6:=fun B a c i hi=>by
  match i,hi with
  |0,_|1,_|2,_|3,_|4,_|5,_=>rfl
 have ob1:=ob B (t.A i q) (t.K i q);have ob2:=ob B1 (t2.A i q) (t2.K i q);refine r [1] rfl fun _=>Rv.l1 (q:=0+i*1) rfl (.slice (some ⟨t.Y i,0,none⟩) 4 (t.C i)) (fun w hS=>qR hS.now.1.1.2 (by omega)) ?_;refine r [] rfl fun _=>lf (q:=0+q*6) rfl 6 (bF B (t.A i q) (t.K i q)) (fun w hS j hj=>by rw[←hB];exact nz hS.now.1.1.2 (by omega) (by omega) j hj) ?_;refine r [] rfl fun _=>Rv.l1 (q:=0+i*1) rfl (.slice (some ⟨t2.Y i,0,none⟩) 4 (t2.C i)) (fun w hS=>qR hS.now.1.2 (by omega)) ?_;refine r [] rfl fun _=>lf (q:=0+q*6) rfl 6 (bF B1 (t2.A i q) (t2.K i q)) (fun w hS j hj=>by rw[←hB1];exact nz hS.now.1.2 (by omega) (by omega) j hj) ?_;obtain⟨g,hg⟩:∃g,g=decide (B.r=1∨B.r=2):=⟨_,rfl⟩;refine r [4] rfl fun δ=>Rv.cb rfl (vv (.bool g)) (fun w _=>hg▸kL B _ _ w) ?_;cases g with
 |false=>
  by_cases r3:B.r=3
  ·have:=x4 r3;exact rz [1,0,0,0,1] [((q+1:Nat):Int)] rfl fun _=>bJ (q+1) ⟨rfl,rfl,rfl,rfl,trivial⟩ (fun _ hS=>hS.take 2) UT h9
  ·exact rz [0,1] [((q+1:Nat):Int)] rfl fun _=>bJ (q+1) ⟨rfl,rfl,rfl,rfl,trivial⟩ (fun _ hS=>hS.take 2) UT h9
 |true=>
  have hr:=Bi hg.symm;have:=x3 hr;refine r [0,0] rfl fun _=>Rv.cb rfl (vi (B.es.length:Int)) (fun w hS=> ?_) ?_
  ·have i1:=(hS.now.1.1.2.b i (by omega)).bin q (by omega);have i2:=(hS.now.1.2.b i (by omega)).bin q (by omega);rw[hB]at i1;rw[hB1]at i2;refine(KM (t.A i q) (t2.A i q) B.es.length (t.K i q) B1.es.length (t2.K i q) _ _ w i1.row i2.row (by omega) (by omega)).mono fun x w' ⟨m,e,hc,b⟩=>⟨?_,b⟩;rw[x2]at hc;rw[e,aaG hc];rfl
  exact rz [0,0,1] [((q+1:Nat):Int)] rfl fun _=>bJ (q+1) ⟨rfl,rfl,rfl,rfl,trivial⟩ (fun _ hS=>hS.take 2) UT h9
end
end Go.Proofs.YtpgkjpomaffbmaaGreatDoor
