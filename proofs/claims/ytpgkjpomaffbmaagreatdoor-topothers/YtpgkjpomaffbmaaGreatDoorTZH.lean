/- Out of my texts: PrA@TopOthersOwn, PrB@TopOthersOwn, PrD@TopOthersOwn, TgA@TopOthersOwn, TdA@TopOthersOwn, TdB@TopOthersOwn, TmA@TopOthersOwn, DrH@TopOthersOwn, TmB@TopOthersOwn, FlA@TopOthersOwn, KaA@TopOthersOwn, FlB@TopOthersOwn, CfB@TopOthersOwn, EvA@TopOthersOwn, OtA@TopOthersOwn, OtB@TopOthersOwn, OtC@TopOthersOwn. -/
import Derived.Test.YtpgkjpomaffbmaaGreatDoorTAA
import Derived.Test.YtpgkjpomaffbmaaGreatDoorTAC
import Derived.Test.YtpgkjpomaffbmaaGreatDoorTAF
set_option maxRecDepth 20000
set_option maxHeartbeats 8000000
set_option linter.unusedVariables false
namespace Go.Proofs.YtpgkjpomaffbmaaGreatDoor
open Go.RowKit
def yi:Af→Option (Nat×Bt)
 | .serve _ _=>none
 | .begin l B=>some (l.q,B)
 | .shut l B=>some (l.q,B)
 | .take l B=>some (l.q,B)
 | .fA q B=>some (q,B)
def Pos(n:Nd)(q:Nat)(r e t:Int):Prop:=
 (n.up=true∧((r=(n.mo q).r∧e=(n.mo q).e∧t=(n.mo q).t)∨((n.mo q).r=2∧r=1∧e=(n.mo q).e∧t=0)∨∃a B,n.af=some a∧yi a=some (q,B)∧r=B.r∧e=B.e∧t=B.t))∨
 (n.up=false∧r=(kX n q).r∧e=(kX n q).e∧t=(kX n q).t)
def iO(n:Nd)(q:Nat)(P:Int→Int→Int→Prop):Prop:=∀r e t,Pos n q r e t→P r e t
theorem AfP.q{mo:Nat→Bt}{q:Nat}{D:Bt}{a:Af}(h:AfP mo q D a):(yi a=none∧∃l,D=tb ((mo q).more l))∨yi a=some (q,D):=by
 cases a with
 |serve l an=>exact .inl ⟨rfl,_,h.2.2.2⟩
 |begin l B=>obtain⟨rfl,_,rfl⟩:=h;exact .inr rfl
 |shut l B=>obtain⟨rfl,_,rfl⟩:=h;exact .inr rfl
 |take l B=>obtain⟨rfl,_,rfl⟩:=h;exact .inr rfl
 |fA q B=>obtain⟨rfl,_,rfl⟩:=h;exact .inr rfl
def yK(n:Nd)(q:Nat)(ep:Int):Prop:=iO n q fun r e _=>ep<e∨(e=ep∧¬r=4)
def Mc(n:Nd)(q:Nat)(ep:Int):Prop:=iO n q fun r e _=>ep<e∨(e=ep∧(r=3∨r=0))
def GV(q:Nat)(ns:Nat→Nd)(pn pe k:Int):Prop:=0≤pn∧iO (ns pn.toNat) q fun r e t=>r=3∧e=pe∧t=k
structure k_(q:Nat)(ns:Nat→Nd)(pn pe:Int)(i:Nat)(r e t:Int):Prop where
 z:pn= -1→r=0∨r=4
 a:e≤pe+1
 a2:r=2∨r=3→e≤pe
 b:r=1∨r=2∨r=3→e=pe→(i:Int)=pn
 d:r=1∨r=2→pe≤e
 c:r=1→e=pe+1→GV q ns pn pe i
 s:r=3→e<pe→yK (ns t.toNat) q (e+1)
 x:(i:Int)=pn→(r=1∨r=2∨r=3)∧e=pe
structure Fn(q:Nat)(ns:Nat→Nd)(pn pe:Int)(i:Nat)(r e t:Int):Prop where
 ok:k_ q ns pn pe i r e t
 g1:∀ep,yK (ns i) q ep→ep<e∨(e=ep∧¬r=4)
 g2:¬iO (ns i) q fun r e _=>r=3∧e=pe
 g3:¬iO (ns i) q fun r e _=>r=1∧e=pe+1
 g4:∀ep,Mc (ns i) q ep→ep<e∨(e=ep∧(r=3∨r=0))
theorem GW(n:Nd)(s:Ws)(l:Lt):(bm n s l).1.wt=n.wt:=(ie n s l).1.2
section
open Rv
namespace Rv
section
variable{n:Nat}{fn:Func}{Rr:Ending→World→Prop}{M:tF}{Φ R:tJ}{H:List En}{ks:List Fr}{f:Nat→AV}
theorem gp{en:En}(j:Nat)(he:nth H j=some en)(l':List Sg)(hz:eX l'=eX en.l)(hg:dD en.l=dD l')(hn:G Tryz.prog fn Rr n M Φ R ks f (H.set j ⟨en.a,en.t,l'⟩)):G Tryz.prog fn Rr n M Φ R ks f H:=by
 refine jt (fun w hS=> ?_) hn;have xm:=he;rw[eR]at xm;have xn:(hs H)[j]? =some en.g_:=by rw[Ax,xm];rfl
 have Ep:=hS.congr j xn (cy l') (fun i hi=>by
  have hi:i<eX en.l:=hi;show cy en.l i=cy l' i
  rw[iu _ hi,iu _ (hz▸hi),hg])
 have e4:hs (H.set j ⟨en.a,en.t,l'⟩)=(hs H).set j ⟨en.a,en.t,eX en.l,cy l'⟩:=by
  rw[hs,Co];show _=List.set _ j (⟨en.a,en.t,eX en.l,cy l'⟩:bX);rw[←hz];rfl
 rw[e4];exact Ep
end
end Rv
theorem aau{D E:tG}{n j:Nat}(hj:j<n)(hl:11*n≤D.length):∀o,o<11→Lq.av (D++E) j o=Lq.av D j o:=fun o ho=>by
 unfold Lq.av;rw[Aw,Aw,AZ (by omega)]
theorem aas{D E:tG}{n:Nat}(hl:D.length=11*n)(j:Nat):∀o,o<11→Lq.av (D++E) (n+j) o=Lq.av E j o:=fun o ho=>by
 unfold Lq.av;rw[Aw,Aw,AQ (by omega),show 11*(n+j)+o-D.length=11*j+o by omega]
theorem aaC{D E:tG}{n:Nat}(hl:11*n≤D.length):∀k,k≤n→gk (D++E) k=gk D k
 |0,_=>rfl
 |k+1,hk=>by
  show j8 (gk (D++E) k) _=j8 (gk D k) _;rw[aaC hl k (by omega)];exact tz (aau (by omega) hl)
theorem aaD{D l:tG}{n:Nat}(hl:D.length=11*n):gk (D++l) (n+1)=j8 (gk D n) (lA l):=by
 show j8 (gk (D++l) n) _=_;rw[aaC (by omega) n (Ac _)];refine tz fun o ho=> ?_;rw[show n=n+0 from rfl,aas hl 0 o ho];unfold Lq.av lA;rw[Nat.mul_zero,Aj]
theorem aaY{D E:tG}{n m:Nat}(hl:D.length=11*n)(h:∀j,j<n→Lq.fQ (Lq.av D j)=0)(he:∀j,j<m→Lq.fQ (Lq.av E j)=0):∀j,j<n+m→Lq.fQ (Lq.av (D++E) j)=0:=fun j hj=>by
 by_cases e:j<n
 ·exact(jF (aau e (by omega))).trans (h j e)
 ·obtain⟨i,rfl⟩:∃i,j=n+i:=⟨j-n,by omega⟩;exact(jF (aas hl i)).trans (he i (by omega))
abbrev qT(w w':tA)(g l c:Nat)(D:tG):Prop:=bZ w w'∧w'.ownsRow w.heap.size 63 11 (.slice (some ⟨g,0,none⟩) l c) l (D.map (Value.int .i64))
theorem qT.row{w w':tA}{g l c:Nat}{D:tG}(h:qT w w' g l c D)(hs:∀u∈D,0≤u∧u≤1000000):RowK .i64 w' (some ⟨g,0,none⟩) (11*l) D:=by
 obtain⟨a1,c1,e,r1,_⟩:=RowK.eK h.2 fun u hu=>qP (hs u hu);cases e;exact r1
namespace Rv
end Rv
theorem abE{w:tA}{base e sz n:Nat}{v:tK}{xs:tM}(h:w.ownsRow base e sz v n xs)(h0:0<n):∃g c,v= .slice (some ⟨g,0,none⟩) n c∧n≤c∧base≤g∧g<w.heap.size:=by
 rcases h.2 with⟨_,h1⟩|⟨g,c,cur,rfl,hb,hg,hc,_⟩
 ·omega
 ·exact⟨g,c,rfl,hc,hb,cI hg⟩
theorem qR{w:tA}{o:Oc}{t:j7}(h:lO w o t){i:Nat}(hi:i<5):w.cell? ⟨t.R,0+i*1,none⟩=some (.slice (some ⟨t.Y i,0,none⟩) 4 (t.C i)):=by
 rw[Aj,Cj];exact UY h hi
theorem nz{w:tA}{o:Oc}{t:j7}(h:lO w o t){i q:Nat}(hi:i<5)(hq:q<4)(j:Nat)(hj:j<6):w.cell? ⟨t.Y i,0+q*6+j,none⟩=some (bF (o.bs i q) (t.A i q) (t.K i q) j):=by
 rw[Aj];exact(h.b i hi).cell q hq j hj
theorem Yo{i:Nat}{n:Nd}{s:Ws}(h:NI i n)(hi:i<5):(eB n s).2.pn=s.pn:=by
 have e:=h.i;unfold eB;split
 ·rfl
 rename_i C0;have up:n.up=true:=by simpa using C0
 cases ha:n.af with
 |some x=>exact(Fj (h.up up) ha (by omega)).pn
 |none=>
  obtain⟨⟨_,_,hs,_⟩,_⟩:=CZ (s:=s) n.wt.length (h.up up) ha (by omega) h.tu h.ln h.wt;exact hs.pn
theorem Yp(r:Rec):(cp [r]).length≤46:=by
 rw[kH];exact(vu [bn r]).2
theorem QJ{B:Bt}(h:B=Bt.zero):(fh B 1).2=0:=by
 unfold fh;rw[h,Aa (fun h=>h Bt.dx),Aa (by omega),Aa (fun h=>h rfl),Aa (by show ¬(1:Int)≤0;omega)]
end
theorem abm(d:Nat)(x y:Int)(w:tA):(Op.equalIn (d+1+1) 32 (uS x y) (uS x y)).run Tryz.prog w= .ok true w:=by
 rw[run_equalIn_agg (P:=Tryz.prog) w (d+1) 32 _ _ Tryz.underlying32 (by kernel_rfl)];simp[go_sem]
section
open Rv
namespace Rv
section
variable{n:Nat}{ops:tP}{f:Nat→AV}{fn:Func}{Rr:Ending→World→Prop}{T:tF}{Φ R:tJ}{H:List En}{ks:List Fr}{t:Ord}{i d:Nat}{md:Md}
theorem Vf{s e sz lD base l m mc b o:Nat}{x y:AV}{v:tK}{L:tM}{D:tG}{R0:tJ}(hD:D.length=m*sz)(hm:0<m)(h1:Rz n ops f i=some (d,s,x,y))(ht:jI Tryz.prog s e sz lD=true)(dq:∀w,Mem w (hs H) (fun b=>v.ownBlock=some b∨T b) Φ (fun w=>R0 w∧w.ownsRow base e sz v l L)→RowK .i64 w (some ⟨b,o,none⟩) (m*sz) D)(hb:∀w,Mem w (hs H) (fun b=>v.ownBlock=some b∨T b) Φ (fun w=>R0 w∧w.ownsRow base e sz v l L)→base≤w.heap.size)(hR:∀w w',R0 w→dB (fun b=>base≤b) w w'→R0 w')(hn:∀g c,l+m≤c→G Tryz.prog fn Rr n (fun b=>(Value.slice (some ⟨g,0,none⟩) (l+m) c).ownBlock=some b∨T b) Φ (fun w=>R0 w∧w.ownsRow base e sz (.slice (some ⟨g,0,none⟩) (l+m) c) (l+m) (L++D.map (Value.int .i64))) (.g md ops t::ks) (ua f d (vv (.slice (some ⟨g,0,none⟩) (l+m) c))) H)(hx:x.val=v:=by rfl)(hy:y.val= .slice (some ⟨b,o,none⟩) m mc:=by rfl)(Kg:l+m≤maxLen:=by(try dsimp only);unfold maxLen;omega)(Dt:(l+m)*lD≤140737488355328:=by(try dsimp only);omega)(hv:md.vs.contains i=false:=by rfl):G Tryz.prog fn Rr n (fun b=>v.ownBlock=some b∨T b) Φ (fun w=>R0 w∧w.ownsRow base e sz v l L) (.g md ops (.ef i t)::ks) f H:=
 apr h1 hx hy ht (by rw[AW];exact hD) (fun w hS j u hu=>by
  have hj:=(Ap.1 hu).1;rw[AW,hD]at hj;have h:=(dq w hS).at j hj;rw[Ax]at hu;rw[Aw]at h;cases hx:D[j]? with
  |none=>rw[hx]at hu;cases hu
  |some z=>
   rw[hx]at hu h;cases hu;rw[BM];exact h) (fun u hu=>by
  obtain⟨z,_,rfl⟩:=Ay.1 hu
  rfl) hm Kg Dt hb hR hn hv
end
end Rv
structure dL(Q:Nat→List Int→Prop)(D:tG)(n:Nat):Prop where
 len:D.length=11*n
 act:∀j,j<n→Q j (c_ D j)
theorem dL.app{Q:Nat→List Int→Prop}{D l:tG}{n:Nat}(h:dL Q D n)(hl:l.length=11)(hq:Q n l):dL Q (D++l) (n+1):=by
 refine⟨by rw[Ag,h.len,hl];omega,fun j hj=> ?_⟩;by_cases e:j<n
 ·rw[fL (by rw[h.len];omega)];exact h.act j e
 ·obtain rfl:j=n:=by omega
  have:=eW (E:=l) (j:=0) h.len;rw[Cn]at this;rw[this,na hl];exact hq
theorem dL.fQ{Q:Nat→List Int→Prop}{D:tG}{n:Nat}(h:dL Q D n)(hq:∀j l,Q j l→Lq.fQ (lA l)=0)(j:Nat)(hj:j<n):Lq.fQ (Lq.av D j)=0:=by
 rw[jF (cK _ _)];exact hq _ _ (h.act j hj)
def db(P:Int→Bool)(D:tG):Nat→List Int
 |0=>[]
 |k+1=>if P (Lq.av D k 0)=true then db P D k++c_ D k else db P D k
def bO(P:Int→Bool)(D:tG):Nat→Nat
 |0=>0
 |k+1=>if P (Lq.av D k 0)=true then bO P D k+1 else bO P D k
section
variable{P:Int→Bool}{D:tG}{n:Nat}
theorem gZ:∀k,bO P D k≤k
 |0=>Ac _
 |k+1=>by
  have:=gZ k;rw[bO];split<;>omega
end
abbrev adv:List Int:=[1,0,0,0,0,0,0,0,0,0,0]
abbrev adA:List Int:=[1,1,1,0,0,0,0,0,0,0,0]
def cP:Nat→List Int
 |0=>[]
 |k+1=>cP k++[9,(k:Int),0,0,0,0,0,0,0,0,0]
def dm:Nat→List Int
 |0=>[]
 |k+1=>dm k++[3,(k:Int),0,0,0,0,0,0,0,0,0]
def bT(D:tG):Nat→List Int
 |0=>D++cP 5
 |k+1=>bT D k++dm 5++[7,0,0,0,0,0,0,0,0,0,0]
def xg(l:tG):Prop:=(∃i:Nat,i<5∧l=[9,(i:Int),0,0,0,0,0,0,0,0,0])∨(∃i:Nat,i<5∧l=[3,(i:Int),0,0,0,0,0,0,0,0,0])∨l=[7,0,0,0,0,0,0,0,0,0,0]
theorem dL.qU{Q:Nat→List Int→Prop}{D:tG}{n:Nat}(h:dL Q D n)(hq:∀j l,n≤j→xg l→Q j l):∀k,k≤5→dL Q (D++cP k) (n+k)
 |0,_=>by rw[cP,Au];exact h
 |k+1,hk=>by
  rw[cP,←AA];exact(h.qU hq k (by omega)).app rfl (hq _ _ (by omega) (.inl ⟨k,by omega,rfl⟩))
theorem dL.steps{Q:Nat→List Int→Prop}{D:tG}{n:Nat}(h:dL Q D n)(hq:∀j l,n≤j→xg l→Q j l):∀k,k≤5→dL Q (D++dm k) (n+k)
 |0,_=>by rw[dm,Au];exact h
 |k+1,hk=>by
  rw[dm,←AA];exact(h.steps hq k (by omega)).app rfl (hq _ _ (by omega) (.inr (.inl ⟨k,by omega,rfl⟩)))
theorem dL.fair{Q:Nat→List Int→Prop}{D:tG}{n:Nat}(h:dL Q D n)(hq:∀j l,n≤j→xg l→Q j l):∀r,dL Q (bT D r) (n+5+6*r)
 |0=>h.qU hq 5 (Ac _)
 |r+1=>by
  have h1:=(h.fair hq r).steps (fun j l hj=>hq j l (by omega)) 5 (Ac _);exact h1.app (l:=[7,0,0,0,0,0,0,0,0,0,0]) rfl (hq _ _ (by omega) (.inr (.inr rfl)))
theorem xg.fQ{l:tG}(h:xg l):Lq.fQ (lA l)=0:=by
 rcases h with⟨i,hi,rfl⟩|⟨i,hi,rfl⟩|rfl
 ·exact rQ (by omega)
 ·exact vH (by omega)
 ·exact yI
theorem xg.sm{l:tG}(h:xg l):∀u∈l,0≤u∧u≤1000000:=by
 intro u hu;rcases h with⟨i,hi,rfl⟩|⟨i,hi,rfl⟩|rfl<;>simp only[List.mem_cons,List.not_mem_nil,or_false]at hu<;>omega
theorem nC{D:tG}(h:∀u∈D,0≤u∧u≤1000000):∀r,∀u∈bT D r,0≤u∧u≤1000000
 |0,u,hu=>by
  rcases Ah.1 hu with hu|hu
  ·exact h u hu
  ·simp only[cP,List.nil_append,List.cons_append,List.mem_cons,List.not_mem_nil,or_false]at hu;omega
 |r+1,u,hu=>by
  rw[bT]at hu;rcases Ah.1 hu with hu|hu
  ·rcases Ah.1 hu with hu|hu
   ·exact nC h r u hu
   ·simp only[dm,List.nil_append,List.cons_append,List.mem_cons,List.not_mem_nil,or_false]at hu;omega
  ·simp only[List.mem_cons,List.not_mem_nil,or_false]at hu;omega
end
def ku(s:Ws)(q:Nat)(x y:Int):Prop:=y≤s.pe q∧-1≤x∧(x<0→y=0)∧(y=s.pe q→x=s.pn q)
def TA(C:Int→Int→Int→Ev→Prop)(s:Ws)(t:Tl):Prop:=∃(nd:Int) (q:Nat) (op:Ev),C t.nu nd q op∧q<4∧ku s q t.pn t.pe∧((t.an.c=7∨t.an.c=12)∨(t.pn<0∧∃y∈s.sv,y.nu=t.nu∧y.an=t.an))
def KL(C:Int→Int→Int→Ev→Prop)(s:Ws)(l:Lt):Prop:=(l.kd=0→C l.nu l.dst l.q l.op)∧(l.kd=1→TA C s ⟨l.nu,l.an,l.pn,l.pe⟩)∧(l.kd=7→ku s l.q l.pn l.pe)
structure KW(C:Int→Int→Int→Ev→Prop)(s:Ws):Prop where
 fl:∀l∈s.fl,KL C s l
 sv:∀y∈s.sv,y.nu<0∨C y.nu y.nd y.q y.op
 td:∀t∈s.td,TA C s t
structure KN(C:Int→Int→Int→Ev→Prop)(s:Ws)(i:Nat)(n:Nd):Prop where
 wt:∀l∈n.wt,KL C s l∧(l.kd=0→l.dst=i)
 af:∀l an,n.af=some (.serve l an)→C l.nu l.dst l.q l.op∧l.dst=i
 hn:n.up=true→∀q,q<4→ku s q (n.hn q) (n.he q)
structure dK(s s':Ws):Prop where
 h:∀q,q<4→∀x y,ku s q x y→ku s' q x y
 v:∀y∈s.sv,y∈s'.sv
section
variable{C:Int→Int→Int→Ev→Prop}{s s':Ws}{i:Nat}{n:Nd}
structure Kd(C:Int→Int→Int→Ev→Prop)(s s':Ws)(i:Nat)(n':Nd):Prop where
 w:KW C s'
 n:KN C s' i n'
 u:dK s s'
 d:s'.pn=s.pn∧s'.pe=s.pe
end
section
open Rv
theorem q7(a:tB)(len cap:Nat)(D:tG)(w:tA)(h:RowK .i64 w a (11*len) D)(h0:0<len)(hl:len≤50000)(rr:Nat)(hr:rr≤5000):cA 20 #[.slice a len cap,iV (rr:Int)] w fun x w'=>∃v,x= .returned v∧w'.ownsRow w.heap.size 63 11 v (len+5+6*rr) ((bT D rr).map (Value.int .i64))∧bZ w w':=by
 obtain⟨b,o,rfl⟩:=h.form (by omega);have hD:=h.bP;refine en (H:=[]) _ [vv (.slice (some ⟨b,o,none⟩) len cap),vi (rr:Int)] Tryz.func20 rfl rfl (m0 w) (r [] rfl fun _=>jt (fun w2 hS=>hS.xR w.heap.size 63 11) ?_);refine Vf (m:=len) (b:=b) (o:=o) (hD.trans (Bn _ _)) h0 rfl cZ (fun w hS=>by rw[Bn];exact h.below hS.now.2.1) (fun w hS=>hS.now.2.1.size) (fun _ _ h c=>cB h c (Ac _)) fun g2 c2 jM=> ?_;refine r [] rfl fun _=>uD (X:=Nat×Nat×Nat×Nat) (fun x=>[(1,vi (rr:Int)),(5,vv (.slice (some ⟨x.2.2.1,0,none⟩) x.2.1 x.2.2.2)),(6,vi (x.1:Int))]) (fun _=>[]) (fun x b'=>(Value.slice (some ⟨x.2.2.1,0,none⟩) x.2.1 x.2.2.2).ownBlock=some b'∨False) (fun x w'=>qT w w' x.2.2.1 x.2.1 x.2.2.2 (D++cP x.1)) (fun x=>x.1≤5∧x.2.1=len+x.1) (fun x=>5-x.1) (0,0+len,g2,c2) ⟨rfl,rfl,rfl,trivial⟩ (fun w hS=>hS.sr fun w h=>⟨h.1,by show World.ownsRow w _ _ _ _ _ ((D++[]).map _);rw[Au];exact h.2⟩) ⟨Al _,Nat.add_comm _ _⟩ ?_;rintro f ⟨k,L,g,c⟩ ⟨hk,hL⟩;have hk:k≤5:=hk;have hL:L=len+k:=hL;by_cases aN:k<5
 ·refine r [1] rfl fun α=>nJ 0 rfl cZ (fun w hS=>hS.now.2.1.size) (fun _ _ h c=>cB h c (Ac _)) fun g3 c3 hc3=> ?_;exact rz [1] [((k+1:Nat):Int)] rfl fun _=>bJ (k+1,L+1,g3,c3) ⟨rfl,rfl,rfl,trivial⟩ (fun w hS=>(hS.take 0).sr fun w h=>⟨h.1,by show World.ownsRow w _ _ _ _ _ ((D++cP (k+1)).map _);rw[cP,←AA,AE];exact h.2⟩) ⟨aN,by show L+1=len+(k+1);omega⟩ (show 5-(k+1)<5-k by omega)
 obtain rfl:k=5:=by omega
 refine r [0] rfl fun _=>uD (X:=Nat×Nat×Nat×Nat) (fun x=>[(1,vi (rr:Int)),(5,vv (.slice (some ⟨x.2.2.1,0,none⟩) x.2.1 x.2.2.2)),(7,vi (x.1:Int))]) (fun _=>[]) (fun x b'=>(Value.slice (some ⟨x.2.2.1,0,none⟩) x.2.1 x.2.2.2).ownBlock=some b'∨False) (fun x w'=>qT w w' x.2.2.1 x.2.1 x.2.2.2 (bT D x.1)) (fun x=>x.1≤rr∧x.2.1=len+5+6*x.1) (fun x=>rr-x.1) (0,L,g,c) ⟨rfl,rfl,rfl,trivial⟩ (fun w hS=>hS) ⟨Al _,hL⟩ ?_;clear aN hL hk;rintro f2 ⟨k,L,g,c⟩ ⟨hk,hL⟩;have hk:k≤rr:=hk;have hL:L=len+5+6*k:=hL;by_cases aN:k<rr
 case neg=>
  obtain rfl:k=rr:=by omega
  exact r [0] rfl fun _=>fin fun w hS=>⟨_,rfl,by rw[←hL];exact hS.now.2.2,hS.now.2.1⟩
 refine r [1] rfl fun _=>uD (X:=Nat×Nat×Nat×Nat) (fun x=>[(1,vi (rr:Int)),(5,vv (.slice (some ⟨x.2.2.1,0,none⟩) x.2.1 x.2.2.2)),(7,vi (k:Int)),(8,vi (x.1:Int))]) (fun _=>[]) (fun x b'=>(Value.slice (some ⟨x.2.2.1,0,none⟩) x.2.1 x.2.2.2).ownBlock=some b'∨False) (fun x w'=>qT w w' x.2.2.1 x.2.1 x.2.2.2 (bT D k++dm x.1)) (fun x=>x.1≤5∧x.2.1=L+x.1) (fun x=>5-x.1) (0,L,g,c) ⟨rfl,rfl,rfl,rfl,trivial⟩ (fun w hS=>hS.sr fun w h=>⟨h.1,by show World.ownsRow w _ _ _ _ _ ((bT D k++[]).map _);rw[Au];exact h.2⟩) ⟨Al _,rfl⟩ ?_;rintro f3 ⟨j,M,g4,c4⟩ ⟨hj,hM⟩;have hj:j≤5:=hj;have hM:M=L+j:=hM;by_cases Ly:j<5
 ·refine r [1] rfl fun α=>nJ 0 rfl cZ (fun w hS=>hS.now.2.1.size) (fun _ _ h c=>cB h c (Ac _)) fun g3 c3 hc3=> ?_;exact rz [1] [((j+1:Nat):Int)] rfl fun _=>bJ (j+1,M+1,g3,c3) ⟨rfl,rfl,rfl,rfl,trivial⟩ (fun w hS=>(hS.take 0).sr fun w h=>⟨h.1,by show World.ownsRow w _ _ _ _ _ ((bT D k++dm (j+1)).map _);rw[dm,←AA,AE];exact h.2⟩) ⟨Ly,by show M+1=L+(j+1);omega⟩ (show 5-(j+1)<5-j by omega)
 obtain rfl:j=5:=by omega
 refine r [0] rfl fun α=>nJ 0 rfl cZ (fun w hS=>hS.now.2.1.size) (fun _ _ h c=>cB h c (Ac _)) fun g3 c3 hc3=> ?_;exact rz [1] [((k+1:Nat):Int)] rfl fun _=>bJ (k+1,M+1,g3,c3) ⟨rfl,rfl,rfl,trivial⟩ (fun w hS=>(hS.take 0).sr fun w h=>⟨h.1,by show World.ownsRow w _ _ _ _ _ ((bT D k++dm 5++[7,0,0,0,0,0,0,0,0,0,0]).map _);rw[AE];exact h.2⟩) ⟨aN,by show M+1=len+5+6*(k+1);omega⟩ (show rr-(k+1)<rr-k by omega)
theorem rh{D:tG}{n:Nat}(hl:D.length=11*n)(h:∀j,j<n→Lq.fQ (Lq.av D j)=0)(r:Nat):∀j,j<n+5+6*r→Lq.fQ (Lq.av (bT D r) j)=0:=fun j hj=>(dL.fair (Q:=fun _ l=>Lq.fQ (lA l)=0) ⟨hl,fun j hj=>by have:=h j hj;rw[jF (cK _ _)]at this;exact this⟩ (fun _ _ _ g=>g.fQ) r).fQ (fun _ _ g=>g) j hj
end
def AfB(mo:Nat→Bt)(q:Nat)(B:Bt)(a:Af):Prop:=
 (∃l an,a= .serve l an∧l.q=q∧B=tb ((mo q).more [l.op]))∨∃D,yi a=some (q,D)∧(B=D∨∃m,B=(tb (mo q)).more m∧B.es<+:D.es)
def abo(n:Nd)(q:Nat)(B:Bt):Prop:=
 (n.up=true∧(B=n.mo q∨B=tb (n.mo q)∨∃a,n.af=some a∧AfB n.mo q B a))∨(n.up=false∧B=kX n q)
theorem abo.Yl(n:Nd)(q:Nat):abo n q (kX n q):=by
 cases h:n.up with
 |false=>exact .inr ⟨h,rfl⟩
 |true=>exact .inl ⟨h,.inl (by unfold kX;rw[Ae h])⟩
theorem abo.calm{n:Nd}{q:Nat}{B:Bt}(h:abo n q B)(hu:n.up=true)(ha:n.af=none):B=n.mo q∨B=tb (n.mo q):=by
 rcases h with⟨_,h|h|⟨a,h,_⟩⟩|⟨h,_⟩
 ·exact .inl h
 ·exact .inr h
 ·rw[ha]at h;cases h
 ·rw[hu]at h;cases h
theorem acE(B:Bt):(tb B).es=B.es:=by
 unfold tb;split<;>rfl
theorem abY(B:Bt)(l:List Ev):(tb B).more l=tb (B.more l):=by
 by_cases h:B.r=2
 ·rw[si h,si (show(B.more l).r=2 from h)];rfl
 ·rw[gK h,gK (show ¬(B.more l).r=2 from h)]
theorem abJ{B D:Bt}{l:List Rec}(h:ik B l D):(∀r∈l,r.k=5∨r.k=6)→∃m,D.es=B.es++m:=by
 induction h with
 |nil B=>exact fun _=>⟨[],(Au _).symm⟩
 |cons hf ha h ih=>
  rename_i B B1 D r l;intro hk;obtain⟨m,e⟩:=ih fun x hx=>hk x (Az _ hx);have hd:=(iB ha).2.2.1;unfold cF at hd;rcases hk r Aq with k5|k6
  ·rw[Aa (by omega),Aa (by omega),Aa (by omega),Aa (by omega),Ae k5]at hd;split at hd
   ·cases hd;exact⟨[r.v]++m,by rw[e];show B.es++[r.v]++m=_;rw[AA]⟩
   ·cases hd
  ·rw[Aa (by omega),Aa (by omega),Aa (by omega),Aa (by omega),Aa (by omega),Ae k6]at hd;split at hd
   ·cases hd;exact⟨[Ev.brk]++m,by rw[e];show B.es++[Ev.brk]++m=_;rw[AA]⟩
   ·cases hd
theorem abQ{B D:Bt}{l:List Rec}(h:ik B l D):(∀r∈l,r.k=5∨r.k=6)→∀j E,ik B (l.take j) E→E=D∨∃m,E=B.more m∧E.es<+:D.es:=by
 induction h with
 |nil B=>
  intro _ j E hE;rw[List.take_nil]at hE;exact .inl hE.nil_eq
 |cons hf ha h ih=>
  rename_i B B1 D r l;intro hk j E hE;cases j with
  |zero=>
   rw[hE.nil_eq];obtain⟨m,e⟩:=abJ (.cons hf ha h) hk;exact .inr ⟨[],by unfold Bt.more;rw[Au],m,e.symm⟩
  |succ j=>
   cases hE with
   |cons hf' JL h'=>
    rename_i B2;obtain rfl:B1=B2:=by
     have:=ha.symm.trans JL;injection this
    have hd:=(iB ha).2.2.1;have kg:∀x∈l,x.k=5∨x.k=6:=fun x hx=>hk x (Az _ hx);rcases hk r Aq with k5|k6
    ·unfold cF at hd;rw[Aa (by omega),Aa (by omega),Aa (by omega),Aa (by omega),Ae k5]at hd;split at hd
     ·cases hd;rcases ih kg j E h' with e|⟨m,e,g⟩
      ·exact .inl e
      ·refine .inr ⟨[r.v]++m, ?_,g⟩;rw[e];unfold Bt.more;dsimp only;rw[AA]
     ·cases hd
    ·have h1:B1.r=1:=by
      unfold cF at hd;rw[Aa (by omega),Aa (by omega),Aa (by omega),Aa (by omega),Aa (by omega),Ae k6]at hd;split at hd
      ·cases hd;rfl
      ·cases hd
     have stop:∀{m:List Rec} {F:Bt},(∀x∈m,x.k=5∨x.k=6)→ik B1 m F→F=B1:=fun {m F} hm hr=>by
      cases hr with
      |nil=>rfl
      |cons hf2 U5 hr2=>
       rename_i B3 r2 l2;have DS:=(iB U5).2.2.1;have:=hm r2 Aq;unfold cF at DS;rw[Aa (by omega),Aa (by omega),Aa (by omega),Aa (by omega)]at DS;split at DS
       ·rw[Aa (by omega)]at DS;cases DS
       ·rw[Ae (by omega),Aa (by omega)]at DS;cases DS
     left;rw[stop kg h,stop (fun x hx=>kg x (AJ hx)) h']
theorem Pd.part{mo:Nat→Bt}{a:Af}{rb:List Rec}{q:Nat}{D E:Bt}{j:Nat}(pd:Pd mo a rb q D)(h:ik (tb (mo q)) (rb.take j) E):E=tb (mo q)∨AfB mo q E a:=by
 have whole:E=D→AfB mo q E a:=by
  rintro rfl;have:=pd.af;cases a with
  |serve l an=>exact .inl ⟨l,an,rfl,this.1,this.2.2.2⟩
  |begin l B=>obtain⟨rfl,_,rfl⟩:=this;exact .inr ⟨_,rfl,.inl rfl⟩
  |shut l B=>obtain⟨rfl,_,rfl⟩:=this;exact .inr ⟨_,rfl,.inl rfl⟩
  |take l B=>obtain⟨rfl,_,rfl⟩:=this;exact .inr ⟨_,rfl,.inl rfl⟩
  |fA p B=>obtain⟨rfl,_,rfl⟩:=this;exact .inr ⟨_,rfl,.inl rfl⟩
 rcases pd.one with o|o
 ·cases j with
  |zero=>exact .inl h.nil_eq
  |succ j=>
   rw[AL (by omega)]at h;refine .inr (whole ?_);have hD:=pd.run
   match rb,o,h,hD with
   |[x],_,hE,hD=>
    cases hE with
    |cons _ a1 b1=>
     cases hD with
     |cons _ a2 b2=>
      have:=a1.symm.trans a2;injection this with e1 _
      rw[b1.nil_eq,b2.nil_eq,e1]
 ·rcases abQ pd.run o j E h with e|⟨m,e,g⟩
  ·exact .inr (whole e)
  rcases pd.af.q with⟨e0,_⟩|e0
  ·have:=pd.af;cases a with
   |serve l an=>
    obtain⟨rfl,_,_,eqD_⟩:=this;rw[eqD_,e]at g;have g:(tb (mo l.q)).es++m<+:(tb ((mo l.q).more [l.op])).es:=g;rw[acE,acE]at g;have g:(mo l.q).es++m<+:(mo l.q).es++[l.op]:=g;rw[List.prefix_append_right_inj]at g
    match m,g with
    |[],_=>exact .inl (by rw[e];unfold Bt.more;rw[Au])
    |x::m,g=>
     obtain⟨rfl,g2⟩:=List.cons_prefix_cons.1 g;obtain rfl:=List.prefix_nil.1 g2;exact .inr (.inl ⟨l,an,rfl,rfl,by rw[e];exact abY _ _⟩)
   |begin l B=>cases e0
   |shut l B=>cases e0
   |take l B=>cases e0
   |fA p B=>cases e0
  ·exact .inr (.inr ⟨D,e0,.inr ⟨m,e,g⟩⟩)
theorem abG{n:Nd}(h:Up n)(hu:n.up=true)(hl:n.dl.length≤100000){kp:Int}(hk:0≤kp){q:Nat}(hq:q<4){B:Bt}(hp:abo (qI n kp) q B):abo n q B∧¬B.r=2:=by
 obtain⟨dJ,dC,Bs,dw,ra,Ba,_,_,_,_,hBa,hc⟩:=h.L5 hk;have hb:=dw.bs (by show(List.take _ n.dl).length≤_;rw[AM];omega) rfl q hq;rcases hp with⟨e1,_⟩|⟨_,e1⟩
 ·cases e1
 rw[hb]at e1;subst e1;refine⟨?_,(dw.tm.all q hq).2⟩;rcases hc with⟨_,rfl⟩|⟨rb,a,q',D,j,E,ha,pd,_,hE,rfl⟩
 ·exact .inl ⟨hu,.inr (.inl (hBa q hq))⟩
 by_cases e1:q=q'
 ·subst e1;rw[aj];rcases pd.part hE with e|e
  ·exact .inl ⟨hu,.inr (.inl e)⟩
  ·exact .inl ⟨hu,.inr (.inr ⟨a,ha,e⟩)⟩
 ·rw[aI e1];exact .inl ⟨hu,.inr (.inl (hBa q hq))⟩
theorem abH{n:Nd}{s:Ws}(h:n.up=false→Dw n)(hl:n.dl.length≤100000){q:Nat}(hq:q<4){B:Bt}(hp:abo (cQ n s).1 q B):abo n q B∨(n.up=false∧B=(aZ (kX n q)).1):=by
 by_cases hu:n.up=true
 ·have e1:cQ n s=(n,s):=Ae (.inl hu);rw[e1]at hp;exact .inl hp
 by_cases hk:n.sk=true
 ·have e1:cQ n s=(n,s):=Ae (.inr hk);rw[e1]at hp;exact .inl hp
 have hu:n.up=false:=by simpa using hu
 have hk:n.sk=false:=by simpa using hk
 obtain⟨dJ,dC,Bs,dw⟩:=h hu;obtain⟨sj,hB,hs⟩:=CX (s:=s) dw hl hu hk;have hb:=dw.bs hl hu q hq;rw[hs]at hp;unfold iL at hp;split at hp
 ·rename_i hc;have ok:=dw.tm.all q hq;have my:=hc.1 q hq;rw[hB q hq]at my;have nr_:¬(aZ (Bs q)).1.r=2:=by
   rcases mY my ok.2 with⟨_,e2⟩|⟨h1,e2,_⟩
   ·rw[e2];exact ok.2
   ·rw[e2];intro g;cases g
  rcases hp with⟨_,e1|e1|⟨a,e1,_⟩⟩|⟨e1,_⟩
  ·have e1:B=(aZ (sj q)).1:=e1;rw[hB q hq]at e1;exact .inr ⟨hu,by rw[hb];exact e1⟩
  ·have e1:B=tb (aZ (sj q)).1:=e1;rw[hB q hq,gK nr_]at e1;exact .inr ⟨hu,by rw[hb];exact e1⟩
  ·cases e1
  ·cases e1
 ·have d2:=wV (sy:=mP (cp (dJ++dC)).length n.sy) dw;have Du:=d2.bs (by show(List.take _ n.dl).length≤_;rw[AM];omega) hu q hq;rcases hp with⟨e1,_⟩|⟨_,e1⟩
  ·rw[show _=n.up from rfl,hu]at e1;cases e1
  ·rw[Du]at e1;exact .inl (.inr ⟨hu,by rw[hb];exact e1⟩)
def abC:Af→Nat
 | .serve l _=>l.q
 | .begin l _=>l.q
 | .shut l _=>l.q
 | .take l _=>l.q
 | .fA p _=>p
theorem AfB.q{mo:Nat→Bt}{q:Nat}{B:Bt}{a:Af}(h:AfB mo q B a):abC a=q:=by
 rcases h with⟨l,an,rfl,e,_⟩|⟨D,e,_⟩
 ·exact e
 ·cases a with
  |serve l an=>cases e
  |begin l B=>injection e with e;injection e
  |shut l B=>injection e with e;injection e
  |take l B=>injection e with e;injection e
  |fA p B=>injection e with e;injection e
structure abh(q:Nat)(X:Bt)(n:Nd):Prop where
 b:∀B,abo n q B→B=X
 w:∀l∈n.wt,¬l.q=q
 a:∀a,n.af=some a→¬abC a=q
structure abk(q:Nat)(s:Ws):Prop where
 fl:∀l∈s.fl,¬l.q=q
 sv:∀y∈s.sv,¬y.q=(q:Int)∧y.q<4
section
variable{q:Nat}{X:Bt}{n n':Nd}{s s':Ws}
theorem abh.turn(h:abh q X n)(hu:n.up=true)(um:n'.up=true)(hm:n'.mo q=n.mo q)(ha:∀a,n'.af=some a→n.af=some a∨¬abC a=q)(hw:∀l∈n'.wt,¬l.q=q):abh q X n':=by
 refine⟨fun B hB=> ?_,hw,fun a e=>(ha a e).elim (h.a a) id⟩;rcases hB with⟨_,e|e|⟨a,e,f⟩⟩|⟨e,_⟩
 ·exact h.b B (.inl ⟨hu,.inl (e.trans hm)⟩)
 ·exact h.b B (.inl ⟨hu,.inr (.inl (by rw[e,hm]))⟩)
 ·rcases ha a e with g|g
  ·exact h.b B (.inl ⟨hu,.inr (.inr ⟨a,g,by unfold AfB at f⊢;rw[←hm];exact f⟩)⟩)
  ·exact absurd f.q g
 ·rw[um]at e;cases e
theorem abh.wr(h:abh q X n)(hu:n.up=true){a:Af}(ha:¬abC a=q)(rs:List Rec):abh q X ((lC n a rs).getD n):=by
 unfold lC;split
 ·exact h.turn hu hu rfl (fun b e=> .inr (by injection e with e;rw[←e];exact ha)) h.w
 ·exact h
theorem abk.send(h:abk q s){l:Lt}(hl:¬l.q=q):abk q (e_ s l):=⟨fun x hx=>(Ah.1 hx).elim (h.fl x) fun g=>by rw[Ab.1 g];exact hl,h.sv⟩
theorem abk.count(h:abk q s){p:Nat}(hp:¬p=q)(hp4:p<4)(e:Ev)(an:An)(nu:Int):abk q (qC s n p e an nu):=⟨h.fl,fun y hy=>(Ah.1 hy).elim (h.sv y) fun g=>by rw[Ab.1 g];show ¬(p:Int)=(q:Int)∧(p:Int)<4;omega⟩
theorem abk.answer(h:abk q s)(h0:0<q){l:Lt}(hl:¬l.q=q)(h4:l.q<4)(an:An):abk q (dN n s l an):=(h.count hl h4 _ _ _).send (by show ¬0=q;omega)
theorem abk.part(h:abk q s){p:Nat}(hp:¬p=q)(hv:Int):abk q (iE n s p hv):=by
 unfold iE;split
 ·exact h.send hp
 ·exact h
theorem abh.SZ(h:abh q X n)(hW:abk q s)(h0:0<q)(hu:n.up=true){l:Lt}(hl:¬l.q=q)(h4:l.q<4):abh q X (bm n s l).1∧abk q (bm n s l).2:=by
 unfold bm;split
 ·unfold gD;split
  ·exact⟨h,hW.send (by show ¬0=q;omega)⟩
  split
  ·exact⟨h,hW.answer h0 hl h4 _⟩
  split
  ·rename_i n1 e;have:=h.wr hu (a:= .serve l (bD (n.mo l.q) l.op).2.1) hl [⟨2,l.q,(n.mo l.q).e,0,l.op⟩];rw[e]at this;exact⟨this,hW⟩
  ·exact⟨h,hW.answer h0 hl h4 _⟩
 split
 ·unfold gE;split
  ·exact⟨h,hW⟩
  split
  ·exact⟨h,hW.send hl⟩
  ·exact⟨h.wr hu (by exact hl) _,hW⟩
 split
 ·unfold fj;split
  ·exact⟨h,hW⟩
  split
  ·exact⟨h,hW⟩
  split
  ·exact⟨h.turn hu hu (aI (fun e=>hl e.symm)) (fun _ e=> .inl e) h.w,hW.part hl _⟩
  ·exact⟨h.wr hu (by exact hl) _,hW⟩
 split
 ·unfold takeN;split
  ·exact⟨h,hW⟩
  split
  ·exact⟨h,hW⟩
  ·exact⟨h.wr hu (by exact hl) _,hW⟩
 ·have hh:abh q X (cV n l):=by
   unfold cV;split
   ·exact h.turn hu hu rfl (fun _ e=> .inl e) h.w
   ·exact h
  have hu2:(cV n l).up=true:=by unfold cV;split<;>exact hu
  unfold gF;split
  ·exact⟨hh.wr hu2 (by exact hl) _,hW⟩
  ·exact⟨hh,hW⟩
theorem abh.push(h0:0<q)(hX:¬X.r=2∧¬X.r=3∧X.e≤1):∀(k:Nat) (n:Nd),abh q X n→n.up=true→abk q s→abh q X (cS k n s).1∧abk q (cS k n s).2
 |0,n,h,hu,hW=>⟨h,hW⟩
 |k+1,n,h,hu,hW=>by
  have ht:abh q X {n with tu:=(n.tu+1) % 4}:=h.turn hu hu rfl (fun _ e=> .inl e) h.w;rw[cS];split
  ·exact abh.push h0 hX k _ ht hu hW
  ·rename_i hn;refine⟨ht,⟨fun l hl=>(Ah.1 hl).elim (hW.fl l) fun g e=> ?_,hW.sv⟩⟩;have hq:n.mo q=X:=h.b _ (.inl ⟨hu,.inl rfl⟩);have hl:l.q=n.tu:=by
    unfold dQ at g;split at g
    ·rw[Ab.1 g]
    split at g
    ·rcases BI.1 g with g|g
     ·rw[g]
     ·rw[Ab.1 g]
    split at g
    ·rw[Ab.1 g]
    ·cases g
   refine hn ?_;rw[←hl,e];unfold dQ;rw[hq,Aa hX.1,Aa hX.2.1,Aa (by omega)];rfl
theorem abh.work(h0:0<q)(hX:¬X.r=2∧¬X.r=3∧X.e≤1):∀(k:Nat) (n:Nd) (s:Ws),abh q X n→abk q s→n.up=true→n.af=none→Up n→(∀l∈n.wt,eY l)→abh q X (cJ k n s).1∧abk q (cJ k n s).2
 |0,n,s,h,hW,hu,ha,_,_=>abh.push h0 hX 4 n h hu hW
 |k+1,n,s,h,hW,hu,ha,up,hw=>by
  unfold cJ;split
  ·exact abh.push h0 hX 4 n h hu hW
  rename_i l ls e;have hl:l∈n.wt:=by rw[e];exact Aq
  have Gv:∀x∈ls,x∈n.wt:=fun x hx=>by rw[e];exact Az _ hx
  have h1:abh q X {n with wt:=ls}:=h.turn hu hu rfl (fun _ e=> .inl e) fun x hx=>h.w x (Gv x hx);have JX:Up {n with wt:=ls}:=up.congr rfl rfl rfl rfl;have pZ:=hw l hl;obtain⟨h2,hW2⟩:=h1.SZ hW h0 hu (h.w l hl) pZ.q;obtain⟨g1,g2,g3,_⟩:=pO (s:=s) (l:=l) JX ha pZ;split
  ·exact⟨h2,hW2⟩
  ·rename_i hs;have U5:(bm {n with wt:=ls} s l).1.af=none:=by
    cases hx:(bm {n with wt:=ls} s l).1.af with
    |none=>rfl
    |some a=>rw[hx]at hs;exact absurd rfl hs
   exact abh.work h0 hX k _ _ h2 hW2 (g2.trans hu) U5 g1 fun x hx=>by rw[GW]at hx;exact hw x (Gv x hx)
theorem abh.step(h0:0<q)(hX:¬X.r=2∧¬X.r=3∧X.e≤1)(h:abh q X n)(hW:abk q s){i:Nat}(hN:NI i n):abh q X (eB n s).1∧abk q (eB n s).2:=by
 cases hu:n.up with
 |false=>rw[jB hu];exact⟨h,hW⟩
 |true=>
  cases ha:n.af with
  |none=>rw[jD hu ha];exact abh.work h0 hX _ n s h hW hu ha (hN.up hu) hN.wt
  |some a=>
   rw[jC hu ha];have hq:=h.a a ha;have h4:abC a<4:=by
    obtain⟨_,dC,_,_,_,_,_,pd⟩:=(hN.up hu).ex;rcases pd with⟨e,_⟩|⟨a',q',D,e,pd⟩
    ·rw[ha]at e;cases e
    ·rw[ha]at e;injection e with e
     have:=pd.af;rw[←e]at this;have jb:=pd.q4;cases a with
     |serve l an=>obtain⟨rfl,_⟩:=this;exact jb
     |begin l B=>obtain⟨rfl,_⟩:=this;exact jb
     |shut l B=>obtain⟨rfl,_⟩:=this;exact jb
     |take l B=>obtain⟨rfl,_⟩:=this;exact jb
     |fA p B=>obtain⟨rfl,_⟩:=this;exact jb
   have h1:abh q X {n with sy:=n.dl.length,af:=none}:=h.turn hu hu rfl (fun _ e=>by cases e) h.w;have mv:∀(p:Nat) (B:Bt),¬p=q→abh q X {n with sy:=n.dl.length,af:=none,mo:=ak n.mo p B}:=fun p B hp=>h1.turn hu hu (aI (fun e=>hp e.symm)) (fun _ e=>by cases e) h.w;cases a with
   |serve l an=>exact⟨mv _ _ hq,hW.answer h0 hq h4 _⟩
   |begin l B=>exact⟨mv _ _ hq,hW.send hq⟩
   |shut l B=>exact⟨mv _ _ hq,hW.part hq _⟩
   |take l B=>
    refine⟨mv _ _ hq, ?_⟩;show abk q (if B.r=1 then _ else _);split
    ·exact hW.count hq h4 _ _ _
    ·exact hW.send hq
   |fA p B=>exact⟨mv _ _ hq,hW⟩
theorem abh.NQ(h:abh q X n)(hq:q<4){i:Nat}(hN:NI i n){kp:Int}(hk:0≤kp):abh q X (jZ n kp):=by
 unfold jZ;split
 ·rename_i hu;exact⟨fun B hB=>h.b B (abG (hN.up hu) hu hN.ln hk hq hB).1,fun l hl=>(List.not_mem_nil hl).elim,fun a e=>by cases e⟩
 ·exact h
theorem abU:(aZ Bt.zero).1=Bt.zero:=by
 unfold aZ;rw[Aa (fun g=>g Bt.dx)];rfl
theorem abh.start(hq:q<4)(h:abh q X n)(hW:abk q s){i:Nat}(hN:NI i n)(hX:n.up=false→X=Bt.zero):abh q X (cQ n s).1∧abk q (cQ n s).2∧(cQ n s).2.pn=s.pn∧(cQ n s).2.pe=s.pe:=by
 by_cases hu:n.up=true
 ·have e1:cQ n s=(n,s):=Ae (.inl hu);rw[e1];exact⟨h,hW,rfl,rfl⟩
 by_cases hk:n.sk=true
 ·have e1:cQ n s=(n,s):=Ae (.inr hk);rw[e1];exact⟨h,hW,rfl,rfl⟩
 have hu:n.up=false:=by simpa using hu
 have hk:n.sk=false:=by simpa using hk
 obtain⟨dJ,dC,Bs,dw⟩:=hN.dw hu;obtain⟨sj,hB,hs⟩:=CX (s:=s) dw hN.ln hu hk;have hb:=dw.bs hN.ln hu q hq;have hz:Bs q=Bt.zero:=by rw[←hb,h.b _ (abo.Yl n q),hX hu]
 have n_:∀B,abo (cQ n s).1 q B→B=X:=fun B hB=>by
  rcases abH hN.dw hN.ln hq hB with g|⟨_,g⟩
  ·exact h.b B g
  ·rw[g,h.b _ (abo.Yl n q),hX hu,abU]
 rw[hs]at n_⊢;unfold iL at n_⊢;by_cases hc:(∀q,q<4→(aZ (sj q)).2=0)∧(cp (dJ++dC)).length+(cp (a7 sj 4)).length≤100000
 ·simp only[if_pos hc]at n_⊢;refine⟨⟨n_,fun l hl=>(List.not_mem_nil hl).elim,fun a e=>by cases e⟩,⟨hW.fl,fun y hy=> ?_⟩,trivial,trivial⟩;rcases Ah.1 hy with hy|hy
  ·rcases Ah.1 hy with hy|hy
   ·exact hW.sv y hy
   ·unfold fD at hy;obtain⟨r,hr,rfl⟩:=Ay.1 hy;obtain⟨hr,hl⟩:=List.mem_filter.1 hr;obtain⟨q',hq4',e,_,hp⟩:=(dw.st hN.ln).ps r hr (Bi hl);show ¬r.q=(q:Int)∧r.q<4;refine⟨?_,by omega⟩;intro g;obtain rfl:q'=q:=by omega
    rw[hz]at hp;exact absurd hp (Nat.lt_irrefl 0)
  ·obtain⟨r,hr,rfl⟩:=Ay.1 hy;obtain⟨q',xX,e,h1⟩:=vx 4 (Ac _) r hr;have e2:r.q=(q':Int):=by rw[e]
   show ¬r.q=(q:Int)∧r.q<4;refine⟨?_,by omega⟩;intro g;obtain rfl:q'=q:=by omega
   rw[hB q' hq,hz]at h1;have h1:(0:Int)=1:=h1;omega
 ·simp only[if_neg hc]at n_⊢;exact⟨⟨n_,h.w,h.a⟩,hW,trivial,trivial⟩
end
theorem abZ{i:Nat}{n:Nd}{s:Ws}(h:NI i n)(hi:i<5):(eB n s).2.pn=s.pn∧(eB n s).2.pe=s.pe:=by
 have e:=h.i;refine⟨Yo h hi, ?_⟩;unfold eB;split
 ·rfl
 rename_i C0;have up:n.up=true:=by simpa using C0
 cases ha:n.af with
 |some x=>exact(Fj (h.up up) ha (by omega)).pe
 |none=>
  obtain⟨⟨_,_,hs,_⟩,_⟩:=CZ (s:=s) n.wt.length (h.up up) ha (by omega) h.tu h.ln h.wt;exact hs.pe
structure abj(q:Nat)(X:Nat→Bt)(x e:Int)(p:(Nat→Nd)×Ws):Prop where
 n:∀i,i<5→abh q (X i) (p.1 i)
 w:abk q p.2
 d:p.2.pn q=x∧p.2.pe q=e
section
variable{q:Nat}{X:Nat→Bt}{x e:Int}{ns:Nat→Nd}{s:Ws}
theorem abj.node(h:abj q X x e (ns,s)){i:Nat}{n':Nd}{s':Ws}(hn:i<5→abh q (X i) n')(hW:abk q s')(e1:s'.pn q=s.pn q)(e2:s'.pe q=s.pe q):abj q X x e (ak ns i n',s'):=by
 refine⟨fun j hj=> ?_,hW,e1.trans h.d.1,e2.trans h.d.2⟩;show abh q (X j) (ak ns i n' j);by_cases g:j=i
 ·subst g;rw[aj];exact hn hj
 ·rw[aI g];exact h.n j hj
theorem abj.sU(h:abj q X x e (ns,s)){l:Lt}(hl:¬l.q=q):abj q X x e (bH ns s l):=by
 unfold bH;split
 ·exact⟨h.n,⟨h.w.fl,h.w.sv⟩,h.d⟩
 split
 ·have hf:abk q (dI s l)∧(dI s l).pn q=s.pn q∧(dI s l).pe q=s.pe q:=by
   unfold dI;split
   ·exact⟨⟨h.w.fl,h.w.sv⟩,Aa (fun g=>hl g.symm),Aa (fun g=>hl g.symm)⟩
   ·exact⟨h.w,rfl,rfl⟩
  exact⟨h.n,hf.1.send hl,hf.2.1.trans h.d.1,hf.2.2.trans h.d.2⟩
 split
 ·exact⟨h.n,h.w.send hl,h.d⟩
 ·refine h.node (fun hi=> ?_) h.w rfl rfl;have hn:=h.n _ hi;split
  ·rename_i hu;refine hn.turn hu hu rfl (fun _ g=> .inl g) fun x hx=> ?_;rcases Ah.1 hx with hx|hx
   ·exact hn.w x hx
   ·rw[Ab.1 hx];exact hl
  ·exact hn
theorem abj.all:∀(ls:List Lt) (p:(Nat→Nd)×Ws),abj q X x e p→(∀l∈ls,¬l.q=q)→abj q X x e (ls.foldl (fun p l=>bH p.1 p.2 l) p)
 |[],p,h,_=>h
 |l::ls,p,h,hl=>abj.all ls _ (abj.sU h (hl l Aq)) fun y hy=>hl y (Az _ hy)
theorem abj.act{k:Nat}{p:(Nat→Nd)×Ws}(h:Inv k p){f:tH}(ok:xO f)(jb:q<4)(h0:0<q)(hX:∀i,i<5→¬(X i).r=2∧¬(X i).r=3∧(X i).e≤1)(hu:∀i,i<5→(p.1 i).up=false→X i=Bt.zero)(hf:f 0=1∨f 0=2∨f 0=10→¬(f 2).toNat=q)(P:abj q X x e p):abj q X x e (j8 p f):=by
 obtain⟨ns,s⟩:=p;have hi:(f 1).toNat<5:=by have:=ok.n;omega
 have QY:=ok.kp;have hN:=h.n _ hi;have hk0:=ok.k;unfold j8;generalize(f 1).toNat=n,(f 2).toNat=q0,(f 3).toNat=j,f 4=kp,(⟨f 5,f 6,f 7,f 8,f 9,f 10⟩:Ev)=e0,f 0=k0 at*;dsimp only at hN hu⊢;have hn:=P.n n hi;unfold Qn;split
 ·rename_i g;have hq0:=hf (.inl g);unfold dO;split
  ·rename_i c;exact P.node (fun _=>hn.turn c.2.1 c.2.1 (aI (fun g=>hq0 g.symm)) (fun _ g=> .inl g) hn.w) ⟨P.w.fl,P.w.sv⟩ (Aa (fun g=>hq0 g.symm)) (Aa (fun g=>hq0 g.symm))
  ·exact P.node (fun _=>hn) P.w rfl rfl
 split
 ·rename_i g;exact⟨P.n,⟨(P.w.send (l:=vm n q0 s.cs e0) (hf (.inr (.inl g)))).fl,P.w.sv⟩,P.d⟩
 split
 ·obtain⟨g1,g2⟩:=hn.step h0 (hX n hi) P.w hN;obtain⟨g3,g4⟩:=abZ (s:=s) hN hi;exact P.node (fun _=>g1) g2 (by rw[g3]) (by rw[g4])
 split
 ·unfold jc;split
  ·exact P
  rename_i l hl;have hm:=Ar hl;have less:∀s':Ws,s'=(if k0=6 then s else {s with fl:=s.fl.eraseIdx (j % s.fl.length)})→abj q X x e (ns,s'):=by
   rintro s' rfl;split
   ·exact P
   ·exact⟨P.n,⟨fun y hy=>P.w.fl y (Bv hy),P.w.sv⟩,P.d⟩
  split
  ·exact less _ rfl
  ·exact(less _ rfl).sU (P.w.fl l hm)
 split
 ·unfold P3;exact abj.all s.fl _ ⟨P.n,⟨(fun l hl=>(List.not_mem_nil hl).elim),P.w.sv⟩,P.d⟩ P.w.fl
 split
 ·exact P.node (fun _=>hn.NQ jb hN (by omega)) P.w rfl rfl
 split
 ·obtain⟨g1,g2,g3,g4⟩:=hn.start jb P.w hN (hu n hi);exact P.node (fun _=>g1) g2 (by rw[g3]) (by rw[g4])
 ·have hq0:=hf (.inr (.inr (by omega)));unfold Uc;refine P.node (fun J8=> ?_) P.w rfl rfl;have r_:=P.n _ J8;unfold jX;split
  ·exact r_
  ·rename_i c;have C0:(ns (s.pn q0).toNat).up=true:=by
    cases g:(ns (s.pn q0).toNat).up with
    |true=>rfl
    |false=>exact absurd (.inr (.inr (.inl g))) c
   exact r_.turn C0 C0 (aI (fun g=>hq0 g.symm)) (fun _ g=> .inl g) r_.w
end
theorem ab4{i:Nat}{n:Nd}{s:Ws}(h:NI i n):(eB n s).1.up=n.up:=by
 cases hu:n.up with
 |false=>rw[jB hu];exact hu
 |true=>
  cases ha:n.af with
  |none=>rw[jD hu ha,(NO (s:=s) _ (h.up hu) ha h.wt).2.1];exact hu
  |some a=>rw[jC hu ha];cases a<;>exact hu
theorem aby(ns:Nat→Nd)(s:Ws)(l:Lt)(j:Nat):((bH ns s l).1 j).up=(ns j).up∧((bH ns s l).1 j).dl=(ns j).dl∧((bH ns s l).1 j).af=(ns j).af:=by
 unfold bH;split
 ·exact⟨rfl,rfl,rfl⟩
 split
 ·exact⟨rfl,rfl,rfl⟩
 split
 ·exact⟨rfl,rfl,rfl⟩
 ·dsimp only;by_cases e:j=l.dst.toNat
  ·rw[e,aj];split<;>exact⟨rfl,rfl,rfl⟩
  ·rw[aI e];exact⟨rfl,rfl,rfl⟩
theorem abv(j:Nat):∀(ls:List Lt) (p:(Nat→Nd)×Ws),((ls.foldl (fun p l=>bH p.1 p.2 l) p).1 j).up=(p.1 j).up∧((ls.foldl (fun p l=>bH p.1 p.2 l) p).1 j).dl=(p.1 j).dl∧((ls.foldl (fun p l=>bH p.1 p.2 l) p).1 j).af=(p.1 j).af
 |[],p=>⟨rfl,rfl,rfl⟩
 |l::ls,p=>by
  obtain⟨h1,h2,h3⟩:=abv j ls (bH p.1 p.2 l);obtain⟨g1,g2,g3⟩:=aby p.1 p.2 l j;exact⟨h1.trans g1,h2.trans g2,h3.trans g3⟩
theorem abw(ns:Nat→Nd)(s:Ws)(k:Int)(p j:Nat):((jc ns s k p).1 j).up=(ns j).up∧((jc ns s k p).1 j).dl=(ns j).dl∧((jc ns s k p).1 j).af=(ns j).af:=by
 unfold jc;split
 ·exact⟨rfl,rfl,rfl⟩
 split
 ·exact⟨rfl,rfl,rfl⟩
 ·exact aby _ _ _ _
theorem afe{k:Nat}{p:(Nat→Nd)×Ws}(h:Inv k p){l:tG}(hl:xg l)(u:(p.1 4).up=true):((j8 p (lA l)).1 4).up=true:=by
 obtain⟨ns,s⟩:=p;rcases hl with⟨i,hi,rfl⟩|⟨i,hi,rfl⟩|rfl
 ·show(ak ns (i:Int).toNat (cQ (ns (i:Int).toNat) s).1 4).up=true;rw[Bu];by_cases e:4=i
  ·subst e;rw[aj,show cQ (ns 4) s=(ns 4,s) from Ae (.inl u)];exact u
  ·rw[aI e];exact u
 ·show(ak ns (i:Int).toNat (eB (ns (i:Int).toNat) s).1 4).up=true;rw[Bu];by_cases e:4=i
  ·subst e;rw[aj,ab4 (h.n 4 hi)];exact u
  ·rw[aI e];exact u
 ·exact(abv 4 s.fl (ns,{s with fl:=[]})).1.trans u
def abF(n:Nd):Prop:=n.up=true∧n.dl=[]∧n.af=none
theorem adE{p:(Nat→Nd)×Ws}{l:tG}(hl:l=adv∨l=adA∨GA true l)(h:abF (p.1 4)):abF ((j8 p (lA l)).1 4):=by
 obtain⟨ns,s⟩:=p;have same:∀n:Nd,n.up=(ns 4).up∧n.dl=(ns 4).dl∧n.af=(ns 4).af→abF n:=fun n g=>⟨g.1.trans h.1,g.2.1.trans h.2.1,g.2.2.trans h.2.2⟩;have no:∀(i:Int) (n':Nd),0≤i∧i<3→abF (ak ns i.toNat n' 4):=fun i n' hi=>by rw[aI (by omega)];exact h
 rcases hl with rfl|rfl|hl
 ·exact no 0 (dO (ns 0) s 0).1 (by decide)
 ·exact no 1 (dO (ns 1) s 1).1 (by decide)
 cases hl with
 |FV n q p i b hn hq hp hi hb=>exact h
 |recv n q hn hq=>exact h
 |FW n q e i hn hq he hi=>exact h
 |step n hn=>exact no n _ hn
 |carry p hp=>exact same _ (abw ns s 4 p.toNat 4)
 |adB p hp=>exact same _ (abw ns s 5 p.toNat 4)
 |double p hp=>exact same _ (abw ns s 6 p.toNat 4)
 |move n q hn hq=>
  show abF (ak ns (s.pn q.toNat).toNat (jX (ns (s.pn q.toNat).toNat) s q.toNat (n.toNat:Int)) 4);by_cases e:4=(s.pn q.toNat).toNat
  ·rw[←e,aj];unfold jX;split
   ·exact h
   ·exact h
  ·rw[aI e];exact h
 |NQ n p hc hn hp=>exact no n _ hn
 |start n hc hn=>exact no n _ hn
 |all=>exact same _ (abv 4 s.fl (ns,{s with fl:=[]}))
theorem afg{l:tG}(hl:l=adv∨l=adA∨GA true l):(lA l 2).toNat<2:=by
 rcases hl with rfl|rfl|hl
 ·decide
 ·decide
 cases hl with
 |FV n q p i b hn hq hp hi hb=>show q.toNat<2;omega
 |recv n q hn hq=>show q.toNat<2;omega
 |FW n q e i hn hq he hi=>show q.toNat<2;omega
 |move n q hn hq=>show q.toNat<2;omega
 |_=>show(0:Int).toNat<2;decide
abbrev abq(i:Nat):Bt:=if i=4 then⟨1,1,0,0,0,[]⟩else Bt.zero
theorem oq0{q:Nat}(jb:q<4):abj q (fun _=>Bt.zero) (-1) 0 (Uu,Q1):=by
 refine⟨fun i hi=>⟨fun B hB=> ?_,fun l hl=>(List.not_mem_nil hl).elim,fun a e=>by cases e⟩,⟨fun l hl=>(List.not_mem_nil hl).elim,fun l hl=>(List.not_mem_nil hl).elim⟩,Ae jb,rfl⟩;rcases hB.calm (show(Uu i).up=true from rfl) rfl with g|g
 ·exact g
 ·rw[g];exact gK (by show ¬(0:Int)=2;decide)
theorem abz(G:tG)(n:Nat)(hn:n≤1000):∀k,k≤n+2→(∀q,q=2∨q=3→abj q (fun _=>Bt.zero) (-1) 0 (gk (mm G true n) k))∧abF ((gk (mm G true n) k).1 4)
 |0,_=>⟨fun q hq=>oq0 (by omega),rfl,rfl,rfl⟩
 |k+1,hk=>by
  obtain⟨h1,h2⟩:=abz G n hn k (by omega);have fw:=fun j hj=>rS G true n j hj;have hinv:=gY (mm G true n) (n+2) (by omega) fw k (by omega);obtain⟨l,hL⟩:∃l,c_ (mm G true n) k=l:=⟨_,rfl⟩;have ea:∀o,o<11→Lq.av (mm G true n) k o=lA l o:=fun o ho=>by rw[cK _ _ o ho,hL]
  have hl:l=adv∨l=adA∨GA true l:=by
   rw[←hL];rcases yJ G true n k (by omega)with⟨_,e⟩|⟨_,e⟩|⟨_,e⟩
   ·exact .inl e
   ·exact .inr (.inl e)
   ·exact .inr (.inr e)
  have hq:=afg hl;refine⟨fun q UT=> ?_, ?_⟩
  ·show abj q _ _ _ (j8 (gk (mm G true n) k) (Lq.av (mm G true n) k));exact abj.act hinv (lT (fw k (by omega))) (by omega) (by omega) (fun _ _=>⟨by show ¬(0:Int)=2;decide,by show ¬(0:Int)=3;decide,by show(0:Int)≤1;decide⟩) (fun _ _ _=>rfl) (fun _=>by rw[ea 2 (by decide)];omega) (h1 q UT)
  ·show abF ((j8 (gk (mm G true n) k) (Lq.av (mm G true n) k)).1 4);rw[tz ea];exact adE hl h2
theorem adF:∀i:Nat,i<5→¬(abq i).r=2∧¬(abq i).r=3∧(abq i).e≤1:=fun i hi=>by
 unfold abq;split
 ·exact⟨by show ¬(1:Int)=2;decide,by show ¬(1:Int)=3;decide,by show(1:Int)≤1;decide⟩
 ·exact⟨by show ¬(0:Int)=2;decide,by show ¬(0:Int)=3;decide,by show(0:Int)≤1;decide⟩
abbrev abA:List Int:=[1,4,3,0,0,0,0,0,0,0,0]
theorem acu{k:Nat}{p:(Nat→Nd)×Ws}(h:Inv k p)(h2:abj 2 (fun _=>Bt.zero) (-1) 0 p)(h3:abj 3 (fun _=>Bt.zero) (-1) 0 p)(h4:abF (p.1 4)):abj 2 (fun _=>Bt.zero) (-1) 0 (j8 p (lA abA))∧abj 3 abq 4 1 (j8 p (lA abA))∧((j8 p (lA abA)).1 4).up=true:=by
 refine⟨abj.act h (lT (JU (by decide) (by decide))) (by decide) (by decide) (fun _ _=>⟨by show ¬(0:Int)=2;decide,by show ¬(0:Int)=3;decide,by show(0:Int)≤1;decide⟩) (fun _ _ _=>rfl) (fun _=>by decide) h2, ?_⟩;obtain⟨ns,s⟩:=p;have n4:=h3.n 4 (by decide);have hm:(ns 4).mo 3=Bt.zero:=n4.b _ (.inl ⟨h4.1,.inl rfl⟩);have h1:=Yp (aU 3);have hi:(ns 4).i=4:=(h.n 4 (by decide)).i;have hc:NF (ns 4) s 3:=⟨⟨h.dir,h3.d.1⟩,h4.1,h4.2.2,QJ hm,by rw[show(ns 4).dl=[] from h4.2.1];show 0+(cp [aU 3]).length≤100000;omega⟩;have e:j8 (ns,s) (lA abA)=(ak ns 4 (dO (ns 4) s 3).1,(dO (ns 4) s 3).2):=rfl;rw[e];unfold dO;rw[Ae hc];refine⟨⟨fun i Vg=> ?_,⟨h3.w.fl,h3.w.sv⟩, ?_,show bw s.pe 3 1 3=1 from Ae rfl⟩, ?_⟩
 ·show abh 3 (abq i) (ak ns 4 _ i);by_cases g:i=4
  ·subst g;rw[aj];refine⟨fun B hB=> ?_,n4.w,fun a ha=>n4.a a ha⟩;rcases hB.calm h4.1 h4.2.2 with g|g
   ·rw[g];show ak (ns 4).mo 3 _ 3=_;rw[aj];rfl
   ·rw[g];show tb (ak (ns 4).mo 3 _ 3)=_;rw[aj];exact gK (by show ¬(1:Int)=2;decide)
  ·rw[aI g,show abq i=Bt.zero from Aa g];exact h3.n i Vg
 ·show bw s.pn 3 ((ns 4).i:Int) 3=4;rw[show bw s.pn 3 ((ns 4).i:Int) 3=((ns 4).i:Int) from Ae rfl,hi];rfl
 ·show(ak ns 4 _ 4).up=true;rw[aj];exact h4.1
theorem adG(G:tG)(n:Nat)(hn:n≤1000)(r:Nat)(hr:r≤1000){D:tG}(hD:D=bT (mm G true n++abA) r)(ok:∀j,j<n+3+5+6*r→Lq.fQ (Lq.av D j)=0):∀k,k≤5+6*r→abj 2 (fun _=>Bt.zero) (-1) 0 (gk D (n+3+k))∧abj 3 abq 4 1 (gk D (n+3+k))∧((gk D (n+3+k)).1 4).up=true:=by
 have hl:=qO G true n;have l1:(mm G true n++abA).length=11*(n+3):=by rw[Ag,hl];show _+11=_;omega
 obtain⟨E,hE⟩:∃E,D=mm G true n++abA++E:=by
  rw[hD];clear hD ok
  induction r with
  |zero=>exact⟨_,rfl⟩
  |succ r ih=>
   obtain⟨E,e⟩:=ih (by omega);exact⟨E++dm 5++[7,0,0,0,0,0,0,0,0,0,0],by rw[bT,e];simp only[List.append_assoc]⟩
 have hfr:dL (fun j l=>n+3≤j→xg l) D (n+3+5+6*r):=hD▸dL.fair (Q:=fun j l=>n+3≤j→xg l) ⟨l1,fun j hj g=>absurd hj (by omega)⟩ (fun _ _ _ g _=>g) r;intro k
 induction k with
 |zero=>
  intro _;obtain⟨h1,h2⟩:=abz G n hn (n+2) (Ac _);have e:gk D (n+3)=j8 (gk (mm G true n) (n+2)) (lA abA):=by
   rw[hE,aaC (by rw[l1];exact Ac _) (n+3) (Ac _)];exact aaD hl
  rw[Cn,e];exact acu (gY (mm G true n) (n+2) (by omega) (fun j hj=>rS G true n j hj) (n+2) (Ac _)) (h1 2 (.inl rfl)) (h1 3 (.inr rfl)) h2
 |succ k ih=>
  intro hk;obtain⟨h1,h2,h3⟩:=ih (by omega);have hinv:=gY D (n+3+5+6*r) (by omega) ok (n+3+k) (by omega);have ho:=lT (ok (n+3+k) (by omega));obtain⟨l,hL⟩:∃l,c_ D (n+3+k)=l:=⟨_,rfl⟩;have ea:∀o,o<11→Lq.av D (n+3+k) o=lA l o:=fun o ho=>by rw[cK _ _ o ho,hL]
  have hl:xg l:=by rw[←hL];exact hfr.act (n+3+k) (by omega) (by omega)
  have h0:¬(Lq.av D (n+3+k) 0=1∨Lq.av D (n+3+k) 0=2∨Lq.av D (n+3+k) 0=10):=by
   rw[ea 0 (by decide)];rcases hl with⟨i,hi,rfl⟩|⟨i,hi,rfl⟩|rfl
   ·show ¬((9:Int)=1∨(9:Int)=2∨(9:Int)=10);decide
   ·show ¬((3:Int)=1∨(3:Int)=2∨(3:Int)=10);decide
   ·show ¬((7:Int)=1∨(7:Int)=2∨(7:Int)=10);decide
  refine⟨abj.act hinv ho (by decide) (by decide) (fun _ _=>⟨by show ¬(0:Int)=2;decide,by show ¬(0:Int)=3;decide,by show(0:Int)≤1;decide⟩) (fun _ _ _=>rfl) (fun g=>absurd g h0) h1,abj.act hinv ho (by decide) (by decide) adF (fun i hi hu=> ?_) (fun g=>absurd g h0) h2, ?_⟩
  ·refine Aa fun g=> ?_;rw[g,h3]at hu;cases hu
  ·show((j8 (gk D (n+3+k)) (Lq.av D (n+3+k))).1 4).up=true;rw[tz ea];exact afe hinv hl h3
section
open Rv
theorem abx(w:tA)(hK:Lq.gl w)(a:tB)(len cap:Nat)(GD:tG)(h:RowK .i64 w a (5*len) GD)(rY:len≤cap)(qe:a=none→cap=0)(hs:cap*40≤140737488351232):cA 8 #[.slice a len cap] w (rB (.bool true) w):=by
 obtain⟨n,hn⟩:∃n,n=min len 100:=⟨_,rfl⟩;have hD:(mm GD true n).length=11*(n+2):=qO _ _ _;have fw:=fun j hj=>rS GD true n j hj;have uk:=wY GD true n;obtain⟨D1,hD1⟩:∃D1,D1=mm GD true n++abA:=⟨_,rfl⟩;have l1:D1.length=11*(n+3):=by rw[hD1,Ag,hD];rfl
 have k0:∀j,j<n+3→Lq.fQ (Lq.av D1 j)=0:=hD1▸aaY (m:=1) hD fw fun j hj=>by
  obtain rfl:j=0:=by omega
  exact JU (n:=4) (q:=3) (by decide) (by decide)
 have s0:∀u∈D1,0≤u∧u≤1000000:=fun u hu=>by
  rw[hD1]at hu;rcases Ah.1 hu with hu|hu
  ·exact uk u hu
  ·simp only[List.mem_cons,List.not_mem_nil,or_false]at hu;omega
 obtain⟨M,hM⟩:∃M,M=n+3+5+6*40:=⟨_,rfl⟩;obtain⟨D2,hD2⟩:∃D2,D2=bT D1 40:=⟨_,rfl⟩;have k1:∀j,j<M→Lq.fQ (Lq.av D2 j)=0:=by rw[hD2,hM];exact rh l1 k0 40
 have s1:∀u∈D2,0≤u∧u≤1000000:=hD2▸nC s0 40;obtain⟨O,hO⟩:∃O,kZ D2 M=O:=⟨_,rfl⟩;obtain⟨h2,h3,_⟩:=adG GD n (by omega) 40 (by decide) (hD1▸hD2) (by rw[←hM];exact k1) (5+6*40) (Ac _);rw[show n+3+(5+6*40)=M by omega]at h2 h3;have e1:∀y∈O.sv,¬1<y.q:=fun y hy=>by
  rw[←hO]at hy;have g2:=h2.w.sv y hy;have g3:=h3.w.sv y hy;omega
 have e2:O.pn 2= -1∧O.pe 2=0∧O.pn 3=4∧O.pe 3=1:=by rw[←hO];exact⟨h2.d.1,h2.d.2,h3.d.1,h3.d.2⟩
 obtain⟨B,hB⟩:∃B,O.bs 4 3=B:=⟨_,rfl⟩;have adH:B=⟨1,1,0,0,0,[]⟩:=by
  rw[←hB,←hO];exact(h3.n 4 (by decide)).b _ (abo.Yl _ _)
 have b1:B.r=1:=by rw[adH]
 have b2:B.es.length=0:=by rw[adH];rfl
 have e3:O.sv.length≤100000000000:=by rw[←hO];exact((gY D2 M (by omega) k1 _ (Ac _)).gd (by omega)).g.ls
 have JZ:∀{w:tA} {v:tK} {k:Nat},w.ownsRow k 63 11 v (n+3+5+6*40) ((bT D1 40).map (Value.int .i64))→w.ownsRow k 63 11 v M (D2.map (Value.int .i64)):=fun h=>by rw[hM,hD2];exact h
 have hMl:0<M∧M≤50000:=by omega
 clear hD2 hM h2 h3 adH;refine en (H:=[]) _ [vv (.slice a len cap)] Tryz.func8 rfl rfl (m0 w) (r [] rfl fun _=> ?_);refine mG rfl (by kernel_rfl) fun w1 hS=>(m_ a len cap 100 true GD w1 (h.below hS.now.2) (by omega) (by omega)).mono fun _ w2 ⟨v1,e,o1,b⟩=> ?_;rw[←hn]at o1;obtain⟨g1,c1,rfl,my,n_,Vi⟩:=abE o1 (by omega);refine⟨vv (.slice (some ⟨g1,0,none⟩) (n+2) c1),[],fun b'=>(Value.slice (some ⟨g1,0,none⟩) (n+2) c1).ownBlock=some b'∨False,fun _=>True,fun w'=>qT w w' g1 (n+2) c1 (mm GD true n),e,.inr b,Mem.start (fun b' hb'=>hb'.elim (fun hb'=>by cases hb';exact Vi) fun h=>h.elim) (fun _ _=>trivial) (fun w3 b3=>⟨Below.next (Below.next hS.now.2 b) b3,aJ (rC o1 hS.now.2.size) fun g _ hg=>b3.block g hg⟩), ?_⟩;clear hS b o1 n_ Vi e;refine r [] rfl fun α=> ?_;refine nJ 0 rfl cZ (fun w hS=>hS.now.2.1.size) (fun _ _ h c=>cB h c (Ac _)) fun g2 c2 jM=> ?_;refine jt (M':=fun b'=>(Value.slice (some ⟨g2,0,none⟩) (n+3) c2).ownBlock=some b'∨False) (R':=fun w'=>qT w w' g2 (n+3) c2 D1) (H':=[]) (fun w hS=>(hS.take 0).sr fun w h=>⟨h.1,by rw[hD1,AE];exact h.2⟩) ?_;refine r [] rfl fun _=>mG rfl (by kernel_rfl) fun w1 hS=>(q7 (some ⟨g2,0,none⟩) (n+3) c2 D1 w1 (qT.row hS.now.2 s0) (by omega) (by omega) 40 (by decide)).mono fun _ w2 ⟨v1,e,o1,bl_⟩=> ?_;obtain⟨g3,c9,rfl,hc9,n_,Vi⟩:=abE (JZ o1) (by omega);have o1:=JZ o1;refine⟨vv (.slice (some ⟨g3,0,none⟩) M c9),[],fun b'=>(Value.slice (some ⟨g3,0,none⟩) M c9).ownBlock=some b'∨False,fun _=>True,fun w'=>qT w w' g3 M c9 D2,e,.inr bl_,Mem.start (fun b' hb'=>hb'.elim (fun hb'=>by cases hb';exact Vi) fun h=>h.elim) (fun _ _=>trivial) (fun w3 b3=>⟨Below.next (Below.next hS.now.2.1 bl_) b3,aJ (rC o1 hS.now.2.1.size) fun g _ hg=>b3.block g hg⟩), ?_⟩;clear hS bl_ o1 n_ Vi e;refine r [] rfl fun _=>cx rfl (fun t:j7=>vt [.g [.f 18 (mZ O t)],.o (.bool true)]) (fun _=>True) (fun t w=>lO w O t) (fun w1 hS=>hO▸(yH (some ⟨g3,0,none⟩) M c9 D2 w1 (hK.next hS.now.2.1) (qT.row hS.now.2 s1) (by omega) k1).mono fun _ w2 ⟨t,e,ho,b⟩=>⟨t,e,b,trivial,fun hl=>ho.mono fun b _ hu=>hl b hu⟩) fun t _=> ?_;clear hO;have og:aW (mZ O t) 18:=ny;obtain⟨A,hA⟩:∃A,t.A 4 3=A:=⟨_,rfl⟩;obtain⟨K,hKk⟩:∃K,t.K 4 3=K:=⟨_,rfl⟩;have ob:aW (bF B A K) 6:=fun i hi=>by
  match i,hi with
  |0,_|1,_|2,_|3,_|4,_|5,_=>rfl
 refine r [] rfl fun β=>Rv.l1 (q:=0+4*1) rfl (.slice (some ⟨t.Y 4,0,none⟩) 4 (t.C 4)) (fun w hS=>qR hS.now.1.2 (by decide)) ?_;refine r [] rfl fun _=>lf (q:=0+3*6) rfl 6 (bF B A K) (fun w hS j hj=>by rw[←hB,←hA,←hKk];exact nz hS.now.1.2 (by decide) (by decide) j hj) ?_;refine r [] rfl fun γ=>uD (X:=Nat) (fun k=>[(4,vp 0 0 (β 0)),(6,vp 1 0 (γ 0)),(7,vi (k:Int))]) (fun _=>[⟨β 0,40,[.f 18 (mZ O t)]⟩,⟨γ 0,43,[.f 6 (bF B A K)]⟩]) (fun _ b'=>(Value.slice (some ⟨g3,0,none⟩) M c9).ownBlock=some b'∨False) (fun _ w'=>qT w w' g3 M c9 D2) (fun k=>k≤O.sv.length) (fun k=>O.sv.length-k) 0 ⟨rfl,rfl,rfl,trivial⟩ (fun _ hS=>hS) (Al _) ?_;rintro f2 k hk;have hk:k≤O.sv.length:=hk;by_cases aN:k<O.sv.length
 case neg=>
  obtain rfl:k=O.sv.length:=by omega
  refine r [0] rfl fun _=>gp 0 rfl [.f 10 (mZ O t),.f 2 (lF [iV (-1),iV 0]),.f 2 (lF [iV 4,iV 1]),.f 4 fun i=>mZ O t (i+14)] rfl ?_ ?_
  ·have f0:mZ O t 10=iV (-1):=by show iV (O.pn 2)=_;rw[e2.1]
   have f1:mZ O t 11=iV 0:=by show iV (O.pe 2)=_;rw[e2.2.1]
   have f2:mZ O t 12=iV 4:=by show iV (O.pn 3)=_;rw[e2.2.2.1]
   have f3:mZ O t 13=iV 1:=by show iV (O.pe 3)=_;rw[e2.2.2.2]
   show[mZ O t 0,mZ O t 1,mZ O t 2,mZ O t 3,mZ O t 4,mZ O t 5,mZ O t 6,mZ O t 7,mZ O t 8,mZ O t 9,mZ O t 10,mZ O t 11,mZ O t 12,mZ O t 13,mZ O t 14,mZ O t 15,mZ O t 16,mZ O t 17]=_;rw[f0,f1,f2,f3];rfl
  refine r [1,1,0] rfl fun _=> ?_;refine eqs (b:=true) rfl (fun w=>abm 9998 4 1 w) rfl ?_;refine r [0] rfl fun _=> ?_;refine eqs (b:=true) rfl (fun w=>abm 9998 (-1) 0 w) rfl ?_;exact r [] rfl fun _=>fin fun w hS=>⟨rfl,hS.now.2.1⟩
 obtain⟨y,hy⟩:∃y,O.sv[k]? =some y:=⟨_,Ai aN⟩;have y1:=e1 y (Ar hy);refine VP fun w9 hS=> ?_;obtain⟨ga,ea,_⟩:=hS.now.1.2.s k y hy;clear hS;refine gp 0 rfl [.f 15 (mZ O t),.o (.slice (some ⟨ga,0,none⟩) O.sv.length t.sc),.f 2 (fun i=>mZ O t (i+16))] rfl (by rw[←ea];rfl) ?_;have cl:∀w,lO w O t→∀j,j<14→w.cell? ⟨ga,0+k*14+j,none⟩=some (lF (Jj y) j):=fun w hw j hj=>by
  obtain⟨g,e,hc⟩:=hw.s k y hy;rw[ea]at e;cases e;rw[Aj];exact hc j hj
 refine r [1] rfl fun _=>Rv.l1 (q:=0+k*14+1) rfl (iV y.q) (fun w hS=>cl w hS.now.1.2 1 (by decide)) ?_;refine gp 0 rfl [.f 18 (mZ O t)] rfl (by rw[←ea];rfl) ?_;exact rz [0,1] [((k+1:Nat):Int)] rfl fun _=>bJ (k+1) ⟨rfl,rfl,rfl,trivial⟩ (fun _ hS=>hS) aN (show O.sv.length-(k+1)<O.sv.length-k by omega)
end
end Go.Proofs.YtpgkjpomaffbmaaGreatDoor
