/- Out of my texts: PrA@TopAskedOwn, PrB@TopAskedOwn, TgA@TopAskedOwn, TdB@TopAskedOwn, TmB@TopAskedOwn, FlA@TopAskedOwn, KaA@TopAskedOwn, KaB@TopAskedOwn, TlB@TopAskedOwn, FlB@TopAskedOwn, CfA@TopAskedOwn, CfB@TopAskedOwn. -/
import Derived.Test.YtpgkjpomaffbmaaGreatDoorTAA
import Derived.Test.YtpgkjpomaffbmaaGreatDoorTAC
import Derived.Test.YtpgkjpomaffbmaaGreatDoorTAF
set_option maxRecDepth 20000
set_option maxHeartbeats 8000000
set_option linter.unusedVariables false
namespace Go.Proofs.YtpgkjpomaffbmaaGreatDoor
open Go.RowKit
def yi:Af→Option (Nat×Bt)
 | .serve _ _=>none
 | .begin l B=>some (l.q,B)
 | .shut l B=>some (l.q,B)
 | .take l B=>some (l.q,B)
 | .fA q B=>some (q,B)
def Pos(n:Nd)(q:Nat)(r e t:Int):Prop:=
 (n.up=true∧((r=(n.mo q).r∧e=(n.mo q).e∧t=(n.mo q).t)∨((n.mo q).r=2∧r=1∧e=(n.mo q).e∧t=0)∨∃a B,n.af=some a∧yi a=some (q,B)∧r=B.r∧e=B.e∧t=B.t))∨
 (n.up=false∧r=(kX n q).r∧e=(kX n q).e∧t=(kX n q).t)
def iO(n:Nd)(q:Nat)(P:Int→Int→Int→Prop):Prop:=∀r e t,Pos n q r e t→P r e t
def yK(n:Nd)(q:Nat)(ep:Int):Prop:=iO n q fun r e _=>ep<e∨(e=ep∧¬r=4)
def Mc(n:Nd)(q:Nat)(ep:Int):Prop:=iO n q fun r e _=>ep<e∨(e=ep∧(r=3∨r=0))
def GV(q:Nat)(ns:Nat→Nd)(pn pe k:Int):Prop:=0≤pn∧iO (ns pn.toNat) q fun r e t=>r=3∧e=pe∧t=k
structure k_(q:Nat)(ns:Nat→Nd)(pn pe:Int)(i:Nat)(r e t:Int):Prop where
 z:pn= -1→r=0∨r=4
 a:e≤pe+1
 a2:r=2∨r=3→e≤pe
 b:r=1∨r=2∨r=3→e=pe→(i:Int)=pn
 d:r=1∨r=2→pe≤e
 c:r=1→e=pe+1→GV q ns pn pe i
 s:r=3→e<pe→yK (ns t.toNat) q (e+1)
 x:(i:Int)=pn→(r=1∨r=2∨r=3)∧e=pe
structure Fn(q:Nat)(ns:Nat→Nd)(pn pe:Int)(i:Nat)(r e t:Int):Prop where
 ok:k_ q ns pn pe i r e t
 g1:∀ep,yK (ns i) q ep→ep<e∨(e=ep∧¬r=4)
 g2:¬iO (ns i) q fun r e _=>r=3∧e=pe
 g3:¬iO (ns i) q fun r e _=>r=1∧e=pe+1
 g4:∀ep,Mc (ns i) q ep→ep<e∨(e=ep∧(r=3∨r=0))
section
open Rv
namespace Rv
section
variable{n:Nat}{fn:Func}{Rr:Ending→World→Prop}{M:tF}{Φ R:tJ}{H:List En}{ks:List Fr}{f:Nat→AV}
theorem gp{en:En}(j:Nat)(he:nth H j=some en)(l':List Sg)(hz:eX l'=eX en.l)(hg:dD en.l=dD l')(hn:G Tryz.prog fn Rr n M Φ R ks f (H.set j ⟨en.a,en.t,l'⟩)):G Tryz.prog fn Rr n M Φ R ks f H:=by
 refine jt (fun w hS=> ?_) hn;have xm:=he;rw[eR]at xm;have xn:(hs H)[j]? =some en.g_:=by rw[Ax,xm];rfl
 have Ep:=hS.congr j xn (cy l') (fun i hi=>by
  have hi:i<eX en.l:=hi;show cy en.l i=cy l' i
  rw[iu _ hi,iu _ (hz▸hi),hg])
 have e4:hs (H.set j ⟨en.a,en.t,l'⟩)=(hs H).set j ⟨en.a,en.t,eX en.l,cy l'⟩:=by
  rw[hs,Co];show _=List.set _ j (⟨en.a,en.t,eX en.l,cy l'⟩:bX);rw[←hz];rfl
 rw[e4];exact Ep
end
end Rv
abbrev qT(w w':tA)(g l c:Nat)(D:tG):Prop:=bZ w w'∧w'.ownsRow w.heap.size 63 11 (.slice (some ⟨g,0,none⟩) l c) l (D.map (Value.int .i64))
namespace Rv
end Rv
namespace Rv
section
variable{n:Nat}{ops:tP}{f:Nat→AV}{fn:Func}{Rr:Ending→World→Prop}{T:tF}{Φ R:tJ}{H:List En}{ks:List Fr}{t:Ord}{i d:Nat}{md:Md}
theorem Vf{s e sz lD base l m mc b o:Nat}{x y:AV}{v:tK}{L:tM}{D:tG}{R0:tJ}(hD:D.length=m*sz)(hm:0<m)(h1:Rz n ops f i=some (d,s,x,y))(ht:jI Tryz.prog s e sz lD=true)(dq:∀w,Mem w (hs H) (fun b=>v.ownBlock=some b∨T b) Φ (fun w=>R0 w∧w.ownsRow base e sz v l L)→RowK .i64 w (some ⟨b,o,none⟩) (m*sz) D)(hb:∀w,Mem w (hs H) (fun b=>v.ownBlock=some b∨T b) Φ (fun w=>R0 w∧w.ownsRow base e sz v l L)→base≤w.heap.size)(hR:∀w w',R0 w→dB (fun b=>base≤b) w w'→R0 w')(hn:∀g c,l+m≤c→G Tryz.prog fn Rr n (fun b=>(Value.slice (some ⟨g,0,none⟩) (l+m) c).ownBlock=some b∨T b) Φ (fun w=>R0 w∧w.ownsRow base e sz (.slice (some ⟨g,0,none⟩) (l+m) c) (l+m) (L++D.map (Value.int .i64))) (.g md ops t::ks) (ua f d (vv (.slice (some ⟨g,0,none⟩) (l+m) c))) H)(hx:x.val=v:=by rfl)(hy:y.val= .slice (some ⟨b,o,none⟩) m mc:=by rfl)(Kg:l+m≤maxLen:=by(try dsimp only);unfold maxLen;omega)(Dt:(l+m)*lD≤140737488355328:=by(try dsimp only);omega)(hv:md.vs.contains i=false:=by rfl):G Tryz.prog fn Rr n (fun b=>v.ownBlock=some b∨T b) Φ (fun w=>R0 w∧w.ownsRow base e sz v l L) (.g md ops (.ef i t)::ks) f H:=
 apr h1 hx hy ht (by rw[AW];exact hD) (fun w hS j u hu=>by
  have hj:=(Ap.1 hu).1;rw[AW,hD]at hj;have h:=(dq w hS).at j hj;rw[Ax]at hu;rw[Aw]at h;cases hx:D[j]? with
  |none=>rw[hx]at hu;cases hu
  |some z=>
   rw[hx]at hu h;cases hu;rw[BM];exact h) (fun u hu=>by
  obtain⟨z,_,rfl⟩:=Ay.1 hu
  rfl) hm Kg Dt hb hR hn hv
end
end Rv
structure dL(Q:Nat→List Int→Prop)(D:tG)(n:Nat):Prop where
 len:D.length=11*n
 act:∀j,j<n→Q j (c_ D j)
theorem dL.app{Q:Nat→List Int→Prop}{D l:tG}{n:Nat}(h:dL Q D n)(hl:l.length=11)(hq:Q n l):dL Q (D++l) (n+1):=by
 refine⟨by rw[Ag,h.len,hl];omega,fun j hj=> ?_⟩;by_cases e:j<n
 ·rw[fL (by rw[h.len];omega)];exact h.act j e
 ·obtain rfl:j=n:=by omega
  have:=eW (E:=l) (j:=0) h.len;rw[Cn]at this;rw[this,na hl];exact hq
theorem dL.fQ{Q:Nat→List Int→Prop}{D:tG}{n:Nat}(h:dL Q D n)(hq:∀j l,Q j l→Lq.fQ (lA l)=0)(j:Nat)(hj:j<n):Lq.fQ (Lq.av D j)=0:=by
 rw[jF (cK _ _)];exact hq _ _ (h.act j hj)
def db(P:Int→Bool)(D:tG):Nat→List Int
 |0=>[]
 |k+1=>if P (Lq.av D k 0)=true then db P D k++c_ D k else db P D k
def bO(P:Int→Bool)(D:tG):Nat→Nat
 |0=>0
 |k+1=>if P (Lq.av D k 0)=true then bO P D k+1 else bO P D k
section
variable{P:Int→Bool}{D:tG}{n:Nat}
theorem gZ:∀k,bO P D k≤k
 |0=>Ac _
 |k+1=>by
  have:=gZ k;rw[bO];split<;>omega
theorem fE{j:Nat}(h:11*(j+1)≤D.length):(c_ D j).length=11:=by
 unfold c_;rw[AM,AK];omega
theorem lh(hl:11*n≤D.length):∀k,k≤n→dL (fun j l=>∃i,j≤i∧i<k∧P (Lq.av D i 0)=true∧l=c_ D i) (db P D k) (bO P D k)
 |0,_=>⟨rfl,fun j hj=>absurd hj (AF _)⟩
 |k+1,hk=>by
  have ih:=lh hl k (by omega)
  have up:dL (fun j l=>∃i,j≤i∧i<k+1∧P (Lq.av D i 0)=true∧l=c_ D i) (db P D k) (bO P D k):=⟨ih.len,fun j hj=>by
   obtain⟨i,h1,h2,h3,h4⟩:=ih.act j hj
   exact⟨i,h1,by omega,h3,h4⟩⟩
  by_cases hp:P (Lq.av D k 0)=true
  ·rw[db,bO,Ae hp,Ae hp];exact up.app (fE (by omega)) ⟨k,gZ k,by omega,hp,rfl⟩
  ·rw[db,bO,Aa hp,Aa hp];exact up
theorem im:∀k,∀u∈db P D k,u∈D
 |0,_,h=>by cases h
 |k+1,u,h=>by
  rw[db]at h;split at h
  ·rcases Ah.1 h with h|h
   ·exact im k u h
   ·exact Bl (AJ h)
  ·exact im k u h
end
def cP:Nat→List Int
 |0=>[]
 |k+1=>cP k++[9,(k:Int),0,0,0,0,0,0,0,0,0]
def dm:Nat→List Int
 |0=>[]
 |k+1=>dm k++[3,(k:Int),0,0,0,0,0,0,0,0,0]
def bT(D:tG):Nat→List Int
 |0=>D++cP 5
 |k+1=>bT D k++dm 5++[7,0,0,0,0,0,0,0,0,0,0]
def xg(l:tG):Prop:=(∃i:Nat,i<5∧l=[9,(i:Int),0,0,0,0,0,0,0,0,0])∨(∃i:Nat,i<5∧l=[3,(i:Int),0,0,0,0,0,0,0,0,0])∨l=[7,0,0,0,0,0,0,0,0,0,0]
theorem dL.qU{Q:Nat→List Int→Prop}{D:tG}{n:Nat}(h:dL Q D n)(hq:∀j l,n≤j→xg l→Q j l):∀k,k≤5→dL Q (D++cP k) (n+k)
 |0,_=>by rw[cP,Au];exact h
 |k+1,hk=>by
  rw[cP,←AA];exact(h.qU hq k (by omega)).app rfl (hq _ _ (by omega) (.inl ⟨k,by omega,rfl⟩))
theorem dL.steps{Q:Nat→List Int→Prop}{D:tG}{n:Nat}(h:dL Q D n)(hq:∀j l,n≤j→xg l→Q j l):∀k,k≤5→dL Q (D++dm k) (n+k)
 |0,_=>by rw[dm,Au];exact h
 |k+1,hk=>by
  rw[dm,←AA];exact(h.steps hq k (by omega)).app rfl (hq _ _ (by omega) (.inr (.inl ⟨k,by omega,rfl⟩)))
theorem dL.fair{Q:Nat→List Int→Prop}{D:tG}{n:Nat}(h:dL Q D n)(hq:∀j l,n≤j→xg l→Q j l):∀r,dL Q (bT D r) (n+5+6*r)
 |0=>h.qU hq 5 (Ac _)
 |r+1=>by
  have h1:=(h.fair hq r).steps (fun j l hj=>hq j l (by omega)) 5 (Ac _);exact h1.app (l:=[7,0,0,0,0,0,0,0,0,0,0]) rfl (hq _ _ (by omega) (.inr (.inr rfl)))
theorem xg.fQ{l:tG}(h:xg l):Lq.fQ (lA l)=0:=by
 rcases h with⟨i,hi,rfl⟩|⟨i,hi,rfl⟩|rfl
 ·exact rQ (by omega)
 ·exact vH (by omega)
 ·exact yI
theorem xg.sm{l:tG}(h:xg l):∀u∈l,0≤u∧u≤1000000:=by
 intro u hu;rcases h with⟨i,hi,rfl⟩|⟨i,hi,rfl⟩|rfl<;>simp only[List.mem_cons,List.not_mem_nil,or_false]at hu<;>omega
theorem nC{D:tG}(h:∀u∈D,0≤u∧u≤1000000):∀r,∀u∈bT D r,0≤u∧u≤1000000
 |0,u,hu=>by
  rcases Ah.1 hu with hu|hu
  ·exact h u hu
  ·simp only[cP,List.nil_append,List.cons_append,List.mem_cons,List.not_mem_nil,or_false]at hu;omega
 |r+1,u,hu=>by
  rw[bT]at hu;rcases Ah.1 hu with hu|hu
  ·rcases Ah.1 hu with hu|hu
   ·exact nC h r u hu
   ·simp only[dm,List.nil_append,List.cons_append,List.mem_cons,List.not_mem_nil,or_false]at hu;omega
  ·simp only[List.mem_cons,List.not_mem_nil,or_false]at hu;omega
end
def ku(s:Ws)(q:Nat)(x y:Int):Prop:=y≤s.pe q∧-1≤x∧(x<0→y=0)∧(y=s.pe q→x=s.pn q)
def TA(C:Int→Int→Int→Ev→Prop)(s:Ws)(t:Tl):Prop:=∃(nd:Int) (q:Nat) (op:Ev),C t.nu nd q op∧q<4∧ku s q t.pn t.pe∧((t.an.c=7∨t.an.c=12)∨(t.pn<0∧∃y∈s.sv,y.nu=t.nu∧y.an=t.an))
def KL(C:Int→Int→Int→Ev→Prop)(s:Ws)(l:Lt):Prop:=(l.kd=0→C l.nu l.dst l.q l.op)∧(l.kd=1→TA C s ⟨l.nu,l.an,l.pn,l.pe⟩)∧(l.kd=7→ku s l.q l.pn l.pe)
structure KW(C:Int→Int→Int→Ev→Prop)(s:Ws):Prop where
 fl:∀l∈s.fl,KL C s l
 sv:∀y∈s.sv,y.nu<0∨C y.nu y.nd y.q y.op
 td:∀t∈s.td,TA C s t
structure KN(C:Int→Int→Int→Ev→Prop)(s:Ws)(i:Nat)(n:Nd):Prop where
 wt:∀l∈n.wt,KL C s l∧(l.kd=0→l.dst=i)
 af:∀l an,n.af=some (.serve l an)→C l.nu l.dst l.q l.op∧l.dst=i
 hn:n.up=true→∀q,q<4→ku s q (n.hn q) (n.he q)
structure dK(s s':Ws):Prop where
 h:∀q,q<4→∀x y,ku s q x y→ku s' q x y
 v:∀y∈s.sv,y∈s'.sv
section
variable{C:Int→Int→Int→Ev→Prop}{s s':Ws}{i:Nat}{n:Nd}
theorem dK.same(e1:s'.pn=s.pn)(e2:s'.pe=s.pe)(e3:∃L,s'.sv=s.sv++L):dK s s':=⟨fun q _ x y h=>by unfold ku at h⊢;rw[e1,e2];exact h,fun y hy=>by obtain⟨L,e⟩:=e3;rw[e];exact Bk _ hy⟩
theorem dK.refl(s:Ws):dK s s:=⟨fun _ _ _ _ h=>h,fun _ h=>h⟩
theorem dK.trans{UL:Ws}(h:dK s s')(g:dK s' UL):dK s UL:=⟨fun q hq x y k=>g.h q hq x y (h.h q hq x y k),fun y hy=>g.v y (h.v y hy)⟩
theorem TA.up(h:dK s s'){t:Tl}(k:TA C s t):TA C s' t:=by
 obtain⟨nd,q,op,k1,k2,k3,k4⟩:=k;exact⟨nd,q,op,k1,k2,h.h q k2 _ _ k3,k4.imp id fun⟨g1,y,g2,g3⟩=>⟨g1,y,h.v y g2,g3⟩⟩
theorem KL.up(h:dK s s'){l:Lt}(hq:l.kd=7→l.q<4)(k:KL C s l):KL C s' l:=⟨k.1,fun g=>(k.2.1 g).up h,fun g=>h.h _ (hq g) _ _ (k.2.2 g)⟩
theorem KN.up(h:dK s s')(hw:∀l∈n.wt,eY l)(k:KN C s i n):KN C s' i n:=⟨fun l hl=>⟨(k.wt l hl).1.up h fun _=>(hw l hl).q,(k.wt l hl).2⟩,k.af,fun hu q hq=>h.h q hq _ _ (k.hn hu q hq)⟩
theorem KL.plain{l:Lt}(h0:¬l.kd=0)(h1:¬l.kd=1)(h7:¬l.kd=7):KL C s l:=⟨fun g=>absurd g h0,fun g=>absurd g h1,fun g=>absurd g h7⟩
theorem oS{l:Lt}(h:j9 l):l.kd=7→l.q<4:=fun g=>by
 rcases h.ok.kd with k|k|k|k
 ·omega
 ·omega
 ·omega
 ·exact k.1.q
theorem KW.more(h:KW C s)(hL:∀l∈s.fl,j9 l){L:List Lt}{M:List Ji}(e1:s'.fl=s.fl++L)(e2:s'.sv=s.sv++M)(e3:s'.td=s.td)(e4:s'.pn=s.pn)(e5:s'.pe=s.pe)(k1:∀l∈L,KL C s' l)(k2:∀y∈M,y.nu<0∨C y.nu y.nd y.q y.op):KW C s'∧dK s s':=by
 have u:dK s s':= .same e4 e5 ⟨M,e2⟩;refine⟨⟨fun l hl=> ?_,fun y hy=> ?_,fun t ht=> ?_⟩,u⟩
 ·rw[e1]at hl;rcases Ah.1 hl with hl|hl
  ·exact(h.fl l hl).up u (oS (hL l hl))
  ·exact k1 l hl
 ·rw[e2]at hy;rcases Ah.1 hy with hy|hy
  ·exact h.sv y hy
  ·exact k2 y hy
 ·rw[e3]at ht;exact(h.td t ht).up u
theorem iq{q:Nat}(hd:bN s.pn s.pe)(hq:q<4):ku s q (-1) 0:=by
 have:=hd q hq;unfold kS at this;unfold ku;omega
structure Kd(C:Int→Int→Int→Ev→Prop)(s s':Ws)(i:Nat)(n':Nd):Prop where
 w:KW C s'
 n:KN C s' i n'
 u:dK s s'
 d:s'.pn=s.pn∧s'.pe=s.pe
theorem KW.answer(h:KW C s)(hL:∀l∈s.fl,j9 l)(hd:bN s.pn s.pe){l:Lt}(hq:l.q<4)(hc:C l.nu l.dst l.q l.op)(p8:l.dst=n.i)(an:An):KW C (dN n s l an)∧dK s (dN n s l an):=
 h.more hL (L:=[gT l.nu an (-1) 0]) (M:=[⟨n.i,l.q,(n.mo l.q).e,l.op,an,l.nu⟩]) rfl rfl rfl rfl rfl (fun x hx=>by
  rw[Ab.1 hx]
  exact⟨fun g=>(by cases g),fun _=>⟨l.dst,l.q,l.op,hc,hq,iq (s:=dN n s l an) hd hq,.inr ⟨(by show(-1:Int)<0;decide),_,Bj _ Aq,rfl,rfl⟩⟩,fun g=>(by cases g)⟩) fun y hy=>by
  rw[Ab.1 hy];exact .inr (by rw[←p8];exact hc)
theorem KW.qV(h:KW C s)(hL:∀l∈s.fl,j9 l){l:Lt}(hk:¬l.kd=0)(h1:¬l.kd=1)(h7:¬l.kd=7):KW C (e_ s l)∧dK s (e_ s l):=
 h.more hL (L:=[l]) (M:=[]) rfl (Au _).symm rfl rfl rfl (fun x hx=>by rw[Ab.1 hx];exact .plain hk h1 h7) fun y hy=>by cases hy
theorem KW.part(h:KW C s)(hL:∀l∈s.fl,j9 l)(q:Nat)(hv:Int):KW C (iE n s q hv)∧dK s (iE n s q hv):=by
 unfold iE;split
 ·exact h.qV hL (by show ¬(4:Int)=0;decide) (by show ¬(4:Int)=1;decide) (by show ¬(4:Int)=7;decide)
 ·exact⟨h,.refl s⟩
theorem oT{B:Bt}{v:Ev}(ok:B.Ok)(hv:v.Ok)(h4:¬v.k=4)(hr:¬(B.r=1∨B.r=2)):(bD B v).2.1.c=7∨(bD B v).2.1.c=12:=by
 have hs:=ok.cG;unfold Bt.b_ bg at hs;by_cases h3:B.r=3
 ·rw[eV (.shut ok hv h4 h3)];exact .inr rfl
 ·rw[eV (.none ok hv h4 (by omega))];exact .inl rfl
theorem lq{a:Af}{rs:List Rec}{m:Nd}(h:KN C s i m)(ha:∀l an,a= .serve l an→C l.nu l.dst l.q l.op∧l.dst=i):KN C s i ((lC m a rs).getD m):=by
 unfold lC;split
 ·exact⟨h.wt,fun l an e=>ha l an (by injection e),h.hn⟩
 ·exact h
theorem vJ(hC:∀nu nd q op,C nu nd q op→q<4∧op.Ok∧¬op.k=4)(h:KW C s)(hL:∀l∈s.fl,j9 l)(hd:bN s.pn s.pe)(k:KN C s i n)(hu:n.up=true)(hi:n.i=i)(ok:∀q,q<4→(n.mo q).Ok)(kh:∀l∈n.wt,eY l){l:Lt}(hw:eY l)(hl:KL C s l∧(l.kd=0→l.dst=i)):KW C (bm n s l).2∧KN C (bm n s l).2 i (bm n s l).1∧dK s (bm n s l).2:=by
 have idle:KW C s∧KN C s i n∧dK s s:=⟨h,k,.refl s⟩;have up:∀{s':Ws} {m:Nd},KW C s'∧dK s s'→KN C s i m→m.wt=n.wt→KW C s'∧KN C s' i m∧dK s s':=fun {s' m} g1 g2 g3=>⟨g1.1,g2.up g1.2 (by rw[g3];exact kh),g1.2⟩;unfold bm;split
 ·rename_i k0;have hc:=hl.1.1 k0;have p8:=(hl.2 k0).trans (AB _ hi.symm);obtain⟨_,ho,h4⟩:=hC _ _ _ _ hc;unfold gD;split
  ·rename_i hr;refine up (h.more hL (L:=[gT l.nu (bD (n.mo l.q) l.op).2.1 (n.hn l.q) (n.he l.q)]) (M:=[]) rfl (Au _).symm rfl rfl rfl (fun x hx=> ?_) fun y hy=>by cases hy) k rfl;rw[Ab.1 hx];exact⟨fun g=>(by cases g),fun _=>⟨l.dst,l.q,l.op,hc,hw.q,k.hn hu l.q hw.q,.inl (oT (ok l.q hw.q) ho h4 hr)⟩,fun g=>(by cases g)⟩
  split
  ·exact up (h.answer hL hd hw.q hc p8 _) k rfl
  split
  ·rename_i n' e;have:=lq (a:= .serve l (bD (n.mo l.q) l.op).2.1) (rs:=[⟨2,l.q,(n.mo l.q).e,0,l.op⟩]) k fun l' pY g=>by
    injection g with g1 g2
    rw[←g1];exact⟨hc,hl.2 k0⟩
   rw[e]at this;exact⟨h,this,.refl s⟩
  ·exact up (h.answer hL hd hw.q hc p8 _) k rfl
 split
 ·unfold gE;split
  ·exact idle
  split
  ·exact up (h.qV hL (l:=vl n.i (n.mo l.q) l.q) (by show ¬(3:Int)=0;decide) (by show ¬(3:Int)=1;decide) (by show ¬(3:Int)=7;decide)) k rfl
  ·exact⟨h,lq k fun _ _ g=>(by cases g),.refl s⟩
 split
 ·unfold fj;split
  ·exact idle
  split
  ·exact idle
  split
  ·exact up (h.part hL l.q l.pl) (m:={n with mo:=ak n.mo l.q (aL (n.mo l.q) l.pl).1}) ⟨k.wt,k.af,k.hn⟩ rfl
  ·exact⟨h,lq k fun _ _ g=>(by cases g),.refl s⟩
 split
 ·unfold takeN;split
  ·exact idle
  split
  ·exact idle
  ·exact⟨h,lq k fun _ _ g=>(by cases g),.refl s⟩
 ·rename_i k0 k2 k3 k4;have k7:l.kd=7:=by have:=hw.kd;omega
  have hh:KN C s i (cV n l):=by
   unfold cV;split
   ·refine⟨k.wt,k.af,fun _ q hq=> ?_⟩;show ku s q (ak n.hn l.q l.pn q) (ak n.he l.q l.pe q);by_cases e:q=l.q
    ·subst e;rw[aj,aj];exact hl.1.2.2 k7
    ·rw[aI e,aI e];exact k.hn hu q hq
   ·exact k
  unfold gF;split
  ·exact⟨h,lq hh fun _ _ g=>(by cases g),.refl s⟩
  ·exact⟨h,hh,.refl s⟩
theorem ka(hL:∀l∈s.fl,j9 l)(h:KW C s):∀(k:Nat) (n:Nd),KN C s i n→(∀l∈n.wt,eY l)→KW C (cS k n s).2∧KN C (cS k n s).2 i (cS k n s).1∧dK s (cS k n s).2
 |0,n,kn,_=>⟨h,kn,.refl s⟩
 |k+1,n,kn,hw=>by
  unfold cS;split
  ·exact ka hL h k {n with tu:=(n.tu+1) % 4} ⟨kn.wt,kn.af,kn.hn⟩ hw
  ·have hm:=h.more hL (s':={s with fl:=s.fl++dQ n n.tu}) (L:=dQ n n.tu) (M:=[]) rfl (Au _).symm rfl rfl rfl (fun l hl=>by
    unfold dQ at hl;split at hl
    ·rw[Ab.1 hl];exact .plain (by show ¬(2:Int)=0;decide) (by show ¬(2:Int)=1;decide) (by show ¬(2:Int)=7;decide)
    split at hl
    ·rcases BI.1 hl with hl|hl
     ·rw[hl];exact .plain (by show ¬(2:Int)=0;decide) (by show ¬(2:Int)=1;decide) (by show ¬(2:Int)=7;decide)
     ·rw[Ab.1 hl];exact .plain (by show ¬(6:Int)=0;decide) (by show ¬(6:Int)=1;decide) (by show ¬(6:Int)=7;decide)
    split at hl
    ·rw[Ab.1 hl];exact .plain (by show ¬(5:Int)=0;decide) (by show ¬(5:Int)=1;decide) (by show ¬(5:Int)=7;decide)
    ·cases hl) fun y hy=>by cases hy
   exact⟨hm.1,KN.up (n:={n with tu:=(n.tu+1) % 4}) hm.2 hw ⟨kn.wt,kn.af,kn.hn⟩,hm.2⟩
end
structure KI(C:Int→Int→Int→Ev→Prop)(p:(Nat→Nd)×Ws):Prop where
 w:KW C p.2
 n:∀i,i<5→KN C p.2 i (p.1 i)
section
variable{C:Int→Int→Int→Ev→Prop}{i:Nat}
theorem nD(hC:∀nu nd q op,C nu nd q op→q<4∧op.Ok∧¬op.k=4)(Vg:i<5):∀(k:Nat) (n:Nd) (s:Ws),KW C s→KN C s i n→(∀l∈s.fl,j9 l)→bN s.pn s.pe→Up n→n.up=true→n.af=none→n.i=i→n.dl.length≤100000→(∀l∈n.wt,eY l)→KW C (cJ k n s).2∧KN C (cJ k n s).2 i (cJ k n s).1∧dK s (cJ k n s).2
 |0,n,s,h,kn,hL,_,_,_,_,_,_,hw=>ka hL h 4 n kn hw
 |k+1,n,s,h,kn,hL,hd,up,hu,ha,hi,hdl,hw=>by
  unfold cJ;split
  ·exact ka hL h 4 n kn hw
  rename_i l ls e;have hl:l∈n.wt:=by rw[e];exact Aq
  have Gv:∀x∈ls,x∈n.wt:=fun x hx=>by rw[e];exact Az _ hx
  have JX:Up {n with wt:=ls}:=up.congr rfl rfl rfl rfl;have pZ:=hw l hl;obtain⟨g1,g2,g3⟩:=vJ (n:={n with wt:=ls}) hC h hL hd ⟨fun x hx=>kn.wt x (Gv x hx),kn.af,kn.hn⟩ hu hi JX.mo (fun x hx=>hw x (Gv x hx)) pZ (kn.wt l hl);obtain⟨u1,u2,u3,_⟩:=pO (s:=s) (l:=l) JX ha pZ;obtain⟨d1,d2⟩:=vC (s:=s) (l:=l) JX ha (by show n.i<5;omega) hdl pZ;have kh:=(ie {n with wt:=ls} s l).1.2;split
  ·exact⟨g1,g2,g3⟩
  ·rename_i hs;rcases d2 with⟨d2,d3⟩|⟨d2,_⟩
   ·obtain⟨L,e1,_,e3⟩:=d3.fl
    obtain⟨r1,r2,r3⟩:=nD hC Vg k _ _ g1 g2 (fun x hx=>by
     rw[e1]at hx;rcases Ah.1 hx with hx|hx
     ·exact hL x hx
     ·exact e3 x hx) (by rw[d3.pn,d3.pe];exact hd) u1 (u2.trans hu) d2 (u3.trans hi) d1 (fun x hx=>by rw[kh]at hx;exact hw x (Gv x hx))
    exact⟨r1,r2,g3.trans r3⟩
   ·exact absurd d2 hs
theorem vK(hC:∀nu nd q op,C nu nd q op→q<4∧op.Ok∧¬op.k=4){n:Nd}{s:Ws}(Vg:i<5)(h:KW C s)(kn:KN C s i n)(hL:∀l∈s.fl,j9 l)(hd:bN s.pn s.pe)(hN:NI i n):KW C (eB n s).2∧KN C (eB n s).2 i (eB n s).1∧dK s (eB n s).2:=by
 by_cases hu:n.up=false
 ·rw[jB hu];exact⟨h,kn,.refl s⟩
 have hu:n.up=true:=by simpa using hu
 cases ha:n.af with
 |none=>
  rw[jD hu ha];exact nD hC Vg _ n s h kn hL hd (hN.up hu) hu ha hN.i hN.ln hN.wt
 |some x=>
  rw[jC hu ha];have up:∀{s':Ws} (mo:Nat→Bt),KW C s'∧dK s s'→KW C s'∧KN C s' i {n with sy:=n.dl.length,af:=none,mo:=mo}∧dK s s':=fun {s'} mo g=>⟨g.1,KN.up (n:={n with sy:=n.dl.length,af:=none,mo:=mo}) g.2 hN.wt ⟨kn.wt,(fun _ _ e=>by cases e),kn.hn⟩,g.2⟩;have h3:∀(m:Nd) (q:Nat),KW C (oJ m s q)∧dK s (oJ m s q):=fun m q=>h.qV hL (by show ¬(3:Int)=0;decide) (by show ¬(3:Int)=1;decide) (by show ¬(3:Int)=7;decide);cases x with
  |serve l an=>
   obtain⟨c1,c2⟩:=kn.af l an ha;have hq:=(hC _ _ _ _ c1).1;exact up _ (h.answer (n:={n with sy:=n.dl.length,af:=none,mo:=ak n.mo l.q (bD (n.mo l.q) l.op).1}) hL hd (by omega) c1 (by show l.dst=(n.i:Int);rw[c2,hN.i]) an)
  |begin l B=>exact up _ (h3 _ _)
  |shut l B=>exact up _ (h.part hL _ _)
  |take l B=>
   refine up (ak n.mo l.q B) ?_;show KW C (if B.r=1 then _ else _)∧dK s (if B.r=1 then _ else _);split
   ·exact h.more hL (L:=[]) (M:=[_]) (Au _).symm rfl rfl rfl rfl (fun x hx=>by cases hx) fun y hy=>by
     rw[Ab.1 hy];exact .inl (by show(-1:Int)<0;decide)
   ·exact h3 _ _
  |fA q B=>exact up _ ⟨h,.refl s⟩
theorem vL{s:Ws}(hd:bN s.pn s.pe){q:Nat}(hq:q<4):ku s q (s.pn q) (s.pe q):=by
 have:=hd q hq;unfold kS at this;exact⟨Bq _,by omega,by omega,fun _=>rfl⟩
theorem vM{s:Ws}{l:Lt}:dK s (dI s l):=by
 unfold dI;split
 ·refine⟨fun q hq x y h=> ?_,fun _ g=>g⟩;show y≤bw s.pe l.q (s.pe l.q+1) q∧-1≤x∧(x<0→y=0)∧(y=bw s.pe l.q (s.pe l.q+1) q→x=bw s.pn l.q l.fr q);unfold ku at h;unfold bw;by_cases e:q=l.q
  ·subst e;rw[Ae rfl,Ae rfl];omega
  ·rw[Aa e,Aa e];exact h
 ·exact .refl s
theorem nF{ns:Nat→Nd}{s:Ws}(K:KI C (ns,s)){l:Lt}(hl:KL C s l)(ok:j9 l)(hd:bN s.pn s.pe)(hL:∀l∈s.fl,j9 l)(hw:∀i,i<5→∀l∈(ns i).wt,eY l):KI C (bH ns s l)∧dK s (bH ns s l).2:=by
 have tell:∀{s':Ws},dK s s'→s'.fl=s.fl→s'.sv=s.sv→s'.td=s.td→bN s'.pn s'.pe→l.q<4→KI C (ns,ko s' l)∧dK s (ko s' l):=fun {s'} u e1 e2 e3 hd' hq=>by
  have u2:dK s (ko s' l):=⟨fun q hq x y h=>u.h q hq x y h,fun y hy=>u.v y hy⟩;refine⟨⟨⟨fun x hx=> ?_,fun y hy=> ?_,fun t ht=> ?_⟩,fun i hi=>(K.n i hi).up u2 (hw i hi)⟩,u2⟩
  ·rcases Ah.1 hx with hx|hx
   ·rw[e1]at hx;exact(K.w.fl x hx).up u2 (oS (hL x hx))
   ·rw[Ab.1 hx];exact⟨fun g=>(by cases g),fun g=>(by cases g),fun _=>vL hd' hq⟩
  ·have hy:y∈s'.sv:=hy;rw[e2]at hy;exact K.w.sv y hy
  ·have ht:t∈s'.td:=ht;rw[e3]at ht;exact(K.w.td t ht).up u2
 unfold bH;split
 ·rename_i k1;have u:dK s {s with td:=s.td++[⟨l.nu,l.an,l.pn,l.pe⟩]}:=⟨fun _ _ _ _ g=>g,fun _ g=>g⟩;refine⟨⟨⟨fun x hx=>(K.w.fl x hx).up u (oS (hL x hx)),K.w.sv,fun t ht=> ?_⟩,fun i hi=>(K.n i hi).up u (hw i hi)⟩,u⟩;rcases Ah.1 ht with ht|ht
  ·exact(K.w.td t ht).up u
  ·rw[Ab.1 ht];exact(hl.2.1 k1).up u
 split
 ·rename_i k1 k5;have hq:l.q<4:=by
   rcases ok.ok.kd with g|g|g|g
   ·omega
   ·exact g.2.1
   ·omega
   ·exact g.1.q
  have hf:(dI s l).fl=s.fl∧(dI s l).sv=s.sv∧(dI s l).td=s.td:=by unfold dI;split<;>exact⟨rfl,rfl,rfl⟩
  exact tell vM hf.1 hf.2.1 hf.2.2 (vD (fun _=>hq) hd) hq
 split
 ·rename_i k1 k5 k6;have hq:l.q<4:=by
   rcases ok.ok.kd with g|g|g|g
   ·omega
   ·omega
   ·exact g.2
   ·exact g.1.q
  exact tell (.refl s) rfl rfl rfl hd hq
 ·rename_i k1 k5 k6;refine⟨⟨K.w,fun i hi=> ?_⟩,.refl s⟩;show KN C s i (ak ns l.dst.toNat _ i);by_cases e:i=l.dst.toNat
  ·rw[e,aj];have kn:KN C s l.dst.toNat (ns l.dst.toNat):=K.n _ (e▸hi);split
   ·refine⟨fun x hx=> ?_,kn.af,kn.hn⟩;rcases Ah.1 hx with hx|hx
    ·exact kn.wt x hx
    ·rw[Ab.1 hx];refine⟨hl,fun _=> ?_⟩;rcases ok.ok.kd with g|g|g|g
     ·omega
     ·omega
     ·omega
     ·omega
   ·exact kn
  ·rw[aI e];exact K.n i hi
theorem qW:∀(ls:List Lt) {p0:(Nat→Nd)×Ws} {m:Nat} (p:(Nat→Nd)×Ws),Cm p0 p m→(∀l∈ls,j9 l)→(∀l∈ls,KL C p.2 l)→KI C p→KI C (ls.foldl (fun p l=>bH p.1 p.2 l) p)
 |[],_,_,p,_,_,_,h=>h
 |l::ls,_,_,p,hc,hl,hk,h=>by
  rw[BZ];obtain⟨g1,g2⟩:=nF (ns:=p.1) (s:=p.2) h (hk l Aq) (hl l Aq) hc.dir hc.fl fun i hi=>(hc.n i hi).wt;exact qW ls _ (pP hc (hl l Aq)) (fun x hx=>hl x (Az _ hx)) (fun x hx=>(hk x (Az _ hx)).up g2 (oS (hl x (Az _ hx)))) g1
theorem nG(ns:Nat→Nd)(s:Ws)(l:Lt):(bH ns s l).2.cs=s.cs:=by
 have hf:(dI s l).cs=s.cs:=by unfold dI;split<;>rfl
 unfold bH;split
 ·rfl
 split
 ·exact hf
 split
 ·rfl
 ·rfl
theorem qX:∀(ls:List Lt) (p:(Nat→Nd)×Ws),(ls.foldl (fun p l=>bH p.1 p.2 l) p).2.cs=p.2.cs
 |[],_=>rfl
 |l::ls,p=>by rw[BZ,qX ls,nG]
theorem KI.put{ns:Nat→Nd}{s s':Ws}(K:KI C (ns,s))(j_:∀j,j<5→NI j (ns j)){n':Nd}(i:Nat)(g1:KW C s')(g2:KN C s' i n')(g3:dK s s'):KI C (ak ns i n',s'):=⟨g1,fun j hj=>by
 show KN C s' j (ak ns i n' j);by_cases e:j=i
 ·rw[e,aj];exact g2
 ·rw[aI e];exact(K.n j hj).up g3 (j_ j hj).wt⟩
theorem Di(hC:∀nu nd q op,C nu nd q op→q<4∧op.Ok∧¬op.k=4){k:Nat}{p:(Nat→Nd)×Ws}(h:Inv k p){f:tH}(ok:xO f)(mW:f 0=2→C p.2.cs (f 1) (f 2) ⟨f 5,f 6,f 7,f 8,f 9,f 10⟩)(K:KI C p):KI C (j8 p f)∧(j8 p f).2.cs=p.2.cs+(if f 0=2 then 1 else 0):=by
 obtain⟨ns,s⟩:=p;have hi:(f 1).toNat<5:=by have:=ok.n;omega
 have f1:(((f 1).toNat:Nat):Int)=f 1:=Bh ok.n.1;have f2:(((f 2).toNat:Nat):Int)=f 2:=Bh ok.q.1;rw[←f1,←f2]at mW;have hN:=h.n _ hi;have j_:=h.n;have iG:=h.fl;have gg:=h.dir;unfold j8;generalize(f 1).toNat=n,(f 2).toNat=q0,(f 3).toNat=j,f 4=kp,(⟨f 5,f 6,f 7,f 8,f 9,f 10⟩:Ev)=e,f 0=k at*;dsimp only at hN j_ iG gg mW⊢;have kn:KN C s n (ns n):=K.n n hi;unfold Qn;split
 ·rename_i k1;rw[Aa (by omega),Int.add_zero];unfold dO;split
  ·rename_i hc;have XL:=gg q0;refine⟨K.put j_ n (s':={s with pn:=bw s.pn q0 (ns n).i,pe:=bw s.pe q0 1}) ?_ ?_ ?_,rfl⟩
   all_goals have u:dK s {s with pn:=bw s.pn q0 (ns n).i,pe:=bw s.pe q0 1}:=⟨fun q hq x y h=>by
    show y≤bw s.pe q0 1 q∧-1≤x∧(x<0→y=0)∧(y=bw s.pe q0 1 q→x=bw s.pn q0 (ns n).i q);unfold ku at h;unfold bw;by_cases e:q=q0
    ·subst e;have hp:=hc.1.2;have:=gg q hq;unfold kS at this;rw[Ae rfl,Ae rfl];omega
    ·rw[Aa e,Aa e]
     exact h,fun _ g=>g⟩
   ·exact⟨fun x hx=>(K.w.fl x hx).up u (oS (iG x hx)),K.w.sv,fun t ht=>(K.w.td t ht).up u⟩
   ·exact KN.up (n:={ns n with dl:=(ns n).dl++cp [aU q0],sy:=(((ns n).dl.length+(cp [aU q0]).length:Nat):Int),mo:=ak (ns n).mo q0 ⟨1,1,0,0,0,[]⟩}) u hN.wt ⟨kn.wt,kn.af,kn.hn⟩
   ·exact u
  ·exact⟨K.put j_ n K.w kn (.refl s),rfl⟩
 split
 ·rename_i k1 k2;refine⟨⟨⟨fun x hx=> ?_,K.w.sv,K.w.td⟩,fun i hi=>KN.up (s:=s) ⟨fun _ _ _ _ g=>g,fun _ g=>g⟩ (j_ i hi).wt (K.n i hi)⟩,rfl⟩;rcases Ah.1 hx with hx|hx
  ·exact K.w.fl x hx
  ·rw[Ab.1 hx];exact⟨fun _=>mW k2,fun g=>(by cases g),fun g=>(by cases g)⟩
 rename_i k1 k2;rw[Int.add_zero];split
 ·obtain⟨g1,g2,g3⟩:=vK hC hi K.w kn iG gg hN;obtain⟨_,_,_,hs,_⟩:=yG (s:=s) hN hi;exact⟨K.put j_ n g1 g2 g3,hs.cs⟩
 split
 ·unfold jc;split
  ·exact⟨K,rfl⟩
  rename_i l hl;have hm:=Ar hl;have less:∀s':Ws,s'=(if k=6 then s else {s with fl:=s.fl.eraseIdx (j % s.fl.length)})→KI C (ns,s')∧dK s s'∧s'.cs=s.cs∧s'.pn=s.pn∧s'.pe=s.pe∧∀x∈s'.fl,x∈s.fl:=by
   rintro s' rfl;split
   ·exact⟨K,.refl s,rfl,rfl,rfl,fun _ g=>g⟩
   ·exact⟨⟨⟨fun x hx=>K.w.fl x (Bv hx),K.w.sv,K.w.td⟩,fun i hi=>KN.up (s:=s) ⟨fun _ _ _ _ g=>g,fun _ g=>g⟩ (j_ i hi).wt (K.n i hi)⟩,⟨fun _ _ _ _ g=>g,fun _ g=>g⟩,rfl,rfl,rfl,fun x g=>Bv g⟩
  obtain⟨l1,l2,l3,l4,l5,l6⟩:=less _ rfl;generalize(if k=6 then s else {s with fl:=s.fl.eraseIdx (j % s.fl.length)})=s' at l1 l2 l3 l4 l5 l6⊢;split
  ·exact⟨l1,l3⟩
  ·exact⟨(nF l1 ((K.w.fl l hm).up l2 (oS (iG l hm))) (iG l hm) (by rw[l4,l5];exact gg) (fun x hx=>iG x (l6 x hx)) fun i hi=>(j_ i hi).wt).1,(nG _ _ _).trans l3⟩
 split
 ·exact⟨qW s.fl (p0:=(ns,{s with fl:=[]})) (m:=0) (ns,{s with fl:=[]}) ⟨h.n,(fun l hl=>by cases hl),gg,Ac _,rfl,Ac _,rfl⟩ iG (fun l hl=>K.w.fl l hl) ⟨⟨(fun l hl=>by cases hl),K.w.sv,K.w.td⟩,fun i hi=>KN.up (s:=s) ⟨fun _ _ _ _ g=>g,fun _ g=>g⟩ (j_ i hi).wt (K.n i hi)⟩,qX _ _⟩
 split
 ·unfold jZ;split
  ·exact⟨K.put j_ n K.w ⟨(fun l hl=>by cases hl),(fun _ _ e=>by cases e),(fun g=>by cases g)⟩ (.refl s),rfl⟩
  ·exact⟨K.put j_ n K.w kn (.refl s),rfl⟩
 split
 ·have idle:KI C (ak ns n (ns n),s)∧s.cs=s.cs:=⟨K.put j_ n K.w kn (.refl s),rfl⟩;unfold cQ;split
  ·exact idle
  split
  ·rename_i hx;unfold iL;split
   ·have hm:=K.w.more iG (s':={s with sv:=s.sv++fD (ns n).i hx.choose.1 hx.choose.2.2.2.1++(a7 hx.choose.1 4).map fun r=>⟨(ns n).i,r.q,(aZ (hx.choose.1 r.q.toNat)).1.e,r.v,CA,-1⟩}) (L:=[]) (M:=fD (ns n).i hx.choose.1 hx.choose.2.2.2.1++(a7 hx.choose.1 4).map fun r=>⟨(ns n).i,r.q,(aZ (hx.choose.1 r.q.toNat)).1.e,r.v,CA,-1⟩) (Au _).symm (AA _ _ _) rfl rfl rfl (fun x hx=>by cases hx) fun y hy=>by
     left;rcases Ah.1 hy with hy|hy
     ·obtain⟨r,_,rfl⟩:=Ay.1 hy;show(-1:Int)<0;decide
     ·obtain⟨r,_,rfl⟩:=Ay.1 hy;show(-1:Int)<0;decide
    refine⟨K.put j_ n hm.1 ⟨(fun l hl=>by cases hl),(fun _ _ e=>by cases e),fun _ q hq=> ?_⟩ hm.2,rfl⟩;have:=hm.2.h q hq _ _ (iq gg hq);show ku _ q (dX 4 q) 0;unfold dX;rw[Ae hq];exact this
   ·exact⟨K.put j_ n K.w ⟨kn.wt,kn.af,fun g=>kn.hn g⟩ (.refl s),rfl⟩
  ·exact idle
 ·have hm:∀n':Nd,n'=jX (ns (s.pn q0).toNat) s q0 n→n'.wt=(ns (s.pn q0).toNat).wt∧n'.af=(ns (s.pn q0).toNat).af∧n'.hn=(ns (s.pn q0).toNat).hn∧n'.he=(ns (s.pn q0).toNat).he∧n'.up=(ns (s.pn q0).toNat).up:=by
   rintro n' rfl;unfold jX;split<;>exact⟨rfl,rfl,rfl,rfl,rfl⟩
  obtain⟨m1,m2,m3,m4,m5⟩:=hm _ rfl;refine⟨⟨K.w,fun j hj=> ?_⟩,rfl⟩;show KN C s j (ak ns (s.pn q0).toNat _ j);by_cases e:j=(s.pn q0).toNat
  ·rw[e,aj];have kj:KN C s (s.pn q0).toNat (ns (s.pn q0).toNat):=K.n _ (e▸hj);exact⟨by rw[m1];exact kj.wt,by rw[m2];exact kj.af,by rw[m3,m4,m5];exact kj.hn⟩
  ·rw[aI e];exact K.n j hj
def sJ(D:tG)(N:Nat)(nu nd q:Int)(op:Ev):Prop:=∃j,j<N∧Lq.av D j 0=2∧(bO (fun k=>decide (k=2)) D j:Int)=nu∧Lq.av D j 1=nd∧Lq.av D j 2=q∧op=⟨Lq.av D j 5,Lq.av D j 6,Lq.av D j 7,Lq.av D j 8,Lq.av D j 9,Lq.av D j 10⟩
theorem qY(D:tG)(N:Nat)(hN:N≤100000)(ok:∀j,j<N→Lq.fQ (Lq.av D j)=0):∀k,k≤N→KI (sJ D N) (gk D k)∧(gk D k).2.cs=(bO (fun k=>decide (k=2)) D k:Int)
 |0,_=>⟨⟨⟨(fun l hl=>by cases hl),(fun y hy=>by cases hy),(fun t ht=>by cases ht)⟩,fun i hi=>⟨(fun l hl=>by cases hl),(fun _ _ e=>by cases e),fun _ q hq=>by
  have:=iq (s:=Q1) QC.dir hq;show ku Q1 q (dX 4 q) 0;unfold dX;rw[Ae hq]
  exact this⟩⟩,rfl⟩
 |k+1,hk=>by
  obtain⟨h1,h2⟩:=qY D N hN ok k (by omega);have hC:∀nu nd q op,sJ D N nu nd q op→q<4∧op.Ok∧¬op.k=4:=fun nu nd q op ⟨j,j1,j2,_,_,j5,j6⟩=>by
   have o:=lT (ok j j1);obtain⟨e1,e2⟩:=o.e j2;refine⟨by have:=o.q;omega,by rw[j6];exact e1, ?_⟩;rw[j6];show ¬Lq.av D j 5=4;omega
  obtain⟨g1,g2⟩:=Di hC (gY D N hN ok k (by omega)) (f:=Lq.av D k) (lT (ok k (by omega))) (fun e=>⟨k,by omega,e,h2.symm,rfl,rfl,rfl⟩) h1;refine⟨g1,g2.trans ?_⟩;rw[h2,bO];by_cases e:Lq.av D k 0=2
  ·rw[Ae e,Ae (As e)];rfl
  ·rw[Aa e,Aa (by rw[Ak e];decide)];exact Int.add_zero _
end
section
open Rv
theorem Dj{D:tG}{k:Nat}(h:11*(k+1)≤D.length):dD [.f 11 fun j=>iV (Lq.av D k j)]=(c_ D k).map (Value.int .i64):=by
 refine BH fun j=> ?_;by_cases hj:j<11
 ·refine(bW (fun j=>iV (Lq.av D k j)) 0 11 j hj).trans ?_;rw[Aj,cK _ _ j hj,Ax];have hl:=fE h;show _=((c_ D k)[j]?).map _;rw[Ai (by omega)];show some (iV ((c_ D k).getD j 0))=_;rw[Aw,Ai (by omega)];rfl
 ·rw[Be,Be]
  ·rw[AW,fE h];omega
  ·show 11≤j;omega
theorem kb{P:Int→Bool}{D:tG}{k:Nat}(h:P (Lq.av D k 0)=true):db P D (k+1)=db P D k++c_ D k∧bO P D (k+1)=bO P D k+1:=⟨Ae h,Ae h⟩
theorem qZ{P:Int→Bool}{D:tG}{k:Nat}(h:¬P (Lq.av D k 0)=true):db P D (k+1)=db P D k∧bO P D (k+1)=bO P D k:=⟨Aa h,Aa h⟩
theorem q7(a:tB)(len cap:Nat)(D:tG)(w:tA)(h:RowK .i64 w a (11*len) D)(h0:0<len)(hl:len≤50000)(rr:Nat)(hr:rr≤5000):cA 20 #[.slice a len cap,iV (rr:Int)] w fun x w'=>∃v,x= .returned v∧w'.ownsRow w.heap.size 63 11 v (len+5+6*rr) ((bT D rr).map (Value.int .i64))∧bZ w w':=by
 obtain⟨b,o,rfl⟩:=h.form (by omega);have hD:=h.bP;refine en (H:=[]) _ [vv (.slice (some ⟨b,o,none⟩) len cap),vi (rr:Int)] Tryz.func20 rfl rfl (m0 w) (r [] rfl fun _=>jt (fun w2 hS=>hS.xR w.heap.size 63 11) ?_);refine Vf (m:=len) (b:=b) (o:=o) (hD.trans (Bn _ _)) h0 rfl cZ (fun w hS=>by rw[Bn];exact h.below hS.now.2.1) (fun w hS=>hS.now.2.1.size) (fun _ _ h c=>cB h c (Ac _)) fun g2 c2 jM=> ?_;refine r [] rfl fun _=>uD (X:=Nat×Nat×Nat×Nat) (fun x=>[(1,vi (rr:Int)),(5,vv (.slice (some ⟨x.2.2.1,0,none⟩) x.2.1 x.2.2.2)),(6,vi (x.1:Int))]) (fun _=>[]) (fun x b'=>(Value.slice (some ⟨x.2.2.1,0,none⟩) x.2.1 x.2.2.2).ownBlock=some b'∨False) (fun x w'=>qT w w' x.2.2.1 x.2.1 x.2.2.2 (D++cP x.1)) (fun x=>x.1≤5∧x.2.1=len+x.1) (fun x=>5-x.1) (0,0+len,g2,c2) ⟨rfl,rfl,rfl,trivial⟩ (fun w hS=>hS.sr fun w h=>⟨h.1,by show World.ownsRow w _ _ _ _ _ ((D++[]).map _);rw[Au];exact h.2⟩) ⟨Al _,Nat.add_comm _ _⟩ ?_;rintro f ⟨k,L,g,c⟩ ⟨hk,hL⟩;have hk:k≤5:=hk;have hL:L=len+k:=hL;by_cases aN:k<5
 ·refine r [1] rfl fun α=>nJ 0 rfl cZ (fun w hS=>hS.now.2.1.size) (fun _ _ h c=>cB h c (Ac _)) fun g3 c3 hc3=> ?_;exact rz [1] [((k+1:Nat):Int)] rfl fun _=>bJ (k+1,L+1,g3,c3) ⟨rfl,rfl,rfl,trivial⟩ (fun w hS=>(hS.take 0).sr fun w h=>⟨h.1,by show World.ownsRow w _ _ _ _ _ ((D++cP (k+1)).map _);rw[cP,←AA,AE];exact h.2⟩) ⟨aN,by show L+1=len+(k+1);omega⟩ (show 5-(k+1)<5-k by omega)
 obtain rfl:k=5:=by omega
 refine r [0] rfl fun _=>uD (X:=Nat×Nat×Nat×Nat) (fun x=>[(1,vi (rr:Int)),(5,vv (.slice (some ⟨x.2.2.1,0,none⟩) x.2.1 x.2.2.2)),(7,vi (x.1:Int))]) (fun _=>[]) (fun x b'=>(Value.slice (some ⟨x.2.2.1,0,none⟩) x.2.1 x.2.2.2).ownBlock=some b'∨False) (fun x w'=>qT w w' x.2.2.1 x.2.1 x.2.2.2 (bT D x.1)) (fun x=>x.1≤rr∧x.2.1=len+5+6*x.1) (fun x=>rr-x.1) (0,L,g,c) ⟨rfl,rfl,rfl,trivial⟩ (fun w hS=>hS) ⟨Al _,hL⟩ ?_;clear aN hL hk;rintro f2 ⟨k,L,g,c⟩ ⟨hk,hL⟩;have hk:k≤rr:=hk;have hL:L=len+5+6*k:=hL;by_cases aN:k<rr
 case neg=>
  obtain rfl:k=rr:=by omega
  exact r [0] rfl fun _=>fin fun w hS=>⟨_,rfl,by rw[←hL];exact hS.now.2.2,hS.now.2.1⟩
 refine r [1] rfl fun _=>uD (X:=Nat×Nat×Nat×Nat) (fun x=>[(1,vi (rr:Int)),(5,vv (.slice (some ⟨x.2.2.1,0,none⟩) x.2.1 x.2.2.2)),(7,vi (k:Int)),(8,vi (x.1:Int))]) (fun _=>[]) (fun x b'=>(Value.slice (some ⟨x.2.2.1,0,none⟩) x.2.1 x.2.2.2).ownBlock=some b'∨False) (fun x w'=>qT w w' x.2.2.1 x.2.1 x.2.2.2 (bT D k++dm x.1)) (fun x=>x.1≤5∧x.2.1=L+x.1) (fun x=>5-x.1) (0,L,g,c) ⟨rfl,rfl,rfl,rfl,trivial⟩ (fun w hS=>hS.sr fun w h=>⟨h.1,by show World.ownsRow w _ _ _ _ _ ((bT D k++[]).map _);rw[Au];exact h.2⟩) ⟨Al _,rfl⟩ ?_;rintro f3 ⟨j,M,g4,c4⟩ ⟨hj,hM⟩;have hj:j≤5:=hj;have hM:M=L+j:=hM;by_cases Ly:j<5
 ·refine r [1] rfl fun α=>nJ 0 rfl cZ (fun w hS=>hS.now.2.1.size) (fun _ _ h c=>cB h c (Ac _)) fun g3 c3 hc3=> ?_;exact rz [1] [((j+1:Nat):Int)] rfl fun _=>bJ (j+1,M+1,g3,c3) ⟨rfl,rfl,rfl,rfl,trivial⟩ (fun w hS=>(hS.take 0).sr fun w h=>⟨h.1,by show World.ownsRow w _ _ _ _ _ ((bT D k++dm (j+1)).map _);rw[dm,←AA,AE];exact h.2⟩) ⟨Ly,by show M+1=L+(j+1);omega⟩ (show 5-(j+1)<5-j by omega)
 obtain rfl:j=5:=by omega
 refine r [0] rfl fun α=>nJ 0 rfl cZ (fun w hS=>hS.now.2.1.size) (fun _ _ h c=>cB h c (Ac _)) fun g3 c3 hc3=> ?_;exact rz [1] [((k+1:Nat):Int)] rfl fun _=>bJ (k+1,M+1,g3,c3) ⟨rfl,rfl,rfl,trivial⟩ (fun w hS=>(hS.take 0).sr fun w h=>⟨h.1,by show World.ownsRow w _ _ _ _ _ ((bT D k++dm 5++[7,0,0,0,0,0,0,0,0,0,0]).map _);rw[AE];exact h.2⟩) ⟨aN,by show M+1=len+5+6*(k+1);omega⟩ (show rr-(k+1)<rr-k by omega)
abbrev bI(k:Int):Bool:=decide (k=2)
theorem q_{P:Int→Bool}{D:tG}{n:Nat}(hl:11*n≤D.length){j:Nat}(hp:P (Lq.av D j 0)=true):∀k,k≤n→j<k→c_ (db P D k) (bO P D j)=c_ D j∧bO P D j<bO P D k
 |0,_,h=>absurd h (AF _)
 |k+1,hk,hj=>by
  have hlen:=(lh (P:=P) hl k (by omega)).len;by_cases e:j=k
  ·subst e;obtain⟨e1,e2⟩:=kb hp;rw[e1,e2];have:=eW (E:=c_ D j) (j:=0) hlen;rw[Cn]at this;exact⟨this.trans (na (fE (by omega))),by omega⟩
  ·obtain⟨h1,h2⟩:=q_ hl hp k (by omega) (by omega);by_cases hp2:P (Lq.av D k 0)=true
   ·obtain⟨e1,e2⟩:=kb hp2;rw[e1,e2];exact⟨(fL (by omega)).trans h1,by omega⟩
   ·obtain⟨e1,e2⟩:=qZ hp2;rw[e1,e2];exact⟨h1,h2⟩
theorem jo{P:Int→Bool}{D D':tG}:∀k,(∀i,i<k→Lq.av D' i 0=Lq.av D i 0)→bO P D' k=bO P D k
 |0,_=>rfl
 |k+1,h=>by rw[bO,bO,h k (by omega),jo k fun i hi=>h i (by omega)]
theorem oU{P:Int→Bool}{D:tG}{m:Nat}:∀k,(∀i,m≤i→i<m+k→¬P (Lq.av D i 0)=true)→bO P D (m+k)=bO P D m
 |0,_=>rfl
 |k+1,h=>by
  rw[←BF,bO,Aa (h (m+k) (by omega) (by omega)),oU k fun i h1 h2=>h i h1 (by omega)]
theorem rT{D:tG}{n:Nat}(hl:D.length=11*n)(r:Nat):(∀j,j<n→c_ (bT D r) j=c_ D j)∧(∀j,n≤j→j<n+5+6*r→¬Lq.av (bT D r) j 0=2)∧bO bI (bT D r) (n+5+6*r)=bO bI D n:=by
 have h1:dL (fun j l=>(j<n→l=c_ D j)∧(n≤j→xg l)) (bT D r) (n+5+6*r):=dL.fair (Q:=fun j l=>(j<n→l=c_ D j)∧(n≤j→xg l)) ⟨hl,fun j hj=>⟨fun _=>rfl,fun g=>by omega⟩⟩ (fun j l hj hf=>⟨fun g=>by omega,fun _=>hf⟩) r;have h2:∀j,n≤j→j<n+5+6*r→¬Lq.av (bT D r) j 0=2:=fun j g1 g2=>by
  rw[cK _ _ 0 (by decide)];rcases(h1.act j g2).2 g1 with⟨i,_,e⟩|⟨i,_,e⟩|e
  ·rw[e];show ¬(9:Int)=2;decide
  ·rw[e];show ¬(3:Int)=2;decide
  ·rw[e];show ¬(7:Int)=2;decide
 have h3:∀j,j<n→c_ (bT D r) j=c_ D j:=fun j hj=>(h1.act j (by omega)).1 hj;refine⟨h3,h2, ?_⟩;rw[BF,oU (5+6*r) fun i g1 g2 g3=>h2 i g1 (by omega) (Bi g3)];exact jo n fun i hi=>by rw[cK _ _ 0 (by decide),cK _ _ 0 (by decide),h3 i hi]
theorem GY{D:tG}{n:Nat}(hl:D.length=11*n){r:Nat}{nu nd q:Int}{op:Ev}(h:sJ (bT D r) (n+5+6*r) nu nd q op):∃m:Nat,nu=m∧m<bO bI D n∧nd=Lq.av (db bI D n) m 1∧q=Lq.av (db bI D n) m 2∧op=⟨Lq.av (db bI D n) m 5,Lq.av (db bI D n) m 6,Lq.av (db bI D n) m 7,Lq.av (db bI D n) m 8,Lq.av (db bI D n) m 9,Lq.av (db bI D n) m 10⟩:=by
 obtain⟨h1,h2,_⟩:=rT hl r;obtain⟨j,j1,j2,j3,j4,j5,j6⟩:=h;have jn:j<n:=by
  by_cases g:j<n
  ·exact g
  ·exact absurd j2 (h2 j (by omega) j1)
 have e:∀o,o<11→Lq.av (bT D r) j o=Lq.av D j o:=fun o ho=>by rw[cK _ _ o ho,cK _ _ o ho,h1 j jn]
 rw[e 0 (by decide)]at j2;obtain⟨k1,k2⟩:=q_ (P:=bI) (D:=D) (n:=n) (by omega) (j:=j) (As j2) n (Ac _) jn;have e2:∀o,o<11→Lq.av (bT D r) j o=Lq.av (db bI D n) (bO bI D j) o:=fun o ho=>by rw[e o ho,cK _ _ o ho,cK _ _ o ho,k1]
 refine⟨bO bI D j, ?_,k2, ?_, ?_, ?_⟩
 ·rw[←j3];exact AB _ (jo j fun i hi=>by rw[cK _ _ 0 (by decide),cK _ _ 0 (by decide),h1 i (by omega)])
 ·rw[←e2 1 (by decide)];exact j4.symm
 ·rw[←e2 2 (by decide)];exact j5.symm
 ·rw[←e2 5 (by decide),←e2 6 (by decide),←e2 7 (by decide),←e2 8 (by decide),←e2 9 (by decide),←e2 10 (by decide)];exact j6
theorem lx(b o len cap:Nat)(D:tG)(w:tA)(h:RowK .i64 w (some ⟨b,o,none⟩) (11*len) D)(hl:len≤50000):cA 21 #[.slice (some ⟨b,o,none⟩) len cap] w fun x w'=>∃v,x= .returned v∧w'.ownsRow w.heap.size 63 11 v (bO bI D len) ((db bI D len).map (Value.int .i64))∧bZ w w':=by
 have hD:=h.bP;refine en (H:=[]) _ [vv (.slice (some ⟨b,o,none⟩) len cap)] Tryz.func21 rfl rfl (m0 w) (r [] rfl fun _=>jt (fun w2 hS=>hS.xR w.heap.size 63 11) ?_);refine uD (X:=Nat×Value) (fun x=>[(0,vv (.slice (some ⟨b,o,none⟩) len cap)),(3,vv x.2),(4,vi (x.1:Int))]) (fun _=>[]) (fun x b'=>x.2.ownBlock=some b'∨False) (fun x w'=>bZ w w'∧w'.ownsRow w.heap.size 63 11 x.2 (bO bI D x.1) ((db bI D x.1).map (Value.int .i64))) (fun x=>x.1≤len) (fun x=>len-x.1) (0,.slice none 0 0) ⟨rfl,rfl,rfl,trivial⟩ (fun _ hS=>hS) (Al _) ?_;rintro f ⟨k,v⟩ hk;have hk:k≤len:=hk;by_cases aN:k<len
 case neg=>
  obtain rfl:k=len:=by omega
  exact r [0] rfl fun _=>fin fun w hS=>⟨v,rfl,hS.now.2.2,hS.now.2.1⟩
 have h9:len-(k+1)<len-k:=by omega
 have cR:=gZ (P:=bI) (D:=D) k;obtain⟨K,iC⟩:∃K,Lq.av D k 0=K:=⟨_,rfl⟩;refine r [1] rfl fun _=>Rv.l1 (q:=o+k*11+0) rfl (iV K) (fun w hS=>by rw[←iC];exact ju (k:=k) (m:=11) (g:=fun j=>iV (Lq.av D k j)) (h.below hS.now.2.1) (by omega) (fun j _=>rfl) 0 (by omega)) ?_;by_cases k2:K=2
 case neg=>
  obtain⟨e1,e2⟩:=qZ (P:=bI) (D:=D) (k:=k) (by rw[iC];simp[k2]);exact rz [0,1] [((k+1:Nat):Int)] rfl fun _=>bJ (k+1,v) ⟨rfl,rfl,rfl,trivial⟩ (fun w hS=>hS.sr fun w h=>⟨h.1,by rw[e1,e2];exact h.2⟩) aN h9
 obtain⟨e1,e2⟩:=kb (P:=bI) (D:=D) (k:=k) (by rw[iC];simp[k2]);refine r [1] rfl fun _=>lf (q:=o+k*11) rfl 11 (fun j=>iV (Lq.av D k j)) (fun w hS=>ju (k:=k) (m:=11) (g:=fun j=>iV (Lq.av D k j)) (h.below hS.now.2.1) (by omega) (fun j _=>rfl)) ?_;refine r [] rfl fun α=>nJ 0 rfl cZ (fun w hS=>hS.now.2.1.size) (fun _ _ h c=>cB h c (Ac _)) fun g2 c2 jM=> ?_;exact rz [1] [((k+1:Nat):Int)] rfl fun _=>bJ (k+1,.slice (some ⟨g2,0,none⟩) (bO bI D k+1) c2) ⟨rfl,rfl,rfl,trivial⟩ (fun w hS=>(hS.take 0).sr fun w h=>⟨h.1,by rw[e1,e2,AE,←Dj (by omega)];exact h.2⟩) aN h9
theorem D8(a b c d e f:Int)(w:tA):(Op.equalIn 10000 56 (.agg #[iV a,iV b,iV c,iV d,iV e,iV f]) (.agg #[iV a,iV b,iV c,iV d,iV e,iV f])).run Tryz.prog w= .ok true w:=by
 rw[run_equalIn_agg (P:=Tryz.prog) w 9999 56 _ _ Tryz.underlying56 (by kernel_rfl)];simp[go_sem]
theorem rh{D:tG}{n:Nat}(hl:D.length=11*n)(h:∀j,j<n→Lq.fQ (Lq.av D j)=0)(r:Nat):∀j,j<n+5+6*r→Lq.fQ (Lq.av (bT D r) j)=0:=fun j hj=>(dL.fair (Q:=fun _ l=>Lq.fQ (lA l)=0) ⟨hl,fun j hj=>by have:=h j hj;rw[jF (cK _ _)]at this;exact this⟩ (fun _ _ _ g=>g.fQ) r).fQ (fun _ _ g=>g) j hj
theorem D_(w:tA)(hK:Lq.gl w)(a:tB)(len cap:Nat)(GD:tG)(h:RowK .i64 w a (5*len) GD)(rY:len≤cap)(qe:a=none→cap=0)(hs:cap*40≤140737488351232):cA 5 #[.slice a len cap] w (rB (.bool true) w):=by
 obtain⟨n,hn⟩:∃n,n=min len 120:=⟨_,rfl⟩;obtain⟨D,hDe⟩:∃D,mm GD true n=D:=⟨_,rfl⟩;have hD:D.length=11*(n+2):=hDe▸qO _ _ _;have fw:∀j,j<n+2→Lq.fQ (Lq.av D j)=0:=hDe▸fun j hj=>rS GD true n j hj;have uk:∀u∈D,0≤u∧u≤1000000:=hDe▸wY GD true n;obtain⟨M,hM⟩:∃M,M=n+2+5+6*40:=⟨_,rfl⟩;obtain⟨D2,hD2⟩:∃D2,D2=bT D 40:=⟨_,rfl⟩;have k1:∀j,j<M→Lq.fQ (Lq.av D2 j)=0:=by rw[hD2,hM];exact rh hD fw 40
 have s1:∀u∈D2,0≤u∧u≤1000000:=hD2▸nC uk 40;obtain⟨m,hm⟩:∃m,bO bI D (n+2)=m:=⟨_,rfl⟩;obtain⟨F,hF⟩:∃F,db bI D (n+2)=F:=⟨_,rfl⟩;have rX:m≤n+2:=hm▸gZ _;have sF:∀u∈F,0≤u∧u≤1000000:=fun u hu=>uk u (im (P:=bI) (n+2) u (hF.symm▸hu));obtain⟨O,hO⟩:∃O,kZ D2 M=O:=⟨_,rfl⟩;have DA:=qY D2 M (by omega) k1 M (Ac _);have e1:∀y∈O.sv,y.nu<0∨∃j:Nat,y.nu=j∧j<m∧y.nd=Lq.av F j 1∧y.q=Lq.av F j 2∧y.op=⟨Lq.av F j 5,Lq.av F j 6,Lq.av F j 7,Lq.av F j 8,Lq.av F j 9,Lq.av F j 10⟩:=fun y hy=>by
  rw[←hO]at hy;refine(DA.1.w.sv y hy).imp id fun g=> ?_;rw[hD2,hM]at g;rw[←hF,←hm];exact GY hD g
 have e2:O.cs=(m:Int):=by
  rw[←hO,←hm,←(rT hD 40).2.2,←hD2,←hM];exact DA.2
 have e3:O.sv.length≤100000000000:=by rw[←hO];exact((gY D2 M (by omega) k1 _ (Ac _)).gd (by omega)).g.ls
 have JZ:∀{w:tA} {v:tK} {k:Nat},w.ownsRow k 63 11 v (n+2+5+6*40) ((bT D 40).map (Value.int .i64))→w.ownsRow k 63 11 v M (D2.map (Value.int .i64)):=fun h=>by rw[hM,hD2];exact h
 have hMl:0<M∧M≤50000:=by omega
 clear hD2 hM DA;refine en (H:=[]) _ [vv (.slice a len cap)] Tryz.func5 rfl rfl (m0 w) (r [] rfl fun _=> ?_);refine cx rfl (fun y:Option Addr×Nat=>vv (.slice y.1 (n+2) y.2)) (fun y=>n+2≤y.2∧∃b o,y.1=some ⟨b,o,none⟩) (fun y w=>RowK .i64 w y.1 (11*(n+2)) D) (fun w1 hS=>(m_ a len cap 120 true GD w1 (h.below hS.now.2) (by omega) (by omega)).mono fun _ w2 ⟨v1,e,o1,b⟩=> ?_) ?_
 ·rw[←hn,hDe]at o1;obtain⟨a1,c1,rfl,r1,hc,_,_,pt⟩:=RowK.eK o1 fun u hu=>qP (uk u hu);obtain⟨b1,q1,rfl⟩:=r1.form (by omega);exact⟨(some ⟨b1,q1,none⟩,c1),e,b,⟨hc,_,_,rfl⟩,fun hl=>bM r1 pt hl⟩
 rintro⟨_,c1⟩ ⟨my,b,o,rfl⟩;refine r [] rfl fun _=>cx rfl (fun y:Option Addr×Nat=>vv (.slice y.1 M y.2)) (fun y=>M≤y.2∧∃b o,y.1=some ⟨b,o,none⟩) (fun y w=>RowK .i64 w y.1 (11*M) D2) (fun w1 hS=>(q7 _ (n+2) c1 D w1 hS.now.1.2 (by omega) (by omega) 40 (by decide)).mono fun _ w2 ⟨v1,e,o1,b⟩=> ?_) ?_
 ·obtain⟨a1,c1,rfl,r1,hc,_,_,pt⟩:=RowK.eK (JZ o1) fun u hu=>qP (s1 u hu);obtain⟨b1,q1,rfl⟩:=r1.form (by omega);exact⟨(some ⟨b1,q1,none⟩,c1),e,b,⟨hc,_,_,rfl⟩,fun hl=>bM r1 pt hl⟩
 rintro⟨_,c9⟩ ⟨hc9,b9,o9,rfl⟩;refine r [] rfl fun _=>cx rfl (fun t:j7=>vt [.g [.f 18 (mZ O t)],.o (.bool true)]) (fun _=>True) (fun t w=>lO w O t) (fun w1 hS=>hO▸(yH _ M c9 D2 w1 (hK.next hS.now.2) hS.now.1.2 (by omega) k1).mono fun _ w2 ⟨t,e,ho,b⟩=>⟨t,e,b,trivial,fun hl=>ho.mono fun b _ hu=>hl b hu⟩) fun t _=> ?_;have og:aW (mZ O t) 18:=ny;refine r [] rfl fun β=>cx rfl (fun y:Option Addr×Nat=>vv (.slice y.1 m y.2)) (fun y=>m≤y.2) (fun y w=>RowK .i64 w y.1 (11*m) F) (fun w1 hS=>(lx b o (n+2) c1 D w1 hS.now.1.1.1.2 (by omega)).mono fun _ w2 ⟨v1,e,o1,b⟩=> ?_) ?_
 ·rw[hm,hF]at o1;obtain⟨a1,c1,rfl,r1,hc,_,_,pt⟩:=RowK.eK o1 fun u hu=>qP (sF u hu);exact⟨(a1,c1),e,b,hc,fun hl=>bM r1 pt hl⟩
 rintro⟨ca,cc⟩ QP;refine r [] rfl fun _=>uD (X:=Nat) (fun k=>[(4,vp 0 0 (β 0)),(5,vv (.bool true)),(6,vv (.slice ca m cc)),(7,vi (k:Int))]) (fun _=>[⟨β 0,40,[.f 18 (mZ O t)]⟩]) (fun _ _=>False) (fun _ w'=>bZ w w') (fun k=>k≤O.sv.length) (fun k=>O.sv.length-k) 0 ⟨rfl,rfl,rfl,rfl,trivial⟩ (fun _ hS=>hS) (Al _) ?_;rintro f2 k hk;have hk:k≤O.sv.length:=hk;by_cases aN:k<O.sv.length
 case neg=>
  obtain rfl:k=O.sv.length:=by omega
  exact r [0,1] rfl fun _=>fin fun w hS=>⟨rfl,hS.now.2⟩
 have h9:O.sv.length-(k+1)<O.sv.length-k:=by omega
 obtain⟨y,hy⟩:∃y,O.sv[k]? =some y:=⟨_,Ai aN⟩;have ey:=e1 y (Ar hy);obtain⟨ynd,yq,yep,yop,yan,ynu⟩:=y;refine VP fun w9 hS=> ?_;obtain⟨ga,ea,_⟩:=hS.now.1.1.2.s k _ hy;clear hS;refine gp 0 rfl [.f 15 (mZ O t),.o (.slice (some ⟨ga,0,none⟩) O.sv.length t.sc),.f 2 (fun i=>mZ O t (i+16))] rfl (by rw[←ea];rfl) ?_;have oy:aW (lF (Jj ⟨ynd,yq,yep,yop,yan,ynu⟩)) 14:=fun i hi=>by
  match i,hi with
  |0,_|1,_|2,_|3,_|4,_|5,_|6,_|7,_|8,_|9,_|10,_|11,_|12,_|13,_=>rfl
 refine r [1] rfl fun _=>lf (q:=0+k*14) rfl 14 (lF (Jj ⟨ynd,yq,yep,yop,yan,ynu⟩)) (fun w hS j hj=> ?_) ?_
 ·obtain⟨g,e,hc⟩:=hS.now.1.1.2.s k _ hy;rw[ea]at e;cases e;rw[Aj];exact hc j hj
 refine gp 0 rfl [.f 18 (mZ O t)] rfl (by rw[←ea];rfl) ?_;by_cases h0:ynu<0
 ·exact rz [1,1] [((k+1:Nat):Int)] rfl fun _=>bJ (k+1) ⟨rfl,rfl,rfl,rfl,trivial⟩ (fun _ hS=>hS.take 1) aN h9
 obtain⟨j,j1,j2,j3,j4,j5⟩:=ey.resolve_left h0;have j1:ynu=j:=j1;have n3:ynd=Lq.av F j 1:=j3;have n4:yq=Lq.av F j 2:=j4;have j5:yop=⟨Lq.av F j 5,Lq.av F j 6,Lq.av F j 7,Lq.av F j 8,Lq.av F j 9,Lq.av F j 10⟩:=j5;subst j1;subst j5;refine VP fun w9 hS=> ?_;obtain⟨cb,co,rfl⟩:=hS.now.1.2.form (by omega);clear hS;have la:∀(w:tA) (i:Nat),i<11→RowK .i64 w (some ⟨cb,co,none⟩) (11*m) F→w.cell? ⟨cb,co+j*11+i,none⟩=some (iV (Lq.av F j i)):=fun w i hi hw=>ju (k:=j) (m:=11) (g:=fun i=>iV (Lq.av F j i)) hw (by omega) (fun _ _=>rfl) i hi;refine r [0,1,0] rfl fun _=>lf (q:=co+j*11+5) rfl 6 (fun i=>iV (Lq.av F j (5+i))) (fun w hS i hi=>by rw[BF (co+j*11)];exact la w (5+i) (by omega) hS.now.1.2) ?_;refine r [] rfl fun _=>eqs (b:=false) rfl (fun w=>D8 _ _ _ _ _ _ w) rfl ?_;refine r [] rfl fun _=>Rv.l1 (q:=co+j*11+1) rfl (iV ynd) (fun w hS=>by rw[n3];exact la w 1 (by decide) hS.now.1.2) ?_;refine r [0] rfl fun _=>Rv.l1 (q:=co+j*11+2) rfl (iV yq) (fun w hS=>by rw[n4];exact la w 2 (by decide) hS.now.1.2) ?_;exact rz [0,1] [((k+1:Nat):Int)] rfl fun _=>bJ (k+1) ⟨rfl,rfl,rfl,rfl,trivial⟩ (fun _ hS=>hS.take 1) aN h9
end
end Go.Proofs.YtpgkjpomaffbmaaGreatDoor
