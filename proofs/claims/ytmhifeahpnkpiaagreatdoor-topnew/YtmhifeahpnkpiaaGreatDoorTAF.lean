/- Out of my texts: CyG, RlM, CyI, CyJ, CyK, CyL, CyM, CyN, CyH, TcA, TcD, TcE, TcC, TcF, TcG, DrH, LqO, TcO. -/
import Derived.Deep.Slices
import Derived.LaidMore
import Derived.Stop.Joined
import Derived.Stop.LaidErr
import Derived.Test.YtmhifeahpnkpiaaGreatDoorRows
import Derived.Test.YtmhifeahpnkpiaaGreatDoorTAA
import Derived.Test.YtmhifeahpnkpiaaGreatDoorTAB
import Derived.Test.YtmhifeahpnkpiaaGreatDoorTAC
import Derived.Test.YtmhifeahpnkpiaaGreatDoorTAD
import Derived.Test.YtmhifeahpnkpiaaGreatDoorTAE
set_option maxRecDepth 20000
set_option maxHeartbeats 8000000
set_option linter.unusedVariables false
namespace Go.Proofs.YtmhifeahpnkpiaaGreatDoor
open Go.RowKit
theorem RK{f:tG}(h:Lq.gC f=0):Lq.gl (f 0) (f 5)<12∧Lq.kD f=true:=by
 unfold Lq.gC at h;by_cases hi:Lq.gl (f 0) (f 5)<12
 ·rw[if_pos hi]at h;by_cases hb:Lq.kD (Lq.over (Lq.gq (f 0) (f 5)) (Lq.jd (Lq.gl (f 0) (f 5))) f)=true
  ·rw[if_pos hb]at h;by_cases he:Lq.SZ (Lq.less (Lq.gq (f 0) (f 5)) f) (Lq.jd (Lq.gl (f 0) (f 5)))=true
   ·have hf:∀i,i<11→Lq.over (Lq.gq (f 0) (f 5)) (Lq.jd (Lq.gl (f 0) (f 5))) f i=f i:=fun i hi'=>by
     have:=Lq.DF.1 he i hi';unfold Lq.less at this;unfold Lq.over;split
     ·rfl
     ·rename_i hn;rw[if_neg hn]at this;exact this.symm
    refine⟨hi, ?_⟩;unfold Lq.kD at hb⊢;rw[hf 0 (by decide),hf 1 (by decide),hf 2 (by decide),hf 3 (by decide),hf 4 (by decide),hf 5 (by decide),hf 6 (by decide),hf 7 (by decide),hf 8 (by decide),hf 9 (by decide),hf 10 (by decide)]at hb;exact hb
   ·rw[if_neg he]at h;omega
  ·rw[if_neg hb]at h;omega
 ·rw[if_neg hi]at h;omega
structure WY(f:tG):Prop where
 k:1≤f 0∧f 0≤10
 n:0≤f 1∧f 1<5
 q:0≤f 2∧f 2<4
 p:0≤f 3∧f 3≤1048576
 kp:0≤f 4∧f 4≤100000
 e:f 0=2→aP (f 5) (f 6) (f 7) (f 8) (f 9) (f 10)=0∧1≤f 5∧f 5≤3
theorem vh{f:tG}(h:Lq.gC f=0):WY f:=by
 obtain⟨h1,h2⟩:=RK h;have hk:1≤f 0∧f 0≤10∧(f 0=2→1≤f 5∧f 5≤3):=by
  by_cases hx:1≤f 0∧f 0≤10∧(f 0=2→1≤f 5∧f 5≤3)
  ·exact hx
  ·exfalso;have h12:Lq.gl (f 0) (f 5)=12:=by
    unfold Lq.gl;by_cases h2:f 0=2
    ·rw[if_neg (by omega),if_neg (by omega),if_neg (by omega),if_neg (by omega),if_neg (by omega),if_neg (by omega),if_neg (by omega),if_neg (by omega),if_neg (by omega),if_pos h2,if_neg (by omega),if_neg (by omega),if_neg (by omega)]
    ·rw[if_neg (by omega),if_neg (by omega),if_neg (by omega),if_neg (by omega),if_neg (by omega),if_neg (by omega),if_neg (by omega),if_neg (by omega),if_neg (by omega),if_neg h2]
   omega
 unfold Lq.kD Lq.rh at h2;simp only[Bool.and_eq_true,Bool.or_eq_true,decide_eq_true_eq,bne_iff_ne,beq_iff_eq]at h2;refine⟨⟨hk.1,hk.2.1⟩, ?_, ?_, ?_, ?_,fun e=>⟨?_,hk.2.2 e⟩⟩
 ·omega
 ·omega
 ·omega
 ·omega
 ·exact h2.2.2.2.2.resolve_left fun hh=>hh e
def YN(D:tF)(k:Nat):Nat→Value:=fun j=>iV (Lq.aO D k j)
noncomputable def fQ(p:(Nat→Nd)×Ws)(f:tG):(Nat→Nd)×Ws:=SY p.1 p.2 (f 0) (f 1).toNat (f 2).toNat (f 3).toNat (f 4) ⟨f 5,f 6,f 7,f 8,f 9,f 10⟩
noncomputable def dg(D:tF):Nat→(Nat→Nd)×Ws
 |0=>(wA,SX)
 |k+1=>fQ (dg D k) (Lq.aO D k)
structure GdT(p:(Nat→Nd)×Ws):Prop where
 g:Gd p.1 p.2
 t:∀i,i<5→(p.1 i).up=false→∃Bs rs kk,WW (p.1 i) Bs rs kk
section
variable{w w':tA}{X i:Nat}{us:Nat→Nv}{v v':Wv}{F F':tD}
theorem CW.others(h:CW w X us v F)(c:dk (fun b=>b<v.nd 5) w w'):CW w' X us v F:=by
 have same:∀b,CU us v F b→w'.heap[b]? =w.heap[b]? :=fun b hb=>c.block b (h.lt b hb) (Nat.not_lt.2 (h.lo b hb));refine⟨h.wo.still fun b hb=>same b (.inl hb),fun j hj=>(h.nb j hj).same (same _ (.inr (.inl ⟨j,hj,rfl⟩))),h.ok,h.inj,h.nf,fun j hj=> ?_,h.wf,h.wn,h.ww,h.st.Ch (c.mono fun _ h=> .inr h) fun _ _ h=>h,Nat.le_trans h.ln c.size,h.lo⟩;obtain⟨B,hr⟩:=h.wr j hj;exact⟨B,hr.still fun hb=>same B (.inr (.inr ⟨j,hj,hb⟩))⟩
theorem Cd.below{r:(Nat→Nd)×Ws}{pX:Nat→Nv}(h:CW w X us v F)(hd:Cd w X us v F r pX v' F' w'):Below (v.nd 5) w w':=hd.mv.c.below h.ln fun b hb hc=>absurd (h.lo b hc) (Nat.not_le.2 hb)
theorem YO(h:CW w X us v F){D:tF}{k:Nat}(hp:((fun i=>(us i).pure),v.pure)=dg D k)(hg:GdT (dg D k))(ok:Lq.gC (Lq.aO D k)=0):cA 30 #[lp X,vF (YN D k) 11] w fun x w'=>x= .returned (.tuple #[])∧∃pX v' F',CW w' X pX v' F'∧((fun i=>(pX i).pure),v'.pure)=dg D (k+1)∧v'.nd=v.nd∧Below (v.nd 5) w w':=by
 have a:=vh ok;obtain⟨f,hf⟩:∃f,f=Lq.aO D k:=⟨_,rfl⟩;rw[←hf]at a;have Tq:Gd (fun i=>(us i).pure) v.pure:=by
  have:=hg.g;rw[←hp]at this;exact this
 have e:vF (YN D k) 11=vF (lF [iV (f 0),iV (((f 1).toNat:Nat):Int),iV (((f 2).toNat:Nat):Int),iV (((f 3).toNat:Nat):Int),iV (f 4),iV (f 5),iV (f 6),iV (f 7),iV (f 8),iV (f 9),iV (f 10)]) 11:=by
  rw[Int.toNat_of_nonneg a.n.1,Int.toNat_of_nonneg a.q.1,Int.toNat_of_nonneg a.p.1,hf];rfl
 rw[e];refine(abr X us v F w h Tq (f 0) (f 1).toNat (f 2).toNat (f 3).toNat (f 4) ⟨f 5,f 6,f 7,f 8,f 9,f 10⟩ a.k (by have:=a.n;omega) (by have:=a.q;omega) ⟨a.kp.1,by have:=a.kp;omega⟩).mono ?_;rintro x w' ⟨rfl,pX,v',F',hd⟩;refine⟨rfl,pX,v',F',hd.cw, ?_,hd.nd,Cd.below h hd⟩;show _=fQ (dg D k) (Lq.aO D k);unfold fQ;rw[←hp,←hf];exact Prod.ext hd.n hd.s
end
noncomputable def cX(D:tF)(n:Nat):Oc:=ocS (dg D n).1 (dg D n).2
def zO:Value:=vF (Ac (iV 0) (fun _=>false) (fun _=>0) (fun _=>0) (.slice none 0 0) (.slice none 0 0) (.slice none 0 0) (iV 0)) 18
inductive RL(D:tF)(n:Nat)(w w':tA):Value→Prop
 |abt (h:100000<n):RL D n w w' (.tuple #[zO,iV 1])
 |bad (h:n≤100000) (c e:Int) (hc:Lq.mL D n c e) (he:¬e=0):RL D n w w' (.tuple #[zO,iV e])
 |eS (h:n≤100000) (hc:∀j,j<n→Lq.gC (Lq.aO D j)=0) (t:jC) (ho:bR (fun b=>b<w.heap.size) w' fun w=>kC w (cX D n) t):RL D n w w' (.tuple #[ocV (cX D n) t,iV 0])
inductive jh:Bt→List Rec→Bt→Prop
 |nil (B:Bt):jh B [] B
 |cons {B D E:Bt} {r:Rec} {l:List Rec} (hf:r.fault=0) (ha:dT B r=(D,0)) (h:jh D l E):jh B (r::l) E
theorem jh.one{B D:Bt}{r:Rec}(hf:r.fault=0)(ha:dT B r=(D,0)):jh B [r] D:= .cons hf ha (.nil D)
theorem jh.app{B D E:Bt}{l m:List Rec}(h:jh B l D)(h':jh D m E):jh B (l++m) E:=by
 induction h with
 |nil B=>exact h'
 |cons hf ha _ ih=>exact .cons hf ha (ih h')
theorem jh.snoc{B D E:Bt}{r:Rec}{l:List Rec}(h:jh B l D)(hf:r.fault=0)(ha:dT D r=(E,0)):jh B (l++[r]) E:=h.app (.one hf ha)
theorem jh.nil_eq{B D:Bt}(h:jh B [] D):D=B:=by cases h;rfl
def recC(q e:Int):Rec:=⟨1,q,e,0,⟨0,0,0,0,0,0⟩⟩
def abu(q e:Int)(v:Ev):Rec:=⟨2,q,e,0,v⟩
def abv(q e p:Int):Rec:=⟨3,q,e,p,⟨0,0,0,0,0,0⟩⟩
def RM(q e:Int):Rec:=⟨7,q,e,0,⟨0,0,0,0,0,0⟩⟩
def abw(q e:Int):Rec:=⟨6,q,e,0,⟨0,0,0,0,0,0⟩⟩
def abx(q e p:Int):Rec:=⟨4,q,e,p,⟨0,0,0,0,0,0⟩⟩
def aby(q e:Int)(v:Ev):Rec:=⟨5,q,e,0,v⟩
theorem YP{q e:Int}(hq:0≤q∧q≤3)(he:1≤e∧e≤1048576):(recC q e).fault=0:=by
 unfold Rec.fault aC recC gy;simp only;rw[if_neg (by omega),if_neg (by omega),if_neg (by omega)];simp
theorem Ja{q e p:Int}(hq:0≤q∧q≤3)(he:1≤e∧e≤1048576)(hp:0≤p∧p≤4):(abv q e p).fault=0:=by
 unfold Rec.fault aC abv gy;simp only;rw[if_neg (by omega),if_neg (by omega),if_neg (by omega)];simp
theorem yT{q e:Int}(hq:0≤q∧q≤3)(he:1≤e∧e≤1048576):(RM q e).fault=0:=by
 unfold Rec.fault aC RM gy;simp only;rw[if_neg (by omega),if_neg (by omega),if_neg (by omega)];simp
theorem Jb{q e:Int}(hq:0≤q∧q≤3)(he:1≤e∧e≤1048576):(abw q e).fault=0:=by
 unfold Rec.fault aC abw gy;simp only;rw[if_neg (by omega),if_neg (by omega),if_neg (by omega)];simp
theorem Jc{q e p:Int}(hq:0≤q∧q≤3)(he:1≤e∧e≤1048576)(hp:0≤p∧p≤4):(abx q e p).fault=0:=by
 unfold Rec.fault aC abx gy;simp only;rw[if_neg (by omega),if_neg (by omega),if_neg (by omega)];simp
theorem yU{q e:Int}{v:Ev}(hq:0≤q∧q≤3)(he:1≤e∧e≤1048576)(hv:v.Ok):(abu q e v).fault=0:=by
 unfold Rec.fault aC abu;simp only;rw[if_neg (by omega),if_neg (by omega),if_pos (by simp)];exact hv
theorem r_{q e:Int}{v:Ev}(hq:0≤q∧q≤3)(he:1≤e∧e≤1048576)(hv:v.Ok):(aby q e v).fault=0:=by
 unfold Rec.fault aC aby;simp only;rw[if_neg (by omega),if_neg (by omega),if_pos (by simp)];exact hv
theorem OQ{e:Int}(he:1≤e∧e≤1048576):Bt.Ok ⟨1,e,0,0,0,[]⟩:=⟨.inr (.inl ⟨rfl,he.1,he.2,rfl,rfl,rfl⟩),by simp,_,_,.nil⟩
theorem DG{B:Bt}{q:Int}(hq:0≤q∧q≤3)(ok:B.Ok)(hr:B.r=3):(RM q B.e).fault=0∧dT B (RM q B.e)=(⟨0,B.e,0,0,0,[]⟩,0):=by
 have hs:=ok.cJ;unfold Bt.cC bw at hs;have he:1≤B.e∧B.e≤1048576:=by omega
 refine⟨yT hq he,eJ ok (yT hq he) ?_ ⟨.inl ⟨rfl,rfl,by simp only;omega,by simp only;omega,rfl,rfl,rfl⟩,by simp,_,_,.nil⟩⟩;unfold cE RM;simp[hr]
def nD(r:Rec):Prop:=r.fault=0∧(¬(r.k=2∨r.k=5)→r.v=k_)
theorem nD.eS{r:Rec}(h:nD r):kR (bj r):=
 ⟨r.k,r.q,r.e,r.p,r.v.k,r.v.p,r.v.i,r.v.b,r.v.he,r.v.hn,rfl,h.1,fun hk=>by
  have e:=h.2 hk;rw[e]
  exact⟨rfl,rfl,rfl,rfl,rfl,rfl⟩⟩
theorem iT(rs:List Rec):bP rs=aM (rs.map bj):=by
 unfold bP aM;rw[List.flatMap_map];rfl
theorem j7(a b:List Rec):bP (a++b)=bP a++bP b:=by simp[bP]
theorem Gn{rs:List Rec}(h:∀r∈rs,nD r):∀z∈rs.map bj,kR z:=fun z hz=>by
 obtain⟨r,hr,rfl⟩:=List.mem_map.1 hz;exact(h r hr).eS
theorem yV{rs:List Rec}(h:∀r∈rs,nD r):bz (bP rs)=(rs.map bj,(bP rs).length):=by
 rw[iT];exact p8 _ (Gn h)
theorem Vt{rs:List Rec}:22*rs.length≤(bP rs).length:=by
 rw[iT];have:=(oV (rs.map bj)).1;rw[List.length_map]at this;exact this
theorem Jd{r:Rec}(h:r.fault=0):(1≤r.k∧r.k≤7)∧(0≤r.q∧r.q≤3)∧(0≤r.e∧r.e≤1048576)∧(0≤r.p∧r.p≤4)∧((r.k=2∨r.k=5)→r.v.Ok):=by
 unfold Rec.fault aC at h;split at h
 ·omega
 ·rename_i h1;split at h
  ·omega
  ·rename_i h2;have h1:=Decidable.not_not.1 h1;have h2:=Decidable.not_not.1 h2;refine⟨h1,⟨h2.1,h2.2.1⟩,⟨h2.2.2.1,h2.2.2.2.1⟩,h2.2.2.2.2,fun hk=> ?_⟩;rw[if_pos hk]at h;exact h
theorem KL{rs:List Rec}(h:∀r∈rs,nD r):∀x∈aB rs,(Lit.int .i64 x).wf=true:=fun x hx=>by
 obtain⟨r,hr,hx⟩:=List.mem_flatMap.1 hx;have hb:=Jd (h r hr).1;have hv:∀x∈aY r.v,(Lit.int .i64 x).wf=true:=by
  by_cases hk:r.k=2∨r.k=5
  ·exact WL (hb.2.2.2.2 hk)
  ·rw[(h r hr).2 hk];intro x hx;simp only[aY,List.mem_cons,List.not_mem_nil,or_false,or_self]at hx;rw[hx];decide
 have:=oU (q:=r.q.toNat) (k:=r.k) (ep:=r.e) (pe:=r.p) (e:=r.v) hb.1 (by omega) hb.2.2.1 hb.2.2.2.1 hv;rw[Int.toNat_of_nonneg hb.2.1.1]at this;exact this x hx
structure zD(rs:List Rec)(Bs:Nat→Bt):Prop where
 f:∀r∈rs,nD r
 b:ki (ko fL) 0 rs=(some (ko Bs),0,0)
theorem KM:∀(l m:List Rec) (S S':List Bt) (i:Nat),ki S i l=(some S',0,0)→ki S i (l++m)=ki S' (i+l.length) m
 |[],m,S,S',i,h=>by
  unfold ki at h;have:S=S':=by injection h with h1 h2;injection h1
  subst this;rfl
 |r::l,m,S,S',i,h=>by
  rw[List.cons_append];show(if ¬r.fault=0 then(none,i,r.fault)else match dT (At S r) r with|(D,e)=>if e=0 then ki (put S r D) (i+1) (l++m)else(none,i,e))=_;unfold ki at h;split at h
  ·cases h
  ·rename_i hf;rw[if_neg hf];cases ha:dT (At S r) r with
   |mk D e=>
    rw[ha]at h;simp only at h⊢;split at h
    ·rename_i he;rw[if_pos he,KM l m _ S' (i+1) h,List.length_cons,show i+(l.length+1)=i+1+l.length by omega]
    ·cases h
theorem Vu{S:List Bt}{i:Nat}{r:Rec}{D:Bt}(hf:r.fault=0)(ha:dT (At S r) r=(D,0)):ki S i [r]=(some (put S r D),0,0):=by
 unfold ki;rw[if_neg (fun h=>h hf),ha];rfl
theorem zD.snoc{rs:List Rec}{Bs:Nat→Bt}(h:zD rs Bs){r:Rec}{q:Nat}{D:Bt}(hr:nD r)(hq:q<4)(e:r.q=q)(ha:dT (Bs q) r=(D,0)):zD (rs++[r]) (aj Bs q D):=by
 refine⟨fun x hx=>(List.mem_append.1 hx).elim (h.f x) fun hx=>by rw[List.mem_singleton.1 hx];exact hr, ?_⟩;rw[KM rs [r] _ _ 0 h.b,Vu hr.1 (by rw[Qh Bs r q hq e];exact ha),Km Bs r D q hq e];rfl
theorem oY{α:Type}(f:Nat→α)(q:Nat)(x y:α):aj (aj f q x) q y=aj f q y:=by
 funext p;by_cases e:p=q
 ·rw[e,au,au]
 ·rw[bk e,bk e,bk e]
theorem zD.runs{q:Nat}(hq:q<4):∀{l:List Rec} {B D:Bt},jh B l D→(∀r∈l,nD r∧r.q=q)→∀{rs:List Rec} {Bs:Nat→Bt},zD rs Bs→Bs q=B→zD (rs++l) (aj Bs q D):=by
 intro l B D h
 induction h with
 |nil B=>
  intro _ rs Bs hm e;rw[List.append_nil,←e,my];exact hm
 |cons hf ha h ih=>
  rename_i B D E r l;intro hr rs Bs hm e;have h1:=hm.snoc (hr r List.mem_cons_self).1 hq (hr r List.mem_cons_self).2 (by rw[e];exact ha);have h2:=ih (fun x hx=>hr x (List.mem_cons_of_mem _ hx)) h1 (au ..);rw[oY]at h2;rw[show rs++r::l=rs++[r]++l by simp];exact h2
theorem jh.cut{B D:Bt}{l:List Rec}(h:jh B l D):∀j,∃E,jh B (l.take j) E:=by
 induction h with
 |nil B=>intro j;exact⟨B,by rw[List.take_nil];exact .nil B⟩
 |cons hf ha h ih=>
  intro j;cases j with
  |zero=>exact⟨_,.nil _⟩
  |succ j=>
   obtain⟨E,hE⟩:=ih j;exact⟨E,.cons hf ha hE⟩
theorem nF{B D:Bt}{r:Rec}(h:dT B r=(D,0)):B.Ok∧r.fault=0∧cE B r=some D∧D.Ok:=by
 unfold dT at h;by_cases h1:B.Ok
 ·rw[if_neg (fun g=>g h1)]at h;by_cases h2:r.fault=0
  ·rw[if_neg (fun g=>g h2)]at h;cases hd:cE B r with
   |none=>rw[hd]at h;cases h
   |some E=>
    rw[hd]at h;simp only at h;by_cases h3:E.Ok
    ·rw[if_pos h3]at h;cases h;exact⟨h1,h2,rfl,h3⟩
    ·rw[if_neg h3]at h;cases h
  ·rw[if_pos h2]at h;exact absurd (Prod.mk.inj h).2 h2
 ·rw[if_pos h1]at h;cases h
theorem KN{B D:Bt}{r:Rec}(hB:¬B.r=2)(h:cE B r=some D):¬D.r=2:=by
 unfold cE at h;split at h
 ·split at h
  ·cases h;show ¬(1:Int)=2;decide
  ·cases h
 ·split at h
  ·split at h
   ·cases h;exact hB
   ·cases h
  ·split at h
   ·split at h
    ·cases h;show ¬(3:Int)=2;decide
    ·cases h
   ·split at h
    ·split at h
     ·cases h;unfold aQ;split
      ·show ¬(0:Int)=2;decide
      ·split
       ·show ¬(0:Int)=2;decide
       ·split
        ·show ¬(0:Int)=2;decide
        ·split
         ·exact hB
         ·split
          ·show ¬(0:Int)=2;decide
          ·show ¬(4:Int)=2;decide
     ·cases h
    ·split at h
     ·split at h
      ·cases h;exact hB
      ·cases h
     ·split at h
      ·split at h
       ·cases h;show ¬(1:Int)=2;decide
       ·cases h
      ·split at h
       ·cases h;show ¬(0:Int)=2;decide
       ·cases h
theorem KO:∀(l:List Rec) (S S':List Bt) (i:Nat),S.length=4→(∀B∈S,B.Ok∧¬B.r=2)→ki S i l=(some S',0,0)→∀B∈S',B.Ok∧¬B.r=2
 |[],S,S',i,_,h,e=>by
  unfold ki at e;have:S=S':=by injection e with h1 h2;injection h1
  subst this;exact h
 |r::l,S,S',i,hl,h,e=>by
  unfold ki at e;split at e
  ·cases e
  ·rename_i hf;cases ha:dT (At S r) r with
   |mk D er=>
    rw[ha]at e;simp only at e;split at e
    ·rename_i he;subst he;obtain⟨_,h2,h3,h4⟩:=nF ha;exact KO l _ S' (i+1) (by rw[qt];exact hl) (sX h ⟨h4,KN (h _ (at_mem hl h2)).2 h3⟩) e
    ·cases e
theorem zD.all{rs:List Rec}{Bs:Nat→Bt}(h:zD rs Bs):∀q,q<4→(Bs q).Ok∧¬(Bs q).r=2:=
 (s5 Bs (fun B=>B.Ok∧¬B.r=2)).1 (KO rs _ _ 0 rfl ((s5 fL (fun B=>B.Ok∧¬B.r=2)).2 fun _ _=>⟨Bt.cR,by show ¬(0:Int)=2;decide⟩) h.b)
theorem zD.nil:zD [] fL:=⟨(fun _ h=>by cases h),rfl⟩
def Lts(l:List Rec):Prop:=(∀r∈l,r.k=2∨r.k=5∨r.k=6)∨∀r∈l,¬jB r
theorem Lts.take{l:List Rec}(h:Lts l)(j:Nat):Lts (l.take j):=h.imp (fun h r hr=>h r (List.mem_of_mem_take hr)) fun h r hr=>h r (List.mem_of_mem_take hr)
theorem NT{B D:Bt}{r:Rec}(hk:r.k=2∨r.k=5∨r.k=6)(h:cE B r=some D):0<D.es.length:=by
 unfold cE at h;split at h
 ·omega
 ·split at h
  ·split at h
   ·cases h;simp[Bt.more]
   ·cases h
  ·split at h
   ·omega
   ·split at h
    ·omega
    ·split at h
     ·split at h
      ·cases h;simp[Bt.more]
      ·cases h
     ·split at h
      ·split at h
       ·cases h;simp
       ·cases h
      ·omega
theorem jh.more{B D:Bt}{l:List Rec}(h:jh B l D):(∀r∈l,r.k=2∨r.k=5∨r.k=6)→l≠[]→0<D.es.length:=by
 induction h with
 |nil B=>intro _ h;exact absurd rfl h
 |cons hf ha h ih=>
  rename_i B D E r l;intro hk _;by_cases hl:l=[]
  ·subst hl;rw[h.nil_eq];exact NT (hk r List.mem_cons_self) (nF ha).2.2.1
  ·exact ih (fun x hx=>hk x (List.mem_cons_of_mem _ hx)) hl
theorem jh.late{B D:Bt}{l:List Rec}(h:jh B l D)(hl:Lts l):∀r∈l,jB r→0<D.es.length:=fun r hr LM=>by
 rcases hl with hl|hl
 ·exact h.more hl (List.ne_nil_of_mem hr)
 ·exact absurd LM (hl r hr)
def tb(B:Bt):Bt:=if B.r=2 then⟨1,B.e,0,0,0,B.es⟩else B
theorem yW{B:Bt}(h:B.r=2):tb B=⟨1,B.e,0,0,0,B.es⟩:=if_pos h
theorem jD{B:Bt}(h:¬B.r=2):tb B=B:=if_neg h
theorem KP{B:Bt}(ok:B.Ok):(tb B).Ok:=by
 by_cases h:B.r=2
 ·rw[yW h];have hs:=ok.cJ;unfold Bt.cC bw at hs;exact⟨.inr (.inl ⟨rfl,by show 1≤B.e;omega,by show B.e≤1048576;omega,rfl,rfl,rfl⟩),ok.len,ok.told⟩
 ·rw[jD h];exact ok
def AfP(mo:Nat→Bt)(q:Nat)(D:Bt):Af→Prop
 | .serve l an=>l.q=q∧((mo q).r=1∨(mo q).r=2)∧cO (mo q) l.op ((mo q).more [l.op]) an true 0∧D=tb ((mo q).more [l.op])
 | .begin l B=>l.q=q∧¬(mo q).r=1∧D=B
 | .shut l B=>l.q=q∧¬(mo q).r=1∧D=B
 | .take l B=>l.q=q∧¬(mo q).r=1∧D=B
 | .jz p B=>p=q∧¬(mo q).r=1∧D=B
structure Pd(mo:Nat→Bt)(a:Af)(rs:List Rec)(q:Nat)(D:Bt):Prop where
 q4:q<4
 ok:∀r∈rs,nD r∧r.q=q
 run:jh (tb (mo q)) rs D
 lt:Lts rs
 one:rs.length=1∨∀r∈rs,r.k=5∨r.k=6
 af:AfP mo q D a
def Pds(n:Nd)(rs:List Rec):Prop:=(n.af=none∧rs=[])∨∃a q D,n.af=some a∧Pd n.mo a rs q D
structure Up(n:Nd):Prop where
 mo:∀q,q<4→(n.mo q).Ok
 ex:∃dC dx Bs,n.dl=bP dC++bP dx∧n.sy=(((bP dC).length:Nat):Int)∧zD dC Bs∧(∀q,q<4→Bs q=tb (n.mo q))∧Pds n dx
theorem Up.congr{n n':Nd}(h:Up n)(h1:n'.dl=n.dl)(h2:n'.sy=n.sy)(h3:n'.mo=n.mo)(h4:n'.af=n.af):Up n':=by
 obtain⟨dC,dx,Bs,e1,e2,e3,e4,e5⟩:=h.ex;refine⟨by rw[h3];exact h.mo,dC,dx,Bs,by rw[h1];exact e1,by rw[h2];exact e2,e3,by rw[h3];exact e4, ?_⟩;unfold Pds at e5⊢;rw[h3,h4];exact e5
theorem Up.turn{n:Nd}(h:Up n)(ha:n.af=none){q:Nat}{B:Bt}(hq:q<4)(ok:B.Ok)(ht:tb B=tb (n.mo q)):Up {n with mo:=aj n.mo q B}:=by
 obtain⟨dC,dx,Bs,e1,e2,e3,e4,e5⟩:=h.ex;refine⟨fun p hp=> ?_,dC,dx,Bs,e1,e2,e3,fun p hp=> ?_, ?_⟩
 ·by_cases e:p=q
  ·rw[e];show(aj n.mo q B q).Ok;rw[au];exact ok
  ·show(aj n.mo q B p).Ok;rw[bk e];exact h.mo p hp
 ·by_cases e:p=q
  ·rw[e];show _=tb (aj n.mo q B q);rw[au,ht];exact e4 q hq
  ·show _=tb (aj n.mo q B p);rw[bk e];exact e4 p hp
 ·rcases e5 with e5|⟨a,q',D,h1,_⟩
  ·exact .inl e5
  ·rw[ha]at h1;cases h1
theorem Up.write{n n':Nd}(h:Up n)(ha:n.af=none){a:Af}{rs:List Rec}{q:Nat}{D:Bt}(p:Pd n.mo a rs q D)(hw:mO n a rs=some n'):Up n':=by
 unfold mO at hw;split at hw
 ·cases hw;obtain⟨dC,dx,Bs,e1,e2,e3,e4,e5⟩:=h.ex;have e0:dx=[]:=by
   rcases e5 with e5|⟨a,q',D,h1,_⟩
   ·exact e5.2
   ·rw[ha]at h1;cases h1
  subst e0;refine⟨h.mo,dC,rs,Bs, ?_,e2,e3,e4,.inr ⟨a,q,D,rfl,p⟩⟩;show n.dl++bP rs=_;rw[e1];simp[bP]
 ·cases hw
theorem Vv{n:Nd}{o:Option Nd}(h:Up n)(ho:∀n',o=some n'→Up n'):Up (o.getD n):=by
 cases o with
 |none=>exact h
 |some x=>exact ho x rfl
theorem Up.sync{n:Nd}{s:Ws}{a:Af}(h:Up n)(ha:n.af=some a):Up (eP {n with sy:=n.dl.length,af:=none} s a).1:=by
 obtain⟨dC,dx,Bs,e1,e2,e3,e4,e5⟩:=h.ex;rcases e5 with e5|⟨a',q,D,h1,p⟩
 ·rw[ha]at e5;cases e5.1
 rw[ha]at h1;cases h1;have hm:=zD.runs p.q4 p.run p.ok e3 (e4 q p.q4);have hD:=hm.all q p.q4;rw[au]at hD;have fin:∀B:Bt,B.Ok→tb B=D→Up {n with sy:=n.dl.length,af:=none,mo:=aj n.mo q B}:=fun B okB hB=>by
  refine⟨fun i hi=> ?_,dC++dx,[],aj Bs q D, ?_, ?_,hm,fun i hi=> ?_,.inl ⟨rfl,rfl⟩⟩
  ·by_cases e:i=q
   ·rw[e];show(aj n.mo q B q).Ok;rw[au];exact okB
   ·show(aj n.mo q B i).Ok;rw[bk e];exact h.mo i hi
  ·show n.dl=_;rw[e1,j7];simp[bP]
  ·show(n.dl.length:Int)=_;rw[e1,j7]
  ·by_cases e:i=q
   ·rw[e];show aj Bs q D q=tb (aj n.mo q B q);rw[au,au,hB]
   ·show aj Bs q D i=tb (aj n.mo q B i);rw[bk e,bk e];exact e4 i hi
 cases a with
 |serve l an=>
  obtain⟨rfl,h2,h3,h4⟩:=p.af;have:=fin ((n.mo l.q).more [l.op]) (yD h3 (h.mo _ p.q4)) h4.symm;show Up {n with sy:=n.dl.length,af:=none,mo:=aj n.mo l.q (dh (n.mo l.q) l.op).1};rw[oS h3];exact this
 |begin l B=>
  obtain⟨rfl,h2,rfl⟩:=p.af;exact fin D hD.1 (jD hD.2)
 |shut l B=>
  obtain⟨rfl,h2,rfl⟩:=p.af;exact fin D hD.1 (jD hD.2)
 |take l B=>
  obtain⟨rfl,h2,rfl⟩:=p.af;exact fin D hD.1 (jD hD.2)
 |jz p' B=>
  obtain⟨rfl,h2,rfl⟩:=p.af;exact fin D hD.1 (jD hD.2)
theorem Je{B:Bt}{v:Ev}(h:(dh B v).2.2.1=true):cO B v (B.more [v]) (dh B v).2.1 true 0∧(B.r=1∨B.r=2):=by
 unfold dh at h⊢;split at h
 ·rename_i hx;rw[dif_pos hx];have hs:=hx.choose_spec;generalize hx.choose=x at*;obtain⟨B',an,k,er⟩:=x;simp only at hs h⊢;subst h;cases hs with
  |done h1 h2 h3 h4 s bu ht s' _ st hl=>exact⟨.done h1 h2 h3 h4 s bu ht s' _ st hl,h4⟩
 ·cases h
theorem RN{n:Nd}{l:Lt}(hq:l.q<4)(ok:(n.mo l.q).Ok)(h:(dh (n.mo l.q) l.op).2.2.1=true):Pd n.mo (.serve l (dh (n.mo l.q) l.op).2.1) [⟨2,l.q,(n.mo l.q).e,0,l.op⟩] l.q (tb ((n.mo l.q).more [l.op])):=by
 obtain⟨hs,hr⟩:=Je h;have hv:=FZ hs;have gx:=jy ok.cJ;have QP:=ok.cJ;unfold Bt.cC bw at QP;have he:1≤(n.mo l.q).e∧(n.mo l.q).e≤1048576:=by omega
 have hf:(⟨2,l.q,(n.mo l.q).e,0,l.op⟩:Rec).fault=0:=yU ⟨by omega,by omega⟩ he hv;have hD:(tb ((n.mo l.q).more [l.op])).Ok:=KP (yD hs ok);refine⟨hq,fun r hr=> ?_,.one hf (eJ (KP ok) hf ?_ hD),.inl fun r hr=> ?_,.inl rfl,rfl,hr,hs,rfl⟩
 ·rw[List.mem_singleton.1 hr];exact⟨⟨hf,fun hk=>absurd (.inl rfl) hk⟩,rfl⟩
 ·have hd:∀B:Bt,B.r=1→B.e=(n.mo l.q).e→cE B ⟨2,l.q,(n.mo l.q).e,0,l.op⟩=some (B.more [l.op]):=fun B h1 h2=>by
   unfold cE;rw[if_neg (by show ¬(2:Int)=1;decide),if_pos rfl,if_pos ⟨rfl,h2,h1⟩]
  rcases hr with hr|hr
  ·rw[jD (show ¬(n.mo l.q).r=2 by omega),jD (show ¬((n.mo l.q).more [l.op]).r=2 by show ¬(n.mo l.q).r=2;omega)];exact hd _ hr rfl
  ·rw[yW (show(n.mo l.q).r=2 from hr),yW (show((n.mo l.q).more [l.op]).r=2 from hr)];exact hd _ rfl rfl
 ·rw[List.mem_singleton.1 hr];exact .inl rfl
theorem RO{n:Nd}{l:Lt}(hq:l.q<4)(ok:(n.mo l.q).Ok)(h:(aQ (n.mo l.q) l.ep l.fr).2=0):Pd n.mo (.begin l (aQ (n.mo l.q) l.ep l.fr).1) [⟨4,l.q,l.ep,l.fr,k_⟩] l.q (aQ (n.mo l.q) l.ep l.fr).1:=by
 have hb:aQ (n.mo l.q) l.ep l.fr=((aQ (n.mo l.q) l.ep l.fr).1,0):=Prod.ext rfl h;obtain⟨he,GV,hf4⟩:=FX hb;have hD:=FY hb;have hr:¬((n.mo l.q).r=1∨(n.mo l.q).r=2∨(n.mo l.q).r=3):=fun hr=>by
  unfold aQ at h;rw[if_neg (fun g=>g ok),if_neg (fun g=>g ⟨he,GV,hf4⟩),if_pos hr]at h;cases h
 have hf:(⟨4,l.q,l.ep,l.fr,k_⟩:Rec).fault=0:=Jc ⟨by omega,by omega⟩ he ⟨GV,hf4⟩;refine⟨hq,fun r hr=> ?_,.one hf (eJ (KP ok) hf ?_ hD),.inr fun r hr=> ?_,.inl rfl,rfl,fun e=>hr (.inl e),rfl⟩
 ·rw[List.mem_singleton.1 hr];exact⟨⟨hf,fun _=>rfl⟩,rfl⟩
 ·rw[jD (fun e=>hr (.inr (.inl e)))];unfold cE;rw[if_neg (by show ¬(4:Int)=1;decide),if_neg (by show ¬(4:Int)=2;decide),if_neg (by show ¬(4:Int)=3;decide),if_pos rfl,if_pos h]
 ·rw[List.mem_singleton.1 hr];unfold jB;show ¬((4:Int)=2∨(4:Int)=6);decide
theorem oZ{B:Bt}{hv:Int}(ok:B.Ok)(h:(aW B hv).2=0):(B.r=2∨B.r=3)∧((B.r=3∧(aW B hv).1=B)∨(B.r=2∧(aW B hv).1=⟨3,B.e,B.f,B.t,0,B.es⟩)∨(B.r=2∧(aW B hv).1=⟨B.r,B.e,B.f,B.t,B.o+1,B.es⟩)):=by
 have ht:dj B hv=0:=by
  by_cases ht:dj B hv=0
  ·exact ht
  ·unfold aW at h;rw[if_pos ht]at h;exact absurd h ht
 have hr:B.r=2∨B.r=3:=by
  unfold dj at ht;rw[if_neg (fun g=>g ok)]at ht;split at ht
  ·cases ht
  ·rename_i g;exact Decidable.not_not.1 g
 refine⟨hr, ?_⟩;unfold aW;rw[if_neg (fun g=>g ht)];by_cases h3:B.r=3
 ·rw[if_pos h3];exact .inl ⟨h3,rfl⟩
 ·rw[if_neg h3];have h2:B.r=2:=by omega
  split
  ·exact .inr (.inl ⟨h2,rfl⟩)
  ·exact .inr (.inr ⟨h2,rfl⟩)
theorem Vw{n:Nd}{l:Lt}(hq:l.q<4)(ok:(n.mo l.q).Ok)(h:(aW (n.mo l.q) l.pl).2=0)(hr:¬(aW (n.mo l.q) l.pl).1.r=(n.mo l.q).r):Pd n.mo (.shut l (aW (n.mo l.q) l.pl).1) [⟨3,l.q,(n.mo l.q).e,(n.mo l.q).t,k_⟩] l.q (aW (n.mo l.q) l.pl).1:=by
 have hD:(aW (n.mo l.q) l.pl).1.Ok:=nr (er:=(aW (n.mo l.q) l.pl).2) rfl;have hs:=ok.cJ;unfold Bt.cC bw at hs;obtain⟨_,⟨_,e⟩|⟨h2,e⟩|⟨_,e⟩⟩:=oZ ok h
 ·rw[e]at hr;exact absurd rfl hr
 ·have hf:(⟨3,l.q,(n.mo l.q).e,(n.mo l.q).t,k_⟩:Rec).fault=0:=Ja ⟨by omega,by omega⟩ (by omega) (by omega);refine⟨hq,fun r hr=> ?_,.one hf (eJ (KP ok) hf ?_ hD),.inr fun r hr=> ?_,.inl rfl,rfl,by omega,rfl⟩
  ·rw[List.mem_singleton.1 hr];exact⟨⟨hf,fun _=>rfl⟩,rfl⟩
  ·rw[yW h2,e];unfold cE;rw[if_neg (by show ¬(3:Int)=1;decide),if_neg (by show ¬(3:Int)=2;decide),if_pos rfl,if_pos ⟨rfl,rfl⟩];have:(n.mo l.q).f=0:=by omega
   rw[this]
  ·rw[List.mem_singleton.1 hr];unfold jB;show ¬((3:Int)=2∨(3:Int)=6);decide
 ·rw[e]at hr;exact absurd rfl hr
theorem uc{B:Bt}{ep:Int}(h:(bC B ep).2=0):B.r=3∧(bC B ep).1=⟨0,B.e,0,0,0,[]⟩:=by
 unfold bC at h⊢;by_cases h1:B.Ok
 ·rw[if_neg (fun g=>g h1)]at h⊢;by_cases h2:B.r=3
  ·rw[if_neg (fun g=>g h2)]at h⊢;by_cases h3:ep≤B.e
   ·rw[if_pos h3]at h;cases h
   ·rw[if_neg h3];exact⟨h2,rfl⟩
  ·rw[if_pos h2]at h;cases h
 ·rw[if_pos h1]at h;cases h
theorem RP{mo:Nat→Bt}{q:Nat}{ep:Int}(hq:q<4)(ok:(mo q).Ok)(h:(bC (mo q) ep).2=0):Pd mo (.jz q (bC (mo q) ep).1) [⟨7,q,(bC (mo q) ep).1.e,0,k_⟩] q (bC (mo q) ep).1:=by
 obtain⟨h3,e⟩:=uc h;obtain⟨hf,ha⟩:=DG (q:=q) ⟨by omega,by omega⟩ ok h3;rw[e];refine⟨hq,fun r hr=> ?_,.one hf (by rw[jD (by omega)];exact ha),.inr fun r hr=> ?_,.inl rfl,rfl,by omega,rfl⟩
 ·rw[List.mem_singleton.1 hr];exact⟨⟨hf,fun _=>rfl⟩,rfl⟩
 ·rw[List.mem_singleton.1 hr];unfold jB;show ¬((7:Int)=2∨(7:Int)=6);decide
theorem yX{q:Int}(hq:0≤q∧q≤3):∀(l:List Ev) (B:Bt),B.r=4→B.Ok→(B.more l).Ok→jh B (l.map fun e=>(⟨5,q,B.e,0,e⟩:Rec)) (B.more l)∧∀e∈l,e.Ok
 |[],B,_,_,_=>⟨by rw[show B.more []=B by unfold Bt.more;rw[List.append_nil]];exact .nil B,fun e he=>by cases he⟩
 |x::l,B,hr,ok,hm=>by
  obtain⟨s,bu,ht⟩:=hm.told;have hlen:=hm.len;have Wp:bm (B.es++x::l) s bu:=ht;have Ed:(B.es++x::l).length≤2000:=hlen;have GQ:(B.es++x::l).length=B.es.length+(l.length+1):=by simp
  obtain⟨s0,h0⟩:=Wp.take B.es.length (by omega);obtain⟨s1,an,st,hv⟩:=Wp.step (k:=B.es.length) (by omega) h0;have hx:(B.es++x::l)[B.es.length]'(by omega)=x:=by simp
  rw[hx]at st hv;obtain⟨s2,h2⟩:=Wp.take (B.es.length+1) (by omega);have e2:(B.es++x::l).take (B.es.length+1)=B.es++[x]:=by
   rw[show B.es++x::l=(B.es++[x])++l by simp,List.take_left' (by simp)]
  rw[e2]at h2;have hs:=ok.cJ;unfold Bt.cC bw at hs;have qv:(B.more [x]).Ok:=⟨.inr (.inr (.inr (.inr ⟨hr,by show 1≤B.e∧_;simp only[Bt.more];omega⟩))),by show(B.es++[x]).length≤2000;simp;omega,_,_,h2⟩;have em:(B.more [x]).more l=B.more (x::l):=by simp[Bt.more]
  obtain⟨ih,ihv⟩:=yX hq l (B.more [x]) hr qv (by rw[em];exact hm);rw[em]at ih;have hf:(⟨5,q,B.e,0,x⟩:Rec).fault=0:=r_ hq (by omega) hv;refine⟨.cons hf (eJ ok hf ?_ qv) ih,fun e he=> ?_⟩
  ·unfold cE;rw[if_neg (by show ¬(5:Int)=1;decide),if_neg (by show ¬(5:Int)=2;decide),if_neg (by show ¬(5:Int)=3;decide),if_neg (by show ¬(5:Int)=4;decide),if_pos rfl,if_pos ⟨rfl,rfl,hr⟩]
  ·rcases List.mem_cons.1 he with rfl|he
   ·exact hv
   ·exact ihv e he
theorem ud{B:Bt}{ep yM:Int}{l:List Ev}{la:Bool}(h:(a_ B ep yM l la).2=0):B.Ok∧B.r=4∧(a_ B ep yM l la).1.Ok∧∃new,(a_ B ep yM l la).1=if la then(B.more new).broken else B.more new:=by
 unfold a_ at h⊢;by_cases h1:B.Ok
 ·rw[if_neg (fun g=>g h1)]at h⊢;by_cases h2:B.r=4
  ·rw[if_neg (fun g=>g h2)]at h⊢;split at h
   ·cases h
   ·rename_i g3;rw[if_neg g3];split at h
    ·cases h
    ·rename_i g4;rw[if_neg g4];split at h
     ·cases h
     ·rename_i g5;rw[if_neg g5];by_cases g6:(if la then(B.more (l.drop (B.es.length-yM.toNat))).broken else B.more (l.drop (B.es.length-yM.toNat))).Ok
      ·rw[if_neg (fun g=>g g6)];exact⟨h1,h2,g6,_,rfl⟩
      ·rw[if_pos g6]at h;cases h
  ·rw[if_pos h2]at h;cases h
 ·rw[if_pos h1]at h;cases h
theorem Vx{n:Nd}{l:Lt}(hq:l.q<4)(h:(a_ (n.mo l.q) l.ep l.pl l.es l.la).2=0):Pd n.mo (.take l (a_ (n.mo l.q) l.ep l.pl l.es l.la).1) (di l.q (a_ (n.mo l.q) l.ep l.pl l.es l.la).1 (n.mo l.q).es.length) l.q (a_ (n.mo l.q) l.ep l.pl l.es l.la).1:=by
 obtain⟨ok,hr,hD,new,e⟩:=ud h;generalize(a_ (n.mo l.q) l.ep l.pl l.es l.la).1=D at*;have hs:=ok.cJ;unfold Bt.cC bw at hs;have xX:(0:Int)≤(l.q:Int)∧(l.q:Int)≤3:=⟨by omega,by omega⟩;cases hla:l.la with
 |false=>
  rw[hla]at e;have e:D=(n.mo l.q).more new:=e;obtain⟨rH,H4⟩:=yX xX new (n.mo l.q) hr ok (e▸hD);have hi:di l.q D (n.mo l.q).es.length=new.map fun x=>(⟨5,l.q,(n.mo l.q).e,0,x⟩:Rec):=by
   unfold di;rw[e,if_neg (by show ¬(n.mo l.q).r=1;omega)];simp only[Bt.more];rw[List.drop_left' rfl]
  rw[hi];refine⟨hq,fun r hm=> ?_,by rw[jD (by omega),e];exact rH,.inl fun r hm=> ?_,.inr fun r hm=> ?_,rfl,by omega,rfl⟩
  ·obtain⟨x,hx,rfl⟩:=List.mem_map.1 hm;exact⟨⟨r_ xX (by omega) (H4 x hx),fun hk=>absurd (.inr rfl) hk⟩,rfl⟩
  ·obtain⟨x,hx,rfl⟩:=List.mem_map.1 hm;exact .inr (.inl rfl)
  ·obtain⟨x,hx,rfl⟩:=List.mem_map.1 hm;exact .inl rfl
 |true=>
  rw[hla]at e;have e:D=((n.mo l.q).more new).broken:=e;have abA:((n.mo l.q).more new).Ok:=by
   obtain⟨s,bu,ht⟩:=hD.told;have hlen:=hD.len;rw[e]at ht hlen;have ht:bm (((n.mo l.q).es++new)++[Ev.brk]) s bu:=ht;have hlen:(((n.mo l.q).es++new)++[Ev.brk]).length≤2000:=hlen;obtain⟨s0,h0⟩:=ht.take ((n.mo l.q).es++new).length (by simp);rw[List.take_left' rfl]at h0;have vQ:((n.mo l.q).es++new).length≤2000:=by
    rw[List.length_append]at hlen;omega
   exact⟨.inr (.inr (.inr (.inr (by simp only[Bt.more];omega)))),vQ,s0,_,h0⟩
  obtain⟨rH,H4⟩:=yX xX new (n.mo l.q) hr ok abA;have hf:(⟨6,l.q,(n.mo l.q).e,0,k_⟩:Rec).fault=0:=Jb xX (by omega);have hi:di l.q D (n.mo l.q).es.length=(new.map fun x=>(⟨5,l.q,(n.mo l.q).e,0,x⟩:Rec))++[⟨6,l.q,(n.mo l.q).e,0,k_⟩]:=by
   unfold di;rw[e,if_pos (show((n.mo l.q).more new).broken.r=1 from rfl)];simp only[Bt.broken,Bt.more];rw[List.append_assoc,List.drop_left' rfl,List.dropLast_concat]
  have ha:dT ((n.mo l.q).more new) ⟨6,l.q,(n.mo l.q).e,0,k_⟩=(D,0):=by
   refine eJ abA hf ?_ hD;unfold cE;rw[if_neg (by show ¬(6:Int)=1;decide),if_neg (by show ¬(6:Int)=2;decide),if_neg (by show ¬(6:Int)=3;decide),if_neg (by show ¬(6:Int)=4;decide),if_neg (by show ¬(6:Int)=5;decide),if_pos rfl,if_pos ⟨rfl,rfl,hr⟩,e];have h1:(n.mo l.q).t=0:=by omega
   have h2:(n.mo l.q).o=0:=by omega
   simp only[Bt.broken,Bt.more,h1,h2]
  rw[hi];refine⟨hq,fun r hm=> ?_,by rw[jD (by omega)];exact rH.snoc hf ha,.inl fun r hm=> ?_,.inr fun r hm=> ?_,rfl,by omega,rfl⟩
  ·rcases List.mem_append.1 hm with hm|hm
   ·obtain⟨x,hx,rfl⟩:=List.mem_map.1 hm;exact⟨⟨r_ xX (by omega) (H4 x hx),fun hk=>absurd (.inr rfl) hk⟩,rfl⟩
   ·rw[List.mem_singleton.1 hm];exact⟨⟨hf,fun _=>rfl⟩,rfl⟩
  ·rcases List.mem_append.1 hm with hm|hm
   ·obtain⟨x,hx,rfl⟩:=List.mem_map.1 hm;exact .inr (.inl rfl)
   ·rw[List.mem_singleton.1 hm];exact .inr (.inr rfl)
  ·rcases List.mem_append.1 hm with hm|hm
   ·obtain⟨x,hx,rfl⟩:=List.mem_map.1 hm;exact .inl rfl
   ·rw[List.mem_singleton.1 hm];exact .inr rfl
theorem abB{n n':Nd}{a:Af}{rs:List Rec}(h:mO n a rs=some n'):n'.up=n.up∧n'.i=n.i∧n'.sk=n.sk∧n'.ct=n.ct:=by
 unfold mO at h;split at h
 ·cases h;exact⟨rfl,rfl,rfl,rfl⟩
 ·cases h
theorem KQ{n:Nd}{s:Ws}{l:Lt}(h:Up n)(ha:n.af=none)(hw:lT l):Up (cp n s l).1∧(cp n s l).1.up=n.up∧(cp n s l).1.i=n.i∧(cp n s l).1.sk=n.sk∧(cp n s l).1.ct=n.ct:=by
 have hq:=hw.q;have ok:=h.mo l.q hq;have same:Up n∧n.up=n.up∧n.i=n.i∧n.sk=n.sk∧n.ct=n.ct:=⟨h,rfl,rfl,rfl,rfl⟩;have wr:∀{m:Nd} {a:Af} {rs:List Rec} {D:Bt},Up m→m.af=none→m.up=n.up→m.i=n.i→m.sk=n.sk→m.ct=n.ct→Pd m.mo a rs l.q D→Up ((mO m a rs).getD m)∧((mO m a rs).getD m).up=n.up∧((mO m a rs).getD m).i=n.i∧((mO m a rs).getD m).sk=n.sk∧((mO m a rs).getD m).ct=n.ct:=fun {m a rs D} hm hma h1 h2 h3 h4 p=>by
  refine⟨Vv hm fun n' hn=>hm.write hma p hn, ?_⟩;cases D7:mO m a rs with
  |none=>exact⟨h1,h2,h3,h4⟩
  |some x=>
   obtain⟨k1,k2,k3,k4⟩:=abB D7;exact⟨k1.trans h1,k2.trans h2,k3.trans h3,k4.trans h4⟩
 unfold cp;split
 ·unfold fO;split
  ·exact same
  ·split
   ·exact same
   ·rename_i hk;have hk:(dh (n.mo l.q) l.op).2.2.1=true:=by
     cases hb:(dh (n.mo l.q) l.op).2.2.1 with
     |true=>rfl
     |false=>exact absurd hb hk
    have:=wr h ha rfl rfl rfl rfl (RN hq ok hk);split
    ·rename_i n' hn;rw[hn]at this;exact this
    ·exact same
 ·split
  ·unfold iP;split
   ·exact same
   ·rename_i hb;split
    ·exact same
    ·exact wr h ha rfl rfl rfl rfl (RO hq ok (Decidable.not_not.1 hb))
  ·split
   ·unfold gJ;split
    ·exact same
    ·split
     ·exact same
     ·rename_i hc;have hc:=Decidable.not_not.1 hc;split
      ·rename_i hr;refine⟨h.turn ha hq (nr (er:=(aW (n.mo l.q) l.pl).2) rfl) ?_,rfl,rfl,rfl,rfl⟩;obtain⟨_,⟨_,e⟩|⟨h2,e⟩|⟨h2,e⟩⟩:=oZ ok hc
       ·rw[e]
       ·rw[e,h2]at hr;have:(3:Int)=2:=hr;omega
       ·rw[e,yW h2,yW (show(⟨(n.mo l.q).r,(n.mo l.q).e,(n.mo l.q).f,(n.mo l.q).t,(n.mo l.q).o+1,(n.mo l.q).es⟩:Bt).r=2 from h2)]
      ·rename_i hr;exact wr h ha rfl rfl rfl rfl (Vw hq ok hc hr)
   ·split
    ·unfold takeN;split
     ·exact same
     ·rename_i hi;split
      ·exact same
      ·exact wr h ha rfl rfl rfl rfl (Vx hq (Decidable.not_not.1 hi))
    ·have hm:Up (dH n l):=by
      unfold dH;split
      ·exact h.congr rfl rfl rfl rfl
      ·exact h
     have e:(dH n l).mo=n.mo∧(dH n l).af=n.af∧(dH n l).up=n.up∧(dH n l).i=n.i∧(dH n l).sk=n.sk∧(dH n l).ct=n.ct:=by
      unfold dH;split<;>exact⟨rfl,rfl,rfl,rfl,rfl,rfl⟩
     unfold iQ;split
     ·rename_i hf;refine wr hm (e.2.1.trans ha) e.2.2.1 e.2.2.2.1 e.2.2.2.2.1 e.2.2.2.2.2 ?_ (D:=(bC (n.mo l.q) l.pe).1);rw[e.1];exact RP hq ok hf
     ·exact⟨hm,e.2.2.1,e.2.2.2.1,e.2.2.2.2.1,e.2.2.2.2.2⟩
theorem w_:∀(k:Nat) {n:Nd} {s:Ws},Up n→Up (ee k n s).1∧(ee k n s).1.up=n.up∧(ee k n s).1.i=n.i∧(ee k n s).1.sk=n.sk∧(ee k n s).1.ct=n.ct
 |0,n,s,h=>⟨h,rfl,rfl,rfl,rfl⟩
 |k+1,n,s,h=>by
  unfold ee;split
  ·exact w_ k (n:={n with tu:=(n.tu+1) % 4}) (h.congr rfl rfl rfl rfl)
  ·exact⟨h.congr rfl rfl rfl rfl,rfl,rfl,rfl,rfl⟩
theorem KR:∀(k:Nat) {n:Nd} {s:Ws},Up n→n.af=none→(∀l∈n.wt,lT l)→Up (dU k n s).1∧(dU k n s).1.up=n.up∧(dU k n s).1.i=n.i∧(dU k n s).1.sk=n.sk∧(dU k n s).1.ct=n.ct
 |0,n,s,h,_,_=>w_ 4 h
 |k+1,n,s,h,ha,hw=>by
  unfold dU;split
  ·exact w_ 4 h
  ·rename_i l ls kK;have hl:lT l:=hw l (by rw[kK];exact List.mem_cons_self);have hd:=KQ (n:={n with wt:=ls}) (s:=s) (l:=l) (h.congr rfl rfl rfl rfl) ha hl;have hk:=(rW {n with wt:=ls} s l).1.2;split
   ·exact hd
   ·rename_i hs;have ha':(cp {n with wt:=ls} s l).1.af=none:=by
     cases hx:(cp {n with wt:=ls} s l).1.af with
     |none=>rfl
     |some x=>rw[hx]at hs;exact absurd rfl hs
    obtain⟨h1,h2,h3,h4,h5⟩:=KR k (s:=(cp {n with wt:=ls} s l).2) hd.1 ha' (fun x hx=>hw x (by rw[hk]at hx;rw[kK];exact List.mem_cons_of_mem _ hx));exact⟨h1,h2.trans hd.2.1,h3.trans hd.2.2.1,h4.trans hd.2.2.2.1,h5.trans hd.2.2.2.2⟩
theorem Steps.Wl{b:tF}{k:Nat}{rs:List (List Int)}(h:Steps b k rs):∀{k':Nat} {WT:List (List Int)},Steps b k' WT→WT.length=rs.length→k'=k∧WT=rs:=by
 induction h with
 |start=>
  intro k' WT h' hl;cases h' with
  |start=>exact⟨rfl,rfl⟩
  |more h1 hu=>simp at hl
 | @more k m rs zs h hu ih=>
  intro k' WT h' hl;cases h' with
  |start=>simp at hl
  | @more k2 m2 dx zs2 h2 hu2=>
   obtain⟨rfl,rfl⟩:=ih h2 (by simpa using hl);rw[hu]at hu2;cases hu2;exact⟨rfl,rfl⟩
theorem NU(dC dx:List (List Int))(hg:∀z∈dC++dx,kR z)(k:Nat)(UI:(aM dC).length≤k)(hk:k≤(aM (dC++dx)).length):∃j,bz ((aM (dC++dx)).take k)=(dC++dx.take j,(aM (dC++dx.take j)).length)∧(aM (dC++dx.take j)).length≤k:=by
 have hs:=(oW ((aM (dC++dx)).take k)).1;have hb:=(gz ((aM (dC++dx)).take k)).2;rw[List.length_take]at hb;obtain⟨more,h2,-⟩:=Nq (dC++dx) hg k hk;have h1:Steps (aM (dC++dx)) (bz ((aM (dC++dx)).take k)).2 (bz ((aM (dC++dx)).take k)).1:=hs.same (by rw[List.take_take,Nat.min_eq_left (by omega)]);have h3:Steps ((aM (dC++dx)).take k) (aM dC).length dC:=by
  have:=tv dC (aM dx) (fun z hz=>hg z (List.mem_append.2 (.inl hz)));rw[←ph]at this;exact this.same (by rw[List.take_take,Nat.min_eq_left UI])
 obtain⟨m1,h4,_,_⟩:=h3.prefix;have hp:dx=m1++more:=by
  rw[h4,List.append_assoc]at h2;exact List.append_cancel_left h2
 have ht:dx.take m1.length=m1:=by rw[hp,List.take_left' rfl]
 refine⟨m1.length, ?_⟩;rw[ht];have hn:(dC++dx).take (dC++m1).length=dC++m1:=by rw[hp,←List.append_assoc,List.take_left' rfl]
 have h5:=pZ (dC++dx) [] hg (dC++m1).length (by rw[hp];simp);rw[List.append_nil,hn]at h5;have h6:=(h1.Wl h5 (by rw[h4])).1;refine⟨Prod.ext h4 h6.symm, ?_⟩;rw[h6];omega
theorem Jf{r r':Rec}(h:bj r=bj r'):r=r':=by
 obtain⟨k,q,e,p,v⟩:=r;obtain⟨v1,v2,v3,v4,v5,v6⟩:=v;obtain⟨k',q',e',p',v'⟩:=r';obtain⟨u1,u2,u3,u4,u5,u6⟩:=v';simp only[bj,List.cons.injEq,and_true]at h;obtain⟨rfl,rfl,rfl,rfl,rfl,rfl,rfl,rfl,rfl,rfl⟩:=h;rfl
theorem mz:∀{a b:List Rec},a.map bj=b.map bj→a=b
 |[],[],_=>rfl
 |[],_::_,h=>by simp at h
 |_::_,[],h=>by simp at h
 |x::a,y::b,h=>by
  rw[List.map_cons,List.map_cons]at h;injection h with h1 h2
  rw[Jf h1,mz h2]
theorem KS{f g:Nat→Bt}(h:ko f=ko g):∀q,q<4→f q=g q:=by
 simp only[ko,List.cons.injEq,and_true]at h;exact qu h.1 h.2.1 h.2.2.1 h.2.2.2
structure zE(n:Nd)(dC dx:List Rec)(Bs:Nat→Bt):Prop where
 tm:zD (dC++dx) Bs
 rd:bz n.dl=((dC++dx).map bj,(bP (dC++dx)).length)
 tk:n.dl.take (bP (dC++dx)).length=bP (dC++dx)
 ct:n.ct=(bP dC).length
 lt:∀r∈dx,jB r→∃q:Nat,q<4∧r.q=(q:Int)∧0<(Bs q).es.length
def Dw(n:Nd):Prop:=∃dC dx Bs,zE n dC dx Bs
theorem Vy{len:Nat}{s kp:Int}(h:s≤len)(hk:0≤kp):s.toNat≤leftOf len s kp:=by
 unfold leftOf;split<;>omega
theorem Up.Jg{n:Nd}(h:Up n){kp:Int}(hk:0≤kp):∃dC dx Bs,zE (gS n kp) dC dx Bs∧∃ra Ba,dC=ra∧n.dl.take (bP ra).length=bP ra∧n.sy=((bP ra).length:Nat)∧zD ra Ba∧(∀q,q<4→Ba q=tb (n.mo q))∧((dx=[]∧Bs=Ba)∨∃rb a q D j E,n.af=some a∧Pd n.mo a rb q D∧dx=rb.take j∧jh (tb (n.mo q)) (rb.take j) E∧Bs=aj Ba q E):=by
 obtain⟨dC,dx,Bs,e1,e2,e3,e4,e5⟩:=h.ex;have hd:n.dl=bP (dC++dx):=by rw[e1,j7]
 have hsl:n.sy≤n.dl.length:=by rw[e2,e1,List.length_append];omega
 have Yp:(bP dC).length≤leftOf n.dl.length n.sy kp:=by
  have:=Vy (len:=n.dl.length) (kp:=kp) (s:=n.sy) hsl hk;omega
 have hhi:leftOf n.dl.length n.sy kp≤n.dl.length:=Gg;have ok2:∀r∈dx,nD r:=by
  rcases e5 with⟨_,e⟩|⟨a,q,D,_,p⟩
  ·rw[e];exact fun r hr=>by cases hr
  ·exact fun r hr=>(p.ok r hr).1
 have aeP:∀r∈dC++dx,nD r:=fun r hr=>(List.mem_append.1 hr).elim (e3.f r) (ok2 r);have hg:∀z∈dC.map bj++dx.map bj,kR z:=by rw[←List.map_append];exact Gn aeP
 have hf:bP (dC++dx)=aM (dC.map bj++dx.map bj):=by rw[iT,List.map_append]
 have j4:leftOf n.dl.length n.sy kp≤(aM (dC.map bj++dx.map bj)).length:=by rw[←hf,←hd];exact hhi
 obtain⟨j,hr,hj⟩:=NU (dC.map bj) (dx.map bj) hg (leftOf n.dl.length n.sy kp) (by rw[←iT];exact Yp) j4;have em:dC.map bj++(dx.map bj).take j=(dC++dx.take j).map bj:=by rw[List.map_append,List.map_take]
 rw[em,←iT]at hr hj;rw[←hf,←hd]at hr;have IM:(n.dl.take (leftOf n.dl.length n.sy kp)).take (bP (dC++dx.take j)).length=bP (dC++dx.take j):=by
  rw[List.take_take,Nat.min_eq_left hj,hd]
  conv=>lhs;arg 2;rw[←List.take_append_drop j dx,←List.append_assoc,j7]
  exact List.take_left' rfl
 have hct:(gS n kp).ct=(bP dC).length:=by show n.sy.toNat=_;omega
 have htr:n.dl.take (bP dC).length=bP dC:=by rw[e1];exact List.take_left' rfl
 rcases e5 with⟨_,e⟩|⟨a,q,D,hn,p⟩
 ·subst e;rw[List.take_nil]at hr IM;exact⟨dC,[],Bs,⟨by rw[List.append_nil];exact e3,hr,IM,hct,fun r hr=>by cases hr⟩,dC,Bs,rfl,htr,e2,e3,e4,.inl ⟨rfl,rfl⟩⟩
 ·obtain⟨E,hE⟩:=p.run.cut j;have hm:=zD.runs p.q4 hE (fun r hr=>p.ok r (List.mem_of_mem_take hr)) e3 (e4 q p.q4);refine⟨dC,dx.take j,aj Bs q E,⟨hm,hr,IM,hct,fun r hr hl=>⟨q,p.q4,(p.ok r (List.mem_of_mem_take hr)).2, ?_⟩⟩,dC,Bs,rfl,htr,e2,e3,e4,.inr ⟨dx,a,q,D,j,E,hn,p,rfl,hE,rfl⟩⟩;rw[au];exact hE.late (p.lt.take j) r hr hl
theorem Up.BN{n:Nd}(h:Up n){kp:Int}(hk:0≤kp):Dw (gS n kp):=by
 obtain⟨a,b,c,hd,_⟩:=h.Jg hk;exact⟨a,b,c,hd⟩
theorem YQ{a b:List Rec}:(bP a).length≤(bP (a++b)).length:=by rw[j7,List.length_append];omega
section
variable{n:Nd}{dC dx:List Rec}{Bs:Nat→Bt}
theorem zE.len(h:zE n dC dx Bs):(bP (dC++dx)).length≤n.dl.length:=by
 have:=(gz n.dl).2;rw[h.rd]at this;exact this
theorem zE.tp(h:zE n dC dx Bs)(hl:n.dl.length≤100000):WW n Bs (dC++dx) (bP (dC++dx)).length:=
 ⟨h.rd,KL h.tm.f,by have:=h.len;have:=Vt (rs:=dC++dx);omega,by rw[h.tm.b]⟩
theorem zE.cut(h:zE n dC dx Bs):(n.dl.take (bP (dC++dx)).length).drop n.ct=bP dx:=by
 rw[h.tk,h.ct,j7];exact List.drop_left' rfl
theorem zE.st(h:zE n dC dx Bs)(hl:n.dl.length≤100000):WU n Bs (dC++dx) (bP (dC++dx)).length dx (bP dx).length:=by
 have t:=h.tp hl;have ok2:∀r∈dx,nD r:=fun r hr=>h.tm.f r (List.mem_append.2 (.inr hr));refine⟨t.rd,t.wf,t.rl,t.ZA,fun q hq=>(h.tm.all q hq).1,by rw[h.ct];exact YQ,by rw[h.cut];exact yV ok2,KL ok2, ?_,fun r hr LM=> ?_⟩
 ·have:=t.rl;rw[List.length_append]at this;omega
 ·obtain⟨q,hq,e,hp⟩:=h.lt r hr LM;exact⟨q,hq,e,(h.tm.all q hq).1,hp⟩
theorem zE.uniq(h:zE n dC dx Bs){uv:Nat→Bt}{rs ps:List Rec}{kk Oq:Nat}(hs:WU n uv rs kk ps Oq):rs=dC++dx∧kk=(bP (dC++dx)).length∧ps=dx∧∀q,q<4→uv q=Bs q:=by
 have e:=hs.rd;rw[h.rd]at e;obtain⟨e1,e2⟩:=Prod.mk.inj e;have e1:=mz e1;subst e2;have e3:=hs.rd2;rw[h.cut,yV (fun r hr=>h.tm.f r (List.mem_append.2 (.inr hr)))]at e3;have e4:=hs.ZA;rw[←e1,h.tm.b]at e4;exact⟨e1.symm,rfl,(mz (Prod.mk.inj e3).1).symm,fun q hq=>(KS (Option.some.inj e4) q hq).symm⟩
end
theorem sb{B:Bt}(h:(a7 B).2=0)(h2:¬B.r=2):(¬B.r=1∧(a7 B).1=B)∨(B.r=1∧(a7 B).1=B.broken∧B.broken.Ok):=by
 unfold a7 at h⊢;by_cases ok:B.Ok
 ·rw[if_neg (fun g=>g ok)]at h⊢;by_cases h1:B.r=1
  ·rw[if_neg (fun g=>g (.inl h1))]at h⊢;by_cases hb:B.broken.Ok
   ·rw[if_neg (fun g=>g hb)];exact .inr ⟨h1,rfl,hb⟩
   ·rw[if_pos hb]at h;cases h
  ·rw[if_pos (by omega)];exact .inl ⟨h1,rfl⟩
 ·rw[if_pos ok]at h;cases h
theorem Gp{B:Bt}(ok:B.Ok)(h1:B.r=1):B.more [Ev.brk]=B.broken:=by
 have hs:=ok.cJ;unfold Bt.cC bw at hs;obtain⟨r,e,f,t,o,es⟩:=B;simp only at hs h1;obtain⟨_,_,_,h2,h3,h4⟩:r=1∧1≤e∧e≤1048576∧f=0∧t=0∧o=0:=by omega
 subst h1 h2 h3 h4;rfl
theorem Gq{rs:List Rec}{Bs:Nat→Bt}(h:zD rs Bs)(hw:∀q,q<4→(a7 (Bs q)).2=0):∀k,k≤4→zD (rs++aX Bs k) (fun q=>if q<k then(a7 (Bs q)).1 else Bs q)
 |0,_=>by
  rw[show(fun q=>if q<0 then(a7 (Bs q)).1 else Bs q)=Bs from funext fun q=>if_neg (Nat.not_lt_zero q)];show zD (rs++[]) Bs;rw[List.append_nil];exact h
 |k+1,hk=>by
  have ih:=Gq h hw k (by omega);obtain⟨ok,h2⟩:=h.all k (by omega);have fin:∀D,(a7 (Bs k)).1=D→(fun q=>if q<k+1 then(a7 (Bs q)).1 else Bs q)=aj (fun q=>if q<k then(a7 (Bs q)).1 else Bs q) k D:=fun D e=>by
   funext q;by_cases hq:q=k
   ·rw[hq,au,if_pos (by omega),e]
   ·rw[bk hq];by_cases aL:q<k
    ·rw[if_pos aL,if_pos (by omega)]
    ·rw[if_neg aL,if_neg (by omega)]
  rcases sb (hw k (by omega)) h2 with⟨h1,e⟩|⟨h1,e,hb⟩
  ·rw[qw h1,fin _ e,show Bs k=(fun q=>if q<k then(a7 (Bs q)).1 else Bs q) k from(if_neg (Nat.lt_irrefl k)).symm,my];exact ih
  ·have hs:=ok.cJ;unfold Bt.cC bw at hs;have hf:(qY Bs k).fault=0:=yU (q:=k) (e:=(Bs k).e) (v:=Ev.brk) ⟨by omega,by omega⟩ (by omega) Ev.CS;rw[oR h1,fin _ e,←List.append_assoc];refine ih.snoc ⟨hf,fun g=>absurd (.inl rfl) g⟩ (by omega) rfl ?_;rw[if_neg (Nat.lt_irrefl k)];refine eJ ok hf ?_ hb;unfold cE;rw[if_neg (by show ¬(2:Int)=1;decide),if_pos rfl,if_pos ⟨rfl,rfl,h1⟩];exact congrArg some (Gp ok h1)
theorem yY{n:Nd}{s:Ws}{dC dx:List Rec}{Bs:Nat→Bt}(h:zE n dC dx Bs)(hl:n.dl.length≤100000)(hu:n.up=false)(hk:n.sk=false):∃uv,(∀q,q<4→uv q=Bs q)∧du n s=iR n s uv (bP (dC++dx)).length dx:=by
 have hx:∃x:(Nat→Bt)×List Rec×Nat×List Rec×Nat,WU n x.1 x.2.1 x.2.2.1 x.2.2.2.1 x.2.2.2.2:=⟨(Bs,_,_,_,_),h.st hl⟩;have e:du n s=iR n s hx.choose.1 hx.choose.2.2.1 hx.choose.2.2.2.1:=by
  unfold du;rw[if_neg (by rw[hu,hk];simp),dif_pos hx]
 obtain⟨_,e2,e3,e4⟩:=h.uniq hx.choose_spec;rw[e2,e3]at e;exact⟨_,e4,e⟩
theorem o4{Bs uv:Nat→Bt}:∀k,k≤4→(∀q,q<4→uv q=Bs q)→aX uv k=aX Bs k
 |0,_,_=>rfl
 |k+1,hk,h=>by
  have e:=h k (by omega);unfold aX;rw[o4 k (by omega) h,e,show qY uv k=qY Bs k by unfold qY;rw[e]]
theorem Jh{n:Nd}{dC dx:List Rec}{Bs uv:Nat→Bt}(h:zE n dC dx Bs)(hB:∀q,q<4→uv q=Bs q)(hw:∀q,q<4→(a7 (uv q)).2=0):Up {n with up:=true,dl:=n.dl.take (bP (dC++dx)).length++bP (aX uv 4),sy:=(((bP (dC++dx)).length+(bP (aX uv 4)).length:Nat):Int),mo:=fun q=>(a7 (uv q)).1,hn:=eD 4,he:=bD,wt:=[],af:=none,tu:=0}:=by
 rw[o4 4 (Nat.le_refl _) hB];have hw':∀q,q<4→(a7 (Bs q)).2=0:=fun q hq=>hB q hq▸hw q hq;have hm:=Gq h.tm hw' 4 (Nat.le_refl _);refine⟨fun q hq=> ?_,(dC++dx)++aX Bs 4,[],_, ?_, ?_,hm,fun q hq=> ?_,.inl ⟨rfl,rfl⟩⟩
 ·have:=hm.all q hq;rw[if_pos hq]at this;show(a7 (uv q)).1.Ok;rw[hB q hq];exact this.1
 ·show n.dl.take _++_=_;rw[h.tk,←j7];simp[bP]
 ·show(((bP (dC++dx)).length+(bP (aX Bs 4)).length:Nat):Int)=_;rw[j7 (dC++dx),List.length_append]
 ·have:=hm.all q hq;rw[if_pos hq]at this⊢;show _=tb (a7 (uv q)).1;rw[hB q hq,jD this.2]
theorem BO{n:Nd}{dC dx:List Rec}{Bs:Nat→Bt}{sy:Int}(h:zE n dC dx Bs):zE {n with dl:=n.dl.take (bP (dC++dx)).length,sy:=sy,sk:=true} dC dx Bs:=by
 refine⟨h.tm, ?_, ?_,h.ct,h.lt⟩
 ·have:=Gi n.dl;rw[h.rd]at this;exact this
 ·show(n.dl.take _).take _=_;rw[List.take_take,Nat.min_self];exact h.tk
structure Gr(l:Lt):Prop where
 ok:Q5 l
 f0:0≤l.fr
 f5:l.fr<5
structure NI(i:Nat)(n:Nd):Prop where
 i:n.i=i
 tu:n.tu<4
 wt:∀l∈n.wt,lT l
 ln:n.dl.length≤100000
 up:n.up=true→Up n
 dw:n.up=false→Dw n
structure pt(k m:Nat)(s s':Ws):Prop where
 fl:∃L,s'.fl=s.fl++L∧L.length≤k∧∀l∈L,Gr l
 sv:∃L,s'.sv=s.sv++L∧L.length≤m
 td:s'.td=s.td
 pn:s'.pn=s.pn
 pe:s'.pe=s.pe
 cs:s'.cs=s.cs
theorem pt.refl(s:Ws):pt 0 0 s s:=⟨⟨[],(List.append_nil _).symm,Nat.le_refl _,fun _ h=>by cases h⟩,⟨[],(List.append_nil _).symm,Nat.le_refl _⟩,rfl,rfl,rfl,rfl⟩
theorem pt.mono{k m k' m':Nat}{s s':Ws}(h:pt k m s s')(hk:k≤k')(hm:m≤m'):pt k' m' s s':=by
 obtain⟨L,e1,e2,e3⟩:=h.fl;obtain⟨M,e4,e5⟩:=h.sv;exact⟨⟨L,e1,by omega,e3⟩,⟨M,e4,by omega⟩,h.td,h.pn,h.pe,h.cs⟩
theorem pt.trans{k m k' m':Nat}{s s' s'':Ws}(h:pt k m s s')(g:pt k' m' s' s''):pt (k+k') (m+m') s s'':=by
 obtain⟨L,e1,e2,e3⟩:=h.fl;obtain⟨M,e4,e5⟩:=h.sv;obtain⟨L',f1,f2,f3⟩:=g.fl;obtain⟨M',f4,f5⟩:=g.sv;refine⟨⟨L++L',by rw[f1,e1,List.append_assoc],by rw[List.length_append];omega,fun l hl=>(List.mem_append.1 hl).elim (e3 l) (f3 l)⟩,⟨M++M',by rw[f4,e4,List.append_assoc],by rw[List.length_append];omega⟩,g.td.trans h.td,g.pn.trans h.pn,g.pe.trans h.pe,g.cs.trans h.cs⟩
theorem nG{s:Ws}{l:Lt}(h:Gr l):pt 1 0 s (fM s l):=⟨⟨[l],rfl,Nat.le_refl _,fun x hx=>by rw[List.mem_singleton.1 hx];exact h⟩,⟨[],(List.append_nil _).symm,Nat.le_refl _⟩,rfl,rfl,rfl,rfl⟩
theorem BP{s:Ws}{n:Nd}{q:Nat}{e:Ev}{an:An}{nu:Int}:pt 0 1 s (oT s n q e an nu):=⟨⟨[],(List.append_nil _).symm,Nat.le_refl _,fun _ h=>by cases h⟩,⟨_,rfl,Nat.le_refl _⟩,rfl,rfl,rfl,rfl⟩
theorem Gs(nu:Int)(an:An)(pn pe:Int):Gr (lO nu an pn pe):=⟨⟨.inl rfl⟩,Int.le_refl 0,(by decide:(0:Int)<5)⟩
theorem KT{B:Bt}(ok:B.Ok):(0≤B.f∧B.f<5)∧(0≤B.t∧B.t<5)∧0≤B.e∧B.e≤1048576:=by
 have hs:=ok.cJ;unfold Bt.cC bw at hs;omega
section
variable{i q:Nat}{B:Bt}
theorem DH(hi:i<5)(hq:q<4)(ok:B.Ok):Gr (Bv i B q):=⟨⟨.inr (.inr (.inr ⟨⟨hq,.inr (.inr (.inl rfl)),pV,Nat.zero_le _⟩,(KT ok).1⟩))⟩,Int.natCast_nonneg _,Int.ofNat_lt.2 hi⟩
theorem RS{fr:Int}(hf:0≤fr∧fr<5)(hq:q<4)(pn pe:Int):Gr (pT fr q pn pe):=⟨⟨.inr (.inr (.inr ⟨⟨hq,.inr (.inr (.inr (.inr rfl))),pV,Nat.zero_le _⟩,hf⟩))⟩,Int.le_refl 0,(by decide:(0:Int)<5)⟩
theorem Vz{nd:Int}(hf:0≤nd∧nd<5)(hq:q<4){nu:Int}{op:Ev}(ho:∀x∈aY op,(Lit.int .i64 x).wf=true):Gr (q7 nd q nu op):=⟨⟨.inr (.inr (.inr ⟨⟨hq,.inl rfl,ho,Nat.zero_le _⟩,hf⟩))⟩,Int.le_refl 0,(by decide:(0:Int)<5)⟩
theorem VA(hi:i<5)(hq:q<4)(ok:B.Ok){hv:Int}{es:List Ev}(he:es.length≤2000){la:Bool}:Gr (Kv i B q hv es la):=⟨⟨.inr (.inr (.inr ⟨⟨hq,.inr (.inr (.inr (.inl rfl))),pV,he⟩,(KT ok).2.1⟩))⟩,Int.natCast_nonneg _,Int.ofNat_lt.2 hi⟩
theorem KU(hi:i<5)(hq:q<4)(ok:B.Ok):Gr (FR i B q):=⟨⟨.inr (.inr (.inr ⟨⟨hq,.inr (.inl rfl),pV,Nat.zero_le _⟩,(KT ok).2.1⟩))⟩,Int.natCast_nonneg _,Int.ofNat_lt.2 hi⟩
theorem VB(hi:i<5)(hq:q<4):Gr (QA i q):=⟨⟨.inr (.inr (.inl ⟨rfl,hq⟩))⟩,Int.natCast_nonneg _,Int.ofNat_lt.2 hi⟩
theorem RU(hi:i<5)(hq:q<4)(ok:B.Ok):Gr (IJ i B q):=by
 have:=(KT ok).2.2;exact⟨⟨.inr (.inl ⟨rfl,hq,by show-1000000000≤B.e;omega,by show B.e≤1000000000;omega⟩)⟩,Int.natCast_nonneg _,Int.ofNat_lt.2 hi⟩
end
theorem sd{n:Nd}{s:Ws}{l:Lt}{an:An}:pt 1 1 s (gM n s l an):=(BP.trans (nG (Gs _ _ _ _))).mono (by omega) (by omega)
theorem RV{B:Bt}{hv:Int}:(partOf B hv).1.length≤2000:=by
 unfold partOf;split
 ·exact Nat.zero_le _
 ·simp only[List.length_take];omega
theorem Gt{n:Nd}{s:Ws}{q:Nat}{hv:Int}(hi:n.i<5)(hq:q<4)(ok:(n.mo q).Ok):pt 1 0 s (pU n s q hv):=by
 unfold pU;split
 ·exact nG (VA hi hq ok RV)
 ·exact(pt.refl s).mono (by omega) (by omega)
theorem WZ{n n':Nd}{a:Af}{rs:List Rec}(h:mO n a rs=some n'):n'.af=some a∧n'.dl.length≤100000∧n'.tu=n.tu∧n'.wt=n.wt:=by
 unfold mO at h;split at h
 ·rename_i hl;cases h;exact⟨rfl,by show(n.dl++bP rs).length≤100000;rw[List.length_append];exact hl,rfl,rfl⟩
 ·cases h
theorem RX{n:Nd}{s:Ws}{l:Lt}(h:Up n)(ha:n.af=none)(hi:n.i<5)(hl:n.dl.length≤100000)(hw:lT l):(cp n s l).1.dl.length≤100000∧(((cp n s l).1.af=none∧pt 1 1 s (cp n s l).2)∨((cp n s l).1.af.isSome∧(cp n s l).2=s)):=by
 have hq:=hw.q;have ok:=h.mo l.q hq;have r0:pt 1 1 s s:=(pt.refl s).mono (by omega) (by omega);have same:n.dl.length≤100000∧((n.af=none∧pt 1 1 s s)∨(n.af.isSome∧s=s)):=⟨hl,.inl ⟨ha,r0⟩⟩;have wr:∀{m:Nd} {a:Af} {rs:List Rec},m.dl.length≤100000→m.af=none→((mO m a rs).getD m).dl.length≤100000∧((((mO m a rs).getD m).af=none∧pt 1 1 s s)∨(((mO m a rs).getD m).af.isSome∧s=s)):=fun {m a rs} hm hma=>by
  cases D7:mO m a rs with
  |none=>exact⟨hm,.inl ⟨hma,r0⟩⟩
  |some x=>
   obtain⟨k1,k2,_,_⟩:=WZ D7;exact⟨k2,.inr ⟨by show x.af.isSome;rw[k1];rfl,rfl⟩⟩
 unfold cp;split
 ·unfold fO;split
  ·exact⟨hl,.inl ⟨ha,(nG (Gs _ _ _ _)).mono (by omega) (by omega)⟩⟩
  ·split
   ·exact⟨hl,.inl ⟨ha,sd⟩⟩
   ·split
    ·rename_i n' hn;obtain⟨k1,k2,_,_⟩:=WZ hn;exact⟨k2,.inr ⟨by rw[k1];rfl,rfl⟩⟩
    ·exact⟨hl,.inl ⟨ha,sd⟩⟩
 ·split
  ·unfold iP;split
   ·exact same
   ·split
    ·exact⟨hl,.inl ⟨ha,(nG (DH hi hq ok)).mono (by omega) (by omega)⟩⟩
    ·exact wr hl ha
  ·split
   ·unfold gJ;split
    ·exact same
    ·split
     ·exact same
     ·split
      ·refine⟨hl,.inl ⟨ha, ?_⟩⟩;refine(Gt (n:={n with mo:=aj n.mo l.q (aW (n.mo l.q) l.pl).1}) hi hq ?_).mono (by omega) (by omega);show(aj n.mo l.q (aW (n.mo l.q) l.pl).1 l.q).Ok;rw[au];exact nr (er:=(aW (n.mo l.q) l.pl).2) rfl
      ·exact wr hl ha
   ·split
    ·unfold takeN;split
     ·exact same
     ·split
      ·exact same
      ·exact wr hl ha
    ·have e:(dH n l).dl=n.dl∧(dH n l).af=n.af:=by
      unfold dH;split<;>exact⟨rfl,rfl⟩
     unfold iQ;split
     ·exact wr (by rw[e.1];exact hl) (e.2.trans ha)
     ·exact⟨by rw[e.1];exact hl,.inl ⟨e.2.trans ha,r0⟩⟩
theorem RY{mo:Nat→Bt}{q:Nat}{B:Bt}(h:∀p,p<4→(mo p).Ok)(ok:B.Ok):∀p,p<4→(aj mo q B p).Ok:=fun p hp=>by
 by_cases e:p=q
 ·rw[e,au];exact ok
 ·rw[bk e];exact h p hp
theorem qC{n:Nd}{s:Ws}{a:Af}(h:Up n)(ha:n.af=some a)(hi:n.i<5):pt 1 1 s (eP {n with sy:=n.dl.length,af:=none} s a).2:=by
 have hu:=h.sync (s:=s) ha;obtain⟨dC,dx,Bs,e1,e2,e3,e4,e5⟩:=h.ex;rcases e5 with e5|⟨a',q,D,h1,p⟩
 ·rw[ha]at e5;cases e5.1
 rw[ha]at h1;cases h1;have hq:=p.q4;cases a with
 |serve l an=>exact sd
 |begin l B=>
  obtain⟨rfl,_,rfl⟩:=p.af;exact(nG (DH hi hq (hu.mo l.q hq))).mono (by omega) (by omega)
 |shut l B=>
  obtain⟨rfl,_,rfl⟩:=p.af;exact(Gt (n:={n with sy:=n.dl.length,af:=none,mo:=aj n.mo l.q D}) hi hq (hu.mo l.q hq)).mono (by omega) (by omega)
 |take l B=>
  obtain⟨rfl,_,rfl⟩:=p.af;have hm:=hu.mo l.q hq;show pt 1 1 s (if D.r=1 then _ else _);split
  ·exact BP.mono (by omega) (by omega)
  ·exact(nG (DH hi hq hm)).mono (by omega) (by omega)
 |jz p' B=>exact(pt.refl s).mono (by omega) (by omega)
theorem YR{n:Nd}{q:Nat}(h:Up n)(hi:n.i<5)(hq:q<4):(eW n q).length≤2∧∀l∈eW n q,Gr l:=by
 have ok:=h.mo q hq;unfold eW;split
 ·exact⟨by simp,fun l hl=>by rw[List.mem_singleton.1 hl];exact KU hi hq ok⟩
 ·split
  ·refine⟨by simp,fun l hl=> ?_⟩;rcases List.mem_cons.1 hl with rfl|hl
   ·exact KU hi hq ok
   ·rw[List.mem_singleton.1 hl];exact VB hi hq
  ·split
   ·exact⟨by simp,fun l hl=>by rw[List.mem_singleton.1 hl];exact RU hi hq ok⟩
   ·exact⟨by simp,fun l hl=>by cases hl⟩
theorem ue:∀(k:Nat) {n:Nd} {s:Ws},Up n→n.i<5→n.tu<4→pt 2 0 s (ee k n s).2∧(ee k n s).1.wt=n.wt∧(ee k n s).1.af=n.af∧(ee k n s).1.dl=n.dl∧(ee k n s).1.tu<4
 |0,n,s,_,_,ht=>⟨(pt.refl s).mono (by omega) (by omega),rfl,rfl,rfl,ht⟩
 |k+1,n,s,h,hi,ht=>by
  unfold ee;split
  ·exact ue k (n:={n with tu:=(n.tu+1) % 4}) (h.congr rfl rfl rfl rfl) hi (Nat.mod_lt _ (by decide))
  ·obtain⟨h1,h2⟩:=YR h hi ht;exact⟨⟨⟨_,rfl,h1,h2⟩,⟨[],(List.append_nil _).symm,Nat.le_refl _⟩,rfl,rfl,rfl,rfl⟩,rfl,rfl,rfl,Nat.mod_lt _ (by decide)⟩
def cN(n:Nd):Nat:=n.wt.length+(if n.af.isSome then 1 else 0)
theorem qa:∀(k:Nat) {n:Nd} {s:Ws},Up n→n.af=none→n.i<5→n.tu<4→n.dl.length≤100000→(∀l∈n.wt,lT l)→(∃a b,pt a b s (dU k n s).2∧a+cN (dU k n s).1≤n.wt.length+2∧b≤n.wt.length)∧(dU k n s).1.tu<4∧(dU k n s).1.dl.length≤100000∧∀l∈(dU k n s).1.wt,lT l
 |0,n,s,h,ha,hi,ht,hl,hw=>by
  obtain⟨h1,h2,h3,h4,h5⟩:=ue 4 (s:=s) h hi ht;refine⟨⟨2,0,h1, ?_,Nat.zero_le _⟩,h5,by rw[show(dU 0 n s).1.dl=n.dl from h4];exact hl,by rw[show(dU 0 n s).1.wt=n.wt from h2];exact hw⟩;show 2+cN (ee 4 n s).1≤_;unfold cN;rw[h2,h3,ha];simp;omega
 |k+1,n,s,h,ha,hi,ht,hl,hw=>by
  unfold dU;split
  ·rename_i kK;obtain⟨h1,h2,h3,h4,h5⟩:=ue 4 (s:=s) h hi ht;refine⟨⟨2,0,h1, ?_,Nat.zero_le _⟩,h5,by rw[h4];exact hl,by rw[h2];exact hw⟩;unfold cN;rw[h2,h3,ha];simp;omega
  ·rename_i l ls kK;have Dm:lT l:=hw l (by rw[kK];exact List.mem_cons_self);have hu:Up {n with wt:=ls}:=h.congr rfl rfl rfl rfl;have hd:=KQ (n:={n with wt:=ls}) (s:=s) (l:=l) hu ha Dm;have hs:=RX (n:={n with wt:=ls}) (s:=s) (l:=l) hu ha hi hl Dm;have hk:=(rW {n with wt:=ls} s l).1;have hws:∀x∈ls,lT x:=fun x hx=>hw x (by rw[kK];exact List.mem_cons_of_mem _ hx);have hlen:n.wt.length=ls.length+1:=by rw[kK];rfl
   have Kw:(cp {n with wt:=ls} s l).1.wt=ls:=hk.2;split
   ·rename_i rX;rcases hs.2 with⟨e,_⟩|⟨_,e⟩
    ·rw[e]at rX;cases rX
    ·refine⟨⟨0,0, ?_, ?_,Nat.zero_le _⟩,by rw[hk.1];exact ht,hs.1,by rw[Kw];exact hws⟩
     ·rw[e];exact pt.refl s
     ·unfold cN;rw[Kw,if_pos rX];omega
   ·rename_i rX;rcases hs.2 with⟨e,g⟩|⟨e,_⟩
    ·obtain⟨⟨a,b,g1,g2,g3⟩,g4,g5,g6⟩:=qa k (s:=(cp {n with wt:=ls} s l).2) hd.1 e (by rw[hd.2.2.1];exact hi) (by rw[hk.1];exact ht) hs.1 (by rw[Kw];exact hws);rw[Kw]at g2 g3;exact⟨⟨1+a,1+b,g.trans g1,by omega,by omega⟩,g4,g5,g6⟩
    ·exact absurd e rX
def qd(ns:Nat→Nd):Nat:=cN (ns 0)+cN (ns 1)+cN (ns 2)+cN (ns 3)+cN (ns 4)
theorem DI(ns:Nat→Nd)(n':Nd){i:Nat}(hi:i<5):qd (aj ns i n')+cN (ns i)=qd ns+cN n':=by
 unfold qd aj;obtain rfl|rfl|rfl|rfl|rfl:i=0∨i=1∨i=2∨i=3∨i=4:=by omega
 all_goals simp
 all_goals omega
theorem RZ{ns:Nat→Nd}{i:Nat}(hi:i<5):cN (ns i)≤qd ns:=by
 unfold qd;obtain rfl|rfl|rfl|rfl|rfl:i=0∨i=1∨i=2∨i=3∨i=4:=by omega
 all_goals omega
structure Inv(k:Nat)(p:(Nat→Nd)×Ws):Prop where
 n:∀i,i<5→NI i (p.1 i)
 fl:∀l∈p.2.fl,Gr l
 dir:dB p.2.pn p.2.pe
 t:p.2.fl.length+qd p.1≤2*k
 sv:p.2.sv.length≤300000*k
 td:p.2.td.length≤300000*k
 c0:0≤p.2.cs
 c1:p.2.cs≤k
theorem Inv.gd{k:Nat}{p:(Nat→Nd)×Ws}(h:Inv k p)(hk:k≤100000):GdT p:=by
 have ht:=h.t;have hs:=h.sv;have hd:=h.td;have hc:=h.c1;have st:∀i,i<5→(p.1 i).up=false→∃dC dx Bs,zE (p.1 i) dC dx Bs:=fun i hi hu=>(h.n i hi).dw hu;refine⟨⟨fun i hi=>(h.n i hi).tu,fun i hi=>(h.n i hi).wt,fun l hl=>(h.fl l hl).ok,h.dir,fun i hi hu _=> ?_,by omega,by omega,by omega,fun i hi=> ?_,h.c0,by omega⟩,fun i hi hu=> ?_⟩
 ·obtain⟨dC,dx,Bs,hp⟩:=st i hi hu;exact⟨Bs,_,_,dx,_,hp.st (h.n i hi).ln⟩
 ·have:=RZ (ns:=p.1) hi;unfold cN at this;omega
 ·obtain⟨dC,dx,Bs,hp⟩:=st i hi hu;exact⟨Bs,_,_,hp.tp (h.n i hi).ln⟩
section
variable{k:Nat}{ns:Nat→Nd}{s:Ws}
theorem DJ{P:Nat→Nd→Prop}(h:∀i,i<5→P i (ns i)){i:Nat}{n':Nd}(hn:P i n'):∀j,j<5→P j (aj ns i n' j):=fun j hj=>by
 by_cases e:j=i
 ·subst e;rw[au];exact hn
 ·rw[bk e];exact h j hj
theorem Inv.piece(h:Inv k (ns,s)){i:Nat}(hi:i<5){n':Nd}{s':Ws}{a b:Nat}(hn:NI i n')(hs:pt a b s s')(ha:a+cN n'≤cN (ns i)+2)(hb:b≤300000):Inv (k+1) (aj ns i n',s'):=by
 obtain⟨L,e1,e2,e3⟩:=hs.fl;obtain⟨M,e4,e5⟩:=hs.sv;have ht:=h.t;have hv:=h.sv;have hd:=h.td;have hc:=h.c1;have hu:=DI ns n' hi;simp only at ht hv hd hc;refine⟨DJ h.n hn,fun l hl=> ?_, ?_, ?_, ?_, ?_, ?_, ?_⟩
 ·rw[e1]at hl;exact(List.mem_append.1 hl).elim (h.fl l) (e3 l)
 ·show dB s'.pn s'.pe;rw[hs.pn,hs.pe];exact h.dir
 ·show s'.fl.length+qd (aj ns i n')≤_;rw[e1,List.length_append];omega
 ·show s'.sv.length≤_;rw[e4,List.length_append];omega
 ·show s'.td.length≤_;rw[hs.td];omega
 ·show 0≤s'.cs;rw[hs.cs];exact h.c0
 ·show s'.cs≤_;rw[hs.cs];omega
theorem Inv.next(h:Inv k (ns,s)):Inv (k+1) (ns,s):=by
 have ht:=h.t;have hv:=h.sv;have hd:=h.td;have hc:=h.c1;exact⟨h.n,h.fl,h.dir,by omega,by omega,by omega,h.c0,by omega⟩
theorem VE{i:Nat}{n:Nd}(h:NI i n)(hi:i<5):NI i (eN n s).1∧∃a b,pt a b s (eN n s).2∧a+cN (eN n s).1≤cN n+2∧b≤n.wt.length+1:=by
 have GS:n.i<5:=by rw[h.i];exact hi
 by_cases hu:n.up=false
 ·rw[qz hu];exact⟨h,0,0,pt.refl s,(by show 0+cN n≤cN n+2;omega),Nat.zero_le _⟩
 ·have hu:n.up=true:=by
   cases hx:n.up with
   |true=>rfl
   |false=>exact absurd hx hu
  have up:=h.up hu;cases ha:n.af with
  |some a=>
   rw[qA hu ha];have h1:=up.sync (s:=s) ha;have h2:=qC (s:=s) up ha GS;have h3:∀a,(eP {n with sy:=n.dl.length,af:=none} s a).1.i=n.i∧(eP {n with sy:=n.dl.length,af:=none} s a).1.tu=n.tu∧(eP {n with sy:=n.dl.length,af:=none} s a).1.wt=n.wt∧(eP {n with sy:=n.dl.length,af:=none} s a).1.dl=n.dl∧(eP {n with sy:=n.dl.length,af:=none} s a).1.up=n.up∧(eP {n with sy:=n.dl.length,af:=none} s a).1.af=none:=fun a=>by
    cases a<;>exact⟨rfl,rfl,rfl,rfl,rfl,rfl⟩
   obtain⟨e1,e2,e3,e4,e5,e6⟩:=h3 a;refine⟨⟨e1.trans h.i,by rw[e2];exact h.tu,by rw[e3];exact h.wt,by rw[e4];exact h.ln,fun _=>h1,fun g=> ?_⟩,1,1,h2, ?_,by omega⟩
   ·rw[e5,hu]at g;cases g
   ·unfold cN;rw[e3,e6,ha];simp;omega
  |none=>
   rw[ny hu ha];obtain⟨⟨a,b,g1,g2,g3⟩,g4,g5,g6⟩:=qa n.wt.length (s:=s) up ha GS h.tu h.ln h.wt;obtain⟨w1,w2,w3,_,_⟩:=KR n.wt.length (s:=s) up ha h.wt;refine⟨⟨w3.trans h.i,g4,g6,g5,fun _=>w1,fun g=> ?_⟩,a,b,g1, ?_,by omega⟩
   ·rw[w2,hu]at g;cases g
   ·unfold cN;unfold cN at g2;rw[ha];simp;omega
theorem R9{i:Nat}{n:Nd}(h:NI i n){kp:Int}(hk:0≤kp):NI i (mK n kp)∧cN (mK n kp)≤cN n:=by
 unfold mK;split
 ·rename_i hu;refine⟨⟨h.i,(show(0:Nat)<4 by decide),(fun l hl=>by cases hl), ?_,(fun g=>by cases g),fun _=>(h.up hu).BN hk⟩,Nat.zero_le _⟩;show(n.dl.take _).length≤_;have:=h.ln;rw[List.length_take];omega
 ·exact⟨h,Nat.le_refl _⟩
theorem R_{i:Nat}{n:Nd}(h:NI i n):NI i (du n s).1∧pt 0 200000 s (du n s).2∧cN (du n s).1≤cN n:=by
 by_cases kx:n.up=true∨n.sk=true
 ·have e:du n s=(n,s):=if_pos kx;rw[e];exact⟨h,(pt.refl s).mono (by omega) (by omega),Nat.le_refl _⟩
 ·have hu:n.up=false:=by
   cases hx:n.up with
   |true=>exact absurd (.inl hx) kx
   |false=>rfl
  have hk:n.sk=false:=by
   cases hx:n.sk with
   |true=>exact absurd (.inr hx) kx
   |false=>rfl
  obtain⟨dC,dx,Bs,hp⟩:=h.dw hu;obtain⟨uv,hB,e⟩:=yY (s:=s) hp h.ln hu hk;rw[e];have gx:=hp.st h.ln;unfold iR;split
  ·rename_i hc;refine⟨⟨h.i,(show(0:Nat)<4 by decide),(fun l hl=>by cases hl), ?_,(fun _=>Jh hp hB hc.1),(fun g=>by cases g)⟩,⟨⟨[],(List.append_nil _).symm,Nat.le_refl _,(fun _ h=>by cases h)⟩,⟨_,List.append_assoc .., ?_⟩,rfl,rfl,rfl,rfl⟩,Nat.zero_le _⟩
   ·show(n.dl.take _++bP _).length≤_;rw[List.length_append,List.length_take];have:=hc.2;omega
   ·rw[List.length_append,List.length_map];have h1:=u9 (i:=n.i) (Bs:=uv) (ps:=dx);have h2:=lN uv 4;have h3:=gx.pl;omega
  ·refine⟨⟨h.i,h.tu,h.wt, ?_,fun g=> ?_,fun _=>⟨dC,dx,Bs,BO hp⟩⟩,(pt.refl s).mono (by omega) (by omega),Nat.le_refl _⟩
   ·show(n.dl.take _).length≤_;have:=h.ln;rw[List.length_take];omega
   ·have:n.up=true:=g;rw[hu]at this;cases this
theorem BQ{n:Nd}{q:Nat}(h:Up n)(hq:q<4)(ha:n.af=none)(hm:(fJ (n.mo q) 1).2=0):Up {n with dl:=n.dl++bP [aI q],sy:=((n.dl.length+(bP [aI q]).length:Nat):Int),mo:=aj n.mo q ⟨1,1,0,0,0,[]⟩}:=by
 obtain⟨dC,dx,Bs,e1,e2,e3,e4,e5⟩:=h.ex;have e0:dx=[]:=by
  rcases e5 with e5|⟨a,q',D,h1,_⟩
  ·exact e5.2
  ·rw[ha]at h1;cases h1
 subst e0;have ok:=h.mo q hq;have h0:(n.mo q).r=0∧(n.mo q).e<1:=by
  unfold fJ at hm;rw[if_neg (fun g=>g ok),if_neg (fun g=>g (by decide))]at hm;split at hm
  ·cases hm
  ·rename_i g;split at hm
   ·cases hm
   ·exact⟨Decidable.not_not.1 g,by omega⟩
 have ZC:(⟨1,1,0,0,0,[]⟩:Bt).Ok:=⟨.inr (.inl ⟨rfl,by decide,by decide,rfl,rfl,rfl⟩),by decide,St.zero,[],.nil⟩;have hf:=oQ hq;have hap:dT (Bs q) (aI q)=(⟨1,1,0,0,0,[]⟩,0):=by
  rw[e4 q hq,jD (by omega)];refine eJ ok hf ?_ ZC;unfold cE;rw[if_pos rfl,if_pos ⟨rfl,h0⟩]
 have we:=e3.snoc ⟨hf,fun _=>rfl⟩ hq rfl hap;refine⟨RY h.mo ZC,dC++[aI q],[],_, ?_, ?_,we,fun p hp=> ?_,.inl ⟨ha,rfl⟩⟩
 ·show n.dl++bP [aI q]=_;rw[e1,j7];simp[bP]
 ·show((n.dl.length+(bP [aI q]).length:Nat):Int)=_;rw[e1,j7,List.length_append,List.length_append];simp[bP]
 ·show _=tb (aj n.mo q _ p);by_cases e:p=q
  ·rw[e,au,au];rfl
  ·rw[bk e,bk e];exact e4 p hp
theorem DK{pn pe:tG}{q:Nat}{x y:Int}(h:dB pn pe)(hp:E_ x y):dB (cP pn q x) (cP pe q y):=fun p hp'=>by
 unfold cP;by_cases e:p=q
 ·rw[if_pos e,if_pos e];exact hp
 ·rw[if_neg e,if_neg e];exact h p hp'
theorem Ji{B B':Bt}{v:Ev}{an:An}(h:cO B v B' an true 0):∃s bu s',v.Ok∧¬v.k=4∧bm B.es s bu∧Step s v s' an true∧B.es.length<1999:=by
 generalize hc:true=c at h;cases h with
 |done h1 h2 h3 h4 s bu h5 s' _ h6 h7=>exact⟨s,bu,s',h2,h3,h5,h6,h7⟩
 |_=>cases hc
theorem go_up{n:Nd}{q:Nat}{tg:Int}(h:Up n)(hq:q<4)(hg:(dQ (n.mo q) tg).2=0):Up {n with mo:=aj n.mo q (dQ (n.mo q) tg).1}:=by
 have ok:=h.mo q hq;have hB:(dQ (n.mo q) tg).1.Ok:=KG (er:=(dQ (n.mo q) tg).2) rfl;have hs:=ok.cJ;unfold Bt.cC bw at hs;have hr:(n.mo q).r=1∧(dQ (n.mo q) tg).1=⟨2,(n.mo q).e,(n.mo q).f,tg,(n.mo q).o,(n.mo q).es⟩:=by
  unfold dQ at hg⊢;rw[if_neg (fun g=>g ok)]at hg⊢;split at hg
  ·cases hg
  ·rename_i g1;rw[if_neg g1];split at hg
   ·cases hg
   ·rename_i g2;rw[if_neg g2];split at hg
    ·cases hg
    ·rename_i g3;rw[if_neg g3];split at hg
     ·cases hg
     ·rename_i g4;rw[if_neg g4];exact⟨Decidable.not_not.1 g3,rfl⟩
 obtain⟨sS,hr2⟩:=hr;have hm:n.mo q=⟨1,(n.mo q).e,0,0,0,(n.mo q).es⟩:=by
  have h1:(n.mo q).f=0∧(n.mo q).t=0∧(n.mo q).o=0:=by omega
  calc n.mo q=⟨(n.mo q).r,(n.mo q).e,(n.mo q).f,(n.mo q).t,(n.mo q).o,(n.mo q).es⟩:=rfl
   _=_:=by rw[sS,h1.1,h1.2.1,h1.2.2]
 have ht:tb (dQ (n.mo q) tg).1=tb (n.mo q):=by
  rw[jD (show ¬(n.mo q).r=2 by omega),hr2,yW rfl];exact hm.symm
 obtain⟨dC,dx,Bs,e1,e2,e3,e4,e5⟩:=h.ex;refine⟨RY h.mo hB,dC,dx,Bs,e1,e2,e3,fun p hp=> ?_, ?_⟩
 ·show _=tb (aj n.mo q _ p);by_cases e:p=q
  ·rw[e,au,ht];exact e4 q hq
  ·rw[bk e];exact e4 p hp
 ·rcases e5 with e5|⟨a,q',D,h1,p⟩
  ·exact .inl e5
  ·refine .inr ⟨a,q',D,h1,p.q4,p.ok, ?_,p.lt,p.one, ?_⟩
   ·show jh (tb (aj n.mo q _ q')) dx D;by_cases e:q'=q
    ·subst e;rw[au,ht];exact p.run
    ·rw[bk e];exact p.run
   ·show AfP (aj n.mo q _) q' D a;by_cases e:q'=q
    ·subst e;have hx:∀{x y:Prop},x∧¬(n.mo q').r=1∧y→False:=fun h=>h.2.1 sS;have pa:=p.af;cases a with
     |serve l an=>
      obtain⟨i1,i2,i3,i4⟩:=pa;refine⟨i1, ?_, ?_, ?_⟩
      ·rw[au,hr2];exact .inr rfl
      ·rw[au];obtain⟨s0,bu,s1,g2,g3,g5,g6,g7⟩:=Ji i3
       ·have e2:(dQ (n.mo q') tg).1.es=(n.mo q').es:=by rw[hr2]
        exact .done hB g2 g3 (by rw[hr2];exact .inr rfl) s0 bu (by rw[e2];exact g5) s1 _ g6 (by rw[e2];exact g7)
      ·rw[au,i4,jD (show ¬((n.mo q').more [l.op]).r=2 by show ¬(n.mo q').r=2;omega),hr2,yW (show((⟨2,(n.mo q').e,(n.mo q').f,tg,(n.mo q').o,(n.mo q').es⟩:Bt).more [l.op]).r=2 from rfl)];have h1:(n.mo q').f=0∧(n.mo q').t=0∧(n.mo q').o=0:=by omega
       unfold Bt.more;simp only[sS,h1.1,h1.2.1,h1.2.2]
     |begin l B=>exact(hx pa).elim
     |shut l B=>exact(hx pa).elim
     |take l B=>exact(hx pa).elim
     |jz p' B=>exact(hx pa).elim
    ·have e6:aj n.mo q (dQ (n.mo q) tg).1 q'=n.mo q':=bk e;have pa:=p.af;cases a with
     |serve l an=>obtain⟨i1,i2,i3,i4⟩:=pa;exact⟨i1,by rw[e6];exact i2,by rw[e6];exact i3,by rw[e6];exact i4⟩
     |begin l B=>exact⟨pa.1,by rw[e6];exact pa.2.1,pa.2.2⟩
     |shut l B=>exact⟨pa.1,by rw[e6];exact pa.2.1,pa.2.2⟩
     |take l B=>exact⟨pa.1,by rw[e6];exact pa.2.1,pa.2.2⟩
     |jz p' B=>exact⟨pa.1,by rw[e6];exact pa.2.1,pa.2.2⟩
theorem Sa{l:Lt}(hq2:l.q=l.q→l.q<4)(h:dB s.pn s.pe):dB (jc s l).pn (jc s l).pe:=by
 unfold jc;split
 ·rename_i hc;obtain⟨_,h1,h2⟩:=hc;refine DK h ?_;unfold yb at h2;split at h2
  ·cases h2
  ·rename_i g1;split at h2
   ·cases h2
   ·split at h2
    ·cases h2
    ·split at h2
     ·cases h2
     ·rename_i g4;by_cases hq:l.q<4
      ·have:=h l.q hq;unfold E_ at this⊢;omega
      ·exact absurd (hq2 rfl) hq
 ·exact h
structure Cm(p p':(Nat→Nd)×Ws)(m:Nat):Prop where
 n:∀i,i<5→NI i (p'.1 i)
 fl:∀l∈p'.2.fl,Gr l
 dir:dB p'.2.pn p'.2.pe
 t:p'.2.fl.length+qd p'.1≤p.2.fl.length+qd p.1+m
 sv:p'.2.sv=p.2.sv
 td:p'.2.td.length≤p.2.td.length+m
 cs:p'.2.cs=p.2.cs
theorem KV{p p':(Nat→Nd)×Ws}{m:Nat}(h:Cm p p' m){l:Lt}(hl:Gr l):Cm p (bJ p'.1 p'.2 l) (m+1):=by
 have ht:=h.t;have hd:=h.td;have tell:∀{s:Ws},(∀l∈s.fl,Gr l)→dB s.pn s.pe→s.fl=p'.2.fl→s.sv=p'.2.sv→s.td=p'.2.td→s.cs=p'.2.cs→l.q<4→Cm p (p'.1,lR s l) (m+1):=fun {s} h1 h2 h3 h4 h5 h6 hq=>by
  refine⟨h.n,fun x hx=> ?_,h2, ?_,h4.trans h.sv, ?_,h6.trans h.cs⟩
  ·rcases List.mem_append.1 hx with hx|hx
   ·exact h1 x hx
   ·rw[List.mem_singleton.1 hx];exact RS ⟨hl.f0,hl.f5⟩ hq _ _
  ·show(s.fl++[_]).length+_≤_;rw[List.length_append,h3];simp only[List.length_singleton];omega
  ·show s.td.length≤_;rw[h5];omega
 unfold bJ;split
 ·refine⟨h.n,h.fl,h.dir,by show p'.2.fl.length+qd p'.1≤p.2.fl.length+qd p.1+(m+1);omega,h.sv, ?_,h.cs⟩;show(p'.2.td++[_]).length≤_;rw[List.length_append];simp only[List.length_singleton];omega
 ·rename_i k1;split
  ·rename_i k5;have hf:=vS p'.2 l;have hq:l.q<4:=by
    rcases hl.ok.kd with g|g|g|g
    ·exact absurd g k1
    ·exact g.2.1
    ·exact g.2
    ·exact g.1.q
   exact tell (by rw[hf.1];exact h.fl) (Sa (fun _=>hq) h.dir) hf.1 hf.2.2.1 hf.2.2.2 hf.2.1 hq
  ·rename_i k5;split
   ·have hq:l.q<4:=by
     rcases hl.ok.kd with g|g|g|g
     ·exact absurd g k1
     ·exact g.2.1
     ·exact g.2
     ·exact g.1.q
    exact tell h.fl h.dir rfl rfl rfl rfl hq
   ·rename_i k6;obtain⟨hw,hd0,hd5⟩:lT l∧0≤l.dst∧l.dst<5:=by
     rcases hl.ok.kd with g|g|g|g
     ·exact absurd g k1
     ·exact absurd g.1 k5
     ·exact absurd g.1 k6
     ·exact g
    have hi:l.dst.toNat<5:=by omega
    have hn:=h.n _ hi;have hu:=DI p'.1 (if(p'.1 l.dst.toNat).up=true then {p'.1 l.dst.toNat with wt:=(p'.1 l.dst.toNat).wt++[l]}else p'.1 l.dst.toNat) hi;refine⟨DJ h.n ?_,h.fl,h.dir, ?_,h.sv,(by show p'.2.td.length≤p.2.td.length+(m+1);omega),h.cs⟩
    ·split
     ·rename_i DL;refine⟨hn.i,hn.tu,fun x hx=> ?_,hn.ln,fun _=>(hn.up DL).congr rfl rfl rfl rfl,fun g=> ?_⟩
      ·rcases List.mem_append.1 hx with hx|hx
       ·exact hn.wt x hx
       ·rw[List.mem_singleton.1 hx];exact hw
      ·have:(p'.1 l.dst.toNat).up=false:=g;rw[DL]at this;cases this
     ·exact hn
    ·show p'.2.fl.length+qd (aj _ _ _)≤_;have hc:cN (if(p'.1 l.dst.toNat).up=true then {p'.1 l.dst.toNat with wt:=(p'.1 l.dst.toNat).wt++[l]}else p'.1 l.dst.toNat)≤cN (p'.1 l.dst.toNat)+1:=by
      split
      ·unfold cN;simp only[List.length_append,List.length_singleton];omega
      ·omega
     omega
theorem Gu{p:(Nat→Nd)×Ws}:∀(L:List Lt) {p':(Nat→Nd)×Ws} {m:Nat},Cm p p' m→(∀l∈L,Gr l)→Cm p (L.foldl (fun p l=>bJ p.1 p.2 l) p') (m+L.length)
 |[],p',m,h,_=>h
 |l::L,p',m,h,hL=>by
  rw[List.foldl_cons,List.length_cons,show m+(L.length+1)=(m+1)+L.length by omega];exact Gu L (KV h (hL l List.mem_cons_self)) fun x hx=>hL x (List.mem_cons_of_mem _ hx)
theorem abD{a b c d e f:Int}(h:aP a b c d e f=0):∀x∈aY ⟨a,b,c,d,e,f⟩,(Lit.int .i64 x).wf=true:=WL (v:=⟨a,b,c,d,e,f⟩) h
end
theorem VF{k:Nat}{p:(Nat→Nd)×Ws}(h:Inv k p)(hk:k≤100000){f:tG}(ok:WY f):Inv (k+1) (fQ p f):=by
 obtain⟨ns,s⟩:=p;have hi:(f 1).toNat<5:=by have:=ok.n;omega
 have hq:(f 2).toNat<4:=by have:=ok.q;omega
 have ht:=h.t;have hv:=h.sv;have hd:=h.td;have hc:=h.c1;simp only at ht hv hd hc;have hN:∀i,i<5→NI i (ns i):=h.n;have h':Inv k (ns,s):=h;have base:Cm (ns,s) (ns,s) 0:=⟨h.n,h.fl,h.dir,Nat.le_refl _,rfl,Nat.le_refl _,rfl⟩;unfold fQ SY;simp only;split
 ·
  have hn:=hN _ hi;unfold cY;split
  ·rename_i W_;obtain⟨⟨h1,h2⟩,h3,h4,h5,h6⟩:=W_;dsimp only;have hu:=DI ns {ns (f 1).toNat with dl:=(ns (f 1).toNat).dl++bP [aI (f 2).toNat],sy:=(((ns (f 1).toNat).dl.length+(bP [aI (f 2).toNat]).length:Nat):Int),mo:=aj (ns (f 1).toNat).mo (f 2).toNat ⟨1,1,0,0,0,[]⟩} hi;have Oo:cN {ns (f 1).toNat with dl:=(ns (f 1).toNat).dl++bP [aI (f 2).toNat],sy:=(((ns (f 1).toNat).dl.length+(bP [aI (f 2).toNat]).length:Nat):Int),mo:=aj (ns (f 1).toNat).mo (f 2).toNat ⟨1,1,0,0,0,[]⟩}=cN (ns (f 1).toNat):=rfl;refine⟨DJ h.n ⟨hn.i,hn.tu,hn.wt, ?_,fun _=>BQ (hn.up h3) hq h4 h5,fun g=> ?_⟩,h.fl,DK h.dir ?_, ?_, ?_, ?_,h.c0, ?_⟩
   ·show((ns (f 1).toNat).dl++bP [aI (f 2).toNat]).length≤100000;rw[List.length_append];exact h6
   ·have:(ns (f 1).toNat).up=false:=g;rw[h3]at this;cases this
   ·rw[hn.i];exact .inr ⟨by omega,by omega,by decide,by decide⟩
   ·show s.fl.length+qd (aj ns (f 1).toNat {ns (f 1).toNat with dl:=(ns (f 1).toNat).dl++bP [aI (f 2).toNat],sy:=(((ns (f 1).toNat).dl.length+(bP [aI (f 2).toNat]).length:Nat):Int),mo:=aj (ns (f 1).toNat).mo (f 2).toNat ⟨1,1,0,0,0,[]⟩})≤2*(k+1);omega
   ·show s.sv.length≤_;omega
   ·show s.td.length≤_;omega
   ·show s.cs≤_;omega
  ·simp only;rw[my];exact h.next
 ·split
  ·
   rename_i h2;have ho:=abD (ok.e h2).1;refine⟨h.n,fun l hl=> ?_,h.dir, ?_, ?_, ?_, ?_, ?_⟩
   ·rcases List.mem_append.1 hl with hl|hl
    ·exact h.fl l hl
    ·rw[List.mem_singleton.1 hl];exact Vz ⟨by omega,by omega⟩ hq ho
   ·show(s.fl++[_]).length+qd ns≤2*(k+1);rw[List.length_append];simp only[List.length_singleton];omega
   ·show s.sv.length≤_;omega
   ·show s.td.length≤_;omega
   ·show 0≤s.cs+1;have:=h.c0;simp only at this;omega
   ·show s.cs+1≤_;omega
  ·split
   ·
    obtain⟨h1,a,b,h2,h3,h4⟩:=VE (s:=s) (hN _ hi) hi;have vu:=RZ (ns:=ns) hi;have hw:(ns (f 1).toNat).wt.length≤cN (ns (f 1).toNat):=by unfold cN;omega
    exact h'.piece hi h1 h2 h3 (by omega)
   ·split
    ·
     unfold eC;split
     ·exact h.next
     ·rename_i l hl;have hm:l∈s.fl:=List.mem_of_getElem? hl;have aL:(f 3).toNat % s.fl.length<s.fl.length:=by
       obtain⟨hx,_⟩:=List.getElem?_eq_some_iff.1 hl;exact hx
      have ER:(s.fl.eraseIdx ((f 3).toNat % s.fl.length)).length=s.fl.length-1:=List.length_eraseIdx_of_lt aL;have vq:∀x∈s.fl.eraseIdx ((f 3).toNat % s.fl.length),Gr x:=fun x hx=>h.fl x (List.mem_of_mem_eraseIdx hx);split
      ·rename_i h5;rw[if_neg (by omega)];refine⟨h.n,vq,h.dir, ?_, ?_, ?_,h.c0, ?_⟩
       ·show(s.fl.eraseIdx _).length+qd ns≤2*(k+1);omega
       ·show s.sv.length≤_;omega
       ·show s.td.length≤_;omega
       ·show s.cs≤_;omega
      ·have b2:Cm (ns,s) (ns,if f 0=6 then s else {s with fl:=s.fl.eraseIdx ((f 3).toNat % s.fl.length)}) 0:=by
        split
        ·exact base
        ·refine⟨h.n,vq,h.dir, ?_,rfl,Nat.le_refl _,rfl⟩;show(s.fl.eraseIdx _).length+qd ns≤s.fl.length+qd ns+0;omega
       have c:=KV b2 (h.fl l hm);have c1:=c.t;have c2:=c.td;have c3:=c.sv;have c4:=c.cs;simp only at c1 c2 c3 c4;refine⟨c.n,c.fl,c.dir,by omega,by rw[c3];omega,by omega,by rw[c4];exact h.c0,by rw[c4];omega⟩
    ·split
     ·
      unfold Ge;have b2:Cm (ns,{s with fl:=[]}) (ns,{s with fl:=[]}) 0:=⟨h.n,(fun l hl=>by cases hl),h.dir,Nat.le_refl _,rfl,Nat.le_refl _,rfl⟩;have c:=Gu s.fl b2 h.fl;have c1:=c.t;have c2:=c.td;have c3:=c.sv;have c4:=c.cs;simp only[List.length_nil]at c1 c2 c3 c4;refine⟨c.n,c.fl,c.dir,by omega,by rw[c3];omega,by omega,by rw[c4];exact h.c0,by rw[c4];omega⟩
     ·split
      ·
       obtain⟨h1,h2⟩:=R9 (hN _ hi) ok.kp.1;exact h'.piece hi h1 (pt.refl s) (by omega) (by omega)
      ·split
       ·
        obtain⟨h1,h2,h3⟩:=R_ (s:=s) (hN _ hi);exact h'.piece hi h1 h2 (by omega) (by omega)
       ·
        unfold Ra;have Ha:=h.dir _ hq;unfold E_ at Ha;have Wb:(s.pn (f 2).toNat).toNat<5:=by
         simp only at Ha;omega
        have hn:=hN _ Wb;refine h'.piece Wb ?_ (pt.refl s) ?_ (by omega)
        ·unfold nC;split
         ·exact hn
         ·rename_i jo;have DL:(ns (s.pn (f 2).toNat).toNat).up=true:=by
           cases hx:(ns (s.pn (f 2).toNat).toNat).up with
           |true=>rfl
           |false=>exact absurd (.inr (.inr (.inl hx))) jo
          have hg:(dQ ((ns (s.pn (f 2).toNat).toNat).mo (f 2).toNat) (((f 1).toNat:Nat):Int)).2=0:=Decidable.not_not.1 fun g=>jo (.inr (.inr (.inr (.inr g))));refine⟨hn.i,hn.tu,hn.wt,hn.ln,fun _=>go_up (hn.up DL) hq hg,fun g=> ?_⟩;have:(ns (s.pn (f 2).toNat).toNat).up=false:=g;rw[DL]at this;cases this
        ·unfold nC;split
         ·omega
         ·show 0+cN (ns (s.pn (f 2).toNat).toNat)≤cN (ns (s.pn (f 2).toNat).toNat)+2;omega
theorem Sb:Inv 0 (wA,SX):=by
 exact⟨fun i hi=>⟨rfl,(show(0:Nat)<4 by decide),(fun l hl=>by cases hl),Nat.zero_le _,(fun _=>⟨fun q hq=>Bt.cR,[],[],fL,rfl,rfl,zD.nil,fun q hq=>(jD (B:=Bt.zero) (by show ¬(0:Int)=2;decide)).symm,.inl ⟨rfl,rfl⟩⟩),(fun g=>by cases g)⟩,(fun l hl=>by cases hl),(fun p hp=> .inl ⟨if_pos hp,rfl⟩),Nat.le_refl 0,Nat.zero_le _,Nat.zero_le _,Int.le_refl 0,Int.le_refl 0⟩
theorem gk(D:tF)(n:Nat)(hn:n≤100000)(ok:∀j,j<n→Lq.gC (Lq.aO D j)=0):∀k,k≤n→Inv k (dg D k)
 |0,_=>Sb
 |k+1,hk=>VF (gk D n hn ok k (by omega)) (by omega) (vh (ok k (by omega)))
section
open Rv
theorem Gv:iW Tryz.prog 22=some 11:=by kernel_rfl
def dN(o:Oc)(t:jC):Nat→Value:=Ac (iV (o.fl:Int)) (wm o.up 5) o.pn o.pe (.slice (some ⟨t.R,0,none⟩) 5 t.c) (.slice t.sa o.sv.length t.sc) (.slice t.ta o.td.length t.tc) (iV o.cs)
theorem iH{o:Oc}{t:jC}:aT (dN o t) 18:=II rfl rfl rfl rfl rfl
theorem Gw{w w':tA}(b:bZ w w')(h:Lq.eO w):Lq.eO w':=h.next b
theorem Jj{D:tF}{n:Nat}{c e:Int}(h:Lq.mL D n c e)(he:e=0):∀j,j<n→Lq.gC (Lq.aO D j)=0:=by
 cases h with
 |bad k hk hl hb=>exact absurd he hb
 |eS hl=>exact hl
theorem Sc{w w':tA}{b t n:Nat}{f:tC}(h:aZ w b t n f)(k:bZ w w'):aZ w' b t n f:=by
 have hl:=h.lt;unfold aZ at*;rw[k.block b hl];exact h
theorem yZ{n m:Nat}{w w1 w2:tA}(h:Below n w w1)(k:Below m w1 w2)(hm:n≤m):Below n w w2:=⟨k.os.trans h.os,k.tape.trans h.tape,k.output.trans h.output,Nat.le_trans h.size k.size,fun b hb=>(k.block b (Nat.lt_of_lt_of_le hb hm)).trans (h.block b hb)⟩
section
variable{w w1 x x':tA}{X R0:Nat}{us:Nat→Nv}{v:Wv}{F:tD}{f:tC}{T:Nat}
theorem VG(hc:CW x X us v F)(Sd:v.nd 5=w1.heap.size)(hfR:aZ w1 R0 T 18 f)(Zj:w.heap.size≤R0)(Wi:bZ w w1)(l9:bZ w1 x):Mem x [⟨R0,T,18,f⟩] (fun b=>b<w1.heap.size∧b≠R0) (fun _=>True) (fun y=>CW y X us v F∧bZ w y):=by
 have hRl:=hfR.lt;have hm:=Mem.begin (w:=x) (H:=[⟨R0,T,18,f⟩]) (M:=fun b=>b<w1.heap.size∧b≠R0) (G:=fun _=>True) (fun e he=>by cases List.mem_singleton.1 he;exact Sc hfR l9) (List.pairwise_singleton _ _) (fun e he=>by cases List.mem_singleton.1 he;exact fun hh=>hh.2 rfl) (fun b hb=>Nat.lt_of_lt_of_le hb.1 l9.size) (fun _ _=>trivial);have h1:bZ w x:=yZ Wi l9 Wi.size;refine⟨hm.ib,hm.nT,hm.off,hm.mlt,hm.g,fun w2 c2=>⟨hc.others (c2.mono fun b hb=> ?_),yZ h1 (c2.below h1.size fun b hb hu=> ?_) (Nat.le_refl _)⟩⟩
 ·have e:b=R0:=by simpa using hb
  rw[e,Sd];exact hRl
 ·have e:b=R0:=by simpa using hu
  omega
end
theorem VH(a:tB)(len cap:Nat)(D:tF)(w:tA)(VI:Lq.eO w)(de:RowK .i64 w a (11*len) D)(ij:len*88≤140737488351232)(hI:len≤100000→∀k,k≤len→(∀j,j<len→Lq.gC (Lq.aO D j)=0)→GdT (dg D k)):cA 16 #[.slice a len cap] w fun x w'=>∃y,x= .returned y∧RL D len w w' y∧bZ w w':=by
 have o0:aT (Ac (iV 0) (fun _=>false) (fun _=>0) (fun _=>0) (.slice none 0 0) (.slice none 0 0) (.slice none 0 0) (iV 0)) 18:=II rfl rfl rfl rfl rfl;refine en (H:=[]) 35 [vv (.slice a len cap)] Tryz.func16 rfl rfl (m0 w) (r [] rfl fun α=> ?_);by_cases hbig:100000<len
 ·exact r [1] rfl fun _=>fin fun w hS=>⟨_,rfl,.abt hbig,hS.now.2⟩
 refine r [0] rfl fun _=>cq rfl (fun y:Int×Int=>vt [.o (iV y.1),.o (iV y.2)]) (fun y=>Lq.mL D len y.1 y.2) (fun w1 hS=>(Lq.NS a len cap D _ (Gw hS.now.2 VI) (de.below hS.now.2) (by omega)).mono fun _ _ ⟨cc,er,e,W_,b⟩=>⟨(cc,er),e,b,W_⟩) ?_;rintro⟨cc,er⟩ W_;have W_:Lq.mL D len cc er:=W_;by_cases ER:er=0
 case neg=>exact r [1] rfl fun _=>fin fun w hS=>⟨_,rfl,.bad (by omega) cc er W_ ER,hS.now.2⟩
 have KW:=Jj W_ ER;refine r [0] rfl fun _=>gn 0 (Ac (iV 0) (fun _=>false) (fun _=>0) (fun _=>0) (.slice none 0 0) (.slice none 0 0) (.slice none 0 0) (iV 0)) (j_ rfl (by kernel_rfl) fun w2 hS=> ?_);have hfR:=hS.at 0 rfl;have Zj:=hS.jq 0 rfl;have Wi:=hS.now.2;refine(DC w2).mono ?_;rintro _ w3 ⟨X,nd,tk,dd,rfl,KE,hX,Sd,b⟩;refine⟨vv (lp X),[],fun _=>False,fun _=>True,fun y=>CW y X ZB ⟨nd,tk,dd,eD 4,bD,[],0,[],[]⟩ (fun b=>b=X)∧bZ w2 y,rfl,.inr b,Mem.start (fun _ h=>h.elim) (fun _ _=>trivial) (fun y b'=>⟨KE.next b',Below.next b b'⟩),Rv.sv 2 (vv (lp (α 0))) rfl (r [] rfl fun _=> ?_)⟩;refine Cv (X:=Nat×(Nat→Nv)×Wv×(Nat→Prop)) (fun x=>[(2,vv (lp (α 0))),(6,vv (lp X)),(23,vv (.slice a len cap)),(24,vi (len:Int)),(25,vi (x.1:Int))]) (fun _=>[]) (fun _ _=>False) (fun x y=>CW y X x.2.1 x.2.2.1 x.2.2.2∧bZ w2 y) (fun x=>x.1≤len∧((fun i=>(x.2.1 i).pure),x.2.2.1.pure)=dg D x.1∧x.2.2.1.nd 5=w2.heap.size) (fun x=>len-x.1) (0,ZB,_,_) ⟨rfl,rfl,rfl,rfl,rfl,trivial⟩ (fun _ hS=>hS) ⟨Nat.zero_le _,rfl,Sd⟩ ?_;rintro f ⟨k,us,v,F⟩ ⟨hk,hp,Sd⟩;have hk:k≤len:=hk;have hp:((fun i=>(us i).pure),v.pure)=dg D k:=hp;have Sd:v.nd 5=w2.heap.size:=Sd;by_cases aL:k<len
 ·obtain⟨ab,ao,rfl⟩:=de.form (by omega);refine r [1] rfl fun _=>lf (q:=ao+k*11) rfl 11 (YN D k) (fun w hS=>jJ (de.below (yZ Wi hS.now.2.2 Wi.size)) (by omega) fun j hj=>rfl) (r [] rfl fun β=>j_ rfl (by kernel_rfl) fun w4 hS=> ?_);refine(YO hS.now.2.1 hp (hI (by omega) k hk KW) (KW k aL)).mono ?_;rintro _ w6 ⟨rfl,GZ,v2,F2,jo,hp2,hnd2,Hd⟩;refine⟨vt [],[],fun _=>False,fun _=>True,fun y=>CW y X GZ v2 F2∧bZ w2 y,rfl,.inl rfl,Mem.start (fun _ h=>h.elim) (fun _ _=>trivial) (fun y b'=>⟨jo.next b',Below.next (hS.now.2.2.trans (Sd▸Hd)) b'⟩),rz [1] [((k+1:Nat):Int)] rfl fun _=>bU (k+1,GZ,v2,F2) ⟨rfl,rfl,rfl,rfl,rfl,trivial⟩ (fun _ hS=>hS) ⟨aL,hp2,(congrFun hnd2 5).trans Sd⟩ (show len-(k+1)<len-k by omega)⟩
 obtain rfl:len=k:=by omega
 have hoc:ocS (fun i=>(us i).pure) v.pure=cX D len:=by unfold cX;rw[←hp]
 refine r [0] rfl fun _=>Rv.sv 2 (vp 0 0 (α 0)) rfl (Xv fun x hS=>⟨[⟨α 0,34,[.f 18 (Ac (iV 0) (fun _=>false) (fun _=>0) (fun _=>0) (.slice none 0 0) (.slice none 0 0) (.slice none 0 0) (iV 0))]⟩],_,_,_,VG hS.now.2.1 Sd hfR Zj Wi hS.now.2.2, ?_⟩);refine cx rfl (fun t:jC=>vf 18 (dN (cX D len) t)) (fun _=>True) (fun t w=>kC w (cX D len) t) (fun w4 hS=>(I3 (U:=fun b=>b<v.nd 5) hS.now.2.1 (fun b hb=>Nat.lt_of_lt_of_le hb hS.now.2.1.ln) (fun w2 c2=>(hS.now.2.1.st w2 c2).1.1) (fun b hb hu=>absurd (hS.now.2.1.lo b hu) (Nat.not_le.2 hb)) (fun i hi lU=>by have ht:=(hI (by omega) len (Nat.le_refl _) KW).t i hi;rw[←hp]at ht;exact ht lU)).mono fun _ _ ⟨t,e,gx,b⟩=>⟨t,by rw[←hoc];exact e,b,trivial,fun _ w5 c5=>hoc▸gx w5 (c5.mono fun b hb=>hb.elim (fun e=>by rw[List.mem_singleton.1 e,Sd];exact hfR.lt) fun h=>Sd▸h.1)⟩) fun t _=> ?_;have o1:aT (dN (cX D len) t) 18:=iH;exact r [] rfl fun _=>fin fun w5 hS=>⟨_,rfl,.eS (by omega) KW t (fun w2 c2=>(hS.g w2 (c2.mono fun b hb=> .inr ⟨Nat.lt_of_lt_of_le hb Wi.size,fun e=>absurd hb (Nat.not_lt.2 (e▸Zj))⟩)).2),hS.now.2.2⟩
end
theorem VJ(a:tB)(len cap:Nat)(D:tF)(w:tA)(VI:Lq.eO w)(de:RowK .i64 w a (11*len) D)(ij:len*88≤140737488351232):cA 16 #[.slice a len cap] w fun x w'=>∃y,x= .returned y∧RL D len w w' y∧bZ w w':=by
 exact VH a len cap D w VI de ij fun hl k hk ok=>(gk D len hl ok k hk).gd (by omega)
theorem Se(a:tB)(len cap:Nat)(D:tF)(w:tA)(VI:Lq.eO w)(de:RowK .i64 w a (11*len) D)(hl:len≤100000)(ed:∀j,j<len→Lq.gC (Lq.aO D j)=0):cA 16 #[.slice a len cap] w fun x w'=>∃t,x= .returned (.tuple #[ocV (cX D len) t,iV 0])∧bR (fun b=>b<w.heap.size) w' (fun w=>kC w (cX D len) t)∧bZ w w':=by
 refine(VJ a len cap D w VI de (by omega)).mono ?_;rintro x w' ⟨y,rfl,hr,b⟩;cases hr with
 |abt h=>omega
 |bad h c e hc he=>exact absurd (hc.Wl (.eS ed)).2 he
 |eS h hc t ho=>exact⟨t,rfl,ho,b⟩
section
open Rv
theorem dr(n m:Int)(w:tA)(hn:(Lit.int .i64 n).wf=true)(h0:0<m)(hm:m≤4294967296):cA 22 #[iV n,iV m] w (rB (iV (av n m)) w):=by
 refine en (H:=[]) 8 [vi n,vi m] Tryz.func22 rfl rfl (m0 w) (r [] rfl fun _=> ?_);refine cb rfl (vi _) (fun w _=>(iJ n m w hn h0 hm).mono ?_) (r [] rfl fun _=>fin fun w hS=>⟨rfl,hS.now.2⟩);rintro _ _ ⟨rfl,rfl⟩;exact⟨rfl,Below.refl _ _⟩
theorem NV(k a b c:Int)(w:tA)(wk:(Lit.int .i64 k).wf=true)(wa:(Lit.int .i64 a).wf=true)(wb:(Lit.int .i64 b).wf=true)(wc:(Lit.int .i64 c).wf=true):cA 57 #[vF (lF [iV k,iV a,iV b,iV c]) 4] w (rB (vF (lF [iV (eH k a b c).k,iV (eH k a b c).p,iV (eH k a b c).i,iV (eH k a b c).b,iV (eH k a b c).he,iV (eH k a b c).hn]) 6) w):=by
 refine en (H:=[]) 5 [vf 4 _] Tryz.func57 rfl rfl (m0 w) (r [] rfl fun _=> ?_);refine cb rfl (vf 6 _) (fun w _=>(Pv k a b c w wk wa wb wc).mono ?_) (r [] rfl fun _=>fin fun w hS=>⟨rfl,hS.now.2⟩);rintro _ _ ⟨rfl,b⟩;exact⟨rfl,b⟩
def jL(g:tG)(cr:Bool):List Int:=
 if av (g 0) 24<7 then(if(eH (g 3) (g 1) (g 4) (g 4)).k=4 then[2,av (g 1) 3,av (g 2) 2,0,0,2,(eH (g 3) (g 1) (g 4) (g 4)).p,(eH (g 3) (g 1) (g 4) (g 4)).i,(eH (g 3) (g 1) (g 4) (g 4)).b,(eH (g 3) (g 1) (g 4) (g 4)).he,(eH (g 3) (g 1) (g 4) (g 4)).hn]else[2,av (g 1) 3,av (g 2) 2,0,0,(eH (g 3) (g 1) (g 4) (g 4)).k,(eH (g 3) (g 1) (g 4) (g 4)).p,(eH (g 3) (g 1) (g 4) (g 4)).i,(eH (g 3) (g 1) (g 4) (g 4)).b,(eH (g 3) (g 1) (g 4) (g 4)).he,(eH (g 3) (g 1) (g 4) (g 4)).hn])
 else if av (g 0) 24<13 then[3,av (g 1) 3,0,0,0,0,0,0,0,0,0]
 else if av (g 0) 24=13 then[4,0,0,av (g 3) 20,0,0,0,0,0,0,0]
 else if av (g 0) 24=14 then[5,0,0,av (g 3) 20,0,0,0,0,0,0,0]
 else if av (g 0) 24=15 then[6,0,0,av (g 3) 20,0,0,0,0,0,0,0]
 else if av (g 0) 24=16 then[10,av (g 1) 3,av (g 2) 2,0,0,0,0,0,0,0,0]
 else if av (g 0) 24=17∧cr=true then[8,av (g 1) 3,0,0,av (g 3) 120,0,0,0,0,0,0]
 else if av (g 0) 24=18∧cr=true then[9,av (g 1) 3,0,0,0,0,0,0,0,0,0]
 else[7,0,0,0,0,0,0,0,0,0,0]
theorem VK(g:tG)(cr:Bool)(w:tA)(hw:∀j,j<5→(Lit.int .i64 (g j)).wf=true):cA 33 #[vF (fun j=>iV (g j)) 5,.bool cr] w (rB (vF (fun j=>iV ((jL g cr).getD j 0)) 11) w):=by
 refine en (H:=[]) 91 [vf 5 (fun j=>iV (g j)),vv (.bool cr)] Tryz.func33 rfl rfl (m0 w) (r [] rfl fun _=> ?_);refine cb rfl (vi _) (fun w _=>dr _ 3 w (hw 1 (by decide)) (by decide) (by decide)) (r [] rfl fun _=> ?_);refine cb rfl (vi _) (fun w _=>dr _ 2 w (hw 2 (by decide)) (by decide) (by decide)) (r [] rfl fun _=> ?_);refine cb rfl (vi _) (fun w _=>dr _ 24 w (hw 0 (by decide)) (by decide) (by decide)) ?_;by_cases h7:av (g 0) 24<7
 ·refine r [1] rfl fun _=>cb rfl (vf 6 _) (fun w _=>NV _ _ _ _ w (hw 3 (by decide)) (hw 1 (by decide)) (hw 4 (by decide)) (hw 4 (by decide))) ?_;by_cases h4:(eH (g 3) (g 1) (g 4) (g 4)).k=4
  ·exact r [1] rfl fun _=>fin fun w hS=>⟨by unfold jL;rw[if_pos h7,if_pos h4];rfl,hS.now.2⟩
  ·exact r [0] rfl fun _=>fin fun w hS=>⟨by unfold jL;rw[if_pos h7,if_neg h4];rfl,hS.now.2⟩
 have k7:jL g cr=_:=if_neg h7;by_cases h13:av (g 0) 24<13
 ·exact r [0,1] rfl fun _=>fin fun w hS=>⟨by rw[k7,if_pos h13];rfl,hS.now.2⟩
 rw[if_neg h13]at k7;by_cases ha:av (g 0) 24=13
 ·exact r [0,0,1] rfl fun _=>cb rfl (vi _) (fun w _=>dr _ 20 w (hw 3 (by decide)) (by decide) (by decide)) (r [0] rfl fun _=>fin fun w hS=>⟨by rw[k7,if_pos ha];rfl,hS.now.2⟩)
 rw[if_neg ha]at k7;by_cases hb:av (g 0) 24=14
 ·exact r [0,0,0,1] rfl fun _=>cb rfl (vi _) (fun w _=>dr _ 20 w (hw 3 (by decide)) (by decide) (by decide)) (r [0] rfl fun _=>fin fun w hS=>⟨by rw[k7,if_pos hb];rfl,hS.now.2⟩)
 rw[if_neg hb]at k7;by_cases hc:av (g 0) 24=15
 ·exact r [0,0,0,0,1] rfl fun _=>cb rfl (vi _) (fun w _=>dr _ 20 w (hw 3 (by decide)) (by decide) (by decide)) (r [0] rfl fun _=>fin fun w hS=>⟨by rw[k7,if_pos hc];rfl,hS.now.2⟩)
 rw[if_neg hc]at k7;by_cases hd:av (g 0) 24=16
 ·exact r [0,0,0,0,0,1] rfl fun _=>fin fun w hS=>⟨by rw[k7,if_pos hd];rfl,hS.now.2⟩
 rw[if_neg hd]at k7;by_cases h17:av (g 0) 24=17
 ·cases cr
  ·exact r [0,0,0,0,0,0,1,0] rfl fun _=>fin fun w hS=>⟨by rw[k7,if_neg (fun e=>by cases e.2),if_neg (fun e=>by cases e.2)];rfl,hS.now.2⟩
  ·exact r [0,0,0,0,0,0,1] rfl fun _=>cb rfl (vi _) (fun w _=>dr _ 120 w (hw 3 (by decide)) (by decide) (by decide)) (r [0] rfl fun _=>fin fun w hS=>⟨by rw[k7,if_pos ⟨h17,rfl⟩];rfl,hS.now.2⟩)
 rw[if_neg (fun e=>h17 e.1)]at k7;by_cases h18:av (g 0) 24=18
 ·cases cr
  ·exact r [0,0,0,0,0,0,0,1] rfl fun _=>fin fun w hS=>⟨by rw[k7,if_neg (fun e=>by cases e.2)];rfl,hS.now.2⟩
  ·exact r [0,0,0,0,0,0,0,1] rfl fun _=>fin fun w hS=>⟨by rw[k7,if_pos ⟨h18,rfl⟩];rfl,hS.now.2⟩
 exact r [0,0,0,0,0,0,0,0] rfl fun _=>fin fun w hS=>⟨by rw[k7,if_neg (fun e=>h18 e.1)];rfl,hS.now.2⟩
theorem eK:jk Tryz.prog 22 57 11 88=true:=by kernel_rfl
def iu(G:tF)(k:Nat):Nat→Int:=fun o=>G.getD (5*k+o) 0
def bn(G:tF)(cr:Bool):Nat→List Int
 |0=>[1,0,0,0,0,0,0,0,0,0,0,1,1,1,0,0,0,0,0,0,0,0]
 |k+1=>bn G cr k++jL (iu G k) cr
def gaF(G:tF)(k:Nat)(cr:Bool):Nat→Value:=fun j=>iV ((jL (iu G k) cr).getD j 0)
theorem vj(g:tG)(cr:Bool):(jL g cr).length=11:=by
 unfold jL
 repeat' split
 all_goals rfl
theorem jE(G:tF)(cr:Bool):∀k,(bn G cr k).length=11*(k+2)
 |0=>rfl
 |k+1=>by
  show(bn G cr k++jL (iu G k) cr).length=_;rw[List.length_append,jE G cr k,vj];omega
theorem VL{w:tA}{a:tB}{n:Nat}{G:tF}(h:RowK .i64 w a (5*n) G){k:Nat}(hk:k<n):∀j,j<5→(Lit.int .i64 (iu G k j)).wf=true:=fun j hj=>by
 have hl:=h.b_;unfold iu;rw[List.getD_eq_getElem?_getD,List.getElem?_eq_getElem (show 5*k+j<G.length by omega)];exact h.wf _ (List.getElem_mem _)
theorem Sf(G:tF)(k:Nat)(cr:Bool):dz [.f 11 (gaF G k cr)]=(jL (iu G k) cr).map (Value.int .i64):=by
 have hl:=vj (iu G k) cr;unfold gaF;generalize jL (iu G k) cr=l at hl⊢
 match l,hl with
 |[_,_,_,_,_,_,_,_,_,_,_],_=>rfl
theorem jZ(a:tB)(len cap Jk:Nat)(cr:Bool)(GD:tF)(w:tA)(h:RowK .i64 w a (5*len) GD)(hl:len≤4000000000000)(hm:Jk≤1000000):cA 20 #[.slice a len cap,iV (Jk:Int),.bool cr] w fun x w'=>∃v,x= .returned v∧w'.ownsRow w.heap.size 57 11 v (min len Jk+2) ((bn GD cr (min len Jk)).map (Value.int .i64))∧bZ w w':=by
 refine en (H:=[]) _ [vv (.slice a len cap),vi (Jk:Int),vv (.bool cr)] Tryz.func20 rfl rfl (m0 w) (r [] rfl fun α=> ?_);refine ro 0 11 2 2 (fun _ h=>h) ?_ rfl rfl;refine ic (X:=Nat×Value) ⟨fun x=>[(0,vv (.slice a len cap)),(1,vi (Jk:Int)),(2,vv (.bool cr)),(7,vv x.2),(8,vi (x.1:Int))],fun _=>[],fun x b=>x.2.ownBlock=some b∨False,fun _ _=>True,fun x w'=>bZ w w'∧w'.ownsRow w.heap.size 57 11 x.2 (x.1+2) ((bn GD cr x.1).map (Value.int .i64)),fun x=>x.1≤min len Jk,fun x=>min len Jk-x.1⟩ (0,_) ⟨rfl,rfl,rfl,rfl,rfl,trivial⟩ (fun _ hS=>hS) (Nat.zero_le _) ?_;rintro f ⟨k,v⟩ hk;have hk:k≤min len Jk:=hk;by_cases h1:k<len
 case neg=>
  obtain rfl:k=min len Jk:=by omega
  exact r [0] rfl fun _=>fin fun w hS=>⟨v,rfl,hS.now.2.2,hS.now.2.1⟩
 by_cases h2:k<Jk
 case neg=>
  obtain rfl:k=min len Jk:=by omega
  exact r [1,0] rfl fun _=>fin fun w hS=>⟨v,rfl,hS.now.2.2,hS.now.2.1⟩
 obtain⟨b,o,rfl⟩:=h.form (by omega);have og:aT (fun j=>iV (iu GD k j)) 5:=fun _ _=>rfl;have oa:aT (gaF GD k cr) 11:=fun _ _=>rfl;refine r [1,1] rfl fun _=>lf (q:=o+k*5) rfl 5 (fun j=>iV (iu GD k j)) (fun w hS=>jJ (h.below hS.now.2.1) (by omega) fun j _=>rfl) (r [] rfl fun _=>Rv.cb rfl (vf 11 (gaF GD k cr)) (fun w hS=>VK (iu GD k) cr w (VL h h1)) ?_);refine r [] rfl fun _=>qJ 1 rfl eK (fun w hS=>hS.now.2.1.size) (fun _ _ h c=>cS h c (Nat.le_refl _)) fun g c hc=> ?_;exact rz [1] [((k+1:Nat):Int)] rfl fun _=>bU (k+1,.slice (some ⟨g,0,none⟩) (k+2+1) c) ⟨rfl,rfl,rfl,rfl,rfl,trivial⟩ (fun w hS=>(hS.take 0).sr fun w h=>⟨h.1,by rw[show bn GD cr (k+1)=bn GD cr k++jL (iu GD k) cr from rfl,List.map_append,←Sf];exact h.2⟩) (show k+1≤min len Jk by omega) (show min len Jk-(k+1)<min len Jk-k by omega)
theorem Xa{w:tA}{o:Oc}{t:jC}(h:kC w o t){q:Nat}(hq:q<5):w.cell? ⟨t.R,q,none⟩=some (.slice (some ⟨t.Y q,0,none⟩) 4 (t.C q)):=by
 have h1:=h.r.at q (by have:=h.c5;omega);rw[(h.f q hq).1]at h1;exact h1
theorem mA(a:tB)(len cap:Nat)(D:tF)(w:tA)(VI:Lq.eO w)(de:RowK .i64 w a (11*len) D)(hlen:len≤100000)(ed:∀j,j<len→Lq.gC (Lq.aO D j)=0):cA 23 #[.slice a len cap] w fun x w'=>∃t,x= .returned (.tuple #[ocV (cX D len) t,.bool true])∧bR (fun b=>b<w.heap.size) w' (fun w=>kC w (cX D len) t)∧bZ w w':=by
 refine en (H:=[]) _ [vv (.slice a len cap)] Tryz.func23 rfl rfl (nZ (w:=w) (U:=fun b=>b<w.heap.size) (fun _ h=>h) (G:=fun _=>True) (fun _ _=>trivial)) (r [] rfl fun α=> ?_);refine cx rfl (fun t:jC=>vt [.g [.f 18 (dN (cX D len) t)],.o (iV 0)]) (fun _=>True) (fun t w=>kC w (cX D len) t) (fun w1 hS=>(Se a len cap D _ (VI.next hS.now.2) (de.below hS.now.2) hlen ed).mono fun _ w2 ⟨t,e,ho,b⟩=>⟨t,e,b,trivial,fun hl=>ho.mono fun b _ hu=>hl b hu⟩) fun t _=> ?_;have og:aT (dN (cX D len) t) 18:=iH;refine r [5,0,17,1,1] rfl fun _=>Xt (q:=0+0*1) rfl (.slice (some ⟨t.Y 0,0,none⟩) 4 (t.C 0)) (fun w h=>Xa h.1.2 (by decide)) ?_ (fun a ha=>by cases List.mem_singleton.1 ha;exact List.Mem.head _);exact r [1] rfl fun _=>fin fun w hS=>⟨t,rfl,fun w2 c=>(hS.g w2 (c.mono fun _ h=> .inr h)).2,hS.now.2⟩
theorem y_:jk Tryz.prog 42 34 18 160=true:=by kernel_rfl
theorem za{D:tF}{n j:Nat}(hj:j<n)(hl:11*n≤D.length):∀o,o<11→Lq.aO (D.take (11*n)) j o=Lq.aO D j o:=fun o ho=>by
 unfold Lq.aO;rw[List.getD_eq_getElem?_getD,List.getD_eq_getElem?_getD,List.getElem?_take_of_lt (by omega)]
theorem lW{p:(Nat→Nd)×Ws}{f g:tG}(h:∀o,o<11→f o=g o):fQ p f=fQ p g:=by
 unfold fQ;rw[h 0 (by decide),h 1 (by decide),h 2 (by decide),h 3 (by decide),h 4 (by decide),h 5 (by decide),h 6 (by decide),h 7 (by decide),h 8 (by decide),h 9 (by decide),h 10 (by decide)]
theorem BR{D:tF}{n:Nat}(hl:11*n≤D.length):∀k,k≤n→dg (D.take (11*n)) k=dg D k
 |0,_=>rfl
 |k+1,hk=>by
  show fQ (dg (D.take (11*n)) k) _=fQ (dg D k) _;rw[BR hl k (by omega)];exact lW (za (by omega) hl)
theorem Sh{D:tF}{n:Nat}(hl:11*n≤D.length):cX (D.take (11*n)) n=cX D n:=by
 unfold cX;rw[BR hl n (Nat.le_refl _)]
theorem nI{f g:tG}(h:∀o,o<11→f o=g o):Lq.gC f=Lq.gC g:=by
 have e:Lq.less (Lq.gq (g 0) (g 5)) f=Lq.less (Lq.gq (g 0) (g 5)) g∨True:= .inr trivial;have hb:∀S:List Nat,∀b:Nat→Int,Lq.kD (Lq.over S b f)=Lq.kD (Lq.over S b g):=fun S b=>by
  have ho:∀i,i<11→Lq.over S b f i=Lq.over S b g i:=fun i hi=>by unfold Lq.over;rw[h i hi]
  unfold Lq.kD;rw[ho 0 (by decide),ho 1 (by decide),ho 2 (by decide),ho 3 (by decide),ho 4 (by decide),ho 5 (by decide),ho 6 (by decide),ho 7 (by decide),ho 8 (by decide),ho 9 (by decide),ho 10 (by decide)]
 have hq:∀S:List Nat,∀b:Nat→Int,Lq.SZ (Lq.less S f) b=Lq.SZ (Lq.less S g) b:=fun S b=>by
  rw[Bool.eq_iff_iff,Lq.DF,Lq.DF];constructor
  ·intro k i hi;have:=k i hi;unfold Lq.less at this⊢;rw[←h i hi];exact this
  ·intro k i hi;have:=k i hi;unfold Lq.less at this⊢;rw[h i hi];exact this
 unfold Lq.gC;rw[h 0 (by decide),h 5 (by decide),hb,hq]
theorem Gx{P:tS}{s sz:Nat}(hf:iW P s=some sz)(a:tB)(len cap h m:Nat)(hh:h≤m)(hm:m≤cap)(w:tA):
  (Instr.sliceAt s (.slice a len cap) none (some (iV (h:Int))) (some (iV (m:Int)))).run P w= .ok (.slice a h m) w:=by
 unfold iW at hf;split at hf
 ·rename_i e hu;cases hi:P.info? e with
  |none=>simp[hi]at hf
  |some i=>
   simp[hi]at hf;subst hf;cases a<;>simp[Instr.sliceAt,Instr.slice,run_underlying hu,Instr.sliceBounds,Instr.sliceBound,asIntOf,sizeOf,typeInfo,hi,hh,hm,Addr.add]
 ·cases hf
theorem aeQ{ρ:Operand→Value}{o:Oper}{s sz:Nat}{x z u:tP}{a:tB}{len cap k m:Nat}(hf:iW Tryz.prog s=some sz)(hh:k≤m)(hm:m≤cap)(hp:o.op= .slice s x none (some z) (some u))(hx:ρ x= .slice a len cap)(hz:ρ z=iV (k:Int))(hu:ρ u=iV (m:Int))(w:tA):(execOp ρ o).run Tryz.prog w= .ok (.value (.slice a k m)) w:=by
 simp only[execOp,hp,hx,hz,hu,Option.map_some,Option.map_none,Sem.run_bind,Gx hf a len cap k m hh hm,Result.andThen_ok,Sem.run_pure]
noncomputable def wE(D:tF)(ts:Nat→jC):Nat→List Value
 |0=>[]
 |k+1=>wE D ts k++dz [.f 18 (dN (cX D k) (ts k))]
theorem zc{D:tF}{ts us:Nat→jC}:∀{k},(∀q,q<k→ts q=us q)→wE D ts k=wE D us k
 |0,_=>rfl
 |k+1,h=>by rw[wE,wE,zc fun q hq=>h q (by omega),h k (by omega)]
theorem ug{D:tF}{ts:Nat→jC}:∀k,(wE D ts k).length=k*18
 |0=>rfl
 |k+1=>by rw[wE,List.length_append,ug k,show(dz [.f 18 (dN (cX D k) (ts k))]).length=18 from rfl];omega
theorem KX{D:tF}{ts:Nat→jC}{q j:Nat}(hj:j<18):∀{k},q<k→(wE D ts k)[q*18+j]? =some (dN (cX D q) (ts q) j)
 |k+1,hq=>by
  rw[wE];by_cases e:q=k
  ·subst e;rw[List.getElem?_append_right (by rw[ug];omega),ug,Nat.add_sub_cancel_left];exact(cg _ 0 18 j hj).trans (by rw[Nat.zero_add])
  ·rw[List.getElem?_append_left (by rw[ug];omega)];exact KX hj (by omega)
theorem VM{w:tA}{D:tF}{ts:Nat→jC}{k:Nat}{t:jC}(h:∀q,q<k→kC w (cX D q) (ts q))(ht:kC w (cX D k) t):∀q,q<k+1→kC w (cX D q) (aj ts k t q):=fun q hq=>by
 by_cases e:q=k
 ·subst e;rw[au];exact ht
 ·rw[bk e];exact h q (by omega)
theorem uh(a:tB)(len cap:Nat)(D:tF)(w:tA)(VI:Lq.eO w)(de:RowK .i64 w a (11*len) D)(qk:len≤cap)(hlen:len≤100000)(ed:∀j,j<len→Lq.gC (Lq.aO D j)=0):cA 19 #[.slice a len cap] w fun x w'=>∃(Y c:Nat) (ts:Nat→jC),x= .returned (.tuple #[.slice (some ⟨Y,0,none⟩) (len+1) c,.bool true])∧bR (fun b=>b<w.heap.size) w' (fun w=>∀q,q<len+1→kC w (cX D q) (ts q)∧∀j,j<18→w.cell? ⟨Y,q*18+j,none⟩=some (dN (cX D q) (ts q) j))∧bZ w w':=by
 have hDl:=de.b_;refine en (H:=[]) _ [vv (.slice a len cap)] Tryz.func19 rfl rfl (nZ (w:=w) (U:=fun b=>b<w.heap.size) (fun _ h=>h) (G:=fun _=>True) (fun _ _=>trivial)) (r [] rfl fun _=> ?_);refine jH (fun w2 hS=>hS.zJ w.heap.size 34 18) ?_;refine ic (X:=Nat×Value×(Nat→jC)) ⟨fun x=>[(0,vv (.slice a len cap)),(4,vv x.2.1),(5,vi (x.1:Int))],fun _=>[],fun x b=>x.2.1.ownBlock=some b∨b<w.heap.size,fun x w=>∀q,q<x.1→kC w (cX D q) (x.2.2 q),fun x w'=>bZ w w'∧w'.ownsRow w.heap.size 34 18 x.2.1 x.1 (wE D x.2.2 x.1),fun x=>x.1≤len+1,fun x=>len+1-x.1⟩ (0,.slice none 0 0,fun _=>⟨0,0,fun _=> .nilFunc,fun _=>0,fun _=>0,fun _ _=>none,fun _ _=>0,none,0,none,0⟩) ⟨rfl,rfl,rfl,trivial⟩ (fun w hS=>hS.said fun _ _ q hq=>absurd hq (Nat.not_lt_zero q)) (Nat.zero_le _) ?_;rintro f ⟨k,v,ts⟩ hk;have hk:k≤len+1:=hk;by_cases h1:k≤len
 case neg=>
  obtain rfl:k=len+1:=by omega
  refine r [0] rfl fun _=>fin fun w' hS=> ?_;have ho:=hS.now.2.2;obtain⟨c,cur,Y,e,hb⟩:∃c cur Y,v= .slice (some ⟨Y,0,none⟩) (len+1) c∧w.heap.size≤Y:=by
   rcases ho.2 with⟨_,h0⟩|⟨g,cap,cur,e,hb,_⟩
   ·omega
   ·exact⟨cap,cur,g,e,hb⟩
  subst e;refine⟨Y,c,ts,rfl,fun w2 c2 q hq=>⟨hS.g w2 (c2.mono fun _ h=> .inr (.inr h)) q hq,fun j hj=> ?_⟩,hS.now.2.1⟩;have ho2:=jr ho fun g hg hl=>c2.block g hl fun hu=>by cases hg;exact Nat.not_lt.2 hb hu
  rw[ho2.cellAt (q*18+j) (by omega),KX hj hq]
 have ht:=de.take (11*k) (by omega);refine r [1] rfl fun _=>pv (vv (.slice a k k)) rfl (fun w=>aeQ Gv (Nat.le_refl k) (by omega) rfl rfl rfl rfl w) ?_;refine r [] rfl fun _=>cx rfl (fun t:jC=>vt [.g [.f 18 (dN (cX D k) t)],.o (.bool true)]) (fun _=>True) (fun t w=>kC w (cX D k) t) (fun w1 hS=>(mA a k k (D.take (11*k)) w1 (VI.next hS.now.2.1) (ht.below hS.now.2.1) (by omega) (fun j hj=>(nI (za hj (by omega))).trans (ed j (by omega)))).mono fun _ w2 ⟨t,e,ho,b⟩=> ?_) ?_
 ·rw[Sh (by omega)]at e ho;exact⟨t,e,b,trivial,fun hl=>ho.mono fun b _ hu=>hl b hu⟩
 intro t _;have og:aT (dN (cX D k) t) 18:=iH;refine r [] rfl fun α=>qJ 1 rfl y_ (fun w hS=>hS.now.2.1.size) (fun _ _ h c=>cS h c (Nat.le_refl _)) fun g c hc=> ?_;exact rz [1] [((k+1:Nat):Int)] rfl fun _=>bU (k+1,.slice (some ⟨g,0,none⟩) (k+1) c,aj ts k t) ⟨rfl,rfl,rfl,trivial⟩ (fun w hS=>((hS.take 0).said fun w h=>VM h.1 h.2).sr fun w h=>⟨h.1,by show World.ownsRow w _ _ _ _ _ (wE D (aj ts k t) (k+1));rw[wE,au,zc (us:=ts) fun q hq=>bk (by omega)];exact h.2⟩) (show k+1≤len+1 by omega) (show len+1-(k+1)<len+1-k by omega)
end
theorem kE{f:tG}(h1:Lq.gl (f 0) (f 5)<12)(h2:Lq.kD (Lq.over (Lq.gq (f 0) (f 5)) (Lq.jd (Lq.gl (f 0) (f 5))) f)=true)(h3:Lq.SZ (Lq.less (Lq.gq (f 0) (f 5)) f) (Lq.jd (Lq.gl (f 0) (f 5)))=true):Lq.gC f=0:=by
 unfold Lq.gC;rw[if_pos h1,if_pos h2,if_pos h3]
theorem gV{n m:Int}(h:0≤n∧n≤m):Lq.rh n m=true:=decide_eq_true h
abbrev lA(l:tF):Nat→Int:=fun o=>l.getD o 0
section
variable{n q p kp e i b:Int}
theorem nJ(hn:0≤n∧n≤4)(hq:0≤q∧q≤3):Lq.gC (lA [1,n,q,0,0,0,0,0,0,0,0])=0:=kE (show Lq.gl 1 0<12 by decide) (by show(Lq.rh n 4&&(Lq.rh q 3&&true))=true;rw[gV hn,gV hq];rfl) rfl
theorem Si(hn:0≤n∧n≤4)(hq:0≤q∧q≤3):Lq.gC (lA [10,n,q,0,0,0,0,0,0,0,0])=0:=kE (show Lq.gl 10 0<12 by decide) (by show(Lq.rh n 4&&(Lq.rh q 3&&true))=true;rw[gV hn,gV hq];rfl) rfl
theorem zd(hn:0≤n∧n≤4):Lq.gC (lA [3,n,0,0,0,0,0,0,0,0,0])=0:=kE (show Lq.gl 3 0<12 by decide) (by show(Lq.rh n 4&&true)=true;rw[gV hn];rfl) rfl
theorem vk(hn:0≤n∧n≤4):Lq.gC (lA [9,n,0,0,0,0,0,0,0,0,0])=0:=kE (show Lq.gl 9 0<12 by decide) (by show(Lq.rh n 4&&true)=true;rw[gV hn];rfl) rfl
theorem vl(hn:0≤n∧n≤4)(hk:0≤kp∧kp≤100000):Lq.gC (lA [8,n,0,0,kp,0,0,0,0,0,0])=0:=kE (show Lq.gl 8 0<12 by decide) (by show(Lq.rh n 4&&(true&&(Lq.rh kp 100000&&true)))=true;rw[gV hn,gV hk];rfl) rfl
theorem NX(hp:0≤p∧p≤1048576):Lq.gC (lA [4,0,0,p,0,0,0,0,0,0,0])=0:=kE (show Lq.gl 4 0<12 by decide) (by show(true&&(true&&(true&&(Lq.rh p 1048576&&true))))=true;rw[gV hp];rfl) rfl
theorem Sj(hp:0≤p∧p≤1048576):Lq.gC (lA [5,0,0,p,0,0,0,0,0,0,0])=0:=kE (show Lq.gl 5 0<12 by decide) (by show(true&&(true&&(true&&(Lq.rh p 1048576&&true))))=true;rw[gV hp];rfl) rfl
theorem Jl(hp:0≤p∧p≤1048576):Lq.gC (lA [6,0,0,p,0,0,0,0,0,0,0])=0:=kE (show Lq.gl 6 0<12 by decide) (by show(true&&(true&&(true&&(Lq.rh p 1048576&&true))))=true;rw[gV hp];rfl) rfl
theorem DM:Lq.gC (lA [7,0,0,0,0,0,0,0,0,0,0])=0:=kE (show Lq.gl 7 0<12 by decide) rfl rfl
theorem VN(hn:0≤n∧n≤4)(hq:0≤q∧q≤3)(hp:0≤p∧p≤3)(hi:0≤i∧i≤1073741824)(hb:0≤b∧b≤1000000):Lq.gC (lA [2,n,q,0,0,1,p,i,b,0,0])=0:=kE (show Lq.gl 2 1<12 by decide) (by show(Lq.rh n 4&&(Lq.rh q 3&&(true&&(true&&(false||aP 1 p i b 0 0==0)))))=true;rw[gV hn,gV hq,Lq.NQ.2 ⟨hp,hi,hb⟩];rfl) rfl
theorem Sk(hn:0≤n∧n≤4)(hq:0≤q∧q≤3):Lq.gC (lA [2,n,q,0,0,2,0,0,0,0,0])=0:=kE (show Lq.gl 2 2<12 by decide) (by show(Lq.rh n 4&&(Lq.rh q 3&&(true&&(true&&(false||aP 2 0 0 0 0 0==0)))))=true;rw[gV hn,gV hq,Lq.I_];rfl) rfl
theorem VO(hn:0≤n∧n≤4)(hq:0≤q∧q≤3)(he:0≤e∧e≤1048576)(hi:0≤i∧i≤1073741824):Lq.gC (lA [2,n,q,0,0,3,0,0,0,e,i])=0:=kE (show Lq.gl 2 3<12 by decide) (by show(Lq.rh n 4&&(Lq.rh q 3&&(true&&(true&&(false||aP 3 0 0 0 e i==0)))))=true;rw[gV hn,gV hq,Lq.NR.2 ⟨he,hi⟩];rfl) rfl
end
inductive GA(cr:Bool):List Int→Prop
 |zT (n q p i b:Int) (hn:0≤n∧n<3) (hq:0≤q∧q<2) (hp:0≤p∧p<2) (hi:0≤i∧i<24) (hb:0≤b∧b<1000):GA cr [2,n,q,0,0,1,p,i,b,0,0]
 |recv (n q:Int) (hn:0≤n∧n<3) (hq:0≤q∧q<2):GA cr [2,n,q,0,0,2,0,0,0,0,0]
 |zU (n q e i:Int) (hn:0≤n∧n<3) (hq:0≤q∧q<2) (he:0≤e∧e<3) (hi:0≤i∧i<6):GA cr [2,n,q,0,0,3,0,0,0,e,i]
 |step (n:Int) (hn:0≤n∧n<3):GA cr [3,n,0,0,0,0,0,0,0,0,0]
 |carry (p:Int) (hp:0≤p∧p<20):GA cr [4,0,0,p,0,0,0,0,0,0,0]
 |Sl (p:Int) (hp:0≤p∧p<20):GA cr [5,0,0,p,0,0,0,0,0,0,0]
 |double (p:Int) (hp:0≤p∧p<20):GA cr [6,0,0,p,0,0,0,0,0,0,0]
 |move (n q:Int) (hn:0≤n∧n<3) (hq:0≤q∧q<2):GA cr [10,n,q,0,0,0,0,0,0,0,0]
 |BN (n p:Int) (hc:cr=true) (hn:0≤n∧n<3) (hp:0≤p∧p<120):GA cr [8,n,0,0,p,0,0,0,0,0,0]
 |start (n:Int) (hc:cr=true) (hn:0≤n∧n<3):GA cr [9,n,0,0,0,0,0,0,0,0,0]
 |all:GA cr [7,0,0,0,0,0,0,0,0,0,0]
theorem KY(g:tG)(cr:Bool):GA cr (jL g cr):=by
 have hn:=cH (g 1) 3 (by decide);have hq:=cH (g 2) 2 (by decide);have h2:=cH (g 1) 2 (by decide);have h24:=cH (g 4) 24 (by decide);have hb:=cH (g 4) 1000 (by decide);have h3:=cH (g 1) 3 (by decide);have h6:=cH (g 4) 6 (by decide);have h20:=cH (g 3) 20 (by decide);have aeS:=cH (g 3) 120 (by decide);unfold jL;split
 ·unfold eH;by_cases e1:av (g 3) 8<3
  ·rw[if_pos e1,if_neg (show ¬(1:Int)=4 by decide)];exact .zT _ _ _ _ _ hn hq h2 h24 hb
  ·rw[if_neg e1];by_cases e2:av (g 3) 8<5
   ·rw[if_pos e2,if_neg (by decide)];exact .recv _ _ hn hq
   ·rw[if_neg e2];by_cases e3:av (g 3) 8<7
    ·rw[if_pos e3,if_neg (show ¬(3:Int)=4 by decide)];exact .zU _ _ _ _ hn hq h3 h6
    ·rw[if_neg e3,if_pos rfl];exact .recv _ _ hn hq
 ·split
  ·exact .step _ hn
  ·split
   ·exact .carry _ h20
   ·split
    ·exact .Sl _ h20
    ·split
     ·exact .double _ h20
     ·split
      ·exact .move _ _ hn hq
      ·split
       ·rename_i h;exact .BN _ _ h.2 hn aeS
       ·split
        ·rename_i h;exact .start _ h.2 hn
        ·exact .all
theorem GA.gC{cr:Bool}{l:tF}(h:GA cr l):Lq.gC (lA l)=0:=by
 cases h with
 |zT n q p i b hn hq hp hi hb=>exact VN (by omega) (by omega) (by omega) (by omega) (by omega)
 |recv n q hn hq=>exact Sk (by omega) (by omega)
 |zU n q e i hn hq he hi=>exact VO (by omega) (by omega) (by omega) (by omega)
 |step n hn=>exact zd (by omega)
 |carry p hp=>exact NX (by omega)
 |Sl p hp=>exact Sj (by omega)
 |double p hp=>exact Jl (by omega)
 |move n q hn hq=>exact Si (by omega) (by omega)
 |BN n p hc hn hp=>exact vl (by omega) (by omega)
 |start n hc hn=>exact vk (by omega)
 |all=>exact DM
theorem BS{u:Int}(h:0≤u∧u≤1000000):(Lit.int .i64 u).wf=true:=IH (by omega) (by omega)
theorem GA.sm{cr:Bool}{l:tF}(h:GA cr l):∀u∈l,0≤u∧u≤1000000:=by
 intro u hu;cases h<;>simp only[List.mem_cons,List.not_mem_nil,or_false]at hu<;>omega
def fm(D:tF)(j:Nat):List Int:=(D.drop (11*j)).take 11
theorem iI(D:tF)(j:Nat):∀o,o<11→Lq.aO D j o=lA (fm D j) o:=fun o ho=>by
 unfold Lq.aO lA fm;rw[List.getD_eq_getElem?_getD,List.getD_eq_getElem?_getD,List.getElem?_take_of_lt ho,List.getElem?_drop]
theorem iD{D E:tF}{j:Nat}(h:11*(j+1)≤D.length):fm (D++E) j=fm D j:=by
 unfold fm;rw[List.drop_append_of_le_length (by omega),List.take_append_of_le_length (by rw[List.length_drop];omega)]
theorem lX{D E:tF}{n j:Nat}(h:D.length=11*n):fm (D++E) (n+j)=fm E j:=by
 unfold fm;rw[List.drop_append,List.drop_eq_nil_of_le (by omega),List.nil_append,show 11*(n+j)-D.length=11*j by omega]
theorem uj{l:tF}(h:l.length=11):fm l 0=l:=by
 unfold fm;rw[Nat.mul_zero,List.drop_zero,List.take_of_length_le (by omega)]
theorem o6(G:tF)(cr:Bool):∀(k j:Nat),j<k+2→(j=0∧fm (bn G cr k) j=[1,0,0,0,0,0,0,0,0,0,0])∨(j=1∧fm (bn G cr k) j=[1,1,1,0,0,0,0,0,0,0,0])∨(2≤j∧GA cr (fm (bn G cr k) j))
 |0,j,hj=>by
  obtain rfl|rfl:j=0∨j=1:=by omega
  ·exact .inl ⟨rfl,rfl⟩
  ·exact .inr (.inl ⟨rfl,rfl⟩)
 |k+1,j,hj=>by
  have hl:=jE G cr k;show(j=0∧fm (bn G cr k++jL (iu G k) cr) j=_)∨(j=1∧fm (bn G cr k++jL (iu G k) cr) j=_)∨(2≤j∧GA cr (fm (bn G cr k++jL (iu G k) cr) j));by_cases e:j<k+2
  ·rw[iD (by omega)];exact o6 G cr k j e
  ·obtain rfl:j=k+2:=by omega
   have:=lX (E:=jL (iu G k) cr) (j:=0) hl;rw[Nat.add_zero]at this;rw[this,uj (vj _ _)];exact .inr (.inr ⟨by omega,KY _ _⟩)
theorem uk(G:tF)(cr:Bool)(k j:Nat)(hj:j<k+2):Lq.gC (Lq.aO (bn G cr k) j)=0:=by
 rw[nI (iI _ _)];rcases o6 G cr k j hj with⟨_,e⟩|⟨_,e⟩|⟨_,e⟩
 ·rw[e];exact nJ (by decide) (by decide)
 ·rw[e];exact nJ (by decide) (by decide)
 ·exact e.gC
theorem se(G:tF)(cr:Bool):∀k,∀u∈bn G cr k,0≤u∧u≤1000000
 |0,u,hu=>by
  simp only[bn,List.mem_cons,List.not_mem_nil,or_false]at hu;omega
 |k+1,u,hu=>by
  rcases List.mem_append.1 hu with hu|hu
  ·exact se G cr k u hu
  ·exact(KY _ _).sm u hu
theorem gu(d:Nat)(x y:Int)(w:tA):(Op.equalIn (d+1+1) 26 (pL x y) (pL x y)).run Tryz.prog w= .ok true w:=by
 rw[run_equalIn_agg (P:=Tryz.prog) w (d+1) 26 _ _ Tryz.underlying26 (by kernel_rfl)];simp[go_sem]
theorem qP(d:Nat)(n e:tG)(w:tA):(Op.equalIn (d+1+1+1) 27 (gG n e) (gG n e)).run Tryz.prog w= .ok true w:=by
 have hp:=gu d;rw[Op.equalIn];generalize d+1+1=dd at hp⊢;simp only[Sem.run_bind,run_underlying Tryz.underlying27,Result.andThen_ok];simp[go_sem,List.range',hp]
theorem vm(n e:tG)(w:tA):(Op.equalIn 9999 27 (gG n e) (gG n e)).run Tryz.prog w= .ok true w:=qP 9996 n e w
namespace Lq
open Go.ChangeShapes Go.WideShapes Go.ChangeAt
section
variable{H:Type}{enc:TypeId×Value→H}{W:tA}
def nK(w:tA)(a:Addr):Int:=match w.cell? a with
 |some (.int .i64 z)=>z
 |_=>0
theorem NY{t e:tT}{size:Nat}(ht:Tryz.prog.underlying t=some (.slice e))(hc:Tryz.prog.cellsOf e=size)(h0:0<size)
  (hints:∀{fuel:Nat} {cs:tK} {x:DataW H×List MemPlace},DataW.trod enc Tryz.prog W 0 (fun _=>true) true fuel e cs=some x→Ints cs∧cs.length=size)
  {fuel:Nat} {cs:tK} {d:DataW H} {p:List MemPlace} (hf:DataW.trod enc Tryz.prog W 0 (fun _=>true) true fuel t cs=some (d,p)):
  ∃a len cap D,cs=[.slice a len cap]∧RowK .i64 W a (size*len) D∧len≤cap∧cap≤maxLen∧(a=none→cap=0)∧((d= .nil∧cap=0)∨∃es sp,d= .slice es sp∧es.length+sp.length=cap):=by
 rcases Go.Deep.open_slice ht hf with⟨rfl,hx⟩|⟨x,l,c,m,n,Dd,Pl,rfl,_,hl,hm,hmm,hx,je⟩
 ·simp only[Prod.mk.injEq]at hx;exact⟨none,0,0,[],rfl,RowK.nil _ _ _,Nat.le_refl _,by unfold maxLen;omega,fun _=>rfl,.inl ⟨hx.1,rfl⟩⟩
 ·simp only[if_true]at hmm;subst hmm;simp only[Prod.mk.injEq]at hx;have abF:(d= .nil∧m=0)∨∃es sp,d= .slice es sp∧es.length+sp.length=m:= .inr ⟨_,_,hx.1,by simp;omega⟩;have key:∀i,i<l→∀t,t<size→∃z,W.cell? ((x.add (i*size)).add t)=some (iV z)∧(Lit.int .i64 z).wf=true:=by
   intro i hi t ht;obtain⟨N9,h1,h2⟩:=je i (by omega);rw[hc]at h1;obtain⟨⟨zs,rfl,hw⟩,UZ⟩:=hints h2;have ahP:zs.length=size:=by simpa using UZ
   have h3:=(World.cells?_some h1).2.2 t ht;rw[h3,List.getElem?_map,List.getElem?_eq_getElem (show t<zs.length by omega)];exact⟨zs[t]'(by omega),rfl,hw _ (List.getElem_mem _)⟩
  obtain⟨b,off,spot⟩:=x;by_cases GQ:l=0
  ·subst GQ;exact⟨_,_,_,[],rfl,RowK.nil _ _ _,hl,hm,by simp,abF⟩
  have abG:spot=none:=by
   obtain⟨z,hz,_⟩:=key 0 (by omega) 0 (by omega);simpa[Addr.add]using World.cell?_spot hz
  subst abG;have Ot:∀i t,((⟨b,off,none⟩:Addr).add i).add t=⟨b,off+(i+t),none⟩:=by
   intro i t;have h1:∀(o j:Nat),(⟨b,o,none⟩:Addr).add j=⟨b,o+j,none⟩:=fun o j=>by unfold Addr.add;split<;>simp_all
   rw[h1,h1,Nat.add_assoc]
  have cell:∀j,j<size*l→W.cell? ⟨b,off+j,none⟩=some (iV (nK W ⟨b,off+j,none⟩))∧(Lit.int .i64 (nK W ⟨b,off+j,none⟩)).wf=true:=by
   intro j hj;obtain⟨z,hz,hw⟩:=key (j/size) (Nat.div_lt_of_lt_mul hj) (j % size) (Nat.mod_lt _ h0);rw[Ot,Nat.mul_comm (j/size) size,Nat.div_add_mod]at hz;have hn:nK W ⟨b,off+j,none⟩=z:=by unfold nK;rw[hz]
   rw[hn];exact⟨hz,hw⟩
  refine⟨_,_,_,(List.range (size*l)).map (fun j=>nK W ⟨b,off+j,none⟩),rfl,⟨by simp, ?_, ?_⟩,hl,hm,by simp,abF⟩
  ·intro u hu;simp only[List.mem_map,List.mem_range]at hu;obtain⟨j,hj,rfl⟩:=hu;exact(cell j hj).2
  ·intro j hj;have hcj:=(cell j hj).1;refine⟨b,off,rfl, ?_, ?_⟩
   ·unfold World.cell? at hcj;by_cases Hd:b<W.heap.size
    ·exact Hd
    ·simp[Array.getElem?_eq_none (show W.heap.size≤b by omega)]at hcj
   ·rw[hcj];simp[List.getD_eq_getElem?_getD,hj]
end
theorem Sm:Tryz.prog.globalNamed "berthshift/lines.kinds" =some 0:=by kernel_rfl
theorem YS:(Tryz.prog.globals[0]?).map (·.type)=some 191:=by kernel_rfl
theorem ze:Tryz.prog.cellsOf 151=3:=by kernel_rfl
theorem Gy:Tryz.prog.cellsOf 191=36:=by kernel_rfl
theorem NZ:Tryz.prog.cellsOf 9=1:=by kernel_rfl
theorem Jm{enc:TypeId×Value→Unit}{W:tA}{base:Nat}{sp:tM}{held:Bool}{fuel:Nat}{cs:tK}{x:DataW Unit×List MemPlace}{b:List UInt8}{a o:Int}(h:DataW.trod enc Tryz.prog W base sp held fuel 151 cs=some x)(hx:x.1= .agg [.lit (.string b),.lit (.int .i64 a),.lit (.int .i64 o)]):cs=[.string ⟨b.toArray⟩,iV a,iV o]:=by
 obtain⟨xs,n,_,rfl,hl,hlen,hf⟩:=DataW.trod_struct Tryz.underlying151 h;rw[ze]at hl
 match xs,hlen with
 |[y0,y1,y2],_=>
  have f0:DataW.trod enc Tryz.prog W base sp held n 9 ((cs.drop 0).take (Tryz.prog.cellsOf 9))=some y0:=hf 0 _ rfl;have f1:DataW.trod enc Tryz.prog W base sp held n 3 ((cs.drop 1).take (Tryz.prog.cellsOf 3))=some y1:=hf 1 _ rfl;have f2:DataW.trod enc Tryz.prog W base sp held n 3 ((cs.drop 2).take (Tryz.prog.cellsOf 3))=some y2:=hf 2 _ rfl;rw[NZ]at f0;rw[kX]at f1 f2;obtain⟨s,e0,rfl,_⟩:=DataW.trod_string Tryz.underlying9 f0;obtain⟨z1,e1,rfl,_⟩:=DataW.trod_int Tryz.underlying3 f1;obtain⟨z2,e2,rfl,_⟩:=DataW.trod_int Tryz.underlying3 f2;simp only[List.map_cons,List.map_nil,DataW.agg.injEq,List.cons.injEq,DataW.lit.injEq,Lit.string.injEq,Lit.int.injEq,and_true,true_and]at hx;obtain⟨rfl,rfl,rfl⟩:=hx
  match cs,hl with
  |[c0,c1,c2],_=>
   simp at e0 e1 e2;subst e0 e1 e2;rfl
theorem Gz:∀i,i<12→(p_.drop (i*3)).take 3=[.string (iC i),iV (iq i),iV (rZ i)]:=by
 refine wZ ?_ ?_ ?_ ?_ ?_ ?_ ?_ ?_ ?_ ?_ ?_ ?_<;>rfl
theorem chunks{l:tK}(hl:l.length=36)(h:∀i,i<12→(l.drop (i*3)).take 3=[.string (iC i),iV (iq i),iV (rZ i)]):l=p_:=by
 have key:∀m:List Value,∀j,m[j]? =((m.drop (j/3*3)).take 3)[j % 3]? :=fun m j=>by
  rw[List.getElem?_take,if_pos (Nat.mod_lt _ (by decide)),List.getElem?_drop];congr 1;omega
 refine List.ext_getElem? fun j=> ?_;by_cases hj:j<36
 ·rw[key l j,key p_ j,h (j/3) (by omega),Gz (j/3) (by omega)]
 ·rw[List.getElem?_eq_none (by omega),List.getElem?_eq_none (by rw[NM];omega)]
theorem fo{W:tA}(h:laidMet Tryz.prog [("berthshift/lines.kinds",Rows.laid_berthshift_lines_kinds)] W):eO W:=by
 obtain⟨ps,⟨g0,t0,cs0,f0,p0,q0,hg0,ht0,hv0,hd0,_,_⟩,_,_⟩:=h;obtain rfl:=Option.some.inj (Sm.symm.trans hg0);obtain rfl:=Option.some.inj (YS.symm.trans ht0);obtain⟨xs,m,rfl,hx,hlen,hn,Th⟩:=DataW.trod_array Tryz.underlying191 hd0;rw[Gy]at hlen;have vu:cs0.toList=p_:=by
  refine chunks hlen fun i hi=> ?_;have h1:=Th i hi;rw[ze]at h1;have hm:xs.map (·.1)=_:=(DataW.agg.inj (Prod.mk.inj hx).1).symm;have h2:(xs.map (·.1))[i]? =some (.agg [.lit (.string (iC i).data.toList),.lit (.int .i64 (iq i)),.lit (.int .i64 (rZ i))]):=by
   rw[hm];revert i;refine wZ ?_ ?_ ?_ ?_ ?_ ?_ ?_ ?_ ?_ ?_ ?_ ?_<;>intros<;>rfl
  rw[List.getElem?_map]at h2;cases hxi:xs[i]? with
  |none=>rw[hxi]at h2;cases h2
  |some x=>
   rw[hxi]at h1 h2;have:=Jm h1 (Option.some.inj h2);rw[this]
 have hb:∃e fz,W.heap[0]? =some (.cells cs0 e fz):=by
  simp only[World.var?,Sm,Option.bind_some]at hv0;split at hv0
  ·rename_i cs e fz heq;cases hv0;exact⟨e,fz,heq⟩
  ·cases hv0
 obtain⟨e,fz,hb⟩:=hb;exact⟨e,fz,by rw[hb,←vu]⟩
theorem zg:Tryz.prog.cellsOf 98=5:=by kernel_rfl
theorem N0{H:Type}{enc:TypeId×Value→H}{W:tA}{base:Nat}{sp:tM}{held:Bool}{fuel:Nat}{cs:tK}{x:DataW H×List MemPlace}(h:DataW.trod enc Tryz.prog W base sp held fuel 98 cs=some x):Ints cs∧cs.length=5:=by
 obtain⟨xs,n,_,_,hl,hlen,hf⟩:=DataW.trod_struct Tryz.underlying98 h;rw[zg]at hl;refine⟨?_,hl⟩
 match xs,hlen with
 |[y0,y1,y2,y3,y4],_=>
  have f0:DataW.trod enc Tryz.prog W base sp held n 3 ((cs.drop 0).take (Tryz.prog.cellsOf 3))=some y0:=hf 0 _ rfl;rw[kX]at f0;have f1:DataW.trod enc Tryz.prog W base sp held n 3 ((cs.drop 1).take (Tryz.prog.cellsOf 3))=some y1:=hf 1 _ rfl;rw[kX]at f1;have f2:DataW.trod enc Tryz.prog W base sp held n 3 ((cs.drop 2).take (Tryz.prog.cellsOf 3))=some y2:=hf 2 _ rfl;rw[kX]at f2;have f3:DataW.trod enc Tryz.prog W base sp held n 3 ((cs.drop 3).take (Tryz.prog.cellsOf 3))=some y3:=hf 3 _ rfl;rw[kX]at f3;have f4:DataW.trod enc Tryz.prog W base sp held n 3 ((cs.drop 4).take (Tryz.prog.cellsOf 3))=some y4:=hf 4 _ rfl;rw[kX]at f4;exact mX (o:=0) (n:=1) (pG Tryz.underlying3 f0) (mX (o:=1) (n:=1) (pG Tryz.underlying3 f1) (mX (o:=2) (n:=1) (pG Tryz.underlying3 f2) (mX (o:=3) (n:=1) (pG Tryz.underlying3 f3) (mX (o:=4) (n:=1) (pG Tryz.underlying3 f4) (PB (by omega))))))
section
variable{H:Type}{enc:TypeId×Value→H}{W:tA}
theorem j3{r:Reach}{b0:Nat}{v:tJ}{d:DataW H}{p:List MemPlace}(hv:Value.okWide Tryz.prog W r b0 41 v)(h:DataW.Trod enc Tryz.prog W 0 (fun _=>true) true 41 v d p):
  ∃a len cap D,v= .slice a len cap∧RowK .i64 W a (5*len) D∧len≤cap∧cap≤maxLen∧(a=none→cap=0)∧((d= .nil∧cap=0)∨∃es sp,d= .slice es sp∧es.length+sp.length=cap):=by
 obtain⟨a,len,cap,rfl⟩:=okWide_slice Tryz.underlying41 hv;obtain⟨fuel,hf⟩:=h;obtain⟨a',e_,bh,D,vu,r1⟩:=NY Tryz.underlying41 zg (by decide) N0 hf;simp[Value.cells]at vu;obtain⟨rfl,rfl,rfl⟩:=vu;exact⟨_,_,_,D,rfl,r1⟩
end
end Lq
end Go.Proofs.YtmhifeahpnkpiaaGreatDoor
