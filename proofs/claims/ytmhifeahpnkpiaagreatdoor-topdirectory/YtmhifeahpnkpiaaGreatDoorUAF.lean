/- Out of my texts: CyG, RlM, CyI, CyJ, CyK, CyL, CyM, CyN, CyH, TcA, TcD, TcE, TcC, TcF, TcG, DrH, LqO, TcO. -/
import Derived.Deep.Slices
import Derived.LaidMore
import Derived.Stop.Joined
import Derived.Stop.LaidErr
import Derived.Test.YtmhifeahpnkpiaaGreatDoorRows
import Derived.Test.YtmhifeahpnkpiaaGreatDoorUAA
import Derived.Test.YtmhifeahpnkpiaaGreatDoorUAB
import Derived.Test.YtmhifeahpnkpiaaGreatDoorUAC
import Derived.Test.YtmhifeahpnkpiaaGreatDoorUAD
import Derived.Test.YtmhifeahpnkpiaaGreatDoorUAE
set_option maxRecDepth 20000
set_option maxHeartbeats 8000000
set_option linter.unusedVariables false
namespace Go.Proofs.YtmhifeahpnkpiaaGreatDoor
open Go.RowKit
abbrev BR:= @List.foldl_cons
theorem TY{f:tH}(h:Lq.fw f=0):Lq.gD (f 0) (f 5)<12∧Lq.kS f=true:=by
 unfold Lq.fw at h;by_cases hi:Lq.gD (f 0) (f 5)<12
 ·rw[if_pos hi]at h;by_cases hb:Lq.kS (Lq.over (Lq.gF (f 0) (f 5)) (Lq.jr (Lq.gD (f 0) (f 5))) f)=true
  ·rw[if_pos hb]at h;by_cases he:Lq.U3 (Lq.less (Lq.gF (f 0) (f 5)) f) (Lq.jr (Lq.gD (f 0) (f 5)))=true
   ·have hf:∀i,i<11→Lq.over (Lq.gF (f 0) (f 5)) (Lq.jr (Lq.gD (f 0) (f 5))) f i=f i:=fun i hi'=>by
     have:=Lq.FU.1 he i hi';unfold Lq.less at this;unfold Lq.over;split
     ·rfl
     ·rename_i hn;rw[if_neg hn]at this;exact this.symm
    refine⟨hi, ?_⟩;unfold Lq.kS at hb⊢;rw[hf 0 (by decide),hf 1 (by decide),hf 2 (by decide),hf 3 (by decide),hf 4 (by decide),hf 5 (by decide),hf 6 (by decide),hf 7 (by decide),hf 8 (by decide),hf 9 (by decide),hf 10 (by decide)]at hb;exact hb
   ·rw[if_neg he]at h;omega
  ·rw[if_neg hb]at h;omega
 ·rw[if_neg hi]at h;omega
structure YM(f:tH):Prop where
 k:1≤f 0∧f 0≤10
 n:0≤f 1∧f 1<5
 q:0≤f 2∧f 2<4
 p:0≤f 3∧f 3≤1048576
 kp:0≤f 4∧f 4≤100000
 e:f 0=2→aP (f 5) (f 6) (f 7) (f 8) (f 9) (f 10)=0∧1≤f 5∧f 5≤3
theorem vk{f:tH}(h:Lq.fw f=0):YM f:=by
 obtain⟨h1,h2⟩:=TY h;have hk:1≤f 0∧f 0≤10∧(f 0=2→1≤f 5∧f 5≤3):=by
  by_cases hx:1≤f 0∧f 0≤10∧(f 0=2→1≤f 5∧f 5≤3)
  ·exact hx
  ·exfalso;have h12:Lq.gD (f 0) (f 5)=12:=by
    unfold Lq.gD;by_cases h2:f 0=2
    ·rw[if_neg (by omega),if_neg (by omega),if_neg (by omega),if_neg (by omega),if_neg (by omega),if_neg (by omega),if_neg (by omega),if_neg (by omega),if_neg (by omega),if_pos h2,if_neg (by omega),if_neg (by omega),if_neg (by omega)]
    ·rw[if_neg (by omega),if_neg (by omega),if_neg (by omega),if_neg (by omega),if_neg (by omega),if_neg (by omega),if_neg (by omega),if_neg (by omega),if_neg (by omega),if_neg h2]
   omega
 unfold Lq.kS Lq.rF at h2;simp only[Bool.and_eq_true,Bool.or_eq_true,decide_eq_true_eq,bne_iff_ne,beq_iff_eq]at h2;refine⟨⟨hk.1,hk.2.1⟩, ?_, ?_, ?_, ?_,fun e=>⟨?_,hk.2.2 e⟩⟩
 ·omega
 ·omega
 ·omega
 ·omega
 ·exact h2.2.2.2.2.resolve_left fun hh=>hh e
def aaq(D:tG)(k:Nat):Nat→Value:=fun j=>iV (Lq.aD D k j)
noncomputable def dB(p:(Nat→Nd)×Ws)(f:tH):(Nat→Nd)×Ws:=U2 p.1 p.2 (f 0) (f 1).toNat (f 2).toNat (f 3).toNat (f 4) ⟨f 5,f 6,f 7,f 8,f 9,f 10⟩
noncomputable def bN(D:tG):Nat→(Nat→Nd)×Ws
 |0=>(ph,MT)
 |k+1=>dB (bN D k) (Lq.aD D k)
structure GdT(p:(Nat→Nd)×Ws):Prop where
 g:Gd p.1 p.2
 t:∀i,i<5→(p.1 i).up=false→∃Bs rs kk,CN (p.1 i) Bs rs kk
section
variable{w w':tA}{X i:Nat}{us:Nat→Nv}{v v':Wv}{F F':tF}
theorem CW.others(h:CW w X us v F)(c:dm (fun b=>b<v.nd 5) w w'):CW w' X us v F:=by
 have same:∀b,CU us v F b→w'.heap[b]? =w.heap[b]? :=fun b hb=>c.block b (h.lt b hb) (AY.2 (h.lo b hb));refine⟨h.wo.still fun b hb=>same b (.inl hb),fun j hj=>(h.nb j hj).same (same _ (.inr (.inl ⟨j,hj,rfl⟩))),h.ok,h.inj,h.nf,fun j hj=> ?_,h.wf,h.wn,h.ww,h.st.EI (c.mono fun _ h=> .inr h) fun _ _ h=>h,AN h.ln c.size,h.lo⟩;obtain⟨B,hr⟩:=h.wr j hj;exact⟨B,hr.still fun hb=>same B (.inr (.inr ⟨j,hj,hb⟩))⟩
theorem Cd.below{r:(Nat→Nd)×Ws}{qf:Nat→Nv}(h:CW w X us v F)(hd:Cd w X us v F r qf v' F' w'):Below (v.nd 5) w w':=hd.mv.c.below h.ln fun b hb hc=>absurd (h.lo b hc) (BE.2 hb)
theorem aar(h:CW w X us v F){D:tG}{k:Nat}(hp:((fun i=>(us i).pure),v.pure)=bN D k)(hg:GdT (bN D k))(ok:Lq.fw (Lq.aD D k)=0):cA 30 #[lp X,vF (aaq D k) 11] w fun x w'=>x= .returned (.tuple #[])∧∃qf v' F',CW w' X qf v' F'∧((fun i=>(qf i).pure),v'.pure)=bN D (k+1)∧v'.nd=v.nd∧Below (v.nd 5) w w':=by
 have a:=vk ok;obtain⟨f,hf⟩:∃f,f=Lq.aD D k:=⟨_,rfl⟩;rw[←hf]at a;have Vo:Gd (fun i=>(us i).pure) v.pure:=by
  have:=hg.g;rw[←hp]at this;exact this
 have e:vF (aaq D k) 11=vF (lF [iV (f 0),iV (((f 1).toNat:Nat):Int),iV (((f 2).toNat:Nat):Int),iV (((f 3).toNat:Nat):Int),iV (f 4),iV (f 5),iV (f 6),iV (f 7),iV (f 8),iV (f 9),iV (f 10)]) 11:=by
  rw[Bz a.n.1,Bz a.q.1,Bz a.p.1,hf];rfl
 rw[e];refine(ac4 X us v F w h Vo (f 0) (f 1).toNat (f 2).toNat (f 3).toNat (f 4) ⟨f 5,f 6,f 7,f 8,f 9,f 10⟩ a.k (by have:=a.n;omega) (by have:=a.q;omega) ⟨a.kp.1,by have:=a.kp;omega⟩).mono ?_;rintro x w' ⟨rfl,qf,v',F',hd⟩;refine⟨rfl,qf,v',F',hd.cw, ?_,hd.nd,Cd.below h hd⟩;show _=dB (bN D k) (Lq.aD D k);unfold dB;rw[←hp,←hf];exact Prod.ext hd.n hd.s
end
noncomputable def c_(D:tG)(n:Nat):Oc:=ocS (bN D n).1 (bN D n).2
def zO:Value:=vF (A_ (iV 0) (fun _=>false) (fun _=>0) (fun _=>0) (.slice none 0 0) (.slice none 0 0) (.slice none 0 0) (iV 0)) 18
inductive TZ(D:tG)(n:Nat)(w w':tA):Value→Prop
 |ac5 (h:100000<n):TZ D n w w' (.tuple #[zO,iV 1])
 |bad (h:n≤100000) (c e:Int) (hc:Lq.mX D n c e) (he:¬e=0):TZ D n w w' (.tuple #[zO,iV e])
 |fm (h:n≤100000) (hc:∀j,j<n→Lq.fw (Lq.aD D j)=0) (t:iJ) (ho:bV (fun b=>b<w.heap.size) w' fun w=>jQ w (c_ D n) t):TZ D n w w' (.tuple #[ocV (c_ D n) t,iV 0])
inductive kI:Bt→List Rec→Bt→Prop
 |nil (B:Bt):kI B [] B
 |cons {B D E:Bt} {r:Rec} {l:List Rec} (hf:r.fault=0) (ha:dW B r=(D,0)) (h:kI D l E):kI B (r::l) E
theorem kI.one{B D:Bt}{r:Rec}(hf:r.fault=0)(ha:dW B r=(D,0)):kI B [r] D:= .cons hf ha (.nil D)
theorem kI.app{B D E:Bt}{l m:List Rec}(h:kI B l D)(h':kI D m E):kI B (l++m) E:=by
 induction h with
 |nil B=>exact h'
 |cons hf ha _ ih=>exact .cons hf ha (ih h')
theorem kI.snoc{B D E:Bt}{r:Rec}{l:List Rec}(h:kI B l D)(hf:r.fault=0)(ha:dW D r=(E,0)):kI B (l++[r]) E:=h.app (.one hf ha)
theorem kI.nil_eq{B D:Bt}(h:kI B [] D):D=B:=by cases h;rfl
def recC(q e:Int):Rec:=⟨1,q,e,0,⟨0,0,0,0,0,0⟩⟩
def ac6(q e:Int)(v:Ev):Rec:=⟨2,q,e,0,v⟩
def ac7(q e p:Int):Rec:=⟨3,q,e,p,⟨0,0,0,0,0,0⟩⟩
def T_(q e:Int):Rec:=⟨7,q,e,0,⟨0,0,0,0,0,0⟩⟩
def ac8(q e:Int):Rec:=⟨6,q,e,0,⟨0,0,0,0,0,0⟩⟩
def ac9(q e p:Int):Rec:=⟨4,q,e,p,⟨0,0,0,0,0,0⟩⟩
def ac_(q e:Int)(v:Ev):Rec:=⟨5,q,e,0,v⟩
theorem aas{q e:Int}(hq:0≤q∧q≤3)(he:1≤e∧e≤1048576):(recC q e).fault=0:=by
 unfold Rec.fault aE recC gJ;simp only;rw[if_neg (by omega),if_neg (by omega),if_neg (by omega)];simp
theorem K_{q e p:Int}(hq:0≤q∧q≤3)(he:1≤e∧e≤1048576)(hp:0≤p∧p≤4):(ac7 q e p).fault=0:=by
 unfold Rec.fault aE ac7 gJ;simp only;rw[if_neg (by omega),if_neg (by omega),if_neg (by omega)];simp
theorem zd{q e:Int}(hq:0≤q∧q≤3)(he:1≤e∧e≤1048576):(T_ q e).fault=0:=by
 unfold Rec.fault aE T_ gJ;simp only;rw[if_neg (by omega),if_neg (by omega),if_neg (by omega)];simp
theorem La{q e:Int}(hq:0≤q∧q≤3)(he:1≤e∧e≤1048576):(ac8 q e).fault=0:=by
 unfold Rec.fault aE ac8 gJ;simp only;rw[if_neg (by omega),if_neg (by omega),if_neg (by omega)];simp
theorem Lb{q e p:Int}(hq:0≤q∧q≤3)(he:1≤e∧e≤1048576)(hp:0≤p∧p≤4):(ac9 q e p).fault=0:=by
 unfold Rec.fault aE ac9 gJ;simp only;rw[if_neg (by omega),if_neg (by omega),if_neg (by omega)];simp
theorem ze{q e:Int}{v:Ev}(hq:0≤q∧q≤3)(he:1≤e∧e≤1048576)(hv:v.Ok):(ac6 q e v).fault=0:=by
 unfold Rec.fault aE ac6;simp only;rw[if_neg (by omega),if_neg (by omega),if_pos (by simp)];exact hv
theorem sw{q e:Int}{v:Ev}(hq:0≤q∧q≤3)(he:1≤e∧e≤1048576)(hv:v.Ok):(ac_ q e v).fault=0:=by
 unfold Rec.fault aE ac_;simp only;rw[if_neg (by omega),if_neg (by omega),if_pos (by simp)];exact hv
theorem QR{e:Int}(he:1≤e∧e≤1048576):Bt.Ok ⟨1,e,0,0,0,[]⟩:=⟨.inr (.inl ⟨rfl,he.1,he.2,rfl,rfl,rfl⟩),by simp,_,_,.nil⟩
theorem FV{B:Bt}{q:Int}(hq:0≤q∧q≤3)(ok:B.Ok)(hr:B.r=3):(T_ q B.e).fault=0∧dW B (T_ q B.e)=(⟨0,B.e,0,0,0,[]⟩,0):=by
 have hs:=ok.cO;unfold Bt.cH bB at hs;have he:1≤B.e∧B.e≤1048576:=by omega
 refine⟨zd hq he,eS ok (zd hq he) ?_ ⟨.inl ⟨rfl,rfl,by simp only;omega,by simp only;omega,rfl,rfl,rfl⟩,by simp,_,_,.nil⟩⟩;unfold cS T_;simp[hr]
def nU(r:Rec):Prop:=r.fault=0∧(¬(r.k=2∨r.k=5)→r.v=lT)
theorem nU.fm{r:Rec}(h:nU r):lC (aZ r):=
 ⟨r.k,r.q,r.e,r.p,r.v.k,r.v.p,r.v.i,r.v.b,r.v.he,r.v.hn,rfl,h.1,fun hk=>by
  have e:=h.2 hk;rw[e]
  exact⟨rfl,rfl,rfl,rfl,rfl,rfl⟩⟩
theorem fH(rs:List Rec):bI rs=aN (rs.map aZ):=by
 unfold bI aN;rw[List.flatMap_map];rfl
theorem kn(a b:List Rec):bI (a++b)=bI a++bI b:=by simp[bI]
theorem I6{rs:List Rec}(h:∀r∈rs,nU r):∀z∈rs.map aZ,lC z:=fun z hz=>by
 obtain⟨r,hr,rfl⟩:=Ax.1 hz;exact(h r hr).fm
theorem zg{rs:List Rec}(h:∀r∈rs,nU r):bu (bI rs)=(rs.map aZ,(bI rs).length):=by
 rw[fH];exact qi _ (I6 h)
theorem Xv{rs:List Rec}:22*rs.length≤(bI rs).length:=by
 rw[fH];have:=(iz (rs.map aZ)).1;rw[AX]at this;exact this
theorem Lc{r:Rec}(h:r.fault=0):(1≤r.k∧r.k≤7)∧(0≤r.q∧r.q≤3)∧(0≤r.e∧r.e≤1048576)∧(0≤r.p∧r.p≤4)∧((r.k=2∨r.k=5)→r.v.Ok):=by
 unfold Rec.fault aE at h;split at h
 ·omega
 ·rename_i h1;split at h
  ·omega
  ·rename_i h2;have h1:=Ay.1 h1;have h2:=Ay.1 h2;refine⟨h1,⟨h2.1,h2.2.1⟩,⟨h2.2.2.1,h2.2.2.2.1⟩,h2.2.2.2.2,fun hk=> ?_⟩;rw[if_pos hk]at h;exact h
theorem MW{rs:List Rec}(h:∀r∈rs,nU r):∀x∈aC rs,(Lit.int .i64 x).wf=true:=fun x hx=>by
 obtain⟨r,hr,hx⟩:=List.mem_flatMap.1 hx;have hb:=Lc (h r hr).1;have hv:∀x∈aX r.v,(Lit.int .i64 x).wf=true:=by
  by_cases hk:r.k=2∨r.k=5
  ·exact YC (hb.2.2.2.2 hk)
  ·rw[(h r hr).2 hk];intro x hx;simp only[aX,List.mem_cons,List.not_mem_nil,or_false,or_self]at hx;rw[hx];decide
 have:=pf (q:=r.q.toNat) (k:=r.k) (ep:=r.e) (pe:=r.p) (e:=r.v) hb.1 (by omega) hb.2.2.1 hb.2.2.2.1 hv;rw[Bz hb.2.1.1]at this;exact this x hx
structure zx(rs:List Rec)(Bs:Nat→Bt):Prop where
 f:∀r∈rs,nU r
 b:kE (kL fY) 0 rs=(some (kL Bs),0,0)
theorem MX:∀(l m:List Rec) (S S':List Bt) (i:Nat),kE S i l=(some S',0,0)→kE S i (l++m)=kE S' (i+l.length) m
 |[],m,S,S',i,h=>by
  unfold kE at h;have:S=S':=by injection h with h1 h2;injection h1
  subst this;rfl
 |r::l,m,S,S',i,h=>by
  rw[List.cons_append];show(if ¬r.fault=0 then(none,i,r.fault)else match dW (At S r) r with|(D,e)=>if e=0 then kE (put S r D) (i+1) (l++m)else(none,i,e))=_;unfold kE at h;split at h
  ·cases h
  ·rename_i hf;rw[if_neg hf];cases ha:dW (At S r) r with
   |mk D e=>
    rw[ha]at h;simp only at h⊢;split at h
    ·rename_i he;rw[if_pos he,MX l m _ S' (i+1) h,List.length_cons,show i+(l.length+1)=i+1+l.length by omega]
    ·cases h
theorem Xw{S:List Bt}{i:Nat}{r:Rec}{D:Bt}(hf:r.fault=0)(ha:dW (At S r) r=(D,0)):kE S i [r]=(some (put S r D),0,0):=by
 unfold kE;rw[if_neg (fun h=>h hf),ha];rfl
theorem zx.snoc{rs:List Rec}{Bs:Nat→Bt}(h:zx rs Bs){r:Rec}{q:Nat}{D:Bt}(hr:nU r)(hq:q<4)(e:r.q=q)(ha:dW (Bs q) r=(D,0)):zx (rs++[r]) (au Bs q D):=by
 refine⟨fun x hx=>(Ao.1 hx).elim (h.f x) fun hx=>by rw[Ab.1 hx];exact hr, ?_⟩;rw[MX rs [r] _ _ 0 h.b,Xw hr.1 (by rw[Sl Bs r q hq e];exact ha),Mx Bs r D q hq e];rfl
theorem sx{α:Type}(f:Nat→α)(q:Nat)(x y:α):au (au f q x) q y=au f q y:=by
 funext p;by_cases e:p=q
 ·rw[e,az,az]
 ·rw[bD e,bD e,bD e]
theorem zx.runs{q:Nat}(hq:q<4):∀{l:List Rec} {B D:Bt},kI B l D→(∀r∈l,nU r∧r.q=q)→∀{rs:List Rec} {Bs:Nat→Bt},zx rs Bs→Bs q=B→zx (rs++l) (au Bs q D):=by
 intro l B D h
 induction h with
 |nil B=>
  intro _ rs Bs hm e;rw[As,←e,qN];exact hm
 |cons hf ha h ih=>
  rename_i B D E r l;intro hr rs Bs hm e;have h1:=hm.snoc (hr r Aw).1 hq (hr r Aw).2 (by rw[e];exact ha);have h2:=ih (fun x hx=>hr x (AF _ hx)) h1 (az ..);rw[sx]at h2;rw[show rs++r::l=rs++[r]++l by simp];exact h2
theorem kI.cut{B D:Bt}{l:List Rec}(h:kI B l D):∀j,∃E,kI B (l.take j) E:=by
 induction h with
 |nil B=>intro j;exact⟨B,by rw[List.take_nil];exact .nil B⟩
 |cons hf ha h ih=>
  intro j;cases j with
  |zero=>exact⟨_,.nil _⟩
  |succ j=>
   obtain⟨E,hE⟩:=ih j;exact⟨E,.cons hf ha hE⟩
theorem Ek{B D:Bt}{r:Rec}(h:dW B r=(D,0)):B.Ok∧r.fault=0∧cS B r=some D∧D.Ok:=by
 unfold dW at h;by_cases h1:B.Ok
 ·rw[if_neg (fun g=>g h1)]at h;by_cases h2:r.fault=0
  ·rw[if_neg (fun g=>g h2)]at h;cases hd:cS B r with
   |none=>rw[hd]at h;cases h
   |some E=>
    rw[hd]at h;simp only at h;by_cases h3:E.Ok
    ·rw[if_pos h3]at h;cases h;exact⟨h1,h2,rfl,h3⟩
    ·rw[if_neg h3]at h;cases h
  ·rw[if_pos h2]at h;exact absurd (AR h).2 h2
 ·rw[if_pos h1]at h;cases h
theorem Xx{B D:Bt}{r:Rec}(hB:¬B.r=2)(h:cS B r=some D):¬D.r=2:=by
 unfold cS at h;split at h
 ·split at h
  ·cases h;show ¬(1:Int)=2;decide
  ·cases h
 ·split at h
  ·split at h
   ·cases h;exact hB
   ·cases h
  ·split at h
   ·split at h
    ·cases h;show ¬(3:Int)=2;decide
    ·cases h
   ·split at h
    ·split at h
     ·cases h;unfold aU;split
      ·show ¬(0:Int)=2;decide
      ·split
       ·show ¬(0:Int)=2;decide
       ·split
        ·show ¬(0:Int)=2;decide
        ·split
         ·exact hB
         ·split
          ·show ¬(0:Int)=2;decide
          ·show ¬(4:Int)=2;decide
     ·cases h
    ·split at h
     ·split at h
      ·cases h;exact hB
      ·cases h
     ·split at h
      ·split at h
       ·cases h;show ¬(1:Int)=2;decide
       ·cases h
      ·split at h
       ·cases h;show ¬(0:Int)=2;decide
       ·cases h
theorem MY:∀(l:List Rec) (S S':List Bt) (i:Nat),S.length=4→(∀B∈S,B.Ok∧¬B.r=2)→kE S i l=(some S',0,0)→∀B∈S',B.Ok∧¬B.r=2
 |[],S,S',i,_,h,e=>by
  unfold kE at e;have:S=S':=by injection e with h1 h2;injection h1
  subst this;exact h
 |r::l,S,S',i,hl,h,e=>by
  unfold kE at e;split at e
  ·cases e
  ·rename_i hf;cases ha:dW (At S r) r with
   |mk D er=>
    rw[ha]at e;simp only at e;split at e
    ·rename_i he;subst he;obtain⟨_,h2,h3,h4⟩:=Ek ha;exact MY l _ S' (i+1) (by rw[qC];exact hl) (tq h ⟨h4,Xx (h _ (at_mem hl h2)).2 h3⟩) e
    ·cases e
theorem zx.all{rs:List Rec}{Bs:Nat→Bt}(h:zx rs Bs):∀q,q<4→(Bs q).Ok∧¬(Bs q).r=2:=
 (tv Bs (fun B=>B.Ok∧¬B.r=2)).1 (MY rs _ _ 0 rfl ((tv fY (fun B=>B.Ok∧¬B.r=2)).2 fun _ _=>⟨Bt.cI,by show ¬(0:Int)=2;decide⟩) h.b)
theorem zx.nil:zx [] fY:=⟨(fun _ h=>by cases h),rfl⟩
def Lts(l:List Rec):Prop:=(∀r∈l,r.k=2∨r.k=5∨r.k=6)∨∀r∈l,¬jO r
theorem Lts.take{l:List Rec}(h:Lts l)(j:Nat):Lts (l.take j):=h.imp (fun h r hr=>h r (AK hr)) fun h r hr=>h r (AK hr)
theorem P5{B D:Bt}{r:Rec}(hk:r.k=2∨r.k=5∨r.k=6)(h:cS B r=some D):0<D.es.length:=by
 unfold cS at h;split at h
 ·omega
 ·split at h
  ·split at h
   ·cases h;simp[Bt.more]
   ·cases h
  ·split at h
   ·omega
   ·split at h
    ·omega
    ·split at h
     ·split at h
      ·cases h;simp[Bt.more]
      ·cases h
     ·split at h
      ·split at h
       ·cases h;simp
       ·cases h
      ·omega
theorem kI.more{B D:Bt}{l:List Rec}(h:kI B l D):(∀r∈l,r.k=2∨r.k=5∨r.k=6)→l≠[]→0<D.es.length:=by
 induction h with
 |nil B=>intro _ h;exact absurd rfl h
 |cons hf ha h ih=>
  rename_i B D E r l;intro hk _;by_cases hl:l=[]
  ·subst hl;rw[h.nil_eq];exact P5 (hk r Aw) (Ek ha).2.2.1
  ·exact ih (fun x hx=>hk x (AF _ hx)) hl
theorem kI.late{B D:Bt}{l:List Rec}(h:kI B l D)(hl:Lts l):∀r∈l,jO r→0<D.es.length:=fun r hr N2=>by
 rcases hl with hl|hl
 ·exact h.more hl (List.ne_nil_of_mem hr)
 ·exact absurd N2 (hl r hr)
def tb(B:Bt):Bt:=if B.r=2 then⟨1,B.e,0,0,0,B.es⟩else B
theorem I7{B:Bt}(h:B.r=2):tb B=⟨1,B.e,0,0,0,B.es⟩:=if_pos h
theorem kZ{B:Bt}(h:¬B.r=2):tb B=B:=if_neg h
theorem MZ{B:Bt}(ok:B.Ok):(tb B).Ok:=by
 by_cases h:B.r=2
 ·rw[I7 h];have hs:=ok.cO;unfold Bt.cH bB at hs;exact⟨.inr (.inl ⟨rfl,by show 1≤B.e;omega,by show B.e≤1048576;omega,rfl,rfl,rfl⟩),ok.len,ok.told⟩
 ·rw[kZ h];exact ok
def AfP(mo:Nat→Bt)(q:Nat)(D:Bt):Af→Prop
 | .serve l an=>l.q=q∧((mo q).r=1∨(mo q).r=2)∧cR (mo q) l.op ((mo q).more [l.op]) an true 0∧D=tb ((mo q).more [l.op])
 | .begin l B=>l.q=q∧¬(mo q).r=1∧D=B
 | .shut l B=>l.q=q∧¬(mo q).r=1∧D=B
 | .take l B=>l.q=q∧¬(mo q).r=1∧D=B
 | .kG p B=>p=q∧¬(mo q).r=1∧D=B
structure Pd(mo:Nat→Bt)(a:Af)(rs:List Rec)(q:Nat)(D:Bt):Prop where
 q4:q<4
 ok:∀r∈rs,nU r∧r.q=q
 run:kI (tb (mo q)) rs D
 lt:Lts rs
 one:rs.length=1∨∀r∈rs,r.k=5∨r.k=6
 af:AfP mo q D a
def Pds(n:Nd)(rs:List Rec):Prop:=(n.af=none∧rs=[])∨∃a q D,n.af=some a∧Pd n.mo a rs q D
structure Up(n:Nd):Prop where
 mo:∀q,q<4→(n.mo q).Ok
 ex:∃dO dH Bs,n.dl=bI dO++bI dH∧n.sy=(((bI dO).length:Nat):Int)∧zx dO Bs∧(∀q,q<4→Bs q=tb (n.mo q))∧Pds n dH
theorem Up.congr{n n':Nd}(h:Up n)(h1:n'.dl=n.dl)(h2:n'.sy=n.sy)(h3:n'.mo=n.mo)(h4:n'.af=n.af):Up n':=by
 obtain⟨dO,dH,Bs,e1,e2,e3,e4,e5⟩:=h.ex;refine⟨by rw[h3];exact h.mo,dO,dH,Bs,by rw[h1];exact e1,by rw[h2];exact e2,e3,by rw[h3];exact e4, ?_⟩;unfold Pds at e5⊢;rw[h3,h4];exact e5
theorem Up.turn{n:Nd}(h:Up n)(ha:n.af=none){q:Nat}{B:Bt}(hq:q<4)(ok:B.Ok)(ht:tb B=tb (n.mo q)):Up {n with mo:=au n.mo q B}:=by
 obtain⟨dO,dH,Bs,e1,e2,e3,e4,e5⟩:=h.ex;refine⟨fun p hp=> ?_,dO,dH,Bs,e1,e2,e3,fun p hp=> ?_, ?_⟩
 ·by_cases e:p=q
  ·rw[e];show(au n.mo q B q).Ok;rw[az];exact ok
  ·show(au n.mo q B p).Ok;rw[bD e];exact h.mo p hp
 ·by_cases e:p=q
  ·rw[e];show _=tb (au n.mo q B q);rw[az,ht];exact e4 q hq
  ·show _=tb (au n.mo q B p);rw[bD e];exact e4 p hp
 ·rcases e5 with e5|⟨a,q',D,h1,_⟩
  ·exact .inl e5
  ·rw[ha]at h1;cases h1
theorem Up.write{n n':Nd}(h:Up n)(ha:n.af=none){a:Af}{rs:List Rec}{q:Nat}{D:Bt}(p:Pd n.mo a rs q D)(hw:pA n a rs=some n'):Up n':=by
 unfold pA at hw;split at hw
 ·cases hw;obtain⟨dO,dH,Bs,e1,e2,e3,e4,e5⟩:=h.ex;have e0:dH=[]:=by
   rcases e5 with e5|⟨a,q',D,h1,_⟩
   ·exact e5.2
   ·rw[ha]at h1;cases h1
  subst e0;refine⟨h.mo,dO,rs,Bs, ?_,e2,e3,e4,.inr ⟨a,q,D,rfl,p⟩⟩;show n.dl++bI rs=_;rw[e1];simp[bI]
 ·cases hw
theorem Xy{n:Nd}{o:Option Nd}(h:Up n)(ho:∀n',o=some n'→Up n'):Up (o.getD n):=by
 cases o with
 |none=>exact h
 |some x=>exact ho x rfl
theorem Up.sync{n:Nd}{s:Ws}{a:Af}(h:Up n)(ha:n.af=some a):Up (eZ {n with sy:=n.dl.length,af:=none} s a).1:=by
 obtain⟨dO,dH,Bs,e1,e2,e3,e4,e5⟩:=h.ex;rcases e5 with e5|⟨a',q,D,h1,p⟩
 ·rw[ha]at e5;cases e5.1
 rw[ha]at h1;cases h1;have hm:=zx.runs p.q4 p.run p.ok e3 (e4 q p.q4);have hD:=hm.all q p.q4;rw[az]at hD;have fin:∀B:Bt,B.Ok→tb B=D→Up {n with sy:=n.dl.length,af:=none,mo:=au n.mo q B}:=fun B okB hB=>by
  refine⟨fun i hi=> ?_,dO++dH,[],au Bs q D, ?_, ?_,hm,fun i hi=> ?_,.inl ⟨rfl,rfl⟩⟩
  ·by_cases e:i=q
   ·rw[e];show(au n.mo q B q).Ok;rw[az];exact okB
   ·show(au n.mo q B i).Ok;rw[bD e];exact h.mo i hi
  ·show n.dl=_;rw[e1,kn];simp[bI]
  ·show(n.dl.length:Int)=_;rw[e1,kn]
  ·by_cases e:i=q
   ·rw[e];show au Bs q D q=tb (au n.mo q B q);rw[az,az,hB]
   ·show au Bs q D i=tb (au n.mo q B i);rw[bD e,bD e];exact e4 i hi
 cases a with
 |serve l an=>
  obtain⟨rfl,h2,h3,h4⟩:=p.af;have:=fin ((n.mo l.q).more [l.op]) (yN h3 (h.mo _ p.q4)) h4.symm;show Up {n with sy:=n.dl.length,af:=none,mo:=au n.mo l.q (dt (n.mo l.q) l.op).1};rw[o_ h3];exact this
 |begin l B=>
  obtain⟨rfl,h2,rfl⟩:=p.af;exact fin D hD.1 (kZ hD.2)
 |shut l B=>
  obtain⟨rfl,h2,rfl⟩:=p.af;exact fin D hD.1 (kZ hD.2)
 |take l B=>
  obtain⟨rfl,h2,rfl⟩:=p.af;exact fin D hD.1 (kZ hD.2)
 |kG p' B=>
  obtain⟨rfl,h2,rfl⟩:=p.af;exact fin D hD.1 (kZ hD.2)
theorem Ld{B:Bt}{v:Ev}(h:(dt B v).2.2.1=true):cR B v (B.more [v]) (dt B v).2.1 true 0∧(B.r=1∨B.r=2):=by
 unfold dt at h⊢;split at h
 ·rename_i hx;rw[dif_pos hx];have hs:=hx.choose_spec;generalize hx.choose=x at*;obtain⟨B',an,k,er⟩:=x;simp only at hs h⊢;subst h;cases hs with
  |done h1 h2 h3 h4 s bw ht s' _ st hl=>exact⟨.done h1 h2 h3 h4 s bw ht s' _ st hl,h4⟩
 ·cases h
theorem Ua{n:Nd}{l:Lt}(hq:l.q<4)(ok:(n.mo l.q).Ok)(h:(dt (n.mo l.q) l.op).2.2.1=true):Pd n.mo (.serve l (dt (n.mo l.q) l.op).2.1) [⟨2,l.q,(n.mo l.q).e,0,l.op⟩] l.q (tb ((n.mo l.q).more [l.op])):=by
 obtain⟨hs,hr⟩:=Ld h;have hv:=IH hs;have gI:=jK ok.cO;have S1:=ok.cO;unfold Bt.cH bB at S1;have he:1≤(n.mo l.q).e∧(n.mo l.q).e≤1048576:=by omega
 have hf:(⟨2,l.q,(n.mo l.q).e,0,l.op⟩:Rec).fault=0:=ze ⟨by omega,by omega⟩ he hv;have hD:(tb ((n.mo l.q).more [l.op])).Ok:=MZ (yN hs ok);refine⟨hq,fun r hr=> ?_,.one hf (eS (MZ ok) hf ?_ hD),.inl fun r hr=> ?_,.inl rfl,rfl,hr,hs,rfl⟩
 ·rw[Ab.1 hr];exact⟨⟨hf,fun hk=>absurd (.inl rfl) hk⟩,rfl⟩
 ·have hd:∀B:Bt,B.r=1→B.e=(n.mo l.q).e→cS B ⟨2,l.q,(n.mo l.q).e,0,l.op⟩=some (B.more [l.op]):=fun B h1 h2=>by
   unfold cS;rw[if_neg (by show ¬(2:Int)=1;decide),if_pos rfl,if_pos ⟨rfl,h2,h1⟩]
  rcases hr with hr|hr
  ·rw[kZ (show ¬(n.mo l.q).r=2 by omega),kZ (show ¬((n.mo l.q).more [l.op]).r=2 by show ¬(n.mo l.q).r=2;omega)];exact hd _ hr rfl
  ·rw[I7 (show(n.mo l.q).r=2 from hr),I7 (show((n.mo l.q).more [l.op]).r=2 from hr)];exact hd _ rfl rfl
 ·rw[Ab.1 hr];exact .inl rfl
theorem Ub{n:Nd}{l:Lt}(hq:l.q<4)(ok:(n.mo l.q).Ok)(h:(aU (n.mo l.q) l.ep l.fr).2=0):Pd n.mo (.begin l (aU (n.mo l.q) l.ep l.fr).1) [⟨4,l.q,l.ep,l.fr,lT⟩] l.q (aU (n.mo l.q) l.ep l.fr).1:=by
 have hb:aU (n.mo l.q) l.ep l.fr=((aU (n.mo l.q) l.ep l.fr).1,0):=Prod.ext rfl h;obtain⟨he,Ju,hf4⟩:=IF hb;have hD:=IG hb;have hr:¬((n.mo l.q).r=1∨(n.mo l.q).r=2∨(n.mo l.q).r=3):=fun hr=>by
  unfold aU at h;rw[if_neg (fun g=>g ok),if_neg (fun g=>g ⟨he,Ju,hf4⟩),if_pos hr]at h;cases h
 have hf:(⟨4,l.q,l.ep,l.fr,lT⟩:Rec).fault=0:=Lb ⟨by omega,by omega⟩ he ⟨Ju,hf4⟩;refine⟨hq,fun r hr=> ?_,.one hf (eS (MZ ok) hf ?_ hD),.inr fun r hr=> ?_,.inl rfl,rfl,fun e=>hr (.inl e),rfl⟩
 ·rw[Ab.1 hr];exact⟨⟨hf,fun _=>rfl⟩,rfl⟩
 ·rw[kZ (fun e=>hr (.inr (.inl e)))];unfold cS;rw[if_neg (by show ¬(4:Int)=1;decide),if_neg (by show ¬(4:Int)=2;decide),if_neg (by show ¬(4:Int)=3;decide),if_pos rfl,if_pos h]
 ·rw[Ab.1 hr];unfold jO;show ¬((4:Int)=2∨(4:Int)=6);decide
theorem uk{B:Bt}{hv:Int}(ok:B.Ok)(h:(bf B hv).2=0):(B.r=2∨B.r=3)∧((B.r=3∧(bf B hv).1=B)∨(B.r=2∧(bf B hv).1=⟨3,B.e,B.f,B.t,0,B.es⟩)∨(B.r=2∧(bf B hv).1=⟨B.r,B.e,B.f,B.t,B.o+1,B.es⟩)):=by
 have ht:dk B hv=0:=by
  by_cases ht:dk B hv=0
  ·exact ht
  ·unfold bf at h;rw[if_pos ht]at h;exact absurd h ht
 have hr:B.r=2∨B.r=3:=by
  unfold dk at ht;rw[if_neg (fun g=>g ok)]at ht;split at ht
  ·cases ht
  ·rename_i g;exact Ay.1 g
 refine⟨hr, ?_⟩;unfold bf;rw[if_neg (fun g=>g ht)];by_cases h3:B.r=3
 ·rw[if_pos h3];exact .inl ⟨h3,rfl⟩
 ·rw[if_neg h3];have h2:B.r=2:=by omega
  split
  ·exact .inr (.inl ⟨h2,rfl⟩)
  ·exact .inr (.inr ⟨h2,rfl⟩)
theorem Xz{n:Nd}{l:Lt}(hq:l.q<4)(ok:(n.mo l.q).Ok)(h:(bf (n.mo l.q) l.pl).2=0)(hr:¬(bf (n.mo l.q) l.pl).1.r=(n.mo l.q).r):Pd n.mo (.shut l (bf (n.mo l.q) l.pl).1) [⟨3,l.q,(n.mo l.q).e,(n.mo l.q).t,lT⟩] l.q (bf (n.mo l.q) l.pl).1:=by
 have hD:(bf (n.mo l.q) l.pl).1.Ok:=nO (er:=(bf (n.mo l.q) l.pl).2) rfl;have hs:=ok.cO;unfold Bt.cH bB at hs;obtain⟨_,⟨_,e⟩|⟨h2,e⟩|⟨_,e⟩⟩:=uk ok h
 ·rw[e]at hr;exact absurd rfl hr
 ·have hf:(⟨3,l.q,(n.mo l.q).e,(n.mo l.q).t,lT⟩:Rec).fault=0:=K_ ⟨by omega,by omega⟩ (by omega) (by omega);refine⟨hq,fun r hr=> ?_,.one hf (eS (MZ ok) hf ?_ hD),.inr fun r hr=> ?_,.inl rfl,rfl,by omega,rfl⟩
  ·rw[Ab.1 hr];exact⟨⟨hf,fun _=>rfl⟩,rfl⟩
  ·rw[I7 h2,e];unfold cS;rw[if_neg (by show ¬(3:Int)=1;decide),if_neg (by show ¬(3:Int)=2;decide),if_pos rfl,if_pos ⟨rfl,rfl⟩];have:(n.mo l.q).f=0:=by omega
   rw[this]
  ·rw[Ab.1 hr];unfold jO;show ¬((3:Int)=2∨(3:Int)=6);decide
 ·rw[e]at hr;exact absurd rfl hr
theorem FW{B:Bt}{ep:Int}(h:(bG B ep).2=0):B.r=3∧(bG B ep).1=⟨0,B.e,0,0,0,[]⟩:=by
 unfold bG at h⊢;by_cases h1:B.Ok
 ·rw[if_neg (fun g=>g h1)]at h⊢;by_cases h2:B.r=3
  ·rw[if_neg (fun g=>g h2)]at h⊢;by_cases h3:ep≤B.e
   ·rw[if_pos h3]at h;cases h
   ·rw[if_neg h3];exact⟨h2,rfl⟩
  ·rw[if_pos h2]at h;cases h
 ·rw[if_pos h1]at h;cases h
theorem Uc{mo:Nat→Bt}{q:Nat}{ep:Int}(hq:q<4)(ok:(mo q).Ok)(h:(bG (mo q) ep).2=0):Pd mo (.kG q (bG (mo q) ep).1) [⟨7,q,(bG (mo q) ep).1.e,0,lT⟩] q (bG (mo q) ep).1:=by
 obtain⟨h3,e⟩:=FW h;obtain⟨hf,ha⟩:=FV (q:=q) ⟨by omega,by omega⟩ ok h3;rw[e];refine⟨hq,fun r hr=> ?_,.one hf (by rw[kZ (by omega)];exact ha),.inr fun r hr=> ?_,.inl rfl,rfl,by omega,rfl⟩
 ·rw[Ab.1 hr];exact⟨⟨hf,fun _=>rfl⟩,rfl⟩
 ·rw[Ab.1 hr];unfold jO;show ¬((7:Int)=2∨(7:Int)=6);decide
theorem zh{q:Int}(hq:0≤q∧q≤3):∀(l:List Ev) (B:Bt),B.r=4→B.Ok→(B.more l).Ok→kI B (l.map fun e=>(⟨5,q,B.e,0,e⟩:Rec)) (B.more l)∧∀e∈l,e.Ok
 |[],B,_,_,_=>⟨by rw[show B.more []=B by unfold Bt.more;rw[As]];exact .nil B,fun e he=>by cases he⟩
 |x::l,B,hr,ok,hm=>by
  obtain⟨s,bw,ht⟩:=hm.told;have hlen:=hm.len;have Ym:bk (B.es++x::l) s bw:=ht;have Gt:(B.es++x::l).length≤2000:=hlen;have Jr:(B.es++x::l).length=B.es.length+(l.length+1):=by simp
  obtain⟨s0,h0⟩:=Ym.take B.es.length (by omega);obtain⟨s1,an,st,hv⟩:=Ym.step (k:=B.es.length) (by omega) h0;have hx:(B.es++x::l)[B.es.length]'(by omega)=x:=by simp
  rw[hx]at st hv;obtain⟨s2,h2⟩:=Ym.take (B.es.length+1) (by omega);have e2:(B.es++x::l).take (B.es.length+1)=B.es++[x]:=by
   rw[show B.es++x::l=(B.es++[x])++l by simp,Cf (by simp)]
  rw[e2]at h2;have hs:=ok.cO;unfold Bt.cH bB at hs;have qE:(B.more [x]).Ok:=⟨.inr (.inr (.inr (.inr ⟨hr,by show 1≤B.e∧_;simp only[Bt.more];omega⟩))),by show(B.es++[x]).length≤2000;simp;omega,_,_,h2⟩;have em:(B.more [x]).more l=B.more (x::l):=by simp[Bt.more]
  obtain⟨ih,ihv⟩:=zh hq l (B.more [x]) hr qE (by rw[em];exact hm);rw[em]at ih;have hf:(⟨5,q,B.e,0,x⟩:Rec).fault=0:=sw hq (by omega) hv;refine⟨.cons hf (eS ok hf ?_ qE) ih,fun e he=> ?_⟩
  ·unfold cS;rw[if_neg (by show ¬(5:Int)=1;decide),if_neg (by show ¬(5:Int)=2;decide),if_neg (by show ¬(5:Int)=3;decide),if_neg (by show ¬(5:Int)=4;decide),if_pos rfl,if_pos ⟨rfl,rfl,hr⟩]
  ·rcases BQ.1 he with rfl|he
   ·exact hv
   ·exact ihv e he
theorem FX{B:Bt}{ep CY:Int}{l:List Ev}{la:Bool}(h:(bj B ep CY l la).2=0):B.Ok∧B.r=4∧(bj B ep CY l la).1.Ok∧∃new,(bj B ep CY l la).1=if la then(B.more new).broken else B.more new:=by
 unfold bj at h⊢;by_cases h1:B.Ok
 ·rw[if_neg (fun g=>g h1)]at h⊢;by_cases h2:B.r=4
  ·rw[if_neg (fun g=>g h2)]at h⊢;split at h
   ·cases h
   ·rename_i g3;rw[if_neg g3];split at h
    ·cases h
    ·rename_i g4;rw[if_neg g4];split at h
     ·cases h
     ·rename_i g5;rw[if_neg g5];by_cases g6:(if la then(B.more (l.drop (B.es.length-CY.toNat))).broken else B.more (l.drop (B.es.length-CY.toNat))).Ok
      ·rw[if_neg (fun g=>g g6)];exact⟨h1,h2,g6,_,rfl⟩
      ·rw[if_pos g6]at h;cases h
  ·rw[if_pos h2]at h;cases h
 ·rw[if_pos h1]at h;cases h
theorem XB{n:Nd}{l:Lt}(hq:l.q<4)(h:(bj (n.mo l.q) l.ep l.pl l.es l.la).2=0):Pd n.mo (.take l (bj (n.mo l.q) l.ep l.pl l.es l.la).1) (dj l.q (bj (n.mo l.q) l.ep l.pl l.es l.la).1 (n.mo l.q).es.length) l.q (bj (n.mo l.q) l.ep l.pl l.es l.la).1:=by
 obtain⟨ok,hr,hD,new,e⟩:=FX h;generalize(bj (n.mo l.q) l.ep l.pl l.es l.la).1=D at*;have hs:=ok.cO;unfold Bt.cH bB at hs;have yj:(0:Int)≤(l.q:Int)∧(l.q:Int)≤3:=⟨by omega,by omega⟩;cases Cz:l.la with
 |false=>
  rw[Cz]at e;have e:D=(n.mo l.q).more new:=e;obtain⟨rT,Kb⟩:=zh yj new (n.mo l.q) hr ok (e▸hD);have hi:dj l.q D (n.mo l.q).es.length=new.map fun x=>(⟨5,l.q,(n.mo l.q).e,0,x⟩:Rec):=by
   unfold dj;rw[e,if_neg (by show ¬(n.mo l.q).r=1;omega)];simp only[Bt.more];rw[List.drop_left' rfl]
  rw[hi];refine⟨hq,fun r hm=> ?_,by rw[kZ (by omega),e];exact rT,.inl fun r hm=> ?_,.inr fun r hm=> ?_,rfl,by omega,rfl⟩
  ·obtain⟨x,hx,rfl⟩:=Ax.1 hm;exact⟨⟨sw yj (by omega) (Kb x hx),fun hk=>absurd (.inr rfl) hk⟩,rfl⟩
  ·obtain⟨x,hx,rfl⟩:=Ax.1 hm;exact .inr (.inl rfl)
  ·obtain⟨x,hx,rfl⟩:=Ax.1 hm;exact .inl rfl
 |true=>
  rw[Cz]at e;have e:D=((n.mo l.q).more new).broken:=e;have adb:((n.mo l.q).more new).Ok:=by
   obtain⟨s,bw,ht⟩:=hD.told;have hlen:=hD.len;rw[e]at ht hlen;have ht:bk (((n.mo l.q).es++new)++[Ev.brk]) s bw:=ht;have hlen:(((n.mo l.q).es++new)++[Ev.brk]).length≤2000:=hlen;obtain⟨s0,h0⟩:=ht.take ((n.mo l.q).es++new).length (by simp);rw[Cf rfl]at h0;have vS:((n.mo l.q).es++new).length≤2000:=by
    rw[Ac]at hlen;omega
   exact⟨.inr (.inr (.inr (.inr (by simp only[Bt.more];omega)))),vS,s0,_,h0⟩
  obtain⟨rT,Kb⟩:=zh yj new (n.mo l.q) hr ok adb;have hf:(⟨6,l.q,(n.mo l.q).e,0,lT⟩:Rec).fault=0:=La yj (by omega);have hi:dj l.q D (n.mo l.q).es.length=(new.map fun x=>(⟨5,l.q,(n.mo l.q).e,0,x⟩:Rec))++[⟨6,l.q,(n.mo l.q).e,0,lT⟩]:=by
   unfold dj;rw[e,if_pos (show((n.mo l.q).more new).broken.r=1 from rfl)];simp only[Bt.broken,Bt.more];rw[Az,List.drop_left' rfl,List.dropLast_concat]
  have ha:dW ((n.mo l.q).more new) ⟨6,l.q,(n.mo l.q).e,0,lT⟩=(D,0):=by
   refine eS adb hf ?_ hD;unfold cS;rw[if_neg (by show ¬(6:Int)=1;decide),if_neg (by show ¬(6:Int)=2;decide),if_neg (by show ¬(6:Int)=3;decide),if_neg (by show ¬(6:Int)=4;decide),if_neg (by show ¬(6:Int)=5;decide),if_pos rfl,if_pos ⟨rfl,rfl,hr⟩,e];have h1:(n.mo l.q).t=0:=by omega
   have h2:(n.mo l.q).o=0:=by omega
   simp only[Bt.broken,Bt.more,h1,h2]
  rw[hi];refine⟨hq,fun r hm=> ?_,by rw[kZ (by omega)];exact rT.snoc hf ha,.inl fun r hm=> ?_,.inr fun r hm=> ?_,rfl,by omega,rfl⟩
  ·rcases Ao.1 hm with hm|hm
   ·obtain⟨x,hx,rfl⟩:=Ax.1 hm;exact⟨⟨sw yj (by omega) (Kb x hx),fun hk=>absurd (.inr rfl) hk⟩,rfl⟩
   ·rw[Ab.1 hm];exact⟨⟨hf,fun _=>rfl⟩,rfl⟩
  ·rcases Ao.1 hm with hm|hm
   ·obtain⟨x,hx,rfl⟩:=Ax.1 hm;exact .inr (.inl rfl)
   ·rw[Ab.1 hm];exact .inr (.inr rfl)
  ·rcases Ao.1 hm with hm|hm
   ·obtain⟨x,hx,rfl⟩:=Ax.1 hm;exact .inl rfl
   ·rw[Ab.1 hm];exact .inr rfl
theorem ade{n n':Nd}{a:Af}{rs:List Rec}(h:pA n a rs=some n'):n'.up=n.up∧n'.i=n.i∧n'.sk=n.sk∧n'.ct=n.ct:=by
 unfold pA at h;split at h
 ·cases h;exact⟨rfl,rfl,rfl,rfl⟩
 ·cases h
theorem M4{n:Nd}{s:Ws}{l:Lt}(h:Up n)(ha:n.af=none)(hw:mD l):Up (cJ n s l).1∧(cJ n s l).1.up=n.up∧(cJ n s l).1.i=n.i∧(cJ n s l).1.sk=n.sk∧(cJ n s l).1.ct=n.ct:=by
 have hq:=hw.q;have ok:=h.mo l.q hq;have same:Up n∧n.up=n.up∧n.i=n.i∧n.sk=n.sk∧n.ct=n.ct:=⟨h,rfl,rfl,rfl,rfl⟩;have wr:∀{m:Nd} {a:Af} {rs:List Rec} {D:Bt},Up m→m.af=none→m.up=n.up→m.i=n.i→m.sk=n.sk→m.ct=n.ct→Pd m.mo a rs l.q D→Up ((pA m a rs).getD m)∧((pA m a rs).getD m).up=n.up∧((pA m a rs).getD m).i=n.i∧((pA m a rs).getD m).sk=n.sk∧((pA m a rs).getD m).ct=n.ct:=fun {m a rs D} hm hma h1 h2 h3 h4 p=>by
  refine⟨Xy hm fun n' hn=>hm.write hma p hn, ?_⟩;cases Gi:pA m a rs with
  |none=>exact⟨h1,h2,h3,h4⟩
  |some x=>
   obtain⟨k1,k2,k3,k4⟩:=ade Gi;exact⟨k1.trans h1,k2.trans h2,k3.trans h3,k4.trans h4⟩
 unfold cJ;split
 ·unfold gy;split
  ·exact same
  ·split
   ·exact same
   ·rename_i hk;have hk:(dt (n.mo l.q) l.op).2.2.1=true:=by
     cases hb:(dt (n.mo l.q) l.op).2.2.1 with
     |true=>rfl
     |false=>exact absurd hb hk
    have:=wr h ha rfl rfl rfl rfl (Ua hq ok hk);split
    ·rename_i n' hn;rw[hn]at this;exact this
    ·exact same
 ·split
  ·unfold jL;split
   ·exact same
   ·rename_i hb;split
    ·exact same
    ·exact wr h ha rfl rfl rfl rfl (Ub hq ok (Ay.1 hb))
  ·split
   ·unfold h_;split
    ·exact same
    ·split
     ·exact same
     ·rename_i hc;have hc:=Ay.1 hc;split
      ·rename_i hr;refine⟨h.turn ha hq (nO (er:=(bf (n.mo l.q) l.pl).2) rfl) ?_,rfl,rfl,rfl,rfl⟩;obtain⟨_,⟨_,e⟩|⟨h2,e⟩|⟨h2,e⟩⟩:=uk ok hc
       ·rw[e]
       ·rw[e,h2]at hr;have:(3:Int)=2:=hr;omega
       ·rw[e,I7 h2,I7 (show(⟨(n.mo l.q).r,(n.mo l.q).e,(n.mo l.q).f,(n.mo l.q).t,(n.mo l.q).o+1,(n.mo l.q).es⟩:Bt).r=2 from h2)]
      ·rename_i hr;exact wr h ha rfl rfl rfl rfl (Xz hq ok hc hr)
   ·split
    ·unfold takeN;split
     ·exact same
     ·rename_i hi;split
      ·exact same
      ·exact wr h ha rfl rfl rfl rfl (XB hq (Ay.1 hi))
    ·have hm:Up (eJ n l):=by
      unfold eJ;split
      ·exact h.congr rfl rfl rfl rfl
      ·exact h
     have e:(eJ n l).mo=n.mo∧(eJ n l).af=n.af∧(eJ n l).up=n.up∧(eJ n l).i=n.i∧(eJ n l).sk=n.sk∧(eJ n l).ct=n.ct:=by
      unfold eJ;split<;>exact⟨rfl,rfl,rfl,rfl,rfl,rfl⟩
     unfold jM;split
     ·rename_i hf;refine wr hm (e.2.1.trans ha) e.2.2.1 e.2.2.2.1 e.2.2.2.2.1 e.2.2.2.2.2 ?_ (D:=(bG (n.mo l.q) l.pe).1);rw[e.1];exact Uc hq ok hf
     ·exact⟨hm,e.2.2.1,e.2.2.2.1,e.2.2.2.2.1,e.2.2.2.2.2⟩
theorem xb:∀(k:Nat) {n:Nd} {s:Ws},Up n→Up (eX k n s).1∧(eX k n s).1.up=n.up∧(eX k n s).1.i=n.i∧(eX k n s).1.sk=n.sk∧(eX k n s).1.ct=n.ct
 |0,n,s,h=>⟨h,rfl,rfl,rfl,rfl⟩
 |k+1,n,s,h=>by
  unfold eX;split
  ·exact xb k (n:={n with tu:=(n.tu+1) % 4}) (h.congr rfl rfl rfl rfl)
  ·exact⟨h.congr rfl rfl rfl rfl,rfl,rfl,rfl,rfl⟩
theorem M6:∀(k:Nat) {n:Nd} {s:Ws},Up n→n.af=none→(∀l∈n.wt,mD l)→Up (dX k n s).1∧(dX k n s).1.up=n.up∧(dX k n s).1.i=n.i∧(dX k n s).1.sk=n.sk∧(dX k n s).1.ct=n.ct
 |0,n,s,h,_,_=>xb 4 h
 |k+1,n,s,h,ha,hw=>by
  unfold dX;split
  ·exact xb 4 h
  ·rename_i l ls lV;have hl:mD l:=hw l (by rw[lV];exact Aw);have hd:=M4 (n:={n with wt:=ls}) (s:=s) (l:=l) (h.congr rfl rfl rfl rfl) ha hl;have hk:=(sj {n with wt:=ls} s l).1.2;split
   ·exact hd
   ·rename_i hs;have CC:(cJ {n with wt:=ls} s l).1.af=none:=by
     cases hx:(cJ {n with wt:=ls} s l).1.af with
     |none=>rfl
     |some x=>rw[hx]at hs;exact absurd rfl hs
    obtain⟨h1,h2,h3,h4,h5⟩:=M6 k (s:=(cJ {n with wt:=ls} s l).2) hd.1 CC (fun x hx=>hw x (by rw[hk]at hx;rw[lV];exact AF _ hx));exact⟨h1,h2.trans hd.2.1,h3.trans hd.2.2.1,h4.trans hd.2.2.2.1,h5.trans hd.2.2.2.2⟩
theorem Steps.Yi{b:tG}{k:Nat}{rs:List (List Int)}(h:Steps b k rs):∀{k':Nat} {YI:List (List Int)},Steps b k' YI→YI.length=rs.length→k'=k∧YI=rs:=by
 induction h with
 |start=>
  intro k' YI h' hl;cases h' with
  |start=>exact⟨rfl,rfl⟩
  |more h1 hu=>simp at hl
 | @more k m rs zs h hu ih=>
  intro k' YI h' hl;cases h' with
  |start=>simp at hl
  | @more k2 m2 dH zs2 h2 hu2=>
   obtain⟨rfl,rfl⟩:=ih h2 (by simpa using hl);rw[hu]at hu2;cases hu2;exact⟨rfl,rfl⟩
theorem P6(dO dH:List (List Int))(hg:∀z∈dO++dH,lC z)(k:Nat)(Wx:(aN dO).length≤k)(hk:k≤(aN (dO++dH)).length):∃j,bu ((aN (dO++dH)).take k)=(dO++dH.take j,(aN (dO++dH.take j)).length)∧(aN (dO++dH.take j)).length≤k:=by
 have hs:=(pg ((aN (dO++dH)).take k)).1;have hb:=(gK ((aN (dO++dH)).take k)).2;rw[AL]at hb;obtain⟨more,h2,-⟩:=PD (dO++dH) hg k hk;have h1:Steps (aN (dO++dH)) (bu ((aN (dO++dH)).take k)).2 (bu ((aN (dO++dH)).take k)).1:=hs.same (by rw[BK,BA (by omega)]);have h3:Steps ((aN (dO++dH)).take k) (aN dO).length dO:=by
  have:=ud dO (aN dH) (fun z hz=>hg z (Ao.2 (.inl hz)));rw[←px]at this;exact this.same (by rw[BK,BA Wx])
 obtain⟨m1,h4,_,_⟩:=h3.prefix;have hp:dH=m1++more:=by
  rw[h4,Az]at h2;exact List.append_cancel_left h2
 have ht:dH.take m1.length=m1:=by rw[hp,Cf rfl]
 refine⟨m1.length, ?_⟩;rw[ht];have hn:(dO++dH).take (dO++m1).length=dO++m1:=by rw[hp,←Az,Cf rfl]
 have h5:=qh (dO++dH) [] hg (dO++m1).length (by rw[hp];simp);rw[As,hn]at h5;have h6:=(h1.Yi h5 (by rw[h4])).1;refine⟨Prod.ext h4 h6.symm, ?_⟩;rw[h6];omega
theorem Lf{r r':Rec}(h:aZ r=aZ r'):r=r':=by
 obtain⟨k,q,e,p,v⟩:=r;obtain⟨v1,v2,v3,v4,v5,v6⟩:=v;obtain⟨k',q',e',p',v'⟩:=r';obtain⟨u1,u2,u3,u4,u5,u6⟩:=v';simp only[aZ,List.cons.injEq,and_true]at h;obtain⟨rfl,rfl,rfl,rfl,rfl,rfl,rfl,rfl,rfl,rfl⟩:=h;rfl
theorem qk:∀{a b:List Rec},a.map aZ=b.map aZ→a=b
 |[],[],_=>rfl
 |[],_::_,h=>by simp at h
 |_::_,[],h=>by simp at h
 |x::a,y::b,h=>by
  rw[List.map_cons,List.map_cons]at h;injection h with h1 h2
  rw[Lf h1,qk h2]
theorem XC{f g:Nat→Bt}(h:kL f=kL g):∀q,q<4→f q=g q:=by
 simp only[kL,List.cons.injEq,and_true]at h;exact qD h.1 h.2.1 h.2.2.1 h.2.2.2
structure Gl(n:Nd)(dO dH:List Rec)(Bs:Nat→Bt):Prop where
 tm:zx (dO++dH) Bs
 rd:bu n.dl=((dO++dH).map aZ,(bI (dO++dH)).length)
 tk:n.dl.take (bI (dO++dH)).length=bI (dO++dH)
 ct:n.ct=(bI dO).length
 lt:∀r∈dH,jO r→∃q:Nat,q<4∧r.q=(q:Int)∧0<(Bs q).es.length
def Dw(n:Nd):Prop:=∃dO dH Bs,Gl n dO dH Bs
theorem XD{len:Nat}{s kp:Int}(h:s≤len)(hk:0≤kp):s.toNat≤leftOf len s kp:=by
 unfold leftOf;split<;>omega
theorem Up.Ud{n:Nd}(h:Up n){kp:Int}(hk:0≤kp):∃dO dH Bs,Gl (iI n kp) dO dH Bs∧∃ra Ba,dO=ra∧n.dl.take (bI ra).length=bI ra∧n.sy=((bI ra).length:Nat)∧zx ra Ba∧(∀q,q<4→Ba q=tb (n.mo q))∧((dH=[]∧Bs=Ba)∨∃rb a q D j E,n.af=some a∧Pd n.mo a rb q D∧dH=rb.take j∧kI (tb (n.mo q)) (rb.take j) E∧Bs=au Ba q E):=by
 obtain⟨dO,dH,Bs,e1,e2,e3,e4,e5⟩:=h.ex;have hd:n.dl=bI (dO++dH):=by rw[e1,kn]
 have hsl:n.sy≤n.dl.length:=by rw[e2,e1,Ac];omega
 have Z2:(bI dO).length≤leftOf n.dl.length n.sy kp:=by
  have:=XD (len:=n.dl.length) (kp:=kp) (s:=n.sy) hsl hk;omega
 have hhi:leftOf n.dl.length n.sy kp≤n.dl.length:=IY;have ok2:∀r∈dH,nU r:=by
  rcases e5 with⟨_,e⟩|⟨a,q,D,_,p⟩
  ·rw[e];exact fun r hr=>by cases hr
  ·exact fun r hr=>(p.ok r hr).1
 have agd:∀r∈dO++dH,nU r:=fun r hr=>(Ao.1 hr).elim (e3.f r) (ok2 r);have hg:∀z∈dO.map aZ++dH.map aZ,lC z:=by rw[←AB];exact I6 agd
 have hf:bI (dO++dH)=aN (dO.map aZ++dH.map aZ):=by rw[fH,AB]
 have kW:leftOf n.dl.length n.sy kp≤(aN (dO.map aZ++dH.map aZ)).length:=by rw[←hf,←hd];exact hhi
 obtain⟨j,hr,hj⟩:=P6 (dO.map aZ) (dH.map aZ) hg (leftOf n.dl.length n.sy kp) (by rw[←fH];exact Z2) kW;have em:dO.map aZ++(dH.map aZ).take j=(dO++dH.take j).map aZ:=by rw[AB,List.map_take]
 rw[em,←fH]at hr hj;rw[←hf,←hd]at hr;have KP:(n.dl.take (leftOf n.dl.length n.sy kp)).take (bI (dO++dH.take j)).length=bI (dO++dH.take j):=by
  rw[BK,BA hj,hd]
  conv=>lhs;arg 2;rw[←BN j dH,←Az,kn]
  exact Cf rfl
 have hct:(iI n kp).ct=(bI dO).length:=by show n.sy.toNat=_;omega
 have htr:n.dl.take (bI dO).length=bI dO:=by rw[e1];exact Cf rfl
 rcases e5 with⟨_,e⟩|⟨a,q,D,hn,p⟩
 ·subst e;rw[List.take_nil]at hr KP;exact⟨dO,[],Bs,⟨by rw[As];exact e3,hr,KP,hct,fun r hr=>by cases hr⟩,dO,Bs,rfl,htr,e2,e3,e4,.inl ⟨rfl,rfl⟩⟩
 ·obtain⟨E,hE⟩:=p.run.cut j;have hm:=zx.runs p.q4 hE (fun r hr=>p.ok r (AK hr)) e3 (e4 q p.q4);refine⟨dO,dH.take j,au Bs q E,⟨hm,hr,KP,hct,fun r hr hl=>⟨q,p.q4,(p.ok r (AK hr)).2, ?_⟩⟩,dO,Bs,rfl,htr,e2,e3,e4,.inr ⟨dH,a,q,D,j,E,hn,p,rfl,hE,rfl⟩⟩;rw[az];exact hE.late (p.lt.take j) r hr hl
theorem Up.El{n:Nd}(h:Up n){kp:Int}(hk:0≤kp):Dw (iI n kp):=by
 obtain⟨a,b,c,hd,_⟩:=h.Ud hk;exact⟨a,b,c,hd⟩
theorem aat{a b:List Rec}:(bI a).length≤(bI (a++b)).length:=by rw[kn,Ac];omega
section
variable{n:Nd}{dO dH:List Rec}{Bs:Nat→Bt}
theorem Gl.len(h:Gl n dO dH Bs):(bI (dO++dH)).length≤n.dl.length:=by
 have:=(gK n.dl).2;rw[h.rd]at this;exact this
theorem Gl.tp(h:Gl n dO dH Bs)(hl:n.dl.length≤100000):CN n Bs (dO++dH) (bI (dO++dH)).length:=
 ⟨h.rd,MW h.tm.f,by have:=h.len;have:=Xv (rs:=dO++dH);omega,by rw[h.tm.b]⟩
theorem Gl.cut(h:Gl n dO dH Bs):(n.dl.take (bI (dO++dH)).length).drop n.ct=bI dH:=by
 rw[h.tk,h.ct,kn];exact List.drop_left' rfl
theorem Gl.st(h:Gl n dO dH Bs)(hl:n.dl.length≤100000):YJ n Bs (dO++dH) (bI (dO++dH)).length dH (bI dH).length:=by
 have t:=h.tp hl;have ok2:∀r∈dH,nU r:=fun r hr=>h.tm.f r (Ao.2 (.inr hr));refine⟨t.rd,t.wf,t.rl,t.reb,fun q hq=>(h.tm.all q hq).1,by rw[h.ct];exact aat,by rw[h.cut];exact zg ok2,MW ok2, ?_,fun r hr N2=> ?_⟩
 ·have:=t.rl;rw[Ac]at this;omega
 ·obtain⟨q,hq,e,hp⟩:=h.lt r hr N2;exact⟨q,hq,e,(h.tm.all q hq).1,hp⟩
theorem Gl.uniq(h:Gl n dO dH Bs){Em:Nat→Bt}{rs ps:List Rec}{kk Qv:Nat}(hs:YJ n Em rs kk ps Qv):rs=dO++dH∧kk=(bI (dO++dH)).length∧ps=dH∧∀q,q<4→Em q=Bs q:=by
 have e:=hs.rd;rw[h.rd]at e;obtain⟨e1,e2⟩:=AR e;have e1:=qk e1;subst e2;have e3:=hs.rd2;rw[h.cut,zg (fun r hr=>h.tm.f r (Ao.2 (.inr hr)))]at e3;have e4:=hs.reb;rw[←e1,h.tm.b]at e4;exact⟨e1.symm,rfl,(qk (AR e3).1).symm,fun q hq=>(XC (Option.some.inj e4) q hq).symm⟩
theorem Gl.aeJ(h:Gl n dO dH Bs){Em:Nat→Bt}{rs:List Rec}{kk:Nat}(hs:CN n Em rs kk):∀q,q<4→Em q=Bs q:=by
 have e:=hs.rd;rw[h.rd]at e;have e1:=qk (AR e).1;have e4:=hs.reb;rw[←e1,h.tm.b]at e4;exact fun q hq=>(XC (Option.some.inj e4) q hq).symm
theorem Gl.bs(h:Gl n dO dH Bs)(hl:n.dl.length≤100000)(hu:n.up=false):∀q,q<4→TP n q=Bs q:=by
 have hx:∃x:(Nat→Bt)×List Rec×Nat,CN n x.1 x.2.1 x.2.2:=⟨(Bs,_,_),h.tp hl⟩;unfold TP;rw[if_neg (by rw[hu];simp),dif_pos hx];exact h.aeJ hx.choose_spec
end
theorem Lg{B:Bt}(h:(bm B).2=0)(h2:¬B.r=2):(¬B.r=1∧(bm B).1=B)∨(B.r=1∧(bm B).1=B.broken∧B.broken.Ok):=by
 unfold bm at h⊢;by_cases ok:B.Ok
 ·rw[if_neg (fun g=>g ok)]at h⊢;by_cases h1:B.r=1
  ·rw[if_neg (fun g=>g (.inl h1))]at h⊢;by_cases hb:B.broken.Ok
   ·rw[if_neg (fun g=>g hb)];exact .inr ⟨h1,rfl,hb⟩
   ·rw[if_pos hb]at h;cases h
  ·rw[if_pos (by omega)];exact .inl ⟨h1,rfl⟩
 ·rw[if_pos ok]at h;cases h
theorem I8{B:Bt}(ok:B.Ok)(h1:B.r=1):B.more [Ev.brk]=B.broken:=by
 have hs:=ok.cO;unfold Bt.cH bB at hs;obtain⟨r,e,f,t,o,es⟩:=B;simp only at hs h1;obtain⟨_,_,_,h2,h3,h4⟩:r=1∧1≤e∧e≤1048576∧f=0∧t=0∧o=0:=by omega
 subst h1 h2 h3 h4;rfl
theorem I9{rs:List Rec}{Bs:Nat→Bt}(h:zx rs Bs)(hw:∀q,q<4→(bm (Bs q)).2=0):∀k,k≤4→zx (rs++aW Bs k) (fun q=>if q<k then(bm (Bs q)).1 else Bs q)
 |0,_=>by
  rw[show(fun q=>if q<0 then(bm (Bs q)).1 else Bs q)=Bs from funext fun q=>if_neg (AH q)];show zx (rs++[]) Bs;rw[As];exact h
 |k+1,hk=>by
  have ih:=I9 h hw k (by omega);obtain⟨ok,h2⟩:=h.all k (by omega);have fin:∀D,(bm (Bs k)).1=D→(fun q=>if q<k+1 then(bm (Bs q)).1 else Bs q)=au (fun q=>if q<k then(bm (Bs q)).1 else Bs q) k D:=fun D e=>by
   funext q;by_cases hq:q=k
   ·rw[hq,az,if_pos (by omega),e]
   ·rw[bD hq];by_cases aM:q<k
    ·rw[if_pos aM,if_pos (by omega)]
    ·rw[if_neg aM,if_neg (by omega)]
  rcases Lg (hw k (by omega)) h2 with⟨h1,e⟩|⟨h1,e,hb⟩
  ·rw[qH h1,fin _ e,show Bs k=(fun q=>if q<k then(bm (Bs q)).1 else Bs q) k from(if_neg (Nat.lt_irrefl k)).symm,qN];exact ih
  ·have hs:=ok.cO;unfold Bt.cH bB at hs;have hf:(rA Bs k).fault=0:=ze (q:=k) (e:=(Bs k).e) (v:=Ev.brk) ⟨by omega,by omega⟩ (by omega) Ev.Fj;rw[o7 h1,fin _ e,←Az];refine ih.snoc ⟨hf,fun g=>absurd (.inl rfl) g⟩ (by omega) rfl ?_;rw[if_neg (Nat.lt_irrefl k)];refine eS ok hf ?_ hb;unfold cS;rw[if_neg (by show ¬(2:Int)=1;decide),if_pos rfl,if_pos ⟨rfl,rfl,h1⟩];exact Au some (I8 ok h1)
theorem I_{n:Nd}{s:Ws}{dO dH:List Rec}{Bs:Nat→Bt}(h:Gl n dO dH Bs)(hl:n.dl.length≤100000)(hu:n.up=false)(hk:n.sk=false):∃Em,(∀q,q<4→Em q=Bs q)∧ee n s=jP n s Em (bI (dO++dH)).length dH:=by
 have hx:∃x:(Nat→Bt)×List Rec×Nat×List Rec×Nat,YJ n x.1 x.2.1 x.2.2.1 x.2.2.2.1 x.2.2.2.2:=⟨(Bs,_,_,_,_),h.st hl⟩;have e:ee n s=jP n s hx.choose.1 hx.choose.2.2.1 hx.choose.2.2.2.1:=by
  unfold ee;rw[if_neg (by rw[hu,hk];simp),dif_pos hx]
 obtain⟨_,e2,e3,e4⟩:=h.uniq hx.choose_spec;rw[e2,e3]at e;exact⟨_,e4,e⟩
theorem pk{Bs Em:Nat→Bt}:∀k,k≤4→(∀q,q<4→Em q=Bs q)→aW Em k=aW Bs k
 |0,_,_=>rfl
 |k+1,hk,h=>by
  have e:=h k (by omega);unfold aW;rw[pk k (by omega) h,e,show rA Em k=rA Bs k by unfold rA;rw[e]]
theorem Lh{n:Nd}{dO dH:List Rec}{Bs Em:Nat→Bt}(h:Gl n dO dH Bs)(hB:∀q,q<4→Em q=Bs q)(hw:∀q,q<4→(bm (Em q)).2=0):Up {n with up:=true,dl:=n.dl.take (bI (dO++dH)).length++bI (aW Em 4),sy:=(((bI (dO++dH)).length+(bI (aW Em 4)).length:Nat):Int),mo:=fun q=>(bm (Em q)).1,hn:=eD 4,he:=bp,wt:=[],af:=none,tu:=0}:=by
 rw[pk 4 (Aa _) hB];have CK:∀q,q<4→(bm (Bs q)).2=0:=fun q hq=>hB q hq▸hw q hq;have hm:=I9 h.tm CK 4 (Aa _);refine⟨fun q hq=> ?_,(dO++dH)++aW Bs 4,[],_, ?_, ?_,hm,fun q hq=> ?_,.inl ⟨rfl,rfl⟩⟩
 ·have:=hm.all q hq;rw[if_pos hq]at this;show(bm (Em q)).1.Ok;rw[hB q hq];exact this.1
 ·show n.dl.take _++_=_;rw[h.tk,←kn];simp[bI]
 ·show(((bI (dO++dH)).length+(bI (aW Bs 4)).length:Nat):Int)=_;rw[kn (dO++dH),Ac]
 ·have:=hm.all q hq;rw[if_pos hq]at this⊢;show _=tb (bm (Em q)).1;rw[hB q hq,kZ this.2]
theorem P7{n:Nd}{dO dH:List Rec}{Bs:Nat→Bt}{sy:Int}(h:Gl n dO dH Bs):Gl {n with dl:=n.dl.take (bI (dO++dH)).length,sy:=sy,sk:=true} dO dH Bs:=by
 refine⟨h.tm, ?_, ?_,h.ct,h.lt⟩
 ·have:=I1 n.dl;rw[h.rd]at this;exact this
 ·show(n.dl.take _).take _=_;rw[BK,Nat.min_self];exact h.tk
structure Ja(l:Lt):Prop where
 ok:Tk l
 f0:0≤l.fr
 f5:l.fr<5
structure NI(i:Nat)(n:Nd):Prop where
 i:n.i=i
 tu:n.tu<4
 wt:∀l∈n.wt,mD l
 ln:n.dl.length≤100000
 up:n.up=true→Up n
 dw:n.up=false→Dw n
structure pE(k m:Nat)(s s':Ws):Prop where
 fl:∃L,s'.fl=s.fl++L∧L.length≤k∧∀l∈L,Ja l
 sv:∃L,s'.sv=s.sv++L∧L.length≤m
 td:s'.td=s.td
 pn:s'.pn=s.pn
 pe:s'.pe=s.pe
 cs:s'.cs=s.cs
theorem pE.refl(s:Ws):pE 0 0 s s:=⟨⟨[],(As _).symm,Aa _,fun _ h=>by cases h⟩,⟨[],(As _).symm,Aa _⟩,rfl,rfl,rfl,rfl⟩
theorem pE.mono{k m k' m':Nat}{s s':Ws}(h:pE k m s s')(hk:k≤k')(hm:m≤m'):pE k' m' s s':=by
 obtain⟨L,e1,e2,e3⟩:=h.fl;obtain⟨M,e4,e5⟩:=h.sv;exact⟨⟨L,e1,by omega,e3⟩,⟨M,e4,by omega⟩,h.td,h.pn,h.pe,h.cs⟩
theorem pE.trans{k m k' m':Nat}{s s' s'':Ws}(h:pE k m s s')(g:pE k' m' s' s''):pE (k+k') (m+m') s s'':=by
 obtain⟨L,e1,e2,e3⟩:=h.fl;obtain⟨M,e4,e5⟩:=h.sv;obtain⟨L',f1,f2,f3⟩:=g.fl;obtain⟨M',f4,f5⟩:=g.sv;refine⟨⟨L++L',by rw[f1,e1,Az],by rw[Ac];omega,fun l hl=>(Ao.1 hl).elim (e3 l) (f3 l)⟩,⟨M++M',by rw[f4,e4,Az],by rw[Ac];omega⟩,g.td.trans h.td,g.pn.trans h.pn,g.pe.trans h.pe,g.cs.trans h.cs⟩
theorem nV{s:Ws}{l:Lt}(h:Ja l):pE 1 0 s (fZ s l):=⟨⟨[l],rfl,Aa _,fun x hx=>by rw[Ab.1 hx];exact h⟩,⟨[],(As _).symm,Aa _⟩,rfl,rfl,rfl,rfl⟩
theorem Ep{s:Ws}{n:Nd}{q:Nat}{e:Ev}{an:An}{nu:Int}:pE 0 1 s (aaB s n q e an nu):=⟨⟨[],(As _).symm,Aa _,fun _ h=>by cases h⟩,⟨_,rfl,Aa _⟩,rfl,rfl,rfl,rfl⟩
theorem Jb(nu:Int)(an:An)(pn pe:Int):Ja (mq nu an pn pe):=⟨⟨.inl rfl⟩,Bq 0,(by decide:(0:Int)<5)⟩
theorem M7{B:Bt}(ok:B.Ok):(0≤B.f∧B.f<5)∧(0≤B.t∧B.t<5)∧0≤B.e∧B.e≤1048576:=by
 have hs:=ok.cO;unfold Bt.cH bB at hs;omega
section
variable{i q:Nat}{B:Bt}
theorem FY(hi:i<5)(hq:q<4)(ok:B.Ok):Ja (D0 i B q):=⟨⟨.inr (.inr (.inr ⟨⟨hq,.inr (.inr (.inl rfl)),qd,Ak _⟩,(M7 ok).1⟩))⟩,Int.natCast_nonneg _,Int.ofNat_lt.2 hi⟩
theorem Ue{fr:Int}(hf:0≤fr∧fr<5)(hq:q<4)(pn pe:Int):Ja (qa fr q pn pe):=⟨⟨.inr (.inr (.inr ⟨⟨hq,.inr (.inr (.inr (.inr rfl))),qd,Ak _⟩,hf⟩))⟩,Bq 0,(by decide:(0:Int)<5)⟩
theorem XE{nd:Int}(hf:0≤nd∧nd<5)(hq:q<4){nu:Int}{op:Ev}(ho:∀x∈aX op,(Lit.int .i64 x).wf=true):Ja (rD nd q nu op):=⟨⟨.inr (.inr (.inr ⟨⟨hq,.inl rfl,ho,Ak _⟩,hf⟩))⟩,Bq 0,(by decide:(0:Int)<5)⟩
theorem XF(hi:i<5)(hq:q<4)(ok:B.Ok){hv:Int}{es:List Ev}(he:es.length≤2000){la:Bool}:Ja (MG i B q hv es la):=⟨⟨.inr (.inr (.inr ⟨⟨hq,.inr (.inr (.inr (.inl rfl))),qd,he⟩,(M7 ok).2.1⟩))⟩,Int.natCast_nonneg _,Int.ofNat_lt.2 hi⟩
theorem M8(hi:i<5)(hq:q<4)(ok:B.Ok):Ja (IA i B q):=⟨⟨.inr (.inr (.inr ⟨⟨hq,.inr (.inl rfl),qd,Ak _⟩,(M7 ok).2.1⟩))⟩,Int.natCast_nonneg _,Int.ofNat_lt.2 hi⟩
theorem XG(hi:i<5)(hq:q<4):Ja (SI i q):=⟨⟨.inr (.inr (.inl ⟨rfl,hq⟩))⟩,Int.natCast_nonneg _,Int.ofNat_lt.2 hi⟩
theorem Uf(hi:i<5)(hq:q<4)(ok:B.Ok):Ja (KM i B q):=by
 have:=(M7 ok).2.2;exact⟨⟨.inr (.inl ⟨rfl,hq,by show-1000000000≤B.e;omega,by show B.e≤1000000000;omega⟩)⟩,Int.natCast_nonneg _,Int.ofNat_lt.2 hi⟩
end
theorem sA{n:Nd}{s:Ws}{l:Lt}{an:An}:pE 1 1 s (iy n s l an):=(Ep.trans (nV (Jb _ _ _ _))).mono (by omega) (by omega)
theorem Ug{B:Bt}{hv:Int}:(partOf B hv).1.length≤2000:=by
 unfold partOf;split
 ·exact Ak _
 ·simp only[List.length_take];omega
theorem Jc{n:Nd}{s:Ws}{q:Nat}{hv:Int}(hi:n.i<5)(hq:q<4)(ok:(n.mo q).Ok):pE 1 0 s (aaA n s q hv):=by
 unfold aaA;split
 ·exact nV (XF hi hq ok Ug)
 ·exact(pE.refl s).mono (by omega) (by omega)
theorem YN{n n':Nd}{a:Af}{rs:List Rec}(h:pA n a rs=some n'):n'.af=some a∧n'.dl.length≤100000∧n'.tu=n.tu∧n'.wt=n.wt:=by
 unfold pA at h;split at h
 ·rename_i hl;cases h;exact⟨rfl,by show(n.dl++bI rs).length≤100000;rw[Ac];exact hl,rfl,rfl⟩
 ·cases h
theorem Uh{n:Nd}{s:Ws}{l:Lt}(h:Up n)(ha:n.af=none)(hi:n.i<5)(hl:n.dl.length≤100000)(hw:mD l):(cJ n s l).1.dl.length≤100000∧(((cJ n s l).1.af=none∧pE 1 1 s (cJ n s l).2)∨((cJ n s l).1.af.isSome∧(cJ n s l).2=s)):=by
 have hq:=hw.q;have ok:=h.mo l.q hq;have r0:pE 1 1 s s:=(pE.refl s).mono (by omega) (by omega);have same:n.dl.length≤100000∧((n.af=none∧pE 1 1 s s)∨(n.af.isSome∧s=s)):=⟨hl,.inl ⟨ha,r0⟩⟩;have wr:∀{m:Nd} {a:Af} {rs:List Rec},m.dl.length≤100000→m.af=none→((pA m a rs).getD m).dl.length≤100000∧((((pA m a rs).getD m).af=none∧pE 1 1 s s)∨(((pA m a rs).getD m).af.isSome∧s=s)):=fun {m a rs} hm hma=>by
  cases Gi:pA m a rs with
  |none=>exact⟨hm,.inl ⟨hma,r0⟩⟩
  |some x=>
   obtain⟨k1,k2,_,_⟩:=YN Gi;exact⟨k2,.inr ⟨by show x.af.isSome;rw[k1];rfl,rfl⟩⟩
 unfold cJ;split
 ·unfold gy;split
  ·exact⟨hl,.inl ⟨ha,(nV (Jb _ _ _ _)).mono (by omega) (by omega)⟩⟩
  ·split
   ·exact⟨hl,.inl ⟨ha,sA⟩⟩
   ·split
    ·rename_i n' hn;obtain⟨k1,k2,_,_⟩:=YN hn;exact⟨k2,.inr ⟨by rw[k1];rfl,rfl⟩⟩
    ·exact⟨hl,.inl ⟨ha,sA⟩⟩
 ·split
  ·unfold jL;split
   ·exact same
   ·split
    ·exact⟨hl,.inl ⟨ha,(nV (FY hi hq ok)).mono (by omega) (by omega)⟩⟩
    ·exact wr hl ha
  ·split
   ·unfold h_;split
    ·exact same
    ·split
     ·exact same
     ·split
      ·refine⟨hl,.inl ⟨ha, ?_⟩⟩;refine(Jc (n:={n with mo:=au n.mo l.q (bf (n.mo l.q) l.pl).1}) hi hq ?_).mono (by omega) (by omega);show(au n.mo l.q (bf (n.mo l.q) l.pl).1 l.q).Ok;rw[az];exact nO (er:=(bf (n.mo l.q) l.pl).2) rfl
      ·exact wr hl ha
   ·split
    ·unfold takeN;split
     ·exact same
     ·split
      ·exact same
      ·exact wr hl ha
    ·have e:(eJ n l).dl=n.dl∧(eJ n l).af=n.af:=by
      unfold eJ;split<;>exact⟨rfl,rfl⟩
     unfold jM;split
     ·exact wr (by rw[e.1];exact hl) (e.2.trans ha)
     ·exact⟨by rw[e.1];exact hl,.inl ⟨e.2.trans ha,r0⟩⟩
theorem Ui{mo:Nat→Bt}{q:Nat}{B:Bt}(h:∀p,p<4→(mo p).Ok)(ok:B.Ok):∀p,p<4→(au mo q B p).Ok:=fun p hp=>by
 by_cases e:p=q
 ·rw[e,az];exact ok
 ·rw[bD e];exact h p hp
theorem nW{n:Nd}{s:Ws}{a:Af}(h:Up n)(ha:n.af=some a)(hi:n.i<5):pE 1 1 s (eZ {n with sy:=n.dl.length,af:=none} s a).2:=by
 have hu:=h.sync (s:=s) ha;obtain⟨dO,dH,Bs,e1,e2,e3,e4,e5⟩:=h.ex;rcases e5 with e5|⟨a',q,D,h1,p⟩
 ·rw[ha]at e5;cases e5.1
 rw[ha]at h1;cases h1;have hq:=p.q4;cases a with
 |serve l an=>exact sA
 |begin l B=>
  obtain⟨rfl,_,rfl⟩:=p.af;exact(nV (FY hi hq (hu.mo l.q hq))).mono (by omega) (by omega)
 |shut l B=>
  obtain⟨rfl,_,rfl⟩:=p.af;exact(Jc (n:={n with sy:=n.dl.length,af:=none,mo:=au n.mo l.q D}) hi hq (hu.mo l.q hq)).mono (by omega) (by omega)
 |take l B=>
  obtain⟨rfl,_,rfl⟩:=p.af;have hm:=hu.mo l.q hq;show pE 1 1 s (if D.r=1 then _ else _);split
  ·exact Ep.mono (by omega) (by omega)
  ·exact(nV (FY hi hq hm)).mono (by omega) (by omega)
 |kG p' B=>exact(pE.refl s).mono (by omega) (by omega)
theorem aau{n:Nd}{q:Nat}(h:Up n)(hi:n.i<5)(hq:q<4):(fL n q).length≤2∧∀l∈fL n q,Ja l:=by
 have ok:=h.mo q hq;unfold fL;split
 ·exact⟨by simp,fun l hl=>by rw[List.mem_singleton.1 hl];exact M8 hi hq ok⟩
 ·split
  ·refine⟨by simp,fun l hl=> ?_⟩;rcases BQ.1 hl with rfl|hl
   ·exact M8 hi hq ok
   ·rw[Ab.1 hl];exact XG hi hq
  ·split
   ·exact⟨by simp,fun l hl=>by rw[List.mem_singleton.1 hl];exact Uf hi hq ok⟩
   ·exact⟨by simp,fun l hl=>by cases hl⟩
theorem um:∀(k:Nat) {n:Nd} {s:Ws},Up n→n.i<5→n.tu<4→pE 2 0 s (eX k n s).2∧(eX k n s).1.wt=n.wt∧(eX k n s).1.af=n.af∧(eX k n s).1.dl=n.dl∧(eX k n s).1.tu<4
 |0,n,s,_,_,ht=>⟨(pE.refl s).mono (by omega) (by omega),rfl,rfl,rfl,ht⟩
 |k+1,n,s,h,hi,ht=>by
  unfold eX;split
  ·exact um k (n:={n with tu:=(n.tu+1) % 4}) (h.congr rfl rfl rfl rfl) hi (Nat.mod_lt _ (by decide))
  ·obtain⟨h1,h2⟩:=aau h hi ht;exact⟨⟨⟨_,rfl,h1,h2⟩,⟨[],(As _).symm,Aa _⟩,rfl,rfl,rfl,rfl⟩,rfl,rfl,rfl,Nat.mod_lt _ (by decide)⟩
def cN(n:Nd):Nat:=n.wt.length+(if n.af.isSome then 1 else 0)
theorem nY:∀(k:Nat) {n:Nd} {s:Ws},Up n→n.af=none→n.i<5→n.tu<4→n.dl.length≤100000→(∀l∈n.wt,mD l)→(∃a b,pE a b s (dX k n s).2∧a+cN (dX k n s).1≤n.wt.length+2∧b≤n.wt.length)∧(dX k n s).1.tu<4∧(dX k n s).1.dl.length≤100000∧∀l∈(dX k n s).1.wt,mD l
 |0,n,s,h,ha,hi,ht,hl,hw=>by
  obtain⟨h1,h2,h3,h4,h5⟩:=um 4 (s:=s) h hi ht;refine⟨⟨2,0,h1, ?_,Ak _⟩,h5,by rw[show(dX 0 n s).1.dl=n.dl from h4];exact hl,by rw[show(dX 0 n s).1.wt=n.wt from h2];exact hw⟩;show 2+cN (eX 4 n s).1≤_;unfold cN;rw[h2,h3,ha];simp;omega
 |k+1,n,s,h,ha,hi,ht,hl,hw=>by
  unfold dX;split
  ·rename_i lV;obtain⟨h1,h2,h3,h4,h5⟩:=um 4 (s:=s) h hi ht;refine⟨⟨2,0,h1, ?_,Ak _⟩,h5,by rw[h4];exact hl,by rw[h2];exact hw⟩;unfold cN;rw[h2,h3,ha];simp;omega
  ·rename_i l ls lV;have FF:mD l:=hw l (by rw[lV];exact Aw);have hu:Up {n with wt:=ls}:=h.congr rfl rfl rfl rfl;have hd:=M4 (n:={n with wt:=ls}) (s:=s) (l:=l) hu ha FF;have hs:=Uh (n:={n with wt:=ls}) (s:=s) (l:=l) hu ha hi hl FF;have hk:=(sj {n with wt:=ls} s l).1;have hws:∀x∈ls,mD x:=fun x hx=>hw x (by rw[lV];exact AF _ hx);have hlen:n.wt.length=ls.length+1:=by rw[lV];rfl
   have MH:(cJ {n with wt:=ls} s l).1.wt=ls:=hk.2;split
   ·rename_i sq;rcases hs.2 with⟨e,_⟩|⟨_,e⟩
    ·rw[e]at sq;cases sq
    ·refine⟨⟨0,0, ?_, ?_,Ak _⟩,by rw[hk.1];exact ht,hs.1,by rw[MH];exact hws⟩
     ·rw[e];exact pE.refl s
     ·unfold cN;rw[MH,if_pos sq];omega
   ·rename_i sq;rcases hs.2 with⟨e,g⟩|⟨e,_⟩
    ·obtain⟨⟨a,b,g1,g2,g3⟩,g4,g5,g6⟩:=nY k (s:=(cJ {n with wt:=ls} s l).2) hd.1 e (by rw[hd.2.2.1];exact hi) (by rw[hk.1];exact ht) hs.1 (by rw[MH];exact hws);rw[MH]at g2 g3;exact⟨⟨1+a,1+b,g.trans g1,by omega,by omega⟩,g4,g5,g6⟩
    ·exact absurd e sq
def ql(ns:Nat→Nd):Nat:=cN (ns 0)+cN (ns 1)+cN (ns 2)+cN (ns 3)+cN (ns 4)
theorem FZ(ns:Nat→Nd)(n':Nd){i:Nat}(hi:i<5):ql (au ns i n')+cN (ns i)=ql ns+cN n':=by
 unfold ql au;obtain rfl|rfl|rfl|rfl|rfl:i=0∨i=1∨i=2∨i=3∨i=4:=by omega
 all_goals simp
 all_goals omega
theorem Uj{ns:Nat→Nd}{i:Nat}(hi:i<5):cN (ns i)≤ql ns:=by
 unfold ql;obtain rfl|rfl|rfl|rfl|rfl:i=0∨i=1∨i=2∨i=3∨i=4:=by omega
 all_goals omega
structure Inv(k:Nat)(p:(Nat→Nd)×Ws):Prop where
 n:∀i,i<5→NI i (p.1 i)
 fl:∀l∈p.2.fl,Ja l
 dir:de p.2.pn p.2.pe
 t:p.2.fl.length+ql p.1≤2*k
 sv:p.2.sv.length≤300000*k
 td:p.2.td.length≤300000*k
 c0:0≤p.2.cs
 c1:p.2.cs≤k
theorem Inv.gd{k:Nat}{p:(Nat→Nd)×Ws}(h:Inv k p)(hk:k≤100000):GdT p:=by
 have ht:=h.t;have hs:=h.sv;have hd:=h.td;have hc:=h.c1;have st:∀i,i<5→(p.1 i).up=false→∃dO dH Bs,Gl (p.1 i) dO dH Bs:=fun i hi hu=>(h.n i hi).dw hu;refine⟨⟨fun i hi=>(h.n i hi).tu,fun i hi=>(h.n i hi).wt,fun l hl=>(h.fl l hl).ok,h.dir,fun i hi hu _=> ?_,by omega,by omega,by omega,fun i hi=> ?_,h.c0,by omega⟩,fun i hi hu=> ?_⟩
 ·obtain⟨dO,dH,Bs,hp⟩:=st i hi hu;exact⟨Bs,_,_,dH,_,hp.st (h.n i hi).ln⟩
 ·have:=Uj (ns:=p.1) hi;unfold cN at this;omega
 ·obtain⟨dO,dH,Bs,hp⟩:=st i hi hu;exact⟨Bs,_,_,hp.tp (h.n i hi).ln⟩
section
variable{k:Nat}{ns:Nat→Nd}{s:Ws}
theorem F5{P:Nat→Nd→Prop}(h:∀i,i<5→P i (ns i)){i:Nat}{n':Nd}(hn:P i n'):∀j,j<5→P j (au ns i n' j):=fun j hj=>by
 by_cases e:j=i
 ·subst e;rw[az];exact hn
 ·rw[bD e];exact h j hj
theorem Inv.piece(h:Inv k (ns,s)){i:Nat}(hi:i<5){n':Nd}{s':Ws}{a b:Nat}(hn:NI i n')(hs:pE a b s s')(ha:a+cN n'≤cN (ns i)+2)(hb:b≤300000):Inv (k+1) (au ns i n',s'):=by
 obtain⟨L,e1,e2,e3⟩:=hs.fl;obtain⟨M,e4,e5⟩:=hs.sv;have ht:=h.t;have hv:=h.sv;have hd:=h.td;have hc:=h.c1;have hu:=FZ ns n' hi;simp only at ht hv hd hc;refine⟨F5 h.n hn,fun l hl=> ?_, ?_, ?_, ?_, ?_, ?_, ?_⟩
 ·rw[e1]at hl;exact(Ao.1 hl).elim (h.fl l) (e3 l)
 ·show de s'.pn s'.pe;rw[hs.pn,hs.pe];exact h.dir
 ·show s'.fl.length+ql (au ns i n')≤_;rw[e1,Ac];omega
 ·show s'.sv.length≤_;rw[e4,Ac];omega
 ·show s'.td.length≤_;rw[hs.td];omega
 ·show 0≤s'.cs;rw[hs.cs];exact h.c0
 ·show s'.cs≤_;rw[hs.cs];omega
theorem Inv.next(h:Inv k (ns,s)):Inv (k+1) (ns,s):=by
 have ht:=h.t;have hv:=h.sv;have hd:=h.td;have hc:=h.c1;exact⟨h.n,h.fl,h.dir,by omega,by omega,by omega,h.c0,by omega⟩
theorem XH{i:Nat}{n:Nd}(h:NI i n)(hi:i<5):NI i (eK n s).1∧∃a b,pE a b s (eK n s).2∧a+cN (eK n s).1≤cN n+2∧b≤n.wt.length+1:=by
 have Js:n.i<5:=by rw[h.i];exact hi
 by_cases hu:n.up=false
 ·rw[qK hu];exact⟨h,0,0,pE.refl s,(by show 0+cN n≤cN n+2;omega),Ak _⟩
 ·have hu:n.up=true:=by
   cases hx:n.up with
   |true=>rfl
   |false=>exact absurd hx hu
  have up:=h.up hu;cases ha:n.af with
  |some a=>
   rw[qL hu ha];have h1:=up.sync (s:=s) ha;have h2:=nW (s:=s) up ha Js;have h3:∀a,(eZ {n with sy:=n.dl.length,af:=none} s a).1.i=n.i∧(eZ {n with sy:=n.dl.length,af:=none} s a).1.tu=n.tu∧(eZ {n with sy:=n.dl.length,af:=none} s a).1.wt=n.wt∧(eZ {n with sy:=n.dl.length,af:=none} s a).1.dl=n.dl∧(eZ {n with sy:=n.dl.length,af:=none} s a).1.up=n.up∧(eZ {n with sy:=n.dl.length,af:=none} s a).1.af=none:=fun a=>by
    cases a<;>exact⟨rfl,rfl,rfl,rfl,rfl,rfl⟩
   obtain⟨e1,e2,e3,e4,e5,e6⟩:=h3 a;refine⟨⟨e1.trans h.i,by rw[e2];exact h.tu,by rw[e3];exact h.wt,by rw[e4];exact h.ln,fun _=>h1,fun g=> ?_⟩,1,1,h2, ?_,by omega⟩
   ·rw[e5,hu]at g;cases g
   ·unfold cN;rw[e3,e6,ha];simp;omega
  |none=>
   rw[nQ hu ha];obtain⟨⟨a,b,g1,g2,g3⟩,g4,g5,g6⟩:=nY n.wt.length (s:=s) up ha Js h.tu h.ln h.wt;obtain⟨w1,w2,w3,_,_⟩:=M6 n.wt.length (s:=s) up ha h.wt;refine⟨⟨w3.trans h.i,g4,g6,g5,fun _=>w1,fun g=> ?_⟩,a,b,g1, ?_,by omega⟩
   ·rw[w2,hu]at g;cases g
   ·unfold cN;unfold cN at g2;rw[ha];simp;omega
theorem Uk{i:Nat}{n:Nd}(h:NI i n){kp:Int}(hk:0≤kp):NI i (mW n kp)∧cN (mW n kp)≤cN n:=by
 unfold mW;split
 ·rename_i hu;refine⟨⟨h.i,(show(0:Nat)<4 by decide),(fun l hl=>by cases hl), ?_,(fun g=>by cases g),fun _=>(h.up hu).El hk⟩,Ak _⟩;show(n.dl.take _).length≤_;have:=h.ln;rw[AL];omega
 ·exact⟨h,Aa _⟩
theorem Ul{i:Nat}{n:Nd}(h:NI i n):NI i (ee n s).1∧pE 0 200000 s (ee n s).2∧cN (ee n s).1≤cN n:=by
 by_cases kN:n.up=true∨n.sk=true
 ·have e:ee n s=(n,s):=if_pos kN;rw[e];exact⟨h,(pE.refl s).mono (by omega) (by omega),Aa _⟩
 ·have hu:n.up=false:=by
   cases hx:n.up with
   |true=>exact absurd (.inl hx) kN
   |false=>rfl
  have hk:n.sk=false:=by
   cases hx:n.sk with
   |true=>exact absurd (.inr hx) kN
   |false=>rfl
  obtain⟨dO,dH,Bs,hp⟩:=h.dw hu;obtain⟨Em,hB,e⟩:=I_ (s:=s) hp h.ln hu hk;rw[e];have gI:=hp.st h.ln;unfold jP;split
  ·rename_i hc;refine⟨⟨h.i,(show(0:Nat)<4 by decide),(fun l hl=>by cases hl), ?_,(fun _=>Lh hp hB hc.1),(fun g=>by cases g)⟩,⟨⟨[],(As _).symm,Aa _,(fun _ h=>by cases h)⟩,⟨_,Az .., ?_⟩,rfl,rfl,rfl,rfl⟩,Ak _⟩
   ·show(n.dl.take _++bI _).length≤_;rw[Ac,AL];have:=hc.2;omega
   ·rw[Ac,AX];have h1:=vh (i:=n.i) (Bs:=Em) (ps:=dH);have h2:=mn Em 4;have h3:=gI.pl;omega
  ·refine⟨⟨h.i,h.tu,h.wt, ?_,fun g=> ?_,fun _=>⟨dO,dH,Bs,P7 hp⟩⟩,(pE.refl s).mono (by omega) (by omega),Aa _⟩
   ·show(n.dl.take _).length≤_;have:=h.ln;rw[AL];omega
   ·have:n.up=true:=g;rw[hu]at this;cases this
theorem Er{n:Nd}{q:Nat}(h:Up n)(hq:q<4)(ha:n.af=none)(hm:(dS (n.mo q) 1).2=0):Up {n with dl:=n.dl++bI [aB q],sy:=((n.dl.length+(bI [aB q]).length:Nat):Int),mo:=au n.mo q ⟨1,1,0,0,0,[]⟩}:=by
 obtain⟨dO,dH,Bs,e1,e2,e3,e4,e5⟩:=h.ex;have e0:dH=[]:=by
  rcases e5 with e5|⟨a,q',D,h1,_⟩
  ·exact e5.2
  ·rw[ha]at h1;cases h1
 subst e0;have ok:=h.mo q hq;have h0:(n.mo q).r=0∧(n.mo q).e<1:=by
  unfold dS at hm;rw[if_neg (fun g=>g ok),if_neg (fun g=>g (by decide))]at hm;split at hm
  ·cases hm
  ·rename_i g;split at hm
   ·cases hm
   ·exact⟨Ay.1 g,by omega⟩
 have okD:(⟨1,1,0,0,0,[]⟩:Bt).Ok:=⟨.inr (.inl ⟨rfl,by decide,by decide,rfl,rfl,rfl⟩),by decide,St.zero,[],.nil⟩;have hf:=o6 hq;have hap:dW (Bs q) (aB q)=(⟨1,1,0,0,0,[]⟩,0):=by
  rw[e4 q hq,kZ (by omega)];refine eS ok hf ?_ okD;unfold cS;rw[if_pos rfl,if_pos ⟨rfl,h0⟩]
 have wm:=e3.snoc ⟨hf,fun _=>rfl⟩ hq rfl hap;refine⟨Ui h.mo okD,dO++[aB q],[],_, ?_, ?_,wm,fun p hp=> ?_,.inl ⟨ha,rfl⟩⟩
 ·show n.dl++bI [aB q]=_;rw[e1,kn];simp[bI]
 ·show((n.dl.length+(bI [aB q]).length:Nat):Int)=_;rw[e1,kn,Ac,Ac];simp[bI]
 ·show _=tb (au n.mo q _ p);by_cases e:p=q
  ·rw[e,az,az];rfl
  ·rw[bD e,bD e];exact e4 p hp
theorem uo{pn pe:tH}{q:Nat}{x y:Int}(h:de pn pe)(hp:Ho x y):de (cB pn q x) (cB pe q y):=fun p hp'=>by
 unfold cB;by_cases e:p=q
 ·rw[if_pos e,if_pos e];exact hp
 ·rw[if_neg e,if_neg e];exact h p hp'
theorem Li{B B':Bt}{v:Ev}{an:An}(h:cR B v B' an true 0):∃s bw s',v.Ok∧¬v.k=4∧bk B.es s bw∧Step s v s' an true∧B.es.length<1999:=by
 generalize hc:true=c at h;cases h with
 |done h1 h2 h3 h4 s bw h5 s' _ h6 h7=>exact⟨s,bw,s',h2,h3,h5,h6,h7⟩
 |_=>cases hc
theorem go_up{n:Nd}{q:Nat}{tg:Int}(h:Up n)(hq:q<4)(hg:(dT (n.mo q) tg).2=0):Up {n with mo:=au n.mo q (dT (n.mo q) tg).1}:=by
 have ok:=h.mo q hq;have hB:(dT (n.mo q) tg).1.Ok:=MR (er:=(dT (n.mo q) tg).2) rfl;have hs:=ok.cO;unfold Bt.cH bB at hs;have hr:(n.mo q).r=1∧(dT (n.mo q) tg).1=⟨2,(n.mo q).e,(n.mo q).f,tg,(n.mo q).o,(n.mo q).es⟩:=by
  unfold dT at hg⊢;rw[if_neg (fun g=>g ok)]at hg⊢;split at hg
  ·cases hg
  ·rename_i g1;rw[if_neg g1];split at hg
   ·cases hg
   ·rename_i g2;rw[if_neg g2];split at hg
    ·cases hg
    ·rename_i g3;rw[if_neg g3];split at hg
     ·cases hg
     ·rename_i g4;rw[if_neg g4];exact⟨Ay.1 g3,rfl⟩
 obtain⟨s7,hr2⟩:=hr;have hm:n.mo q=⟨1,(n.mo q).e,0,0,0,(n.mo q).es⟩:=by
  have h1:(n.mo q).f=0∧(n.mo q).t=0∧(n.mo q).o=0:=by omega
  calc n.mo q=⟨(n.mo q).r,(n.mo q).e,(n.mo q).f,(n.mo q).t,(n.mo q).o,(n.mo q).es⟩:=rfl
   _=_:=by rw[s7,h1.1,h1.2.1,h1.2.2]
 have ht:tb (dT (n.mo q) tg).1=tb (n.mo q):=by
  rw[kZ (show ¬(n.mo q).r=2 by omega),hr2,I7 rfl];exact hm.symm
 obtain⟨dO,dH,Bs,e1,e2,e3,e4,e5⟩:=h.ex;refine⟨Ui h.mo hB,dO,dH,Bs,e1,e2,e3,fun p hp=> ?_, ?_⟩
 ·show _=tb (au n.mo q _ p);by_cases e:p=q
  ·rw[e,az,ht];exact e4 q hq
  ·rw[bD e];exact e4 p hp
 ·rcases e5 with e5|⟨a,q',D,h1,p⟩
  ·exact .inl e5
  ·refine .inr ⟨a,q',D,h1,p.q4,p.ok, ?_,p.lt,p.one, ?_⟩
   ·show kI (tb (au n.mo q _ q')) dH D;by_cases e:q'=q
    ·subst e;rw[az,ht];exact p.run
    ·rw[bD e];exact p.run
   ·show AfP (au n.mo q _) q' D a;by_cases e:q'=q
    ·subst e;have hx:∀{x y:Prop},x∧¬(n.mo q').r=1∧y→False:=fun h=>h.2.1 s7;have pa:=p.af;cases a with
     |serve l an=>
      obtain⟨i1,i2,i3,i4⟩:=pa;refine⟨i1, ?_, ?_, ?_⟩
      ·rw[az,hr2];exact .inr rfl
      ·rw[az];obtain⟨s0,bw,s1,g2,g3,g5,g6,g7⟩:=Li i3
       ·have e2:(dT (n.mo q') tg).1.es=(n.mo q').es:=by rw[hr2]
        exact .done hB g2 g3 (by rw[hr2];exact .inr rfl) s0 bw (by rw[e2];exact g5) s1 _ g6 (by rw[e2];exact g7)
      ·rw[az,i4,kZ (show ¬((n.mo q').more [l.op]).r=2 by show ¬(n.mo q').r=2;omega),hr2,I7 (show((⟨2,(n.mo q').e,(n.mo q').f,tg,(n.mo q').o,(n.mo q').es⟩:Bt).more [l.op]).r=2 from rfl)];have h1:(n.mo q').f=0∧(n.mo q').t=0∧(n.mo q').o=0:=by omega
       unfold Bt.more;simp only[s7,h1.1,h1.2.1,h1.2.2]
     |begin l B=>exact(hx pa).elim
     |shut l B=>exact(hx pa).elim
     |take l B=>exact(hx pa).elim
     |kG p' B=>exact(hx pa).elim
    ·have e6:au n.mo q (dT (n.mo q) tg).1 q'=n.mo q':=bD e;have pa:=p.af;cases a with
     |serve l an=>obtain⟨i1,i2,i3,i4⟩:=pa;exact⟨i1,by rw[e6];exact i2,by rw[e6];exact i3,by rw[e6];exact i4⟩
     |begin l B=>exact⟨pa.1,by rw[e6];exact pa.2.1,pa.2.2⟩
     |shut l B=>exact⟨pa.1,by rw[e6];exact pa.2.1,pa.2.2⟩
     |take l B=>exact⟨pa.1,by rw[e6];exact pa.2.1,pa.2.2⟩
     |kG p' B=>exact⟨pa.1,by rw[e6];exact pa.2.1,pa.2.2⟩
theorem Um{l:Lt}(hq2:l.q=l.q→l.q<4)(h:de s.pn s.pe):de (g_ s l).pn (g_ s l).pe:=by
 unfold g_;split
 ·rename_i hc;obtain⟨_,h1,h2⟩:=hc;refine uo h ?_;unfold yo at h2;split at h2
  ·cases h2
  ·rename_i g1;split at h2
   ·cases h2
   ·split at h2
    ·cases h2
    ·split at h2
     ·cases h2
     ·rename_i g4;by_cases hq:l.q<4
      ·have:=h l.q hq;unfold Ho at this⊢;omega
      ·exact absurd (hq2 rfl) hq
 ·exact h
structure Cm(p p':(Nat→Nd)×Ws)(m:Nat):Prop where
 n:∀i,i<5→NI i (p'.1 i)
 fl:∀l∈p'.2.fl,Ja l
 dir:de p'.2.pn p'.2.pe
 t:p'.2.fl.length+ql p'.1≤p.2.fl.length+ql p.1+m
 sv:p'.2.sv=p.2.sv
 td:p'.2.td.length≤p.2.td.length+m
 cs:p'.2.cs=p.2.cs
theorem M_{p p':(Nat→Nd)×Ws}{m:Nat}(h:Cm p p' m){l:Lt}(hl:Ja l):Cm p (bH p'.1 p'.2 l) (m+1):=by
 have ht:=h.t;have hd:=h.td;have tell:∀{s:Ws},(∀l∈s.fl,Ja l)→de s.pn s.pe→s.fl=p'.2.fl→s.sv=p'.2.sv→s.td=p'.2.td→s.cs=p'.2.cs→l.q<4→Cm p (p'.1,mr s l) (m+1):=fun {s} h1 h2 h3 h4 h5 h6 hq=>by
  refine⟨h.n,fun x hx=> ?_,h2, ?_,h4.trans h.sv, ?_,h6.trans h.cs⟩
  ·rcases Ao.1 hx with hx|hx
   ·exact h1 x hx
   ·rw[Ab.1 hx];exact Ue ⟨hl.f0,hl.f5⟩ hq _ _
  ·show(s.fl++[_]).length+_≤_;rw[Ac,h3];simp only[List.length_singleton];omega
  ·show s.td.length≤_;rw[h5];omega
 unfold bH;split
 ·refine⟨h.n,h.fl,h.dir,by show p'.2.fl.length+ql p'.1≤p.2.fl.length+ql p.1+(m+1);omega,h.sv, ?_,h.cs⟩;show(p'.2.td++[_]).length≤_;rw[Ac];simp only[List.length_singleton];omega
 ·rename_i k1;split
  ·rename_i k5;have hf:=vU p'.2 l;have hq:l.q<4:=by
    rcases hl.ok.kd with g|g|g|g
    ·exact absurd g k1
    ·exact g.2.1
    ·exact g.2
    ·exact g.1.q
   exact tell (by rw[hf.1];exact h.fl) (Um (fun _=>hq) h.dir) hf.1 hf.2.2.1 hf.2.2.2 hf.2.1 hq
  ·rename_i k5;split
   ·have hq:l.q<4:=by
     rcases hl.ok.kd with g|g|g|g
     ·exact absurd g k1
     ·exact g.2.1
     ·exact g.2
     ·exact g.1.q
    exact tell h.fl h.dir rfl rfl rfl rfl hq
   ·rename_i k6;obtain⟨hw,hd0,hd5⟩:mD l∧0≤l.dst∧l.dst<5:=by
     rcases hl.ok.kd with g|g|g|g
     ·exact absurd g k1
     ·exact absurd g.1 k5
     ·exact absurd g.1 k6
     ·exact g
    have hi:l.dst.toNat<5:=by omega
    have hn:=h.n _ hi;have hu:=FZ p'.1 (if(p'.1 l.dst.toNat).up=true then {p'.1 l.dst.toNat with wt:=(p'.1 l.dst.toNat).wt++[l]}else p'.1 l.dst.toNat) hi;refine⟨F5 h.n ?_,h.fl,h.dir, ?_,h.sv,(by show p'.2.td.length≤p.2.td.length+(m+1);omega),h.cs⟩
    ·split
     ·rename_i C9;refine⟨hn.i,hn.tu,fun x hx=> ?_,hn.ln,fun _=>(hn.up C9).congr rfl rfl rfl rfl,fun g=> ?_⟩
      ·rcases Ao.1 hx with hx|hx
       ·exact hn.wt x hx
       ·rw[Ab.1 hx];exact hw
      ·have:(p'.1 l.dst.toNat).up=false:=g;rw[C9]at this;cases this
     ·exact hn
    ·show p'.2.fl.length+ql (au _ _ _)≤_;have hc:cN (if(p'.1 l.dst.toNat).up=true then {p'.1 l.dst.toNat with wt:=(p'.1 l.dst.toNat).wt++[l]}else p'.1 l.dst.toNat)≤cN (p'.1 l.dst.toNat)+1:=by
      split
      ·unfold cN;simp only[List.length_append,List.length_singleton];omega
      ·omega
     omega
theorem Jd{p:(Nat→Nd)×Ws}:∀(L:List Lt) {p':(Nat→Nd)×Ws} {m:Nat},Cm p p' m→(∀l∈L,Ja l)→Cm p (L.foldl (fun p l=>bH p.1 p.2 l) p') (m+L.length)
 |[],p',m,h,_=>h
 |l::L,p',m,h,hL=>by
  rw[BR,List.length_cons,show m+(L.length+1)=(m+1)+L.length by omega];exact Jd L (M_ h (hL l Aw)) fun x hx=>hL x (AF _ hx)
theorem adf{a b c d e f:Int}(h:aP a b c d e f=0):∀x∈aX ⟨a,b,c,d,e,f⟩,(Lit.int .i64 x).wf=true:=YC (v:=⟨a,b,c,d,e,f⟩) h
end
theorem XI{k:Nat}{p:(Nat→Nd)×Ws}(h:Inv k p)(hk:k≤100000){f:tH}(ok:YM f):Inv (k+1) (dB p f):=by
 obtain⟨ns,s⟩:=p;have hi:(f 1).toNat<5:=by have:=ok.n;omega
 have hq:(f 2).toNat<4:=by have:=ok.q;omega
 have ht:=h.t;have hv:=h.sv;have hd:=h.td;have hc:=h.c1;simp only at ht hv hd hc;have hN:∀i,i<5→NI i (ns i):=h.n;have h':Inv k (ns,s):=h;have base:Cm (ns,s) (ns,s) 0:=⟨h.n,h.fl,h.dir,Aa _,rfl,Aa _,rfl⟩;unfold dB U2;simp only;split
 ·
  have hn:=hN _ hi;unfold bP;split
  ·rename_i YO;obtain⟨⟨h1,h2⟩,h3,h4,h5,h6⟩:=YO;dsimp only;have hu:=FZ ns {ns (f 1).toNat with dl:=(ns (f 1).toNat).dl++bI [aB (f 2).toNat],sy:=(((ns (f 1).toNat).dl.length+(bI [aB (f 2).toNat]).length:Nat):Int),mo:=au (ns (f 1).toNat).mo (f 2).toNat ⟨1,1,0,0,0,[]⟩} hi;have Qu:cN {ns (f 1).toNat with dl:=(ns (f 1).toNat).dl++bI [aB (f 2).toNat],sy:=(((ns (f 1).toNat).dl.length+(bI [aB (f 2).toNat]).length:Nat):Int),mo:=au (ns (f 1).toNat).mo (f 2).toNat ⟨1,1,0,0,0,[]⟩}=cN (ns (f 1).toNat):=rfl;refine⟨F5 h.n ⟨hn.i,hn.tu,hn.wt, ?_,fun _=>Er (hn.up h3) hq h4 h5,fun g=> ?_⟩,h.fl,uo h.dir ?_, ?_, ?_, ?_,h.c0, ?_⟩
   ·show((ns (f 1).toNat).dl++bI [aB (f 2).toNat]).length≤100000;rw[Ac];exact h6
   ·have:(ns (f 1).toNat).up=false:=g;rw[h3]at this;cases this
   ·rw[hn.i];exact .inr ⟨by omega,by omega,by decide,by decide⟩
   ·show s.fl.length+ql (au ns (f 1).toNat {ns (f 1).toNat with dl:=(ns (f 1).toNat).dl++bI [aB (f 2).toNat],sy:=(((ns (f 1).toNat).dl.length+(bI [aB (f 2).toNat]).length:Nat):Int),mo:=au (ns (f 1).toNat).mo (f 2).toNat ⟨1,1,0,0,0,[]⟩})≤2*(k+1);omega
   ·show s.sv.length≤_;omega
   ·show s.td.length≤_;omega
   ·show s.cs≤_;omega
  ·simp only;rw[qN];exact h.next
 ·split
  ·
   rename_i h2;have ho:=adf (ok.e h2).1;refine⟨h.n,fun l hl=> ?_,h.dir, ?_, ?_, ?_, ?_, ?_⟩
   ·rcases Ao.1 hl with hl|hl
    ·exact h.fl l hl
    ·rw[Ab.1 hl];exact XE ⟨by omega,by omega⟩ hq ho
   ·show(s.fl++[_]).length+ql ns≤2*(k+1);rw[Ac];simp only[List.length_singleton];omega
   ·show s.sv.length≤_;omega
   ·show s.td.length≤_;omega
   ·show 0≤s.cs+1;have:=h.c0;simp only at this;omega
   ·show s.cs+1≤_;omega
  ·split
   ·
    obtain⟨h1,a,b,h2,h3,h4⟩:=XH (s:=s) (hN _ hi) hi;have vx:=Uj (ns:=ns) hi;have hw:(ns (f 1).toNat).wt.length≤cN (ns (f 1).toNat):=by unfold cN;omega
    exact h'.piece hi h1 h2 h3 (by omega)
   ·split
    ·
     unfold eM;split
     ·exact h.next
     ·rename_i l hl;have hm:l∈s.fl:=Ap hl;have aM:(f 3).toNat % s.fl.length<s.fl.length:=by
       obtain⟨hx,_⟩:=Am.1 hl;exact hx
      have G_:(s.fl.eraseIdx ((f 3).toNat % s.fl.length)).length=s.fl.length-1:=List.length_eraseIdx_of_lt aM;have vu:∀x∈s.fl.eraseIdx ((f 3).toNat % s.fl.length),Ja x:=fun x hx=>h.fl x (Ci hx);split
      ·rename_i h5;rw[if_neg (by omega)];refine⟨h.n,vu,h.dir, ?_, ?_, ?_,h.c0, ?_⟩
       ·show(s.fl.eraseIdx _).length+ql ns≤2*(k+1);omega
       ·show s.sv.length≤_;omega
       ·show s.td.length≤_;omega
       ·show s.cs≤_;omega
      ·have b2:Cm (ns,s) (ns,if f 0=6 then s else {s with fl:=s.fl.eraseIdx ((f 3).toNat % s.fl.length)}) 0:=by
        split
        ·exact base
        ·refine⟨h.n,vu,h.dir, ?_,rfl,Aa _,rfl⟩;show(s.fl.eraseIdx _).length+ql ns≤s.fl.length+ql ns+0;omega
       have c:=M_ b2 (h.fl l hm);have c1:=c.t;have c2:=c.td;have c3:=c.sv;have c4:=c.cs;simp only at c1 c2 c3 c4;refine⟨c.n,c.fl,c.dir,by omega,by rw[c3];omega,by omega,by rw[c4];exact h.c0,by rw[c4];omega⟩
    ·split
     ·
      unfold IW;have b2:Cm (ns,{s with fl:=[]}) (ns,{s with fl:=[]}) 0:=⟨h.n,(fun l hl=>by cases hl),h.dir,Aa _,rfl,Aa _,rfl⟩;have c:=Jd s.fl b2 h.fl;have c1:=c.t;have c2:=c.td;have c3:=c.sv;have c4:=c.cs;simp only[List.length_nil]at c1 c2 c3 c4;refine⟨c.n,c.fl,c.dir,by omega,by rw[c3];omega,by omega,by rw[c4];exact h.c0,by rw[c4];omega⟩
     ·split
      ·
       obtain⟨h1,h2⟩:=Uk (hN _ hi) ok.kp.1;exact h'.piece hi h1 (pE.refl s) (by omega) (by omega)
      ·split
       ·
        obtain⟨h1,h2,h3⟩:=Ul (s:=s) (hN _ hi);exact h'.piece hi h1 h2 (by omega) (by omega)
       ·
        unfold Tt;have JH:=h.dir _ hq;unfold Ho at JH;have Ya:(s.pn (f 2).toNat).toNat<5:=by
         simp only at JH;omega
        have hn:=hN _ Ya;refine h'.piece Ya ?_ (pE.refl s) ?_ (by omega)
        ·unfold nT;split
         ·exact hn
         ·rename_i jB;have C9:(ns (s.pn (f 2).toNat).toNat).up=true:=by
           cases hx:(ns (s.pn (f 2).toNat).toNat).up with
           |true=>rfl
           |false=>exact absurd (.inr (.inr (.inl hx))) jB
          have hg:(dT ((ns (s.pn (f 2).toNat).toNat).mo (f 2).toNat) (((f 1).toNat:Nat):Int)).2=0:=Ay.1 fun g=>jB (.inr (.inr (.inr (.inr g))));refine⟨hn.i,hn.tu,hn.wt,hn.ln,fun _=>go_up (hn.up C9) hq hg,fun g=> ?_⟩;have:(ns (s.pn (f 2).toNat).toNat).up=false:=g;rw[C9]at this;cases this
        ·unfold nT;split
         ·omega
         ·show 0+cN (ns (s.pn (f 2).toNat).toNat)≤cN (ns (s.pn (f 2).toNat).toNat)+2;omega
theorem F6:Inv 0 (ph,MT):=by
 exact⟨fun i hi=>⟨rfl,(show(0:Nat)<4 by decide),(fun l hl=>by cases hl),Ak _,(fun _=>⟨fun q hq=>Bt.cI,[],[],fY,rfl,rfl,zx.nil,fun q hq=>(kZ (B:=Bt.zero) (by show ¬(0:Int)=2;decide)).symm,.inl ⟨rfl,rfl⟩⟩),(fun g=>by cases g)⟩,(fun l hl=>by cases hl),(fun p hp=> .inl ⟨if_pos hp,rfl⟩),Aa 0,Ak _,Ak _,Bq 0,Bq 0⟩
theorem gC(D:tG)(n:Nat)(hn:n≤100000)(ok:∀j,j<n→Lq.fw (Lq.aD D j)=0):∀k,k≤n→Inv k (bN D k)
 |0,_=>F6
 |k+1,hk=>XI (gC D n hn ok k (by omega)) (by omega) (vk (ok k (by omega)))
section
open Rv
theorem Je:ji Tryz.prog 22=some 11:=by kernel_rfl
def dP(o:Oc)(t:iJ):Nat→Value:=A_ (iV (o.fl:Int)) (wC o.up 5) o.pn o.pe (.slice (some ⟨t.R,0,none⟩) 5 t.c) (.slice t.sa o.sv.length t.sc) (.slice t.ta o.td.length t.tc) (iV o.cs)
theorem iZ{o:Oc}{t:iJ}:aS (dP o t) 18:=KL rfl rfl rfl rfl rfl
theorem Jf{w w':tA}(b:bZ w w')(h:Lq.eV w):Lq.eV w':=h.next b
theorem Lj{D:tG}{n:Nat}{c e:Int}(h:Lq.mX D n c e)(he:e=0):∀j,j<n→Lq.fw (Lq.aD D j)=0:=by
 cases h with
 |bad k hk hl hb=>exact absurd he hb
 |fm hl=>exact hl
theorem Un{w w':tA}{b t n:Nat}{f:tD}(h:aY w b t n f)(k:bZ w w'):aY w' b t n f:=by
 have hl:=h.lt;unfold aY at*;rw[k.block b hl];exact h
theorem zi{n m:Nat}{w w1 w2:tA}(h:Below n w w1)(k:Below m w1 w2)(hm:n≤m):Below n w w2:=⟨k.os.trans h.os,k.tape.trans h.tape,k.output.trans h.output,AN h.size k.size,fun b hb=>(k.block b (Aj hb hm)).trans (h.block b hb)⟩
section
variable{w w1 x x':tA}{X R0:Nat}{us:Nat→Nv}{v:Wv}{F:tF}{f:tD}{T:Nat}
theorem XJ(hc:CW x X us v F)(Uo:v.nd 5=w1.heap.size)(hfR:aY w1 R0 T 18 f)(hR0:w.heap.size≤R0)(Yg:bZ w w1)(mC:bZ w1 x):Mem x [⟨R0,T,18,f⟩] (fun b=>b<w1.heap.size∧b≠R0) (fun _=>True) (fun y=>CW y X us v F∧bZ w y):=by
 have hRl:=hfR.lt;have hm:=Mem.begin (w:=x) (H:=[⟨R0,T,18,f⟩]) (M:=fun b=>b<w1.heap.size∧b≠R0) (G:=fun _=>True) (fun e he=>by cases Ab.1 he;exact Un hfR mC) (BH _ _) (fun e he=>by cases Ab.1 he;exact fun hh=>hh.2 rfl) (fun b hb=>Aj hb.1 mC.size) (fun _ _=>trivial);have h1:bZ w x:=zi Yg mC Yg.size;refine⟨hm.ik,hm.ov,hm.off,hm.mlt,hm.g,fun w2 c2=>⟨hc.others (c2.mono fun b hb=> ?_),zi h1 (c2.below h1.size fun b hb hu=> ?_) (Aa _)⟩⟩
 ·have e:b=R0:=by simpa using hb
  rw[e,Uo];exact hRl
 ·have e:b=R0:=by simpa using hu
  omega
end
theorem XK(a:tB)(len cap:Nat)(D:tG)(w:tA)(XL:Lq.eV w)(db:RowK .i64 w a (11*len) D)(iE:len*88≤140737488351232)(hI:len≤100000→∀k,k≤len→(∀j,j<len→Lq.fw (Lq.aD D j)=0)→GdT (bN D k)):cA 16 #[.slice a len cap] w fun x w'=>∃y,x= .returned y∧TZ D len w w' y∧bZ w w':=by
 have o0:aS (A_ (iV 0) (fun _=>false) (fun _=>0) (fun _=>0) (.slice none 0 0) (.slice none 0 0) (.slice none 0 0) (iV 0)) 18:=KL rfl rfl rfl rfl rfl;refine en (H:=[]) 35 [vv (.slice a len cap)] Tryz.func16 rfl rfl (m0 w) (r [] rfl fun α=> ?_);by_cases hbig:100000<len
 ·exact r [1] rfl fun _=>fin fun w hS=>⟨_,rfl,.ac5 hbig,hS.now.2⟩
 refine r [0] rfl fun _=>cq rfl (fun y:Int×Int=>vt [.o (iV y.1),.o (iV y.2)]) (fun y=>Lq.mX D len y.1 y.2) (fun w1 hS=>(Lq.P4 a len cap D _ (Jf hS.now.2 XL) (db.below hS.now.2) (by omega)).mono fun _ _ ⟨cc,er,e,YO,b⟩=>⟨(cc,er),e,b,YO⟩) ?_;rintro⟨cc,er⟩ YO;have YO:Lq.mX D len cc er:=YO;by_cases G_:er=0
 case neg=>exact r [1] rfl fun _=>fin fun w hS=>⟨_,rfl,.bad (by omega) cc er YO G_,hS.now.2⟩
 have Na:=Lj YO G_;refine r [0] rfl fun _=>gn 0 (A_ (iV 0) (fun _=>false) (fun _=>0) (fun _=>0) (.slice none 0 0) (.slice none 0 0) (.slice none 0 0) (iV 0)) (ky rfl (by kernel_rfl) fun w2 hS=> ?_);have hfR:=hS.at 0 rfl;have hR0:=hS.jC 0 rfl;have Yg:=hS.now.2;refine(FQ w2).mono ?_;rintro _ w3 ⟨X,nd,tk,dd,rfl,MP,hX,Uo,b⟩;refine⟨vv (lp X),[],fun _=>False,fun _=>True,fun y=>CW y X nv0 ⟨nd,tk,dd,eD 4,bp,[],0,[],[]⟩ (fun b=>b=X)∧bZ w2 y,rfl,.inr b,Mem.start (fun _ h=>h.elim) (fun _ _=>trivial) (fun y b'=>⟨MP.next b',Below.next b b'⟩),Rv.sv 2 (vv (lp (α 0))) rfl (r [] rfl fun _=> ?_)⟩;refine EV (X:=Nat×(Nat→Nv)×Wv×(Nat→Prop)) (fun x=>[(2,vv (lp (α 0))),(6,vv (lp X)),(23,vv (.slice a len cap)),(24,vi (len:Int)),(25,vi (x.1:Int))]) (fun _=>[]) (fun _ _=>False) (fun x y=>CW y X x.2.1 x.2.2.1 x.2.2.2∧bZ w2 y) (fun x=>x.1≤len∧((fun i=>(x.2.1 i).pure),x.2.2.1.pure)=bN D x.1∧x.2.2.1.nd 5=w2.heap.size) (fun x=>len-x.1) (0,nv0,_,_) ⟨rfl,rfl,rfl,rfl,rfl,trivial⟩ (fun _ hS=>hS) ⟨Ak _,rfl,Uo⟩ ?_;rintro f ⟨k,us,v,F⟩ ⟨hk,hp,Uo⟩;have hk:k≤len:=hk;have hp:((fun i=>(us i).pure),v.pure)=bN D k:=hp;have Uo:v.nd 5=w2.heap.size:=Uo;by_cases aM:k<len
 ·obtain⟨ab,ao,rfl⟩:=db.form (by omega);refine r [1] rfl fun _=>lf (q:=ao+k*11) rfl 11 (aaq D k) (fun w hS=>jV (db.below (zi Yg hS.now.2.2 Yg.size)) (by omega) fun j hj=>rfl) (r [] rfl fun β=>ky rfl (by kernel_rfl) fun w4 hS=> ?_);refine(aar hS.now.2.1 hp (hI (by omega) k hk Na) (Na k aM)).mono ?_;rintro _ w6 ⟨rfl,Jy,v2,F2,jB,hp2,hnd2,JK⟩;refine⟨vt [],[],fun _=>False,fun _=>True,fun y=>CW y X Jy v2 F2∧bZ w2 y,rfl,.inl rfl,Mem.start (fun _ h=>h.elim) (fun _ _=>trivial) (fun y b'=>⟨jB.next b',Below.next (hS.now.2.2.trans (Uo▸JK)) b'⟩),rz [1] [((k+1:Nat):Int)] rfl fun _=>b_ (k+1,Jy,v2,F2) ⟨rfl,rfl,rfl,rfl,rfl,trivial⟩ (fun _ hS=>hS) ⟨aM,hp2,(congrFun hnd2 5).trans Uo⟩ (show len-(k+1)<len-k by omega)⟩
 obtain rfl:len=k:=by omega
 have hoc:ocS (fun i=>(us i).pure) v.pure=c_ D len:=by unfold c_;rw[←hp]
 refine r [0] rfl fun _=>Rv.sv 2 (vp 0 0 (α 0)) rfl (Y9 fun x hS=>⟨[⟨α 0,34,[.f 18 (A_ (iV 0) (fun _=>false) (fun _=>0) (fun _=>0) (.slice none 0 0) (.slice none 0 0) (.slice none 0 0) (iV 0))]⟩],_,_,_,XJ hS.now.2.1 Uo hfR hR0 Yg hS.now.2.2, ?_⟩);refine cx rfl (fun t:iJ=>vf 18 (dP (c_ D len) t)) (fun _=>True) (fun t w=>jQ w (c_ D len) t) (fun w4 hS=>(K0 (U:=fun b=>b<v.nd 5) hS.now.2.1 (fun b hb=>Aj hb hS.now.2.1.ln) (fun w2 c2=>(hS.now.2.1.st w2 c2).1.1) (fun b hb hu=>absurd (hS.now.2.1.lo b hu) (BE.2 hb)) (fun i hi mw=>by have ht:=(hI (by omega) len (Aa _) Na).t i hi;rw[←hp]at ht;exact ht mw)).mono fun _ _ ⟨t,e,gI,b⟩=>⟨t,by rw[←hoc];exact e,b,trivial,fun _ w5 c5=>hoc▸gI w5 (c5.mono fun b hb=>hb.elim (fun e=>by rw[Ab.1 e,Uo];exact hfR.lt) fun h=>Uo▸h.1)⟩) fun t _=> ?_;have o1:aS (dP (c_ D len) t) 18:=iZ;exact r [] rfl fun _=>fin fun w5 hS=>⟨_,rfl,.fm (by omega) Na t (fun w2 c2=>(hS.g w2 (c2.mono fun b hb=> .inr ⟨Aj hb Yg.size,fun e=>absurd hb (AY.2 (e▸hR0))⟩)).2),hS.now.2.2⟩
end
theorem XM(a:tB)(len cap:Nat)(D:tG)(w:tA)(XL:Lq.eV w)(db:RowK .i64 w a (11*len) D)(iE:len*88≤140737488351232):cA 16 #[.slice a len cap] w fun x w'=>∃y,x= .returned y∧TZ D len w w' y∧bZ w w':=by
 exact XK a len cap D w XL db iE fun hl k hk ok=>(gC D len hl ok k hk).gd (by omega)
theorem Uq(a:tB)(len cap:Nat)(D:tG)(w:tA)(XL:Lq.eV w)(db:RowK .i64 w a (11*len) D)(hl:len≤100000)(eC:∀j,j<len→Lq.fw (Lq.aD D j)=0):cA 16 #[.slice a len cap] w fun x w'=>∃t,x= .returned (.tuple #[ocV (c_ D len) t,iV 0])∧bV (fun b=>b<w.heap.size) w' (fun w=>jQ w (c_ D len) t)∧bZ w w':=by
 refine(XM a len cap D w XL db (by omega)).mono ?_;rintro x w' ⟨y,rfl,hr,b⟩;cases hr with
 |ac5 h=>omega
 |bad h c e hc he=>exact absurd (hc.Yi (.fm eC)).2 he
 |fm h hc t ho=>exact⟨t,rfl,ho,b⟩
section
open Rv
theorem du(n m:Int)(w:tA)(hn:(Lit.int .i64 n).wf=true)(h0:0<m)(hm:m≤4294967296):cA 22 #[iV n,iV m] w (rB (iV (aj n m)) w):=by
 refine en (H:=[]) 8 [vi n,vi m] Tryz.func22 rfl rfl (m0 w) (r [] rfl fun _=> ?_);refine cb rfl (vi _) (fun w _=>(i_ n m w hn h0 hm).mono ?_) (r [] rfl fun _=>fin fun w hS=>⟨rfl,hS.now.2⟩);rintro _ _ ⟨rfl,rfl⟩;exact⟨rfl,Be _ _⟩
theorem P8(k a b c:Int)(w:tA)(wk:(Lit.int .i64 k).wf=true)(wa:(Lit.int .i64 a).wf=true)(wb:(Lit.int .i64 b).wf=true)(wc:(Lit.int .i64 c).wf=true):cA 57 #[vF (lF [iV k,iV a,iV b,iV c]) 4] w (rB (vF (lF [iV (eQ k a b c).k,iV (eQ k a b c).p,iV (eQ k a b c).i,iV (eQ k a b c).b,iV (eQ k a b c).he,iV (eQ k a b c).hn]) 6) w):=by
 refine en (H:=[]) 5 [vf 4 _] Tryz.func57 rfl rfl (m0 w) (r [] rfl fun _=> ?_);refine cb rfl (vf 6 _) (fun w _=>(Ro k a b c w wk wa wb wc).mono ?_) (r [] rfl fun _=>fin fun w hS=>⟨rfl,hS.now.2⟩);rintro _ _ ⟨rfl,b⟩;exact⟨rfl,b⟩
def jX(g:tH)(cr:Bool):List Int:=
 if aj (g 0) 24<7 then(if(eQ (g 3) (g 1) (g 4) (g 4)).k=4 then[2,aj (g 1) 3,aj (g 2) 2,0,0,2,(eQ (g 3) (g 1) (g 4) (g 4)).p,(eQ (g 3) (g 1) (g 4) (g 4)).i,(eQ (g 3) (g 1) (g 4) (g 4)).b,(eQ (g 3) (g 1) (g 4) (g 4)).he,(eQ (g 3) (g 1) (g 4) (g 4)).hn]else[2,aj (g 1) 3,aj (g 2) 2,0,0,(eQ (g 3) (g 1) (g 4) (g 4)).k,(eQ (g 3) (g 1) (g 4) (g 4)).p,(eQ (g 3) (g 1) (g 4) (g 4)).i,(eQ (g 3) (g 1) (g 4) (g 4)).b,(eQ (g 3) (g 1) (g 4) (g 4)).he,(eQ (g 3) (g 1) (g 4) (g 4)).hn])
 else if aj (g 0) 24<13 then[3,aj (g 1) 3,0,0,0,0,0,0,0,0,0]
 else if aj (g 0) 24=13 then[4,0,0,aj (g 3) 20,0,0,0,0,0,0,0]
 else if aj (g 0) 24=14 then[5,0,0,aj (g 3) 20,0,0,0,0,0,0,0]
 else if aj (g 0) 24=15 then[6,0,0,aj (g 3) 20,0,0,0,0,0,0,0]
 else if aj (g 0) 24=16 then[10,aj (g 1) 3,aj (g 2) 2,0,0,0,0,0,0,0,0]
 else if aj (g 0) 24=17∧cr=true then[8,aj (g 1) 3,0,0,aj (g 3) 120,0,0,0,0,0,0]
 else if aj (g 0) 24=18∧cr=true then[9,aj (g 1) 3,0,0,0,0,0,0,0,0,0]
 else[7,0,0,0,0,0,0,0,0,0,0]
theorem XN(g:tH)(cr:Bool)(w:tA)(hw:∀j,j<5→(Lit.int .i64 (g j)).wf=true):cA 33 #[vF (fun j=>iV (g j)) 5,.bool cr] w (rB (vF (fun j=>iV ((jX g cr).getD j 0)) 11) w):=by
 refine en (H:=[]) 91 [vf 5 (fun j=>iV (g j)),vv (.bool cr)] Tryz.func33 rfl rfl (m0 w) (r [] rfl fun _=> ?_);refine cb rfl (vi _) (fun w _=>du _ 3 w (hw 1 (by decide)) (by decide) (by decide)) (r [] rfl fun _=> ?_);refine cb rfl (vi _) (fun w _=>du _ 2 w (hw 2 (by decide)) (by decide) (by decide)) (r [] rfl fun _=> ?_);refine cb rfl (vi _) (fun w _=>du _ 24 w (hw 0 (by decide)) (by decide) (by decide)) ?_;by_cases h7:aj (g 0) 24<7
 ·refine r [1] rfl fun _=>cb rfl (vf 6 _) (fun w _=>P8 _ _ _ _ w (hw 3 (by decide)) (hw 1 (by decide)) (hw 4 (by decide)) (hw 4 (by decide))) ?_;by_cases h4:(eQ (g 3) (g 1) (g 4) (g 4)).k=4
  ·exact r [1] rfl fun _=>fin fun w hS=>⟨by unfold jX;rw[if_pos h7,if_pos h4];rfl,hS.now.2⟩
  ·exact r [0] rfl fun _=>fin fun w hS=>⟨by unfold jX;rw[if_pos h7,if_neg h4];rfl,hS.now.2⟩
 have k7:jX g cr=_:=if_neg h7;by_cases h13:aj (g 0) 24<13
 ·exact r [0,1] rfl fun _=>fin fun w hS=>⟨by rw[k7,if_pos h13];rfl,hS.now.2⟩
 rw[if_neg h13]at k7;by_cases ha:aj (g 0) 24=13
 ·exact r [0,0,1] rfl fun _=>cb rfl (vi _) (fun w _=>du _ 20 w (hw 3 (by decide)) (by decide) (by decide)) (r [0] rfl fun _=>fin fun w hS=>⟨by rw[k7,if_pos ha];rfl,hS.now.2⟩)
 rw[if_neg ha]at k7;by_cases hb:aj (g 0) 24=14
 ·exact r [0,0,0,1] rfl fun _=>cb rfl (vi _) (fun w _=>du _ 20 w (hw 3 (by decide)) (by decide) (by decide)) (r [0] rfl fun _=>fin fun w hS=>⟨by rw[k7,if_pos hb];rfl,hS.now.2⟩)
 rw[if_neg hb]at k7;by_cases hc:aj (g 0) 24=15
 ·exact r [0,0,0,0,1] rfl fun _=>cb rfl (vi _) (fun w _=>du _ 20 w (hw 3 (by decide)) (by decide) (by decide)) (r [0] rfl fun _=>fin fun w hS=>⟨by rw[k7,if_pos hc];rfl,hS.now.2⟩)
 rw[if_neg hc]at k7;by_cases hd:aj (g 0) 24=16
 ·exact r [0,0,0,0,0,1] rfl fun _=>fin fun w hS=>⟨by rw[k7,if_pos hd];rfl,hS.now.2⟩
 rw[if_neg hd]at k7;by_cases h17:aj (g 0) 24=17
 ·cases cr
  ·exact r [0,0,0,0,0,0,1,0] rfl fun _=>fin fun w hS=>⟨by rw[k7,if_neg (fun e=>by cases e.2),if_neg (fun e=>by cases e.2)];rfl,hS.now.2⟩
  ·exact r [0,0,0,0,0,0,1] rfl fun _=>cb rfl (vi _) (fun w _=>du _ 120 w (hw 3 (by decide)) (by decide) (by decide)) (r [0] rfl fun _=>fin fun w hS=>⟨by rw[k7,if_pos ⟨h17,rfl⟩];rfl,hS.now.2⟩)
 rw[if_neg (fun e=>h17 e.1)]at k7;by_cases h18:aj (g 0) 24=18
 ·cases cr
  ·exact r [0,0,0,0,0,0,0,1] rfl fun _=>fin fun w hS=>⟨by rw[k7,if_neg (fun e=>by cases e.2)];rfl,hS.now.2⟩
  ·exact r [0,0,0,0,0,0,0,1] rfl fun _=>fin fun w hS=>⟨by rw[k7,if_pos ⟨h18,rfl⟩];rfl,hS.now.2⟩
 exact r [0,0,0,0,0,0,0,0] rfl fun _=>fin fun w hS=>⟨by rw[k7,if_neg (fun e=>h18 e.1)];rfl,hS.now.2⟩
theorem eT:jv Tryz.prog 22 57 11 88=true:=by kernel_rfl
def iL(G:tG)(k:Nat):Nat→Int:=fun o=>G.getD (5*k+o) 0
def a_(G:tG)(cr:Bool):Nat→List Int
 |0=>[1,0,0,0,0,0,0,0,0,0,0,1,1,1,0,0,0,0,0,0,0,0]
 |k+1=>a_ G cr k++jX (iL G k) cr
def gaF(G:tG)(k:Nat)(cr:Bool):Nat→Value:=fun j=>iV ((jX (iL G k) cr).getD j 0)
theorem vl(g:tH)(cr:Bool):(jX g cr).length=11:=by
 unfold jX
 repeat' split
 all_goals rfl
theorem iT(G:tG)(cr:Bool):∀k,(a_ G cr k).length=11*(k+2)
 |0=>rfl
 |k+1=>by
  show(a_ G cr k++jX (iL G k) cr).length=_;rw[Ac,iT G cr k,vl];omega
theorem XO{w:tA}{a:tB}{n:Nat}{G:tG}(h:RowK .i64 w a (5*n) G){k:Nat}(hk:k<n):∀j,j<5→(Lit.int .i64 (iL G k j)).wf=true:=fun j hj=>by
 have hl:=h.cy;unfold iL;rw[Ah,Ag (show 5*k+j<G.length by omega)];exact h.wf _ (Bu _)
theorem Ur(G:tG)(k:Nat)(cr:Bool):dx [.f 11 (gaF G k cr)]=(jX (iL G k) cr).map (Value.int .i64):=by
 have hl:=vl (iL G k) cr;unfold gaF;generalize jX (iL G k) cr=l at hl⊢
 match l,hl with
 |[_,_,_,_,_,_,_,_,_,_,_],_=>rfl
theorem kh(a:tB)(len cap Lk:Nat)(cr:Bool)(GD:tG)(w:tA)(h:RowK .i64 w a (5*len) GD)(hl:len≤4000000000000)(hm:Lk≤1000000):cA 20 #[.slice a len cap,iV (Lk:Int),.bool cr] w fun x w'=>∃v,x= .returned v∧w'.ownsRow w.heap.size 57 11 v (min len Lk+2) ((a_ GD cr (min len Lk)).map (Value.int .i64))∧bZ w w':=by
 refine en (H:=[]) _ [vv (.slice a len cap),vi (Lk:Int),vv (.bool cr)] Tryz.func20 rfl rfl (m0 w) (r [] rfl fun α=> ?_);refine ro 0 11 2 2 (fun _ h=>h) ?_ rfl rfl;refine iC (X:=Nat×Value) ⟨fun x=>[(0,vv (.slice a len cap)),(1,vi (Lk:Int)),(2,vv (.bool cr)),(7,vv x.2),(8,vi (x.1:Int))],fun _=>[],fun x b=>x.2.ownBlock=some b∨False,fun _ _=>True,fun x w'=>bZ w w'∧w'.ownsRow w.heap.size 57 11 x.2 (x.1+2) ((a_ GD cr x.1).map (Value.int .i64)),fun x=>x.1≤min len Lk,fun x=>min len Lk-x.1⟩ (0,_) ⟨rfl,rfl,rfl,rfl,rfl,trivial⟩ (fun _ hS=>hS) (Ak _) ?_;rintro f ⟨k,v⟩ hk;have hk:k≤min len Lk:=hk;by_cases h1:k<len
 case neg=>
  obtain rfl:k=min len Lk:=by omega
  exact r [0] rfl fun _=>fin fun w hS=>⟨v,rfl,hS.now.2.2,hS.now.2.1⟩
 by_cases h2:k<Lk
 case neg=>
  obtain rfl:k=min len Lk:=by omega
  exact r [1,0] rfl fun _=>fin fun w hS=>⟨v,rfl,hS.now.2.2,hS.now.2.1⟩
 obtain⟨b,o,rfl⟩:=h.form (by omega);have og:aS (fun j=>iV (iL GD k j)) 5:=fun _ _=>rfl;have oa:aS (gaF GD k cr) 11:=fun _ _=>rfl;refine r [1,1] rfl fun _=>lf (q:=o+k*5) rfl 5 (fun j=>iV (iL GD k j)) (fun w hS=>jV (h.below hS.now.2.1) (by omega) fun j _=>rfl) (r [] rfl fun _=>Rv.cb rfl (vf 11 (gaF GD k cr)) (fun w hS=>XN (iL GD k) cr w (XO h h1)) ?_);refine r [] rfl fun _=>qT 1 rfl eT (fun w hS=>hS.now.2.1.size) (fun _ _ h c=>cV h c (Aa _)) fun g c hc=> ?_;exact rz [1] [((k+1:Nat):Int)] rfl fun _=>b_ (k+1,.slice (some ⟨g,0,none⟩) (k+2+1) c) ⟨rfl,rfl,rfl,rfl,rfl,trivial⟩ (fun w hS=>(hS.take 0).sr fun w h=>⟨h.1,by rw[show a_ GD cr (k+1)=a_ GD cr k++jX (iL GD k) cr from rfl,AB,←Ur];exact h.2⟩) (show k+1≤min len Lk by omega) (show min len Lk-(k+1)<min len Lk-k by omega)
theorem Nb{w:tA}{o:Oc}{t:iJ}(h:jQ w o t){q:Nat}(hq:q<5):w.cell? ⟨t.R,q,none⟩=some (.slice (some ⟨t.Y q,0,none⟩) 4 (t.C q)):=by
 have h1:=h.r.at q (by have:=h.c5;omega);rw[(h.f q hq).1]at h1;exact h1
theorem mM(a:tB)(len cap:Nat)(D:tG)(w:tA)(XL:Lq.eV w)(db:RowK .i64 w a (11*len) D)(hlen:len≤100000)(eC:∀j,j<len→Lq.fw (Lq.aD D j)=0):cA 23 #[.slice a len cap] w fun x w'=>∃t,x= .returned (.tuple #[ocV (c_ D len) t,.bool true])∧bV (fun b=>b<w.heap.size) w' (fun w=>jQ w (c_ D len) t)∧bZ w w':=by
 refine en (H:=[]) _ [vv (.slice a len cap)] Tryz.func23 rfl rfl (oE (w:=w) (U:=fun b=>b<w.heap.size) (fun _ h=>h) (G:=fun _=>True) (fun _ _=>trivial)) (r [] rfl fun α=> ?_);refine cx rfl (fun t:iJ=>vt [.g [.f 18 (dP (c_ D len) t)],.o (iV 0)]) (fun _=>True) (fun t w=>jQ w (c_ D len) t) (fun w1 hS=>(Uq a len cap D _ (XL.next hS.now.2) (db.below hS.now.2) hlen eC).mono fun _ w2 ⟨t,e,ho,b⟩=>⟨t,e,b,trivial,fun hl=>ho.mono fun b _ hu=>hl b hu⟩) fun t _=> ?_;have og:aS (dP (c_ D len) t) 18:=iZ;refine r [5,0,17,1,1] rfl fun _=>Y6 (q:=0+0*1) rfl (.slice (some ⟨t.Y 0,0,none⟩) 4 (t.C 0)) (fun w h=>Nb h.1.2 (by decide)) ?_ (fun a ha=>by cases Ab.1 ha;exact List.Mem.head _);exact r [1] rfl fun _=>fin fun w hS=>⟨t,rfl,fun w2 c=>(hS.g w2 (c.mono fun _ h=> .inr h)).2,hS.now.2⟩
theorem zj:jv Tryz.prog 42 34 18 160=true:=by kernel_rfl
theorem zk{D:tG}{n j:Nat}(hj:j<n)(hl:11*n≤D.length):∀o,o<11→Lq.aD (D.take (11*n)) j o=Lq.aD D j o:=fun o ho=>by
 unfold Lq.aD;rw[Ah,Ah,List.getElem?_take_of_lt (by omega)]
theorem dF{p:(Nat→Nd)×Ws}{f g:tH}(h:∀o,o<11→f o=g o):dB p f=dB p g:=by
 unfold dB;rw[h 0 (by decide),h 1 (by decide),h 2 (by decide),h 3 (by decide),h 4 (by decide),h 5 (by decide),h 6 (by decide),h 7 (by decide),h 8 (by decide),h 9 (by decide),h 10 (by decide)]
theorem Es{D:tG}{n:Nat}(hl:11*n≤D.length):∀k,k≤n→bN (D.take (11*n)) k=bN D k
 |0,_=>rfl
 |k+1,hk=>by
  show dB (bN (D.take (11*n)) k) _=dB (bN D k) _;rw[Es hl k (by omega)];exact dF (zk (by omega) hl)
theorem Us{D:tG}{n:Nat}(hl:11*n≤D.length):c_ (D.take (11*n)) n=c_ D n:=by
 unfold c_;rw[Es hl n (Aa _)]
theorem gL{f g:tH}(h:∀o,o<11→f o=g o):Lq.fw f=Lq.fw g:=by
 have e:Lq.less (Lq.gF (g 0) (g 5)) f=Lq.less (Lq.gF (g 0) (g 5)) g∨True:= .inr trivial;have hb:∀S:List Nat,∀b:Nat→Int,Lq.kS (Lq.over S b f)=Lq.kS (Lq.over S b g):=fun S b=>by
  have ho:∀i,i<11→Lq.over S b f i=Lq.over S b g i:=fun i hi=>by unfold Lq.over;rw[h i hi]
  unfold Lq.kS;rw[ho 0 (by decide),ho 1 (by decide),ho 2 (by decide),ho 3 (by decide),ho 4 (by decide),ho 5 (by decide),ho 6 (by decide),ho 7 (by decide),ho 8 (by decide),ho 9 (by decide),ho 10 (by decide)]
 have hq:∀S:List Nat,∀b:Nat→Int,Lq.U3 (Lq.less S f) b=Lq.U3 (Lq.less S g) b:=fun S b=>by
  rw[Bool.eq_iff_iff,Lq.FU,Lq.FU];constructor
  ·intro k i hi;have:=k i hi;unfold Lq.less at this⊢;rw[←h i hi];exact this
  ·intro k i hi;have:=k i hi;unfold Lq.less at this⊢;rw[h i hi];exact this
 unfold Lq.fw;rw[h 0 (by decide),h 5 (by decide),hb,hq]
theorem Jg{P:tY}{s sz:Nat}(hf:ji P s=some sz)(a:tB)(len cap h m:Nat)(hh:h≤m)(hm:m≤cap)(w:tA):
  (Instr.sliceAt s (.slice a len cap) none (some (iV (h:Int))) (some (iV (m:Int)))).run P w= .ok (.slice a h m) w:=by
 unfold ji at hf;split at hf
 ·rename_i e hu;cases hi:P.info? e with
  |none=>simp[hi]at hf
  |some i=>
   simp[hi]at hf;subst hf;cases a<;>simp[Instr.sliceAt,Instr.slice,run_underlying hu,Instr.sliceBounds,Instr.sliceBound,asIntOf,sizeOf,typeInfo,hi,hh,hm,Addr.add]
 ·cases hf
theorem age{ρ:Operand→Value}{o:Oper}{s sz:Nat}{x z u:tU}{a:tB}{len cap k m:Nat}(hf:ji Tryz.prog s=some sz)(hh:k≤m)(hm:m≤cap)(hp:o.op= .slice s x none (some z) (some u))(hx:ρ x= .slice a len cap)(hz:ρ z=iV (k:Int))(hu:ρ u=iV (m:Int))(w:tA):(execOp ρ o).run Tryz.prog w= .ok (.value (.slice a k m)) w:=by
 simp only[execOp,hp,hx,hz,hu,Option.map_some,Option.map_none,Sem.run_bind,Jg hf a len cap k m hh hm,Result.andThen_ok,Sem.run_pure]
noncomputable def wH(D:tG)(ts:Nat→iJ):Nat→List Value
 |0=>[]
 |k+1=>wH D ts k++dx [.f 18 (dP (c_ D k) (ts k))]
theorem zl{D:tG}{ts us:Nat→iJ}:∀{k},(∀q,q<k→ts q=us q)→wH D ts k=wH D us k
 |0,_=>rfl
 |k+1,h=>by rw[wH,wH,zl fun q hq=>h q (by omega),h k (by omega)]
theorem uq{D:tG}{ts:Nat→iJ}:∀k,(wH D ts k).length=k*18
 |0=>rfl
 |k+1=>by rw[wH,Ac,uq k,show(dx [.f 18 (dP (c_ D k) (ts k))]).length=18 from rfl];omega
theorem Nc{D:tG}{ts:Nat→iJ}{q j:Nat}(hj:j<18):∀{k},q<k→(wH D ts k)[q*18+j]? =some (dP (c_ D q) (ts q) j)
 |k+1,hq=>by
  rw[wH];by_cases e:q=k
  ·subst e;rw[AE (by rw[uq];omega),uq,BU];exact(bX _ 0 18 j hj).trans (by rw[Ae])
  ·rw[AD (by rw[uq];omega)];exact Nc hj (by omega)
theorem XP{w:tA}{D:tG}{ts:Nat→iJ}{k:Nat}{t:iJ}(h:∀q,q<k→jQ w (c_ D q) (ts q))(ht:jQ w (c_ D k) t):∀q,q<k+1→jQ w (c_ D q) (au ts k t q):=fun q hq=>by
 by_cases e:q=k
 ·subst e;rw[az];exact ht
 ·rw[bD e];exact h q (by omega)
theorem ur(a:tB)(len cap:Nat)(D:tG)(w:tA)(XL:Lq.eV w)(db:RowK .i64 w a (11*len) D)(qv:len≤cap)(hlen:len≤100000)(eC:∀j,j<len→Lq.fw (Lq.aD D j)=0):cA 19 #[.slice a len cap] w fun x w'=>∃(Y c:Nat) (ts:Nat→iJ),x= .returned (.tuple #[.slice (some ⟨Y,0,none⟩) (len+1) c,.bool true])∧bV (fun b=>b<w.heap.size) w' (fun w=>∀q,q<len+1→jQ w (c_ D q) (ts q)∧∀j,j<18→w.cell? ⟨Y,q*18+j,none⟩=some (dP (c_ D q) (ts q) j))∧bZ w w':=by
 have hDl:=db.cy;refine en (H:=[]) _ [vv (.slice a len cap)] Tryz.func19 rfl rfl (oE (w:=w) (U:=fun b=>b<w.heap.size) (fun _ h=>h) (G:=fun _=>True) (fun _ _=>trivial)) (r [] rfl fun _=> ?_);refine jj (fun w2 hS=>hS.zT w.heap.size 34 18) ?_;refine iC (X:=Nat×Value×(Nat→iJ)) ⟨fun x=>[(0,vv (.slice a len cap)),(4,vv x.2.1),(5,vi (x.1:Int))],fun _=>[],fun x b=>x.2.1.ownBlock=some b∨b<w.heap.size,fun x w=>∀q,q<x.1→jQ w (c_ D q) (x.2.2 q),fun x w'=>bZ w w'∧w'.ownsRow w.heap.size 34 18 x.2.1 x.1 (wH D x.2.2 x.1),fun x=>x.1≤len+1,fun x=>len+1-x.1⟩ (0,.slice none 0 0,fun _=>⟨0,0,fun _=> .nilFunc,fun _=>0,fun _=>0,fun _ _=>none,fun _ _=>0,none,0,none,0⟩) ⟨rfl,rfl,rfl,trivial⟩ (fun w hS=>hS.said fun _ _ q hq=>absurd hq (AH q)) (Ak _) ?_;rintro f ⟨k,v,ts⟩ hk;have hk:k≤len+1:=hk;by_cases h1:k≤len
 case neg=>
  obtain rfl:k=len+1:=by omega
  refine r [0] rfl fun _=>fin fun w' hS=> ?_;have ho:=hS.now.2.2;obtain⟨c,cur,Y,e,hb⟩:∃c cur Y,v= .slice (some ⟨Y,0,none⟩) (len+1) c∧w.heap.size≤Y:=by
   rcases ho.2 with⟨_,h0⟩|⟨g,cap,cur,e,hb,_⟩
   ·omega
   ·exact⟨cap,cur,g,e,hb⟩
  subst e;refine⟨Y,c,ts,rfl,fun w2 c2 q hq=>⟨hS.g w2 (c2.mono fun _ h=> .inr (.inr h)) q hq,fun j hj=> ?_⟩,hS.now.2.1⟩;have ho2:=jD ho fun g hg hl=>c2.block g hl fun hu=>by cases hg;exact AY.2 hb hu
  rw[ho2.cellAt (q*18+j) (by omega),Nc hj hq]
 have ht:=db.take (11*k) (by omega);refine r [1] rfl fun _=>pv (vv (.slice a k k)) rfl (fun w=>age Je (Aa k) (by omega) rfl rfl rfl rfl w) ?_;refine r [] rfl fun _=>cx rfl (fun t:iJ=>vt [.g [.f 18 (dP (c_ D k) t)],.o (.bool true)]) (fun _=>True) (fun t w=>jQ w (c_ D k) t) (fun w1 hS=>(mM a k k (D.take (11*k)) w1 (XL.next hS.now.2.1) (ht.below hS.now.2.1) (by omega) (fun j hj=>(gL (zk hj (by omega))).trans (eC j (by omega)))).mono fun _ w2 ⟨t,e,ho,b⟩=> ?_) ?_
 ·rw[Us (by omega)]at e ho;exact⟨t,e,b,trivial,fun hl=>ho.mono fun b _ hu=>hl b hu⟩
 intro t _;have og:aS (dP (c_ D k) t) 18:=iZ;refine r [] rfl fun α=>qT 1 rfl zj (fun w hS=>hS.now.2.1.size) (fun _ _ h c=>cV h c (Aa _)) fun g c hc=> ?_;exact rz [1] [((k+1:Nat):Int)] rfl fun _=>b_ (k+1,.slice (some ⟨g,0,none⟩) (k+1) c,au ts k t) ⟨rfl,rfl,rfl,trivial⟩ (fun w hS=>((hS.take 0).said fun w h=>XP h.1 h.2).sr fun w h=>⟨h.1,by show World.ownsRow w _ _ _ _ _ (wH D (au ts k t) (k+1));rw[wH,az,zl (us:=ts) fun q hq=>bD (by omega)];exact h.2⟩) (show k+1≤len+1 by omega) (show len+1-(k+1)<len+1-k by omega)
end
theorem kT{f:tH}(h1:Lq.gD (f 0) (f 5)<12)(h2:Lq.kS (Lq.over (Lq.gF (f 0) (f 5)) (Lq.jr (Lq.gD (f 0) (f 5))) f)=true)(h3:Lq.U3 (Lq.less (Lq.gF (f 0) (f 5)) f) (Lq.jr (Lq.gD (f 0) (f 5)))=true):Lq.fw f=0:=by
 unfold Lq.fw;rw[if_pos h1,if_pos h2,if_pos h3]
theorem ic{n m:Int}(h:0≤n∧n≤m):Lq.rF n m=true:=Aq h
abbrev lA(l:tG):Nat→Int:=fun o=>l.getD o 0
section
variable{n q p kp e i b:Int}
theorem kJ(hn:0≤n∧n≤4)(hq:0≤q∧q≤3):Lq.fw (lA [1,n,q,0,0,0,0,0,0,0,0])=0:=kT (show Lq.gD 1 0<12 by decide) (by show(Lq.rF n 4&&(Lq.rF q 3&&true))=true;rw[ic hn,ic hq];rfl) rfl
theorem Ut(hn:0≤n∧n≤4)(hq:0≤q∧q≤3):Lq.fw (lA [10,n,q,0,0,0,0,0,0,0,0])=0:=kT (show Lq.gD 10 0<12 by decide) (by show(Lq.rF n 4&&(Lq.rF q 3&&true))=true;rw[ic hn,ic hq];rfl) rfl
theorem zm(hn:0≤n∧n≤4):Lq.fw (lA [3,n,0,0,0,0,0,0,0,0,0])=0:=kT (show Lq.gD 3 0<12 by decide) (by show(Lq.rF n 4&&true)=true;rw[ic hn];rfl) rfl
theorem vm(hn:0≤n∧n≤4):Lq.fw (lA [9,n,0,0,0,0,0,0,0,0,0])=0:=kT (show Lq.gD 9 0<12 by decide) (by show(Lq.rF n 4&&true)=true;rw[ic hn];rfl) rfl
theorem vn(hn:0≤n∧n≤4)(hk:0≤kp∧kp≤100000):Lq.fw (lA [8,n,0,0,kp,0,0,0,0,0,0])=0:=kT (show Lq.gD 8 0<12 by decide) (by show(Lq.rF n 4&&(true&&(Lq.rF kp 100000&&true)))=true;rw[ic hn,ic hk];rfl) rfl
theorem P9(hp:0≤p∧p≤1048576):Lq.fw (lA [4,0,0,p,0,0,0,0,0,0,0])=0:=kT (show Lq.gD 4 0<12 by decide) (by show(true&&(true&&(true&&(Lq.rF p 1048576&&true))))=true;rw[ic hp];rfl) rfl
theorem Uu(hp:0≤p∧p≤1048576):Lq.fw (lA [5,0,0,p,0,0,0,0,0,0,0])=0:=kT (show Lq.gD 5 0<12 by decide) (by show(true&&(true&&(true&&(Lq.rF p 1048576&&true))))=true;rw[ic hp];rfl) rfl
theorem Ll(hp:0≤p∧p≤1048576):Lq.fw (lA [6,0,0,p,0,0,0,0,0,0,0])=0:=kT (show Lq.gD 6 0<12 by decide) (by show(true&&(true&&(true&&(Lq.rF p 1048576&&true))))=true;rw[ic hp];rfl) rfl
theorem F7:Lq.fw (lA [7,0,0,0,0,0,0,0,0,0,0])=0:=kT (show Lq.gD 7 0<12 by decide) rfl rfl
theorem XQ(hn:0≤n∧n≤4)(hq:0≤q∧q≤3)(hp:0≤p∧p≤3)(hi:0≤i∧i≤1073741824)(hb:0≤b∧b≤1000000):Lq.fw (lA [2,n,q,0,0,1,p,i,b,0,0])=0:=kT (show Lq.gD 2 1<12 by decide) (by show(Lq.rF n 4&&(Lq.rF q 3&&(true&&(true&&(false||aP 1 p i b 0 0==0)))))=true;rw[ic hn,ic hq,Lq.P0.2 ⟨hp,hi,hb⟩];rfl) rfl
theorem Uv(hn:0≤n∧n≤4)(hq:0≤q∧q≤3):Lq.fw (lA [2,n,q,0,0,2,0,0,0,0,0])=0:=kT (show Lq.gD 2 2<12 by decide) (by show(Lq.rF n 4&&(Lq.rF q 3&&(true&&(true&&(false||aP 2 0 0 0 0 0==0)))))=true;rw[ic hn,ic hq,Lq.K9];rfl) rfl
theorem XR(hn:0≤n∧n≤4)(hq:0≤q∧q≤3)(he:0≤e∧e≤1048576)(hi:0≤i∧i≤1073741824):Lq.fw (lA [2,n,q,0,0,3,0,0,0,e,i])=0:=kT (show Lq.gD 2 3<12 by decide) (by show(Lq.rF n 4&&(Lq.rF q 3&&(true&&(true&&(false||aP 3 0 0 0 e i==0)))))=true;rw[ic hn,ic hq,Lq.P3.2 ⟨he,hi⟩];rfl) rfl
end
inductive GA(cr:Bool):List Int→Prop
 |zZ (n q p i b:Int) (hn:0≤n∧n<3) (hq:0≤q∧q<2) (hp:0≤p∧p<2) (hi:0≤i∧i<24) (hb:0≤b∧b<1000):GA cr [2,n,q,0,0,1,p,i,b,0,0]
 |recv (n q:Int) (hn:0≤n∧n<3) (hq:0≤q∧q<2):GA cr [2,n,q,0,0,2,0,0,0,0,0]
 |z7 (n q e i:Int) (hn:0≤n∧n<3) (hq:0≤q∧q<2) (he:0≤e∧e<3) (hi:0≤i∧i<6):GA cr [2,n,q,0,0,3,0,0,0,e,i]
 |step (n:Int) (hn:0≤n∧n<3):GA cr [3,n,0,0,0,0,0,0,0,0,0]
 |carry (p:Int) (hp:0≤p∧p<20):GA cr [4,0,0,p,0,0,0,0,0,0,0]
 |Uw (p:Int) (hp:0≤p∧p<20):GA cr [5,0,0,p,0,0,0,0,0,0,0]
 |double (p:Int) (hp:0≤p∧p<20):GA cr [6,0,0,p,0,0,0,0,0,0,0]
 |move (n q:Int) (hn:0≤n∧n<3) (hq:0≤q∧q<2):GA cr [10,n,q,0,0,0,0,0,0,0,0]
 |El (n p:Int) (hc:cr=true) (hn:0≤n∧n<3) (hp:0≤p∧p<120):GA cr [8,n,0,0,p,0,0,0,0,0,0]
 |start (n:Int) (hc:cr=true) (hn:0≤n∧n<3):GA cr [9,n,0,0,0,0,0,0,0,0,0]
 |all:GA cr [7,0,0,0,0,0,0,0,0,0,0]
theorem Nf(g:tH)(cr:Bool):GA cr (jX g cr):=by
 have hn:=cg (g 1) 3 (by decide);have hq:=cg (g 2) 2 (by decide);have h2:=cg (g 1) 2 (by decide);have h24:=cg (g 4) 24 (by decide);have hb:=cg (g 4) 1000 (by decide);have h3:=cg (g 1) 3 (by decide);have h6:=cg (g 4) 6 (by decide);have h20:=cg (g 3) 20 (by decide);have agh:=cg (g 3) 120 (by decide);unfold jX;split
 ·unfold eQ;by_cases e1:aj (g 3) 8<3
  ·rw[if_pos e1,if_neg (show ¬(1:Int)=4 by decide)];exact .zZ _ _ _ _ _ hn hq h2 h24 hb
  ·rw[if_neg e1];by_cases e2:aj (g 3) 8<5
   ·rw[if_pos e2,if_neg (by decide)];exact .recv _ _ hn hq
   ·rw[if_neg e2];by_cases e3:aj (g 3) 8<7
    ·rw[if_pos e3,if_neg (show ¬(3:Int)=4 by decide)];exact .z7 _ _ _ _ hn hq h3 h6
    ·rw[if_neg e3,if_pos rfl];exact .recv _ _ hn hq
 ·split
  ·exact .step _ hn
  ·split
   ·exact .carry _ h20
   ·split
    ·exact .Uw _ h20
    ·split
     ·exact .double _ h20
     ·split
      ·exact .move _ _ hn hq
      ·split
       ·rename_i h;exact .El _ _ h.2 hn agh
       ·split
        ·rename_i h;exact .start _ h.2 hn
        ·exact .all
theorem GA.fw{cr:Bool}{l:tG}(h:GA cr l):Lq.fw (lA l)=0:=by
 cases h with
 |zZ n q p i b hn hq hp hi hb=>exact XQ (by omega) (by omega) (by omega) (by omega) (by omega)
 |recv n q hn hq=>exact Uv (by omega) (by omega)
 |z7 n q e i hn hq he hi=>exact XR (by omega) (by omega) (by omega) (by omega)
 |step n hn=>exact zm (by omega)
 |carry p hp=>exact P9 (by omega)
 |Uw p hp=>exact Uu (by omega)
 |double p hp=>exact Ll (by omega)
 |move n q hn hq=>exact Ut (by omega) (by omega)
 |El n p hc hn hp=>exact vn (by omega) (by omega)
 |start n hc hn=>exact vm (by omega)
 |all=>exact F7
theorem rG{u:Int}(h:0≤u∧u≤1000000):(Lit.int .i64 u).wf=true:=KK (by omega) (by omega)
theorem GA.sm{cr:Bool}{l:tG}(h:GA cr l):∀u∈l,0≤u∧u≤1000000:=by
 intro u hu;cases h<;>simp only[List.mem_cons,List.not_mem_nil,or_false]at hu<;>omega
def cZ(D:tG)(j:Nat):List Int:=(D.drop (11*j)).take 11
theorem eU(D:tG)(j:Nat):∀o,o<11→Lq.aD D j o=lA (cZ D j) o:=fun o ho=>by
 unfold Lq.aD lA cZ;rw[Ah,Ah,List.getElem?_take_of_lt ho,BI]
theorem dN{D E:tG}{j:Nat}(h:11*(j+1)≤D.length):cZ (D++E) j=cZ D j:=by
 unfold cZ;rw[List.drop_append_of_le_length (by omega),List.take_append_of_le_length (by rw[AM];omega)]
theorem ie{D E:tG}{n j:Nat}(h:D.length=11*n):cZ (D++E) (n+j)=cZ E j:=by
 unfold cZ;rw[List.drop_append,Ca (by omega),List.nil_append,show 11*(n+j)-D.length=11*j by omega]
theorem mz{l:tG}(h:l.length=11):cZ l 0=l:=by
 unfold cZ;rw[Nat.mul_zero,List.drop_zero,AJ (by omega)]
theorem ko(G:tG)(cr:Bool):∀(k j:Nat),j<k+2→(j=0∧cZ (a_ G cr k) j=[1,0,0,0,0,0,0,0,0,0,0])∨(j=1∧cZ (a_ G cr k) j=[1,1,1,0,0,0,0,0,0,0,0])∨(2≤j∧GA cr (cZ (a_ G cr k) j))
 |0,j,hj=>by
  obtain rfl|rfl:j=0∨j=1:=by omega
  ·exact .inl ⟨rfl,rfl⟩
  ·exact .inr (.inl ⟨rfl,rfl⟩)
 |k+1,j,hj=>by
  have hl:=iT G cr k;show(j=0∧cZ (a_ G cr k++jX (iL G k) cr) j=_)∨(j=1∧cZ (a_ G cr k++jX (iL G k) cr) j=_)∨(2≤j∧GA cr (cZ (a_ G cr k++jX (iL G k) cr) j));by_cases e:j<k+2
  ·rw[dN (by omega)];exact ko G cr k j e
  ·obtain rfl:j=k+2:=by omega
   have:=ie (E:=jX (iL G k) cr) (j:=0) hl;rw[Nat.add_zero]at this;rw[this,mz (vl _ _)];exact .inr (.inr ⟨by omega,Nf _ _⟩)
theorem uu(G:tG)(cr:Bool)(k j:Nat)(hj:j<k+2):Lq.fw (Lq.aD (a_ G cr k) j)=0:=by
 rw[gL (eU _ _)];rcases ko G cr k j hj with⟨_,e⟩|⟨_,e⟩|⟨_,e⟩
 ·rw[e];exact kJ (by decide) (by decide)
 ·rw[e];exact kJ (by decide) (by decide)
 ·exact e.fw
theorem sB(G:tG)(cr:Bool):∀k,∀u∈a_ G cr k,0≤u∧u≤1000000
 |0,u,hu=>by
  simp only[a_,List.mem_cons,List.not_mem_nil,or_false]at hu;omega
 |k+1,u,hu=>by
  rcases Ao.1 hu with hu|hu
  ·exact sB G cr k u hu
  ·exact(Nf _ _).sm u hu
theorem gG(d:Nat)(x y:Int)(w:tA):(Op.equalIn (d+1+1) 26 (pU x y) (pU x y)).run Tryz.prog w= .ok true w:=by
 rw[run_equalIn_agg (P:=Tryz.prog) w (d+1) 26 _ _ Tryz.underlying26 (by kernel_rfl)];simp[go_sem]
theorem qZ(d:Nat)(n e:tH)(w:tA):(Op.equalIn (d+1+1+1) 27 (gP n e) (gP n e)).run Tryz.prog w= .ok true w:=by
 have hp:=gG d;rw[Op.equalIn];generalize d+1+1=dd at hp⊢;simp only[Sem.run_bind,run_underlying Tryz.underlying27,Result.andThen_ok];simp[go_sem,List.range',hp]
theorem vo(n e:tH)(w:tA):(Op.equalIn 9999 27 (gP n e) (gP n e)).run Tryz.prog w= .ok true w:=qZ 9996 n e w
namespace Lq
open Go.ChangeShapes Go.WideShapes Go.ChangeAt
section
variable{H:Type}{enc:TypeId×Value→H}{W:tA}
def nZ(w:tA)(a:Addr):Int:=match w.cell? a with
 |some (.int .i64 z)=>z
 |_=>0
theorem P_{t e:tZ}{size:Nat}(ht:Tryz.prog.underlying t=some (.slice e))(hc:Tryz.prog.cellsOf e=size)(h0:0<size)
  (hints:∀{fuel:Nat} {cs:tM} {x:DataW H×List MemPlace},DataW.trod enc Tryz.prog W 0 (fun _=>true) true fuel e cs=some x→Ints cs∧cs.length=size)
  {fuel:Nat} {cs:tM} {d:DataW H} {p:List MemPlace} (hf:DataW.trod enc Tryz.prog W 0 (fun _=>true) true fuel t cs=some (d,p)):
  ∃a len cap D,cs=[.slice a len cap]∧RowK .i64 W a (size*len) D∧len≤cap∧cap≤maxLen∧(a=none→cap=0)∧((d= .nil∧cap=0)∨∃es sp,d= .slice es sp∧es.length+sp.length=cap):=by
 rcases Go.Deep.open_slice ht hf with⟨rfl,hx⟩|⟨x,l,c,m,n,Dd,Pl,rfl,_,hl,hm,hmm,hx,ju⟩
 ·simp only[Prod.mk.injEq]at hx;exact⟨none,0,0,[],rfl,RowK.nil _ _ _,Aa _,by unfold maxLen;omega,fun _=>rfl,.inl ⟨hx.1,rfl⟩⟩
 ·simp only[if_true]at hmm;subst hmm;simp only[Prod.mk.injEq]at hx;have adh:(d= .nil∧m=0)∨∃es sp,d= .slice es sp∧es.length+sp.length=m:= .inr ⟨_,_,hx.1,by simp;omega⟩;have key:∀i,i<l→∀t,t<size→∃z,W.cell? ((x.add (i*size)).add t)=some (iV z)∧(Lit.int .i64 z).wf=true:=by
   intro i hi t ht;obtain⟨Qf,h1,h2⟩:=ju i (by omega);rw[hc]at h1;obtain⟨⟨zs,rfl,hw⟩,WS⟩:=hints h2;have ajb:zs.length=size:=by simpa using WS
   have h3:=(World.cells?_some h1).2.2 t ht;rw[h3,Ar,Ag (show t<zs.length by omega)];exact⟨zs[t]'(by omega),rfl,hw _ (Bu _)⟩
  obtain⟨b,off,spot⟩:=x;by_cases Jr:l=0
  ·subst Jr;exact⟨_,_,_,[],rfl,RowK.nil _ _ _,hl,hm,by simp,adh⟩
  have adi:spot=none:=by
   obtain⟨z,hz,_⟩:=key 0 (by omega) 0 (by omega);simpa[Addr.add]using World.cell?_spot hz
  subst adi;have Qw:∀i t,((⟨b,off,none⟩:Addr).add i).add t=⟨b,off+(i+t),none⟩:=by
   intro i t;have h1:∀(o j:Nat),(⟨b,o,none⟩:Addr).add j=⟨b,o+j,none⟩:=fun o j=>by unfold Addr.add;split<;>simp_all
   rw[h1,h1,BX]
  have cell:∀j,j<size*l→W.cell? ⟨b,off+j,none⟩=some (iV (nZ W ⟨b,off+j,none⟩))∧(Lit.int .i64 (nZ W ⟨b,off+j,none⟩)).wf=true:=by
   intro j hj;obtain⟨z,hz,hw⟩:=key (j/size) (Nat.div_lt_of_lt_mul hj) (j % size) (Nat.mod_lt _ h0);rw[Qw,Bl (j/size) size,Nat.div_add_mod]at hz;have hn:nZ W ⟨b,off+j,none⟩=z:=by unfold nZ;rw[hz]
   rw[hn];exact⟨hz,hw⟩
  refine⟨_,_,_,(List.range (size*l)).map (fun j=>nZ W ⟨b,off+j,none⟩),rfl,⟨by simp, ?_, ?_⟩,hl,hm,by simp,adh⟩
  ·intro u hu;simp only[List.mem_map,List.mem_range]at hu;obtain⟨j,hj,rfl⟩:=hu;exact(cell j hj).2
  ·intro j hj;have hcj:=(cell j hj).1;refine⟨b,off,rfl, ?_, ?_⟩
   ·unfold World.cell? at hcj;by_cases JK:b<W.heap.size
    ·exact JK
    ·simp[Array.getElem?_eq_none (show W.heap.size≤b by omega)]at hcj
   ·rw[hcj];simp[List.getD_eq_getElem?_getD,hj]
end
theorem Ux:Tryz.prog.globalNamed "berthshift/lines.kinds" =some 0:=by kernel_rfl
theorem aav:(Tryz.prog.globals[0]?).map (·.type)=some 191:=by kernel_rfl
theorem zn:Tryz.prog.cellsOf 151=3:=by kernel_rfl
theorem Jh:Tryz.prog.cellsOf 191=36:=by kernel_rfl
theorem Qa:Tryz.prog.cellsOf 9=1:=by kernel_rfl
theorem Lm{enc:TypeId×Value→Unit}{W:tA}{base:Nat}{sp:tQ}{held:Bool}{fuel:Nat}{cs:tM}{x:DataW Unit×List MemPlace}{b:List UInt8}{a o:Int}(h:DataW.trod enc Tryz.prog W base sp held fuel 151 cs=some x)(hx:x.1= .agg [.lit (.string b),.lit (.int .i64 a),.lit (.int .i64 o)]):cs=[.string ⟨b.toArray⟩,iV a,iV o]:=by
 obtain⟨xs,n,_,rfl,hl,hlen,hf⟩:=DataW.trod_struct Tryz.underlying151 h;rw[zn]at hl
 match xs,hlen with
 |[y0,y1,y2],_=>
  have f0:DataW.trod enc Tryz.prog W base sp held n 9 ((cs.drop 0).take (Tryz.prog.cellsOf 9))=some y0:=hf 0 _ rfl;have f1:DataW.trod enc Tryz.prog W base sp held n 3 ((cs.drop 1).take (Tryz.prog.cellsOf 3))=some y1:=hf 1 _ rfl;have f2:DataW.trod enc Tryz.prog W base sp held n 3 ((cs.drop 2).take (Tryz.prog.cellsOf 3))=some y2:=hf 2 _ rfl;rw[Qa]at f0;rw[lN]at f1 f2;obtain⟨s,e0,rfl,_⟩:=DataW.trod_string Tryz.underlying9 f0;obtain⟨z1,e1,rfl,_⟩:=DataW.trod_int Tryz.underlying3 f1;obtain⟨z2,e2,rfl,_⟩:=DataW.trod_int Tryz.underlying3 f2;simp only[List.map_cons,List.map_nil,DataW.agg.injEq,List.cons.injEq,DataW.lit.injEq,Lit.string.injEq,Lit.int.injEq,and_true,true_and]at hx;obtain⟨rfl,rfl,rfl⟩:=hx
  match cs,hl with
  |[c0,c1,c2],_=>
   simp at e0 e1 e2;subst e0 e1 e2;rfl
theorem Ji:∀i,i<12→(qj.drop (i*3)).take 3=[.string (iS i),iV (iK i),iV (su i)]:=by
 refine xa ?_ ?_ ?_ ?_ ?_ ?_ ?_ ?_ ?_ ?_ ?_ ?_<;>rfl
theorem chunks{l:tM}(hl:l.length=36)(h:∀i,i<12→(l.drop (i*3)).take 3=[.string (iS i),iV (iK i),iV (su i)]):l=qj:=by
 have key:∀m:List Value,∀j,m[j]? =((m.drop (j/3*3)).take 3)[j % 3]? :=fun m j=>by
  rw[AP,if_pos (Nat.mod_lt _ (by decide)),BI];congr 1;omega
 refine BF fun j=> ?_;by_cases hj:j<36
 ·rw[key l j,key qj j,h (j/3) (by omega),Ji (j/3) (by omega)]
 ·rw[Bd (by omega),Bd (by rw[PW];omega)]
theorem fy{W:tA}(h:laidMet Tryz.prog [("berthshift/lines.kinds",Rows.laid_berthshift_lines_kinds)] W):eV W:=by
 obtain⟨ps,⟨g0,t0,cs0,f0,p0,q0,hg0,ht0,hv0,hd0,_,_⟩,_,_⟩:=h;obtain rfl:=Option.some.inj (Ux.symm.trans hg0);obtain rfl:=Option.some.inj (aav.symm.trans ht0);obtain⟨xs,m,rfl,hx,hlen,hn,Vh⟩:=DataW.trod_array Tryz.underlying191 hd0;rw[Jh]at hlen;have vx:cs0.toList=qj:=by
  refine chunks hlen fun i hi=> ?_;have h1:=Vh i hi;rw[zn]at h1;have hm:xs.map (·.1)=_:=(DataW.agg.inj (AR hx).1).symm;have h2:(xs.map (·.1))[i]? =some (.agg [.lit (.string (iS i).data.toList),.lit (.int .i64 (iK i)),.lit (.int .i64 (su i))]):=by
   rw[hm];revert i;refine xa ?_ ?_ ?_ ?_ ?_ ?_ ?_ ?_ ?_ ?_ ?_ ?_<;>intros<;>rfl
  rw[Ar]at h2;cases hxi:xs[i]? with
  |none=>rw[hxi]at h2;cases h2
  |some x=>
   rw[hxi]at h1 h2;have:=Lm h1 (Option.some.inj h2);rw[this]
 have hb:∃e fz,W.heap[0]? =some (.cells cs0 e fz):=by
  simp only[World.var?,Ux,Option.bind_some]at hv0;split at hv0
  ·rename_i cs e fz heq;cases hv0;exact⟨e,fz,heq⟩
  ·cases hv0
 obtain⟨e,fz,hb⟩:=hb;exact⟨e,fz,by rw[hb,←vx]⟩
theorem zo:Tryz.prog.cellsOf 98=5:=by kernel_rfl
theorem Qc{H:Type}{enc:TypeId×Value→H}{W:tA}{base:Nat}{sp:tQ}{held:Bool}{fuel:Nat}{cs:tM}{x:DataW H×List MemPlace}(h:DataW.trod enc Tryz.prog W base sp held fuel 98 cs=some x):Ints cs∧cs.length=5:=by
 obtain⟨xs,n,_,_,hl,hlen,hf⟩:=DataW.trod_struct Tryz.underlying98 h;rw[zo]at hl;refine⟨?_,hl⟩
 match xs,hlen with
 |[y0,y1,y2,y3,y4],_=>
  have f0:DataW.trod enc Tryz.prog W base sp held n 3 ((cs.drop 0).take (Tryz.prog.cellsOf 3))=some y0:=hf 0 _ rfl;rw[lN]at f0;have f1:DataW.trod enc Tryz.prog W base sp held n 3 ((cs.drop 1).take (Tryz.prog.cellsOf 3))=some y1:=hf 1 _ rfl;rw[lN]at f1;have f2:DataW.trod enc Tryz.prog W base sp held n 3 ((cs.drop 2).take (Tryz.prog.cellsOf 3))=some y2:=hf 2 _ rfl;rw[lN]at f2;have f3:DataW.trod enc Tryz.prog W base sp held n 3 ((cs.drop 3).take (Tryz.prog.cellsOf 3))=some y3:=hf 3 _ rfl;rw[lN]at f3;have f4:DataW.trod enc Tryz.prog W base sp held n 3 ((cs.drop 4).take (Tryz.prog.cellsOf 3))=some y4:=hf 4 _ rfl;rw[lN]at f4;exact np (o:=0) (n:=1) (pP Tryz.underlying3 f0) (np (o:=1) (n:=1) (pP Tryz.underlying3 f1) (np (o:=2) (n:=1) (pP Tryz.underlying3 f2) (np (o:=3) (n:=1) (pP Tryz.underlying3 f3) (np (o:=4) (n:=1) (pP Tryz.underlying3 f4) (Rx (by omega))))))
section
variable{H:Type}{enc:TypeId×Value→H}{W:tA}
theorem jZ{r:Reach}{b0:Nat}{v:tK}{d:DataW H}{p:List MemPlace}(hv:Value.okWide Tryz.prog W r b0 41 v)(h:DataW.Trod enc Tryz.prog W 0 (fun _=>true) true 41 v d p):
  ∃a len cap D,v= .slice a len cap∧RowK .i64 W a (5*len) D∧len≤cap∧cap≤maxLen∧(a=none→cap=0)∧((d= .nil∧cap=0)∨∃es sp,d= .slice es sp∧es.length+sp.length=cap):=by
 obtain⟨a,len,cap,rfl⟩:=okWide_slice Tryz.underlying41 hv;obtain⟨fuel,hf⟩:=h;obtain⟨a',fD,bh,D,vx,r1⟩:=P_ Tryz.underlying41 zo (by decide) Qc hf;simp[Value.cells]at vx;obtain⟨rfl,rfl,rfl⟩:=vx;exact⟨_,_,_,D,rfl,r1⟩
end
end Lq
end Go.Proofs.YtmhifeahpnkpiaaGreatDoor
