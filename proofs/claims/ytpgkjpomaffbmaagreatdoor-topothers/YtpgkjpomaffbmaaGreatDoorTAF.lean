/- Out of my texts: LqI, LqH, LqM, LqN, CyG, RlM, CyI, CyJ, CyK, CyL, CyM, CyN, CyH, TcA, TcD, TcE, TcC, TcF, TcG, LqO, TcO. -/
import Derived.Deep.Slices
import Derived.LaidMore
import Derived.Stop.Joined
import Derived.Stop.LaidErr
import Derived.Test.YtpgkjpomaffbmaaGreatDoorRows
import Derived.Test.YtpgkjpomaffbmaaGreatDoorTAA
import Derived.Test.YtpgkjpomaffbmaaGreatDoorTAB
import Derived.Test.YtpgkjpomaffbmaaGreatDoorTAC
import Derived.Test.YtpgkjpomaffbmaaGreatDoorTAD
import Derived.Test.YtpgkjpomaffbmaaGreatDoorTAE
set_option maxRecDepth 20000
set_option maxHeartbeats 8000000
set_option linter.unusedVariables false
namespace Go.Proofs.YtpgkjpomaffbmaaGreatDoor
open Go.RowKit
abbrev BZ:= @List.foldl_cons
namespace Lq
open Rv
abbrev j8(f:tH)(k o:Int):AV:=vg [.o (iV k),.f 4 (fun i=>aF f (i+1)),.o (iV o),.f 5 (fun i=>aF f (i+6))]
theorem LU(f:tH)(w:tA)(hK:gl w):cA 29 #[DX f] w (rB (iV (fQ f)) w):=by
 have hk:=LS f;refine en (H:=[]) 28 [vf 11 fun i=>iV (f i)] Tryz.func29 rfl rfl (m0 w) (r [] rfl fun β=> ?_);unfold fQ;by_cases hi:gH (f 0) (f 5)<12
 ·rw[As hi]at hk;refine cb rfl (vt [.g [.o (.string (iX _)),.o (iV (iM _)),.o (iV (tv _))],.o (.bool true)]) (fun w hS=>hk w (hK.next hS.now.2)) (r [] rfl fun α=> ?_);refine aeM (X:=Nat×Nat) (fun x=>[(1,vp 0 0 (β 0)),(3,vp 1 0 (α 0)),(5,vp 2 0 x.1),(6,vp 3 0 x.2)]) (fun x=>[⟨β 0,63,[.f 11 fun i=>iV (f i)]⟩,⟨α 0,88,[.o (.string (iX (gH (f 0) (f 5)))),.o (iV (iM (gH (f 0) (f 5)))),.o (iV (tv (gH (f 0) (f 5))))]⟩,⟨x.1,63,[.f 11 fun i=>iV (over (gJ (f 0) (f 5)) (jE (gH (f 0) (f 5))) f i)]⟩,⟨x.2,63,[.f 11 fun i=>iV (less (gJ (f 0) (f 5)) f i)]⟩]) ?_ (r [4] rfl fun _=> ?_)
  case refine_2=>
   repeat' first|refine FC ?_ ?_|refine fk3 ?_ ?_ ?_|(refine cb rfl (vf 11 fun i=>iV (jE (gH (f 0) (f 5)) i)) ?_ ?_;exact fun w _=>kR _ w)|(refine cb rfl (vt [.g [.f 11 fun i=>iV (over (gJ (f 0) (f 5)) (jE (gH (f 0) (f 5))) f i)],.g [.f 11 fun i=>iV (less (gJ (f 0) (f 5)) f i)]]) ?_ ?_;exact fun w _=>UE f _ _ w rfl (Qw hi))|refine rs [] rfl rfl fun _=> ?_
   all_goals first|exact abV (_,_) ⟨rfl,rfl,rfl,rfl,trivial⟩ (fun w hS=>hS)|exact abV (_,_) ⟨rfl,rfl,rfl,rfl,trivial⟩ (fun w hS=>hS.Kj [0,1,3,2] (by decide))
  intro f1 x;refine r [] rfl fun _=> ?_;have hb:=GI (over (gJ (f 0) (f 5)) (jE (gH (f 0) (f 5))) f);cases h1:lR (over (gJ (f 0) (f 5)) (jE (gH (f 0) (f 5))) f)
  ·rw[h1]at hb;exact cb rfl (vv (.bool false)) (fun w _=>hb w) (r [] rfl fun _=>fin fun w hS=>⟨by rw[Ae hi];rfl,hS.now.2⟩)
  ·rw[h1]at hb;refine cb rfl (vv (.bool true)) (fun w _=>hb w) (r [2] rfl fun _=> ?_);refine cb rfl (vf 11 fun i=>iV (jE _ i)) (fun w _=>kR _ w) (r [] rfl fun _=> ?_);have he:=CP (less (gJ (f 0) (f 5)) f) (jE (gH (f 0) (f 5)));cases h2:Vu (less (gJ (f 0) (f 5)) f) (jE (gH (f 0) (f 5)))
   ·rw[h2]at he;exact eqs rfl he rfl (r [] rfl fun _=>fin fun w hS=>⟨by rw[Ae hi];rfl,hS.now.2⟩)
   ·rw[h2]at he;exact eqs rfl he rfl (r [] rfl fun _=>fin fun w hS=>⟨by rw[Ae hi];rfl,hS.now.2⟩)
 ·rw[Ak hi]at hk;exact cb rfl (vt [.g [.o (.string (iX _)),.o (iV (iM _)),.o (iV (tv _))],.o (.bool false)]) (fun w hS=>hk w (hK.next hS.now.2)) (r [] rfl fun _=>fin fun w hS=>⟨by rw[Aa hi];rfl,hS.now.2⟩)
end Lq
namespace Lq
theorem Qx{p i b:Int}:(aT 1 p i b 0 0==0)=true↔(0≤p∧p≤3)∧(0≤i∧i≤1073741824)∧(0≤b∧b≤1000000):=by
 rw[beq_iff_eq];unfold aT;rw[Ae rfl];by_cases h:0≤p∧p≤3∧0≤i∧i≤1073741824∧0≤b∧b≤1000000
 ·rw[Aa (fun g=>g h),Ae ⟨rfl,rfl⟩];omega
 ·rw[Ae h];omega
theorem LV:(aT 2 0 0 0 0 0==0)=true:=by decide
theorem Qy{e n:Int}:(aT 3 0 0 0 e n==0)=true↔(0≤e∧e≤1048576)∧(0≤n∧n≤1073741824):=by
 rw[beq_iff_eq];unfold aT;rw[Aa (by decide),Ae rfl];by_cases h:0≤e∧e≤1048576∧0≤n∧n≤1073741824
 ·rw[Aa (fun g=>g h),Ae ⟨rfl,rfl,rfl⟩];omega
 ·rw[Ae h];omega
end Lq
namespace Lq
open Rv
def av(D:tG)(k:Nat):Nat→Int:=fun o=>D.getD (11*k+o) 0
def DZ(D:tG):Nat→Nat
 |0=>0
 |k+1=>DZ D k+if av D k 0=2 then 1 else 0
theorem NJ(D:tG):∀k,DZ D k≤k
 |0=>Ac _
 |k+1=>by have:=NJ D k;unfold DZ;split<;>omega
inductive nU(D:tG)(n:Nat):Int→Int→Prop
 |bad (k:Nat) (hk:k<n) (h:∀j,j<k→fQ (av D j)=0) (hb:¬fQ (av D k)=0):nU D n 0 (fQ (av D k))
 |fe (h:∀j,j<n→fQ (av D j)=0):nU D n (DZ D n) 0
theorem nU.Wb{D:tG}{n:Nat}{c e c' e':Int}(h:nU D n c e)(h':nU D n c' e'):c=c'∧e=e':=by
 cases h with
 |bad k hk h hb=>
  cases h' with
  |bad k' kg h' hb'=>
   rcases Nat.lt_trichotomy k k' with e|e|e
   ·exact absurd (h' k e) hb
   ·subst e;exact⟨rfl,rfl⟩
   ·exact absurd (h k' e) hb'
  |fe h'=>exact absurd (h' k hk) hb
 |fe h=>
  cases h' with
  |bad k' kg h' hb'=>exact absurd (h k' kg) hb'
  |fe h'=>exact⟨rfl,rfl⟩
theorem Fg(a:tB)(len cap:Nat)(D:tG)(w:tA)(hK:gl w)(h:RowK .i64 w a (11*len) D)(hs:len*88≤140737488351232):
  cA 22 #[.slice a len cap] w fun x w'=>∃c e,x= .returned (.tuple #[iV c,iV e])∧nU D len c e∧bZ w w':=by
 refine en (H:=[]) _ [vv (.slice a len cap)] Tryz.func22 rfl rfl (m0 w) (r [] rfl fun _=> ?_);refine iD (X:=Nat) ⟨fun k=>[(4,vi (DZ D k:Int)),(8,vv (.slice a len cap)),(9,vi (len:Int)),(10,vi (k:Int))],fun _=>[],fun _ _=>False,fun _ _=>True,fun _ w'=>bZ w w',fun k=>k≤len∧∀j,j<k→fQ (av D j)=0,fun k=>len-k⟩ 0 ⟨rfl,rfl,rfl,rfl,trivial⟩ (fun _ hS=>hS) ⟨Al _,fun j hj=>absurd hj (AF j)⟩ ?_;rintro f k ⟨hk,hi⟩;have hk:k≤len:=hk;have Ej:=NJ D k;by_cases aN:k<len
 case neg=>
  obtain rfl:k=len:=by omega
  exact r [0] rfl fun _=>fin fun w hS=>⟨_,_,rfl,.fe hi,hS.now.2⟩
 obtain⟨b,o,rfl⟩:=h.form (by omega);have on:aW (aF (av D k)) 11:=fun _ _=>rfl;refine r [1] rfl fun _=>lf (q:=o+k*11) rfl 11 (aF (av D k)) (fun w hS=>ju (h.below hS.now.2) (by omega) fun j _=>rfl) (r [] rfl fun _=>Rv.cb rfl (vi (fQ (av D k))) (fun w hS=>LU (av D k) w (hK.next hS.now.2)) ?_);by_cases hc:fQ (av D k)=0
 case neg=>exact r [1] rfl fun _=>fin fun w hS=>⟨_,_,rfl,.bad k aN hi hc,hS.now.2⟩
 have hS:DZ D (k+1)=DZ D k+if av D k 0=2 then 1 else 0:=rfl
 by_cases h2:av D k 0=2
 ·rw[Ae h2]at hS;exact rz [0,1,1,1] [(DZ D (k+1):Int),((k+1:Nat):Int)] rfl fun _=>bJ (k+1) ⟨rfl,rfl,rfl,rfl,trivial⟩ (fun w hS=>hS.take 0) ⟨aN,upto hi hc⟩ (show len-(k+1)<len-k by omega)
 ·rw[Aa h2]at hS;exact rz [0,0,1] [((k+1:Nat):Int)] rfl fun _=>bJ (k+1) ⟨AB (fun n:Nat=>iV n) hS.symm,rfl,rfl,rfl,trivial⟩ (fun w hS=>hS.take 0) ⟨aN,upto hi hc⟩ (show len-(k+1)<len-k by omega)
end Lq
theorem UF{f:tH}(h:Lq.fQ f=0):Lq.gH (f 0) (f 5)<12∧Lq.lR f=true:=by
 unfold Lq.fQ at h;by_cases hi:Lq.gH (f 0) (f 5)<12
 ·rw[Ae hi]at h;by_cases hb:Lq.lR (Lq.over (Lq.gJ (f 0) (f 5)) (Lq.jE (Lq.gH (f 0) (f 5))) f)=true
  ·rw[Ae hb]at h;by_cases he:Lq.Vu (Lq.less (Lq.gJ (f 0) (f 5)) f) (Lq.jE (Lq.gH (f 0) (f 5)))=true
   ·have hf:∀i,i<11→Lq.over (Lq.gJ (f 0) (f 5)) (Lq.jE (Lq.gH (f 0) (f 5))) f i=f i:=fun i hi'=>by
     have:=Lq.GJ.1 he i hi';unfold Lq.less at this;unfold Lq.over;split
     ·rfl
     ·rename_i hn;rw[Aa hn]at this;exact this.symm
    refine⟨hi, ?_⟩;unfold Lq.lR at hb⊢;rw[hf 0 (by decide),hf 1 (by decide),hf 2 (by decide),hf 3 (by decide),hf 4 (by decide),hf 5 (by decide),hf 6 (by decide),hf 7 (by decide),hf 8 (by decide),hf 9 (by decide),hf 10 (by decide)]at hb;exact hb
   ·rw[Aa he]at h;omega
  ·rw[Aa hb]at h;omega
 ·rw[Aa hi]at h;omega
structure xO(f:tH):Prop where
 k:1≤f 0∧f 0≤10
 n:0≤f 1∧f 1<5
 q:0≤f 2∧f 2<4
 p:0≤f 3∧f 3≤1048576
 kp:0≤f 4∧f 4≤100000
 e:f 0=2→aT (f 5) (f 6) (f 7) (f 8) (f 9) (f 10)=0∧1≤f 5∧f 5≤3
theorem lT{f:tH}(h:Lq.fQ f=0):xO f:=by
 obtain⟨h1,h2⟩:=UF h;have hk:1≤f 0∧f 0≤10∧(f 0=2→1≤f 5∧f 5≤3):=by
  by_cases hx:1≤f 0∧f 0≤10∧(f 0=2→1≤f 5∧f 5≤3)
  ·exact hx
  ·exfalso;have h12:Lq.gH (f 0) (f 5)=12:=by
    unfold Lq.gH;by_cases h2:f 0=2
    ·rw[Aa (by omega),Aa (by omega),Aa (by omega),Aa (by omega),Aa (by omega),Aa (by omega),Aa (by omega),Aa (by omega),Aa (by omega),Ae h2,Aa (by omega),Aa (by omega),Aa (by omega)]
    ·rw[Aa (by omega),Aa (by omega),Aa (by omega),Aa (by omega),Aa (by omega),Aa (by omega),Aa (by omega),Aa (by omega),Aa (by omega),Aa h2]
   omega
 unfold Lq.lR Lq.sH at h2;simp only[Bool.and_eq_true,Bool.or_eq_true,decide_eq_true_eq,bne_iff_ne,beq_iff_eq]at h2;refine⟨⟨hk.1,hk.2.1⟩, ?_, ?_, ?_, ?_,fun e=>⟨?_,hk.2.2 e⟩⟩
 ·omega
 ·omega
 ·omega
 ·omega
 ·exact h2.2.2.2.2.resolve_left fun hh=>hh e
def aaN(D:tG)(k:Nat):Nat→Value:=fun j=>iV (Lq.av D k j)
noncomputable def j8(p:(Nat→Nd)×Ws)(f:tH):(Nat→Nd)×Ws:=Qn p.1 p.2 (f 0) (f 1).toNat (f 2).toNat (f 3).toNat (f 4) ⟨f 5,f 6,f 7,f 8,f 9,f 10⟩
noncomputable def gk(D:tG):Nat→(Nat→Nd)×Ws
 |0=>(Uu,Q1)
 |k+1=>j8 (gk D k) (Lq.av D k)
structure GdT(p:(Nat→Nd)×Ws):Prop where
 g:Gd p.1 p.2
 t:∀i,i<5→(p.1 i).up=false→∃Bs rs kk,Zb (p.1 i) Bs rs kk
section
variable{w w':tA}{X i:Nat}{us:Nat→Nv}{v v':Wv}{F F':tF}
theorem CW.others(h:CW w X us v F)(c:dB (fun b=>b<v.nd 5) w w'):CW w' X us v F:=by
 have same:∀b,CU us v F b→w'.heap[b]? =w.heap[b]? :=fun b hb=>c.block b (h.lt b hb) (Bb.2 (h.lo b hb));refine⟨h.wo.still fun b hb=>same b (.inl hb),fun j hj=>(h.nb j hj).same (same _ (.inr (.inl ⟨j,hj,rfl⟩))),h.ok,h.inj,h.nf,fun j hj=> ?_,h.wf,h.wn,h.ww,h.st.Fu (c.mono fun _ h=> .inr h) fun _ _ h=>h,AN h.ln c.size,h.lo⟩;obtain⟨B,hr⟩:=h.wr j hj;exact⟨B,hr.still fun hb=>same B (.inr (.inr ⟨j,hj,hb⟩))⟩
theorem Cd.below{r:(Nat→Nd)×Ws}{qH:Nat→Nv}(h:CW w X us v F)(hd:Cd w X us v F r qH v' F' w'):Below (v.nd 5) w w':=hd.mv.c.below h.ln fun b hb hc=>absurd (h.lo b hc) (BL.2 hb)
theorem aaO(h:CW w X us v F){D:tG}{k:Nat}(hp:((fun i=>(us i).pure),v.pure)=gk D k)(hg:GdT (gk D k))(ok:Lq.fQ (Lq.av D k)=0):cA 33 #[lp X,vF (aaN D k) 11] w fun x w'=>x= .returned (.tuple #[])∧∃qH v' F',CW w' X qH v' F'∧((fun i=>(qH i).pure),v'.pure)=gk D (k+1)∧v'.nd=v.nd∧Below (v.nd 5) w w':=by
 have a:=lT ok;obtain⟨f,hf⟩:∃f,f=Lq.av D k:=⟨_,rfl⟩;rw[←hf]at a;have VU:Gd (fun i=>(us i).pure) v.pure:=by
  have:=hg.g;rw[←hp]at this;exact this
 have e:vF (aaN D k) 11=vF (lF [iV (f 0),iV (((f 1).toNat:Nat):Int),iV (((f 2).toNat:Nat):Int),iV (((f 3).toNat:Nat):Int),iV (f 4),iV (f 5),iV (f 6),iV (f 7),iV (f 8),iV (f 9),iV (f 10)]) 11:=by
  rw[Bh a.n.1,Bh a.q.1,Bh a.p.1,hf];rfl
 rw[e];refine(ado X us v F w h VU (f 0) (f 1).toNat (f 2).toNat (f 3).toNat (f 4) ⟨f 5,f 6,f 7,f 8,f 9,f 10⟩ a.k (by have:=a.n;omega) (by have:=a.q;omega) ⟨a.kp.1,by have:=a.kp;omega⟩).mono ?_;rintro x w' ⟨rfl,qH,v',F',hd⟩;refine⟨rfl,qH,v',F',hd.cw, ?_,hd.nd,Cd.below h hd⟩;show _=j8 (gk D k) (Lq.av D k);unfold j8;rw[←hp,←hf];exact Prod.ext hd.n hd.s
end
noncomputable def kZ(D:tG)(n:Nat):Oc:=ocS (gk D n).1 (gk D n).2
def zO:Value:=vF (Gr (iV 0) (fun _=>false) (fun _=>0) (fun _=>0) (.slice none 0 0) (.slice none 0 0) (.slice none 0 0) (iV 0)) 18
inductive UG(D:tG)(n:Nat)(w w':tA):Value→Prop
 |adp (h:100000<n):UG D n w w' (.tuple #[zO,iV 1])
 |bad (h:n≤100000) (c e:Int) (hc:Lq.nU D n c e) (he:¬e=0):UG D n w w' (.tuple #[zO,iV e])
 |fe (h:n≤100000) (hc:∀j,j<n→Lq.fQ (Lq.av D j)=0) (t:j7) (ho:cm (fun b=>b<w.heap.size) w' fun w=>lO w (kZ D n) t):UG D n w w' (.tuple #[ocV (kZ D n) t,iV 0])
inductive ik:Bt→List Rec→Bt→Prop
 |nil (B:Bt):ik B [] B
 |cons {B D E:Bt} {r:Rec} {l:List Rec} (hf:r.fault=0) (ha:ew B r=(D,0)) (h:ik D l E):ik B (r::l) E
theorem ik.one{B D:Bt}{r:Rec}(hf:r.fault=0)(ha:ew B r=(D,0)):ik B [r] D:= .cons hf ha (.nil D)
theorem ik.app{B D E:Bt}{l m:List Rec}(h:ik B l D)(h':ik D m E):ik B (l++m) E:=by
 induction h with
 |nil B=>exact h'
 |cons hf ha _ ih=>exact .cons hf ha (ih h')
theorem ik.snoc{B D E:Bt}{r:Rec}{l:List Rec}(h:ik B l D)(hf:r.fault=0)(ha:ew D r=(E,0)):ik B (l++[r]) E:=h.app (.one hf ha)
theorem ik.nil_eq{B D:Bt}(h:ik B [] D):D=B:=by cases h;rfl
def recC(q e:Int):Rec:=⟨1,q,e,0,⟨0,0,0,0,0,0⟩⟩
def adq(q e:Int)(v:Ev):Rec:=⟨2,q,e,0,v⟩
def adr(q e p:Int):Rec:=⟨3,q,e,p,⟨0,0,0,0,0,0⟩⟩
def UH(q e:Int):Rec:=⟨7,q,e,0,⟨0,0,0,0,0,0⟩⟩
def ads(q e:Int):Rec:=⟨6,q,e,0,⟨0,0,0,0,0,0⟩⟩
def adt(q e p:Int):Rec:=⟨4,q,e,p,⟨0,0,0,0,0,0⟩⟩
def adu(q e:Int)(v:Ev):Rec:=⟨5,q,e,0,v⟩
theorem aaP{q e:Int}(hq:0≤q∧q≤3)(he:1≤e∧e≤1048576):(recC q e).fault=0:=by
 unfold Rec.fault aE recC gM;simp only;rw[Aa (by omega),Aa (by omega),Aa (by omega)];simp
theorem LW{q e p:Int}(hq:0≤q∧q≤3)(he:1≤e∧e≤1048576)(hp:0≤p∧p≤4):(adr q e p).fault=0:=by
 unfold Rec.fault aE adr gM;simp only;rw[Aa (by omega),Aa (by omega),Aa (by omega)];simp
theorem CQ{q e:Int}(hq:0≤q∧q≤3)(he:1≤e∧e≤1048576):(UH q e).fault=0:=by
 unfold Rec.fault aE UH gM;simp only;rw[Aa (by omega),Aa (by omega),Aa (by omega)];simp
theorem LX{q e:Int}(hq:0≤q∧q≤3)(he:1≤e∧e≤1048576):(ads q e).fault=0:=by
 unfold Rec.fault aE ads gM;simp only;rw[Aa (by omega),Aa (by omega),Aa (by omega)];simp
theorem LY{q e p:Int}(hq:0≤q∧q≤3)(he:1≤e∧e≤1048576)(hp:0≤p∧p≤4):(adt q e p).fault=0:=by
 unfold Rec.fault aE adt gM;simp only;rw[Aa (by omega),Aa (by omega),Aa (by omega)];simp
theorem CS{q e:Int}{v:Ev}(hq:0≤q∧q≤3)(he:1≤e∧e≤1048576)(hv:v.Ok):(adq q e v).fault=0:=by
 unfold Rec.fault aE adq;simp only;rw[Aa (by omega),Aa (by omega),Ae (by simp)];exact hv
theorem tw{q e:Int}{v:Ev}(hq:0≤q∧q≤3)(he:1≤e∧e≤1048576)(hv:v.Ok):(adu q e v).fault=0:=by
 unfold Rec.fault aE adu;simp only;rw[Aa (by omega),Aa (by omega),Ae (by simp)];exact hv
theorem Rt{e:Int}(he:1≤e∧e≤1048576):Bt.Ok ⟨1,e,0,0,0,[]⟩:=⟨.inr (.inl ⟨rfl,he.1,he.2,rfl,rfl,rfl⟩),by simp,_,_,.nil⟩
theorem GK{B:Bt}{q:Int}(hq:0≤q∧q≤3)(ok:B.Ok)(hr:B.r=3):(UH q B.e).fault=0∧ew B (UH q B.e)=(⟨0,B.e,0,0,0,[]⟩,0):=by
 have hs:=ok.cG;unfold Bt.b_ bg at hs;have he:1≤B.e∧B.e≤1048576:=by omega
 refine⟨CQ hq he,fI ok (CQ hq he) ?_ ⟨.inl ⟨rfl,rfl,by simp only;omega,by simp only;omega,rfl,rfl,rfl⟩,by simp,_,_,.nil⟩⟩;unfold cF UH;simp[hr]
def pX(r:Rec):Prop:=r.fault=0∧(¬(r.k=2∨r.k=5)→r.v=mB)
theorem pX.fe{r:Rec}(h:pX r):mj (bn r):=
 ⟨r.k,r.q,r.e,r.p,r.v.k,r.v.p,r.v.i,r.v.b,r.v.he,r.v.hn,rfl,h.1,fun hk=>by
  have e:=h.2 hk;rw[e]
  exact⟨rfl,rfl,rfl,rfl,rfl,rfl⟩⟩
theorem kH(rs:List Rec):cp rs=aQ (rs.map bn):=by
 unfold cp aQ;rw[List.flatMap_map];rfl
theorem kK(a b:List Rec):cp (a++b)=cp a++cp b:=by simp[cp]
theorem JJ{rs:List Rec}(h:∀r∈rs,pX r):∀z∈rs.map bn,mj z:=fun z hz=>by
 obtain⟨r,hr,rfl⟩:=Ay.1 hz;exact(h r hr).fe
theorem JK{rs:List Rec}(h:∀r∈rs,pX r):bB (cp rs)=(rs.map bn,(cp rs).length):=by
 rw[kH];exact qL _ (JJ h)
theorem X3{rs:List Rec}:22*rs.length≤(cp rs).length:=by
 rw[kH];have:=(vu (rs.map bn)).1;rw[AW]at this;exact this
theorem LZ{r:Rec}(h:r.fault=0):(1≤r.k∧r.k≤7)∧(0≤r.q∧r.q≤3)∧(0≤r.e∧r.e≤1048576)∧(0≤r.p∧r.p≤4)∧((r.k=2∨r.k=5)→r.v.Ok):=by
 unfold Rec.fault aE at h;split at h
 ·omega
 ·rename_i h1;split at h
  ·omega
  ·rename_i h2;have h1:=AD.1 h1;have h2:=AD.1 h2;refine⟨h1,⟨h2.1,h2.2.1⟩,⟨h2.2.2.1,h2.2.2.2.1⟩,h2.2.2.2.2,fun hk=> ?_⟩;rw[Ae hk]at h;exact h
theorem NK{rs:List Rec}(h:∀r∈rs,pX r):∀x∈aD rs,(Lit.int .i64 x).wf=true:=fun x hx=>by
 obtain⟨r,hr,hx⟩:=List.mem_flatMap.1 hx;have hb:=LZ (h r hr).1;have hv:∀x∈bf r.v,(Lit.int .i64 x).wf=true:=by
  by_cases hk:r.k=2∨r.k=5
  ·exact Y2 (hb.2.2.2.2 hk)
  ·rw[(h r hr).2 hk];intro x hx;simp only[bf,List.mem_cons,List.not_mem_nil,or_false,or_self]at hx;rw[hx];decide
 have:=pJ (q:=r.q.toNat) (k:=r.k) (ep:=r.e) (pe:=r.p) (e:=r.v) hb.1 (by omega) hb.2.2.1 hb.2.2.2.1 hv;rw[Bh hb.2.1.1]at this;exact this x hx
structure GL(rs:List Rec)(Bs:Nat→Bt):Prop where
 f:∀r∈rs,pX r
 b:kV (lz gb) 0 rs=(some (lz Bs),0,0)
theorem NL:∀(l m:List Rec) (S S':List Bt) (i:Nat),kV S i l=(some S',0,0)→kV S i (l++m)=kV S' (i+l.length) m
 |[],m,S,S',i,h=>by
  unfold kV at h;have:S=S':=by injection h with h1 h2;injection h1
  subst this;rfl
 |r::l,m,S,S',i,h=>by
  rw[List.cons_append];show(if ¬r.fault=0 then(none,i,r.fault)else match ew (At S r) r with|(D,e)=>if e=0 then kV (put S r D) (i+1) (l++m)else(none,i,e))=_;unfold kV at h;split at h
  ·cases h
  ·rename_i hf;rw[Aa hf];cases ha:ew (At S r) r with
   |mk D e=>
    rw[ha]at h;simp only at h⊢;split at h
    ·rename_i he;rw[Ae he,NL l m _ S' (i+1) h,List.length_cons,show i+(l.length+1)=i+1+l.length by omega]
    ·cases h
theorem X4{S:List Bt}{i:Nat}{r:Rec}{D:Bt}(hf:r.fault=0)(ha:ew (At S r) r=(D,0)):kV S i [r]=(some (put S r D),0,0):=by
 unfold kV;rw[Aa (fun h=>h hf),ha];rfl
theorem GL.snoc{rs:List Rec}{Bs:Nat→Bt}(h:GL rs Bs){r:Rec}{q:Nat}{D:Bt}(hr:pX r)(hq:q<4)(e:r.q=q)(ha:ew (Bs q) r=(D,0)):GL (rs++[r]) (ak Bs q D):=by
 refine⟨fun x hx=>(Ah.1 hx).elim (h.f x) fun hx=>by rw[Ab.1 hx];exact hr, ?_⟩;rw[NL rs [r] _ _ 0 h.b,X4 hr.1 (by rw[S1 Bs r q hq e];exact ha),Nf Bs r D q hq e];rfl
theorem jl{α:Type}(f:Nat→α)(q:Nat)(x y:α):ak (ak f q x) q y=ak f q y:=by
 funext p;by_cases e:p=q
 ·rw[e,aj,aj]
 ·rw[aI e,aI e,aI e]
theorem GL.runs{q:Nat}(hq:q<4):∀{l:List Rec} {B D:Bt},ik B l D→(∀r∈l,pX r∧r.q=q)→∀{rs:List Rec} {Bs:Nat→Bt},GL rs Bs→Bs q=B→GL (rs++l) (ak Bs q D):=by
 intro l B D h
 induction h with
 |nil B=>
  intro _ rs Bs hm e;rw[Au,←e,eO];exact hm
 |cons hf ha h ih=>
  rename_i B D E r l;intro hr rs Bs hm e;have h1:=hm.snoc (hr r Aq).1 hq (hr r Aq).2 (by rw[e];exact ha);have h2:=ih (fun x hx=>hr x (Az _ hx)) h1 (aj ..);rw[jl]at h2;rw[show rs++r::l=rs++[r]++l by simp];exact h2
theorem ik.cut{B D:Bt}{l:List Rec}(h:ik B l D):∀j,∃E,ik B (l.take j) E:=by
 induction h with
 |nil B=>intro j;exact⟨B,by rw[List.take_nil];exact .nil B⟩
 |cons hf ha h ih=>
  intro j;cases j with
  |zero=>exact⟨_,.nil _⟩
  |succ j=>
   obtain⟨E,hE⟩:=ih j;exact⟨E,.cons hf ha hE⟩
theorem iB{B D:Bt}{r:Rec}(h:ew B r=(D,0)):B.Ok∧r.fault=0∧cF B r=some D∧D.Ok:=by
 unfold ew at h;by_cases h1:B.Ok
 ·rw[Aa (fun g=>g h1)]at h;by_cases h2:r.fault=0
  ·rw[Aa (fun g=>g h2)]at h;cases hd:cF B r with
   |none=>rw[hd]at h;cases h
   |some E=>
    rw[hd]at h;simp only at h;by_cases h3:E.Ok
    ·rw[Ae h3]at h;cases h;exact⟨h1,h2,rfl,h3⟩
    ·rw[Aa h3]at h;cases h
  ·rw[Ae h2]at h;exact absurd (AR h).2 h2
 ·rw[Ae h1]at h;cases h
theorem GM{B D:Bt}{r:Rec}(hB:¬B.r=2)(h:cF B r=some D):¬D.r=2:=by
 unfold cF at h;split at h
 ·split at h
  ·cases h;show ¬(1:Int)=2;decide
  ·cases h
 ·split at h
  ·split at h
   ·cases h;exact hB
   ·cases h
  ·split at h
   ·split at h
    ·cases h;show ¬(3:Int)=2;decide
    ·cases h
   ·split at h
    ·split at h
     ·cases h;unfold aP;split
      ·show ¬(0:Int)=2;decide
      ·split
       ·show ¬(0:Int)=2;decide
       ·split
        ·show ¬(0:Int)=2;decide
        ·split
         ·exact hB
         ·split
          ·show ¬(0:Int)=2;decide
          ·show ¬(4:Int)=2;decide
     ·cases h
    ·split at h
     ·split at h
      ·cases h;exact hB
      ·cases h
     ·split at h
      ·split at h
       ·cases h;show ¬(1:Int)=2;decide
       ·cases h
      ·split at h
       ·cases h;show ¬(0:Int)=2;decide
       ·cases h
theorem NM:∀(l:List Rec) (S S':List Bt) (i:Nat),S.length=4→(∀B∈S,B.Ok∧¬B.r=2)→kV S i l=(some S',0,0)→∀B∈S',B.Ok∧¬B.r=2
 |[],S,S',i,_,h,e=>by
  unfold kV at e;have:S=S':=by injection e with h1 h2;injection h1
  subst this;exact h
 |r::l,S,S',i,hl,h,e=>by
  unfold kV at e;split at e
  ·cases e
  ·rename_i hf;cases ha:ew (At S r) r with
   |mk D er=>
    rw[ha]at e;simp only at e;split at e
    ·rename_i he;subst he;obtain⟨_,h2,h3,h4⟩:=iB ha;exact NM l _ S' (i+1) (by rw[rH];exact hl) (uX h ⟨h4,GM (h _ (at_mem hl h2)).2 h3⟩) e
    ·cases e
theorem GL.all{rs:List Rec}{Bs:Nat→Bt}(h:GL rs Bs):∀q,q<4→(Bs q).Ok∧¬(Bs q).r=2:=
 (aa0 Bs (fun B=>B.Ok∧¬B.r=2)).1 (NM rs _ _ 0 rfl ((aa0 gb (fun B=>B.Ok∧¬B.r=2)).2 fun _ _=>⟨Bt.dx,by show ¬(0:Int)=2;decide⟩) h.b)
theorem GL.nil:GL [] gb:=⟨(fun _ h=>by cases h),rfl⟩
def Lts(l:List Rec):Prop:=(∀r∈l,r.k=2∨r.k=5∨r.k=6)∨∀r∈l,¬jY r
theorem Lts.take{l:List Rec}(h:Lts l)(j:Nat):Lts (l.take j):=h.imp (fun h r hr=>h r (AJ hr)) fun h r hr=>h r (AJ hr)
theorem Qz{B D:Bt}{r:Rec}(hk:r.k=2∨r.k=5∨r.k=6)(h:cF B r=some D):0<D.es.length:=by
 unfold cF at h;split at h
 ·omega
 ·split at h
  ·split at h
   ·cases h;simp[Bt.more]
   ·cases h
  ·split at h
   ·omega
   ·split at h
    ·omega
    ·split at h
     ·split at h
      ·cases h;simp[Bt.more]
      ·cases h
     ·split at h
      ·split at h
       ·cases h;simp
       ·cases h
      ·omega
theorem ik.more{B D:Bt}{l:List Rec}(h:ik B l D):(∀r∈l,r.k=2∨r.k=5∨r.k=6)→l≠[]→0<D.es.length:=by
 induction h with
 |nil B=>intro _ h;exact absurd rfl h
 |cons hf ha h ih=>
  rename_i B D E r l;intro hk _;by_cases hl:l=[]
  ·subst hl;rw[h.nil_eq];exact Qz (hk r Aq) (iB ha).2.2.1
  ·exact ih (fun x hx=>hk x (Az _ hx)) hl
theorem ik.late{B D:Bt}{l:List Rec}(h:ik B l D)(hl:Lts l):∀r∈l,jY r→0<D.es.length:=fun r hr Oz=>by
 rcases hl with hl|hl
 ·exact h.more hl (List.ne_nil_of_mem hr)
 ·exact absurd Oz (hl r hr)
def tb(B:Bt):Bt:=if B.r=2 then⟨1,B.e,0,0,0,B.es⟩else B
theorem si{B:Bt}(h:B.r=2):tb B=⟨1,B.e,0,0,0,B.es⟩:=Ae h
theorem gK{B:Bt}(h:¬B.r=2):tb B=B:=Aa h
theorem NN{B:Bt}(ok:B.Ok):(tb B).Ok:=by
 by_cases h:B.r=2
 ·rw[si h];have hs:=ok.cG;unfold Bt.b_ bg at hs;exact⟨.inr (.inl ⟨rfl,by show 1≤B.e;omega,by show B.e≤1048576;omega,rfl,rfl,rfl⟩),ok.len,ok.told⟩
 ·rw[gK h];exact ok
def AfP(mo:Nat→Bt)(q:Nat)(D:Bt):Af→Prop
 | .serve l an=>l.q=q∧((mo q).r=1∨(mo q).r=2)∧cY (mo q) l.op ((mo q).more [l.op]) an true 0∧D=tb ((mo q).more [l.op])
 | .begin l B=>l.q=q∧¬(mo q).r=1∧D=B
 | .shut l B=>l.q=q∧¬(mo q).r=1∧D=B
 | .take l B=>l.q=q∧¬(mo q).r=1∧D=B
 | .fA p B=>p=q∧¬(mo q).r=1∧D=B
structure Pd(mo:Nat→Bt)(a:Af)(rs:List Rec)(q:Nat)(D:Bt):Prop where
 q4:q<4
 ok:∀r∈rs,pX r∧r.q=q
 run:ik (tb (mo q)) rs D
 lt:Lts rs
 one:rs.length=1∨∀r∈rs,r.k=5∨r.k=6
 af:AfP mo q D a
def Pds(n:Nd)(rs:List Rec):Prop:=(n.af=none∧rs=[])∨∃a q D,n.af=some a∧Pd n.mo a rs q D
structure Up(n:Nd):Prop where
 mo:∀q,q<4→(n.mo q).Ok
 ex:∃dJ dC Bs,n.dl=cp dJ++cp dC∧n.sy=(((cp dJ).length:Nat):Int)∧GL dJ Bs∧(∀q,q<4→Bs q=tb (n.mo q))∧Pds n dC
theorem Up.congr{n n':Nd}(h:Up n)(h1:n'.dl=n.dl)(h2:n'.sy=n.sy)(h3:n'.mo=n.mo)(h4:n'.af=n.af):Up n':=by
 obtain⟨dJ,dC,Bs,e1,e2,e3,e4,e5⟩:=h.ex;refine⟨by rw[h3];exact h.mo,dJ,dC,Bs,by rw[h1];exact e1,by rw[h2];exact e2,e3,by rw[h3];exact e4, ?_⟩;unfold Pds at e5⊢;rw[h3,h4];exact e5
theorem Up.turn{n:Nd}(h:Up n)(ha:n.af=none){q:Nat}{B:Bt}(hq:q<4)(ok:B.Ok)(ht:tb B=tb (n.mo q)):Up {n with mo:=ak n.mo q B}:=by
 obtain⟨dJ,dC,Bs,e1,e2,e3,e4,e5⟩:=h.ex;refine⟨fun p hp=> ?_,dJ,dC,Bs,e1,e2,e3,fun p hp=> ?_, ?_⟩
 ·by_cases e:p=q
  ·rw[e];show(ak n.mo q B q).Ok;rw[aj];exact ok
  ·show(ak n.mo q B p).Ok;rw[aI e];exact h.mo p hp
 ·by_cases e:p=q
  ·rw[e];show _=tb (ak n.mo q B q);rw[aj,ht];exact e4 q hq
  ·show _=tb (ak n.mo q B p);rw[aI e];exact e4 p hp
 ·rcases e5 with e5|⟨a,q',D,h1,_⟩
  ·exact .inl e5
  ·rw[ha]at h1;cases h1
theorem Up.write{n n':Nd}(h:Up n)(ha:n.af=none){a:Af}{rs:List Rec}{q:Nat}{D:Bt}(p:Pd n.mo a rs q D)(hw:lC n a rs=some n'):Up n':=by
 unfold lC at hw;split at hw
 ·cases hw;obtain⟨dJ,dC,Bs,e1,e2,e3,e4,e5⟩:=h.ex;have e0:dC=[]:=by
   rcases e5 with e5|⟨a,q',D,h1,_⟩
   ·exact e5.2
   ·rw[ha]at h1;cases h1
  subst e0;refine⟨h.mo,dJ,rs,Bs, ?_,e2,e3,e4,.inr ⟨a,q,D,rfl,p⟩⟩;show n.dl++cp rs=_;rw[e1];simp[cp]
 ·cases hw
theorem X5{n:Nd}{o:Option Nd}(h:Up n)(ho:∀n',o=some n'→Up n'):Up (o.getD n):=by
 cases o with
 |none=>exact h
 |some x=>exact ho x rfl
theorem Up.sync{n:Nd}{s:Ws}{a:Af}(h:Up n)(ha:n.af=some a):Up (fm {n with sy:=n.dl.length,af:=none} s a).1:=by
 obtain⟨dJ,dC,Bs,e1,e2,e3,e4,e5⟩:=h.ex;rcases e5 with e5|⟨a',q,D,h1,p⟩
 ·rw[ha]at e5;cases e5.1
 rw[ha]at h1;cases h1;have hm:=GL.runs p.q4 p.run p.ok e3 (e4 q p.q4);have hD:=hm.all q p.q4;rw[aj]at hD;have fin:∀B:Bt,B.Ok→tb B=D→Up {n with sy:=n.dl.length,af:=none,mo:=ak n.mo q B}:=fun B okB hB=>by
  refine⟨fun i hi=> ?_,dJ++dC,[],ak Bs q D, ?_, ?_,hm,fun i hi=> ?_,.inl ⟨rfl,rfl⟩⟩
  ·by_cases e:i=q
   ·rw[e];show(ak n.mo q B q).Ok;rw[aj];exact okB
   ·show(ak n.mo q B i).Ok;rw[aI e];exact h.mo i hi
  ·show n.dl=_;rw[e1,kK];simp[cp]
  ·show(n.dl.length:Int)=_;rw[e1,kK]
  ·by_cases e:i=q
   ·rw[e];show ak Bs q D q=tb (ak n.mo q B q);rw[aj,aj,hB]
   ·show ak Bs q D i=tb (ak n.mo q B i);rw[aI e,aI e];exact e4 i hi
 cases a with
 |serve l an=>
  obtain⟨rfl,h2,h3,h4⟩:=p.af;have:=fin ((n.mo l.q).more [l.op]) (CC h3 (h.mo _ p.q4)) h4.symm;show Up {n with sy:=n.dl.length,af:=none,mo:=ak n.mo l.q (bD (n.mo l.q) l.op).1};rw[eV h3];exact this
 |begin l B=>
  obtain⟨rfl,h2,rfl⟩:=p.af;exact fin D hD.1 (gK hD.2)
 |shut l B=>
  obtain⟨rfl,h2,rfl⟩:=p.af;exact fin D hD.1 (gK hD.2)
 |take l B=>
  obtain⟨rfl,h2,rfl⟩:=p.af;exact fin D hD.1 (gK hD.2)
 |fA p' B=>
  obtain⟨rfl,h2,rfl⟩:=p.af;exact fin D hD.1 (gK hD.2)
theorem L0{B:Bt}{v:Ev}(h:(bD B v).2.2.1=true):cY B v (B.more [v]) (bD B v).2.1 true 0∧(B.r=1∨B.r=2):=by
 unfold bD at h⊢;split at h
 ·rename_i hx;rw[dif_pos hx];have hs:=hx.choose_spec;generalize hx.choose=x at*;obtain⟨B',an,k,er⟩:=x;simp only at hs h⊢;subst h;cases hs with
  |done h1 h2 h3 h4 s bu ht s' _ st hl=>exact⟨.done h1 h2 h3 h4 s bu ht s' _ st hl,h4⟩
 ·cases h
theorem UI{n:Nd}{l:Lt}(hq:l.q<4)(ok:(n.mo l.q).Ok)(h:(bD (n.mo l.q) l.op).2.2.1=true):Pd n.mo (.serve l (bD (n.mo l.q) l.op).2.1) [⟨2,l.q,(n.mo l.q).e,0,l.op⟩] l.q (tb ((n.mo l.q).more [l.op])):=by
 obtain⟨hs,hr⟩:=L0 h;have hv:=Jr hs;have gV:=jV ok.cG;have Xp:=ok.cG;unfold Bt.b_ bg at Xp;have he:1≤(n.mo l.q).e∧(n.mo l.q).e≤1048576:=by omega
 have hf:(⟨2,l.q,(n.mo l.q).e,0,l.op⟩:Rec).fault=0:=CS ⟨by omega,by omega⟩ he hv;have hD:(tb ((n.mo l.q).more [l.op])).Ok:=NN (CC hs ok);refine⟨hq,fun r hr=> ?_,.one hf (fI (NN ok) hf ?_ hD),.inl fun r hr=> ?_,.inl rfl,rfl,hr,hs,rfl⟩
 ·rw[Ab.1 hr];exact⟨⟨hf,fun hk=>absurd (.inl rfl) hk⟩,rfl⟩
 ·have hd:∀B:Bt,B.r=1→B.e=(n.mo l.q).e→cF B ⟨2,l.q,(n.mo l.q).e,0,l.op⟩=some (B.more [l.op]):=fun B h1 h2=>by
   unfold cF;rw[Aa (by show ¬(2:Int)=1;decide),Ae rfl,Ae ⟨rfl,h2,h1⟩]
  rcases hr with hr|hr
  ·rw[gK (show ¬(n.mo l.q).r=2 by omega),gK (show ¬((n.mo l.q).more [l.op]).r=2 by show ¬(n.mo l.q).r=2;omega)];exact hd _ hr rfl
  ·rw[si (show(n.mo l.q).r=2 from hr),si (show((n.mo l.q).more [l.op]).r=2 from hr)];exact hd _ rfl rfl
 ·rw[Ab.1 hr];exact .inl rfl
theorem UJ{n:Nd}{l:Lt}(hq:l.q<4)(ok:(n.mo l.q).Ok)(h:(aP (n.mo l.q) l.ep l.fr).2=0):Pd n.mo (.begin l (aP (n.mo l.q) l.ep l.fr).1) [⟨4,l.q,l.ep,l.fr,mB⟩] l.q (aP (n.mo l.q) l.ep l.fr).1:=by
 have hb:aP (n.mo l.q) l.ep l.fr=((aP (n.mo l.q) l.ep l.fr).1,0):=Prod.ext rfl h;obtain⟨he,Ka,hf4⟩:=Jp hb;have hD:=Jq hb;have hr:¬((n.mo l.q).r=1∨(n.mo l.q).r=2∨(n.mo l.q).r=3):=fun hr=>by
  unfold aP at h;rw[Aa (fun g=>g ok),Aa (fun g=>g ⟨he,Ka,hf4⟩),Ae hr]at h;cases h
 have hf:(⟨4,l.q,l.ep,l.fr,mB⟩:Rec).fault=0:=LY ⟨by omega,by omega⟩ he ⟨Ka,hf4⟩;refine⟨hq,fun r hr=> ?_,.one hf (fI (NN ok) hf ?_ hD),.inr fun r hr=> ?_,.inl rfl,rfl,fun e=>hr (.inl e),rfl⟩
 ·rw[Ab.1 hr];exact⟨⟨hf,fun _=>rfl⟩,rfl⟩
 ·rw[gK (fun e=>hr (.inr (.inl e)))];unfold cF;rw[Aa (by show ¬(4:Int)=1;decide),Aa (by show ¬(4:Int)=2;decide),Aa (by show ¬(4:Int)=3;decide),Ae rfl,Ae h]
 ·rw[Ab.1 hr];unfold jY;show ¬((4:Int)=2∨(4:Int)=6);decide
theorem ml{B:Bt}{hv:Int}(ok:B.Ok)(h:(aL B hv).2=0):(B.r=2∨B.r=3)∧((B.r=3∧(aL B hv).1=B)∨(B.r=2∧(aL B hv).1=⟨3,B.e,B.f,B.t,0,B.es⟩)∨(B.r=2∧(aL B hv).1=⟨B.r,B.e,B.f,B.t,B.o+1,B.es⟩)):=by
 have ht:dA B hv=0:=by
  by_cases ht:dA B hv=0
  ·exact ht
  ·unfold aL at h;rw[Ae ht]at h;exact absurd h ht
 have hr:B.r=2∨B.r=3:=by
  unfold dA at ht;rw[Aa (fun g=>g ok)]at ht;split at ht
  ·cases ht
  ·rename_i g;exact AD.1 g
 refine⟨hr, ?_⟩;unfold aL;rw[Aa (fun g=>g ht)];by_cases h3:B.r=3
 ·rw[Ae h3];exact .inl ⟨h3,rfl⟩
 ·rw[Aa h3];have h2:B.r=2:=by omega
  split
  ·exact .inr (.inl ⟨h2,rfl⟩)
  ·exact .inr (.inr ⟨h2,rfl⟩)
theorem X6{n:Nd}{l:Lt}(hq:l.q<4)(ok:(n.mo l.q).Ok)(h:(aL (n.mo l.q) l.pl).2=0)(hr:¬(aL (n.mo l.q) l.pl).1.r=(n.mo l.q).r):Pd n.mo (.shut l (aL (n.mo l.q) l.pl).1) [⟨3,l.q,(n.mo l.q).e,(n.mo l.q).t,mB⟩] l.q (aL (n.mo l.q) l.pl).1:=by
 have hD:(aL (n.mo l.q) l.pl).1.Ok:=oN (er:=(aL (n.mo l.q) l.pl).2) rfl;have hs:=ok.cG;unfold Bt.b_ bg at hs;obtain⟨_,⟨_,e⟩|⟨h2,e⟩|⟨_,e⟩⟩:=ml ok h
 ·rw[e]at hr;exact absurd rfl hr
 ·have hf:(⟨3,l.q,(n.mo l.q).e,(n.mo l.q).t,mB⟩:Rec).fault=0:=LW ⟨by omega,by omega⟩ (by omega) (by omega);refine⟨hq,fun r hr=> ?_,.one hf (fI (NN ok) hf ?_ hD),.inr fun r hr=> ?_,.inl rfl,rfl,by omega,rfl⟩
  ·rw[Ab.1 hr];exact⟨⟨hf,fun _=>rfl⟩,rfl⟩
  ·rw[si h2,e];unfold cF;rw[Aa (by show ¬(3:Int)=1;decide),Aa (by show ¬(3:Int)=2;decide),Ae rfl,Ae ⟨rfl,rfl⟩];have:(n.mo l.q).f=0:=by omega
   rw[this]
  ·rw[Ab.1 hr];unfold jY;show ¬((3:Int)=2∨(3:Int)=6);decide
 ·rw[e]at hr;exact absurd rfl hr
theorem pM{B:Bt}{ep:Int}(h:(bp B ep).2=0):B.r=3∧(bp B ep).1=⟨0,B.e,0,0,0,[]⟩:=by
 unfold bp at h⊢;by_cases h1:B.Ok
 ·rw[Aa (fun g=>g h1)]at h⊢;by_cases h2:B.r=3
  ·rw[Aa (fun g=>g h2)]at h⊢;by_cases h3:ep≤B.e
   ·rw[Ae h3]at h;cases h
   ·rw[Aa h3];exact⟨h2,rfl⟩
  ·rw[Ae h2]at h;cases h
 ·rw[Ae h1]at h;cases h
theorem UK{mo:Nat→Bt}{q:Nat}{ep:Int}(hq:q<4)(ok:(mo q).Ok)(h:(bp (mo q) ep).2=0):Pd mo (.fA q (bp (mo q) ep).1) [⟨7,q,(bp (mo q) ep).1.e,0,mB⟩] q (bp (mo q) ep).1:=by
 obtain⟨h3,e⟩:=pM h;obtain⟨hf,ha⟩:=GK (q:=q) ⟨by omega,by omega⟩ ok h3;rw[e];refine⟨hq,fun r hr=> ?_,.one hf (by rw[gK (by omega)];exact ha),.inr fun r hr=> ?_,.inl rfl,rfl,by omega,rfl⟩
 ·rw[Ab.1 hr];exact⟨⟨hf,fun _=>rfl⟩,rfl⟩
 ·rw[Ab.1 hr];unfold jY;show ¬((7:Int)=2∨(7:Int)=6);decide
theorem CV{q:Int}(hq:0≤q∧q≤3):∀(l:List Ev) (B:Bt),B.r=4→B.Ok→(B.more l).Ok→ik B (l.map fun e=>(⟨5,q,B.e,0,e⟩:Rec)) (B.more l)∧∀e∈l,e.Ok
 |[],B,_,_,_=>⟨by rw[show B.more []=B by unfold Bt.more;rw[Au]];exact .nil B,fun e he=>by cases he⟩
 |x::l,B,hr,ok,hm=>by
  obtain⟨s,bu,ht⟩:=hm.told;have hlen:=hm.len;have YN:bz (B.es++x::l) s bu:=ht;have Hg:(B.es++x::l).length≤2000:=hlen;have J7:(B.es++x::l).length=B.es.length+(l.length+1):=by simp
  obtain⟨s0,h0⟩:=YN.take B.es.length (by omega);obtain⟨s1,an,st,hv⟩:=YN.step (k:=B.es.length) (by omega) h0;have hx:(B.es++x::l)[B.es.length]'(by omega)=x:=by simp
  rw[hx]at st hv;obtain⟨s2,h2⟩:=YN.take (B.es.length+1) (by omega);have e2:(B.es++x::l).take (B.es.length+1)=B.es++[x]:=by
   rw[show B.es++x::l=(B.es++[x])++l by simp,Ci (by simp)]
  rw[e2]at h2;have hs:=ok.cG;unfold Bt.b_ bg at hs;have rJ:(B.more [x]).Ok:=⟨.inr (.inr (.inr (.inr ⟨hr,by show 1≤B.e∧_;simp only[Bt.more];omega⟩))),by show(B.es++[x]).length≤2000;simp;omega,_,_,h2⟩;have em:(B.more [x]).more l=B.more (x::l):=by simp[Bt.more]
  obtain⟨ih,ihv⟩:=CV hq l (B.more [x]) hr rJ (by rw[em];exact hm);rw[em]at ih;have hf:(⟨5,q,B.e,0,x⟩:Rec).fault=0:=tw hq (by omega) hv;refine⟨.cons hf (fI ok hf ?_ rJ) ih,fun e he=> ?_⟩
  ·unfold cF;rw[Aa (by show ¬(5:Int)=1;decide),Aa (by show ¬(5:Int)=2;decide),Aa (by show ¬(5:Int)=3;decide),Aa (by show ¬(5:Int)=4;decide),Ae rfl,Ae ⟨rfl,rfl,hr⟩]
  ·rcases BI.1 he with rfl|he
   ·exact hv
   ·exact ihv e he
theorem pN{B:Bt}{ep ya:Int}{l:List Ev}{la:Bool}(h:(a_ B ep ya l la).2=0):B.Ok∧B.r=4∧(a_ B ep ya l la).1.Ok∧∃new,(a_ B ep ya l la).1=if la then(B.more new).broken else B.more new:=by
 unfold a_ at h⊢;by_cases h1:B.Ok
 ·rw[Aa (fun g=>g h1)]at h⊢;by_cases h2:B.r=4
  ·rw[Aa (fun g=>g h2)]at h⊢;split at h
   ·cases h
   ·rename_i g3;rw[Aa g3];split at h
    ·cases h
    ·rename_i g4;rw[Aa g4];split at h
     ·cases h
     ·rename_i g5;rw[Aa g5];by_cases g6:(if la then(B.more (l.drop (B.es.length-ya.toNat))).broken else B.more (l.drop (B.es.length-ya.toNat))).Ok
      ·rw[Aa (fun g=>g g6)];exact⟨h1,h2,g6,_,rfl⟩
      ·rw[Ae g6]at h;cases h
  ·rw[Ae h2]at h;cases h
 ·rw[Ae h1]at h;cases h
theorem X7{n:Nd}{l:Lt}(hq:l.q<4)(h:(a_ (n.mo l.q) l.ep l.pl l.es l.la).2=0):Pd n.mo (.take l (a_ (n.mo l.q) l.ep l.pl l.es l.la).1) (dz l.q (a_ (n.mo l.q) l.ep l.pl l.es l.la).1 (n.mo l.q).es.length) l.q (a_ (n.mo l.q) l.ep l.pl l.es l.la).1:=by
 obtain⟨ok,hr,hD,new,e⟩:=pN h;generalize(a_ (n.mo l.q) l.ep l.pl l.es l.la).1=D at*;have hs:=ok.cG;unfold Bt.b_ bg at hs;have xX:(0:Int)≤(l.q:Int)∧(l.q:Int)≤3:=⟨by omega,by omega⟩;cases Fh:l.la with
 |false=>
  rw[Fh]at e;have e:D=(n.mo l.q).more new:=e;obtain⟨sV,KK⟩:=CV xX new (n.mo l.q) hr ok (e▸hD);have hi:dz l.q D (n.mo l.q).es.length=new.map fun x=>(⟨5,l.q,(n.mo l.q).e,0,x⟩:Rec):=by
   unfold dz;rw[e,Aa (by show ¬(n.mo l.q).r=1;omega)];simp only[Bt.more];rw[List.drop_left' rfl]
  rw[hi];refine⟨hq,fun r hm=> ?_,by rw[gK (by omega),e];exact sV,.inl fun r hm=> ?_,.inr fun r hm=> ?_,rfl,by omega,rfl⟩
  ·obtain⟨x,hx,rfl⟩:=Ay.1 hm;exact⟨⟨tw xX (by omega) (KK x hx),fun hk=>absurd (.inr rfl) hk⟩,rfl⟩
  ·obtain⟨x,hx,rfl⟩:=Ay.1 hm;exact .inr (.inl rfl)
  ·obtain⟨x,hx,rfl⟩:=Ay.1 hm;exact .inl rfl
 |true=>
  rw[Fh]at e;have e:D=((n.mo l.q).more new).broken:=e;have adw:((n.mo l.q).more new).Ok:=by
   obtain⟨s,bu,ht⟩:=hD.told;have hlen:=hD.len;rw[e]at ht hlen;have ht:bz (((n.mo l.q).es++new)++[Ev.brk]) s bu:=ht;have hlen:(((n.mo l.q).es++new)++[Ev.brk]).length≤2000:=hlen;obtain⟨s0,h0⟩:=ht.take ((n.mo l.q).es++new).length (by simp);rw[Ci rfl]at h0;have wI:((n.mo l.q).es++new).length≤2000:=by
    rw[Ag]at hlen;omega
   exact⟨.inr (.inr (.inr (.inr (by simp only[Bt.more];omega)))),wI,s0,_,h0⟩
  obtain⟨sV,KK⟩:=CV xX new (n.mo l.q) hr ok adw;have hf:(⟨6,l.q,(n.mo l.q).e,0,mB⟩:Rec).fault=0:=LX xX (by omega);have hi:dz l.q D (n.mo l.q).es.length=(new.map fun x=>(⟨5,l.q,(n.mo l.q).e,0,x⟩:Rec))++[⟨6,l.q,(n.mo l.q).e,0,mB⟩]:=by
   unfold dz;rw[e,Ae (show((n.mo l.q).more new).broken.r=1 from rfl)];simp only[Bt.broken,Bt.more];rw[AA,List.drop_left' rfl,List.dropLast_concat]
  have ha:ew ((n.mo l.q).more new) ⟨6,l.q,(n.mo l.q).e,0,mB⟩=(D,0):=by
   refine fI adw hf ?_ hD;unfold cF;rw[Aa (by show ¬(6:Int)=1;decide),Aa (by show ¬(6:Int)=2;decide),Aa (by show ¬(6:Int)=3;decide),Aa (by show ¬(6:Int)=4;decide),Aa (by show ¬(6:Int)=5;decide),Ae rfl,Ae ⟨rfl,rfl,hr⟩,e];have h1:(n.mo l.q).t=0:=by omega
   have h2:(n.mo l.q).o=0:=by omega
   simp only[Bt.broken,Bt.more,h1,h2]
  rw[hi];refine⟨hq,fun r hm=> ?_,by rw[gK (by omega)];exact sV.snoc hf ha,.inl fun r hm=> ?_,.inr fun r hm=> ?_,rfl,by omega,rfl⟩
  ·rcases Ah.1 hm with hm|hm
   ·obtain⟨x,hx,rfl⟩:=Ay.1 hm;exact⟨⟨tw xX (by omega) (KK x hx),fun hk=>absurd (.inr rfl) hk⟩,rfl⟩
   ·rw[Ab.1 hm];exact⟨⟨hf,fun _=>rfl⟩,rfl⟩
  ·rcases Ah.1 hm with hm|hm
   ·obtain⟨x,hx,rfl⟩:=Ay.1 hm;exact .inr (.inl rfl)
   ·rw[Ab.1 hm];exact .inr (.inr rfl)
  ·rcases Ah.1 hm with hm|hm
   ·obtain⟨x,hx,rfl⟩:=Ay.1 hm;exact .inl rfl
   ·rw[Ab.1 hm];exact .inr rfl
theorem adx{n n':Nd}{a:Af}{rs:List Rec}(h:lC n a rs=some n'):n'.up=n.up∧n'.i=n.i∧n'.sk=n.sk∧n'.ct=n.ct:=by
 unfold lC at h;split at h
 ·cases h;exact⟨rfl,rfl,rfl,rfl⟩
 ·cases h
theorem pO{n:Nd}{s:Ws}{l:Lt}(h:Up n)(ha:n.af=none)(hw:eY l):Up (bm n s l).1∧(bm n s l).1.up=n.up∧(bm n s l).1.i=n.i∧(bm n s l).1.sk=n.sk∧(bm n s l).1.ct=n.ct:=by
 have hq:=hw.q;have ok:=h.mo l.q hq;have same:Up n∧n.up=n.up∧n.i=n.i∧n.sk=n.sk∧n.ct=n.ct:=⟨h,rfl,rfl,rfl,rfl⟩;have wr:∀{m:Nd} {a:Af} {rs:List Rec} {D:Bt},Up m→m.af=none→m.up=n.up→m.i=n.i→m.sk=n.sk→m.ct=n.ct→Pd m.mo a rs l.q D→Up ((lC m a rs).getD m)∧((lC m a rs).getD m).up=n.up∧((lC m a rs).getD m).i=n.i∧((lC m a rs).getD m).sk=n.sk∧((lC m a rs).getD m).ct=n.ct:=fun {m a rs D} hm hma h1 h2 h3 h4 p=>by
  refine⟨X5 hm fun n' hn=>hm.write hma p hn, ?_⟩;cases Ha:lC m a rs with
  |none=>exact⟨h1,h2,h3,h4⟩
  |some x=>
   obtain⟨k1,k2,k3,k4⟩:=adx Ha;exact⟨k1.trans h1,k2.trans h2,k3.trans h3,k4.trans h4⟩
 unfold bm;split
 ·unfold gD;split
  ·exact same
  ·split
   ·exact same
   ·rename_i hk;have hk:(bD (n.mo l.q) l.op).2.2.1=true:=by
     cases hb:(bD (n.mo l.q) l.op).2.2.1 with
     |true=>rfl
     |false=>exact absurd hb hk
    have:=wr h ha rfl rfl rfl rfl (UI hq ok hk);split
    ·rename_i n' hn;rw[hn]at this;exact this
    ·exact same
 ·split
  ·unfold gE;split
   ·exact same
   ·rename_i hb;split
    ·exact same
    ·exact wr h ha rfl rfl rfl rfl (UJ hq ok (AD.1 hb))
  ·split
   ·unfold fj;split
    ·exact same
    ·split
     ·exact same
     ·rename_i hc;have hc:=AD.1 hc;split
      ·rename_i hr;refine⟨h.turn ha hq (oN (er:=(aL (n.mo l.q) l.pl).2) rfl) ?_,rfl,rfl,rfl,rfl⟩;obtain⟨_,⟨_,e⟩|⟨h2,e⟩|⟨h2,e⟩⟩:=ml ok hc
       ·rw[e]
       ·rw[e,h2]at hr;have:(3:Int)=2:=hr;omega
       ·rw[e,si h2,si (show(⟨(n.mo l.q).r,(n.mo l.q).e,(n.mo l.q).f,(n.mo l.q).t,(n.mo l.q).o+1,(n.mo l.q).es⟩:Bt).r=2 from h2)]
      ·rename_i hr;exact wr h ha rfl rfl rfl rfl (X6 hq ok hc hr)
   ·split
    ·unfold takeN;split
     ·exact same
     ·rename_i hi;split
      ·exact same
      ·exact wr h ha rfl rfl rfl rfl (X7 hq (AD.1 hi))
    ·have hm:Up (cV n l):=by
      unfold cV;split
      ·exact h.congr rfl rfl rfl rfl
      ·exact h
     have e:(cV n l).mo=n.mo∧(cV n l).af=n.af∧(cV n l).up=n.up∧(cV n l).i=n.i∧(cV n l).sk=n.sk∧(cV n l).ct=n.ct:=by
      unfold cV;split<;>exact⟨rfl,rfl,rfl,rfl,rfl,rfl⟩
     unfold gF;split
     ·rename_i hf;refine wr hm (e.2.1.trans ha) e.2.2.1 e.2.2.2.1 e.2.2.2.2.1 e.2.2.2.2.2 ?_ (D:=(bp (n.mo l.q) l.pe).1);rw[e.1];exact UK hq ok hf
     ·exact⟨hm,e.2.2.1,e.2.2.2.1,e.2.2.2.2.1,e.2.2.2.2.2⟩
theorem GN:∀(k:Nat) {n:Nd} {s:Ws},Up n→Up (cS k n s).1∧(cS k n s).1.up=n.up∧(cS k n s).1.i=n.i∧(cS k n s).1.sk=n.sk∧(cS k n s).1.ct=n.ct
 |0,n,s,h=>⟨h,rfl,rfl,rfl,rfl⟩
 |k+1,n,s,h=>by
  unfold cS;split
  ·exact GN k (n:={n with tu:=(n.tu+1) % 4}) (h.congr rfl rfl rfl rfl)
  ·exact⟨h.congr rfl rfl rfl rfl,rfl,rfl,rfl,rfl⟩
theorem NO:∀(k:Nat) {n:Nd} {s:Ws},Up n→n.af=none→(∀l∈n.wt,eY l)→Up (cJ k n s).1∧(cJ k n s).1.up=n.up∧(cJ k n s).1.i=n.i∧(cJ k n s).1.sk=n.sk∧(cJ k n s).1.ct=n.ct
 |0,n,s,h,_,_=>GN 4 h
 |k+1,n,s,h,ha,hw=>by
  unfold cJ;split
  ·exact GN 4 h
  ·rename_i l ls kh;have hl:eY l:=hw l (by rw[kh];exact Aq);have hd:=pO (n:={n with wt:=ls}) (s:=s) (l:=l) (h.congr rfl rfl rfl rfl) ha hl;have hk:=(ie {n with wt:=ls} s l).1.2;split
   ·exact hd
   ·rename_i hs;have JL:(bm {n with wt:=ls} s l).1.af=none:=by
     cases hx:(bm {n with wt:=ls} s l).1.af with
     |none=>rfl
     |some x=>rw[hx]at hs;exact absurd rfl hs
    obtain⟨h1,h2,h3,h4,h5⟩:=NO k (s:=(bm {n with wt:=ls} s l).2) hd.1 JL (fun x hx=>hw x (by rw[hk]at hx;rw[kh];exact Az _ hx));exact⟨h1,h2.trans hd.2.1,h3.trans hd.2.2.1,h4.trans hd.2.2.2.1,h5.trans hd.2.2.2.2⟩
theorem Steps.Wb{b:tG}{k:Nat}{rs:List (List Int)}(h:Steps b k rs):∀{k':Nat} {Y9:List (List Int)},Steps b k' Y9→Y9.length=rs.length→k'=k∧Y9=rs:=by
 induction h with
 |start=>
  intro k' Y9 h' hl;cases h' with
  |start=>exact⟨rfl,rfl⟩
  |more h1 hu=>simp at hl
 | @more k m rs zs h hu ih=>
  intro k' Y9 h' hl;cases h' with
  |start=>simp at hl
  | @more k2 m2 dC zs2 h2 hu2=>
   obtain⟨rfl,rfl⟩:=ih h2 (by simpa using hl);rw[hu]at hu2;cases hu2;exact⟨rfl,rfl⟩
theorem QA(dJ dC:List (List Int))(hg:∀z∈dJ++dC,mj z)(k:Nat)(Xh:(aQ dJ).length≤k)(hk:k≤(aQ (dJ++dC)).length):∃j,bB ((aQ (dJ++dC)).take k)=(dJ++dC.take j,(aQ (dJ++dC.take j)).length)∧(aQ (dJ++dC.take j)).length≤k:=by
 have hs:=(pK ((aQ (dJ++dC)).take k)).1;have hb:=(gN ((aQ (dJ++dC)).take k)).2;rw[AM]at hb;obtain⟨more,h2,-⟩:=Qa (dJ++dC) hg k hk;have h1:Steps (aQ (dJ++dC)) (bB ((aQ (dJ++dC)).take k)).2 (bB ((aQ (dJ++dC)).take k)).1:=hs.same (by rw[BQ,BG (by omega)]);have h3:Steps ((aQ (dJ++dC)).take k) (aQ dJ).length dJ:=by
  have:=vw dJ (aQ dC) (fun z hz=>hg z (Ah.2 (.inl hz)));rw[←pW]at this;exact this.same (by rw[BQ,BG Xh])
 obtain⟨m1,h4,_,_⟩:=h3.prefix;have hp:dC=m1++more:=by
  rw[h4,AA]at h2;exact List.append_cancel_left h2
 have ht:dC.take m1.length=m1:=by rw[hp,Ci rfl]
 refine⟨m1.length, ?_⟩;rw[ht];have hn:(dJ++dC).take (dJ++m1).length=dJ++m1:=by rw[hp,←AA,Ci rfl]
 have h5:=qK (dJ++dC) [] hg (dJ++m1).length (by rw[hp];simp);rw[Au,hn]at h5;have h6:=(h1.Wb h5 (by rw[h4])).1;refine⟨Prod.ext h4 h6.symm, ?_⟩;rw[h6];omega
theorem L4{r r':Rec}(h:bn r=bn r'):r=r':=by
 obtain⟨k,q,e,p,v⟩:=r;obtain⟨v1,v2,v3,v4,v5,v6⟩:=v;obtain⟨k',q',e',p',v'⟩:=r';obtain⟨u1,u2,u3,u4,u5,u6⟩:=v';simp only[bn,List.cons.injEq,and_true]at h;obtain⟨rfl,rfl,rfl,rfl,rfl,rfl,rfl,rfl,rfl,rfl⟩:=h;rfl
theorem nt:∀{a b:List Rec},a.map bn=b.map bn→a=b
 |[],[],_=>rfl
 |[],_::_,h=>by simp at h
 |_::_,[],h=>by simp at h
 |x::a,y::b,h=>by
  rw[List.map_cons,List.map_cons]at h;injection h with h1 h2
  rw[L4 h1,nt h2]
theorem NP{f g:Nat→Bt}(h:lz f=lz g):∀q,q<4→f q=g q:=by
 simp only[lz,List.cons.injEq,and_true]at h;exact rI h.1 h.2.1 h.2.2.1 h.2.2.2
structure D0(n:Nd)(dJ dC:List Rec)(Bs:Nat→Bt):Prop where
 tm:GL (dJ++dC) Bs
 rd:bB n.dl=((dJ++dC).map bn,(cp (dJ++dC)).length)
 tk:n.dl.take (cp (dJ++dC)).length=cp (dJ++dC)
 ct:n.ct=(cp dJ).length
 lt:∀r∈dC,jY r→∃q:Nat,q<4∧r.q=(q:Int)∧0<(Bs q).es.length
def Dw(n:Nd):Prop:=∃dJ dC Bs,D0 n dJ dC Bs
theorem X8{len:Nat}{s kp:Int}(h:s≤len)(hk:0≤kp):s.toNat≤leftOf len s kp:=by
 unfold leftOf;split<;>omega
theorem Up.L5{n:Nd}(h:Up n){kp:Int}(hk:0≤kp):∃dJ dC Bs,D0 (qI n kp) dJ dC Bs∧∃ra Ba,dJ=ra∧n.dl.take (cp ra).length=cp ra∧n.sy=((cp ra).length:Nat)∧GL ra Ba∧(∀q,q<4→Ba q=tb (n.mo q))∧((dC=[]∧Bs=Ba)∨∃rb a q D j E,n.af=some a∧Pd n.mo a rb q D∧dC=rb.take j∧ik (tb (n.mo q)) (rb.take j) E∧Bs=ak Ba q E):=by
 obtain⟨dJ,dC,Bs,e1,e2,e3,e4,e5⟩:=h.ex;have hd:n.dl=cp (dJ++dC):=by rw[e1,kK]
 have hsl:n.sy≤n.dl.length:=by rw[e2,e1,Ag];omega
 have hlo:(cp dJ).length≤leftOf n.dl.length n.sy kp:=by
  have:=X8 (len:=n.dl.length) (kp:=kp) (s:=n.sy) hsl hk;omega
 have hhi:leftOf n.dl.length n.sy kp≤n.dl.length:=JD;have ok2:∀r∈dC,pX r:=by
  rcases e5 with⟨_,e⟩|⟨a,q,D,_,p⟩
  ·rw[e];exact fun r hr=>by cases hr
  ·exact fun r hr=>(p.ok r hr).1
 have agv:∀r∈dJ++dC,pX r:=fun r hr=>(Ah.1 hr).elim (e3.f r) (ok2 r);have hg:∀z∈dJ.map bn++dC.map bn,mj z:=by rw[←AE];exact JJ agv
 have hf:cp (dJ++dC)=aQ (dJ.map bn++dC.map bn):=by rw[kH,AE]
 have kg:leftOf n.dl.length n.sy kp≤(aQ (dJ.map bn++dC.map bn)).length:=by rw[←hf,←hd];exact hhi
 obtain⟨j,hr,hj⟩:=QA (dJ.map bn) (dC.map bn) hg (leftOf n.dl.length n.sy kp) (by rw[←kH];exact hlo) kg;have em:dJ.map bn++(dC.map bn).take j=(dJ++dC.take j).map bn:=by rw[AE,List.map_take]
 rw[em,←kH]at hr hj;rw[←hf,←hd]at hr;have Lz:(n.dl.take (leftOf n.dl.length n.sy kp)).take (cp (dJ++dC.take j)).length=cp (dJ++dC.take j):=by
  rw[BQ,BG hj,hd]
  conv=>lhs;arg 2;rw[←BU j dC,←AA,kK]
  exact Ci rfl
 have hct:(qI n kp).ct=(cp dJ).length:=by show n.sy.toNat=_;omega
 have htr:n.dl.take (cp dJ).length=cp dJ:=by rw[e1];exact Ci rfl
 rcases e5 with⟨_,e⟩|⟨a,q,D,hn,p⟩
 ·subst e;rw[List.take_nil]at hr Lz;exact⟨dJ,[],Bs,⟨by rw[Au];exact e3,hr,Lz,hct,fun r hr=>by cases hr⟩,dJ,Bs,rfl,htr,e2,e3,e4,.inl ⟨rfl,rfl⟩⟩
 ·obtain⟨E,hE⟩:=p.run.cut j;have hm:=GL.runs p.q4 hE (fun r hr=>p.ok r (AJ hr)) e3 (e4 q p.q4);refine⟨dJ,dC.take j,ak Bs q E,⟨hm,hr,Lz,hct,fun r hr hl=>⟨q,p.q4,(p.ok r (AJ hr)).2, ?_⟩⟩,dJ,Bs,rfl,htr,e2,e3,e4,.inr ⟨dC,a,q,D,j,E,hn,p,rfl,hE,rfl⟩⟩;rw[aj];exact hE.late (p.lt.take j) r hr hl
theorem Up.NQ{n:Nd}(h:Up n){kp:Int}(hk:0≤kp):Dw (qI n kp):=by
 obtain⟨a,b,c,hd,_⟩:=h.L5 hk;exact⟨a,b,c,hd⟩
theorem aaQ{a b:List Rec}:(cp a).length≤(cp (a++b)).length:=by rw[kK,Ag];omega
section
variable{n:Nd}{dJ dC:List Rec}{Bs:Nat→Bt}
theorem D0.len(h:D0 n dJ dC Bs):(cp (dJ++dC)).length≤n.dl.length:=by
 have:=(gN n.dl).2;rw[h.rd]at this;exact this
theorem D0.tp(h:D0 n dJ dC Bs)(hl:n.dl.length≤100000):Zb n Bs (dJ++dC) (cp (dJ++dC)).length:=
 ⟨h.rd,NK h.tm.f,by have:=h.len;have:=X3 (rs:=dJ++dC);omega,by rw[h.tm.b]⟩
theorem D0.cut(h:D0 n dJ dC Bs):(n.dl.take (cp (dJ++dC)).length).drop n.ct=cp dC:=by
 rw[h.tk,h.ct,kK];exact List.drop_left' rfl
theorem D0.st(h:D0 n dJ dC Bs)(hl:n.dl.length≤100000):Y_ n Bs (dJ++dC) (cp (dJ++dC)).length dC (cp dC).length:=by
 have t:=h.tp hl;have ok2:∀r∈dC,pX r:=fun r hr=>h.tm.f r (Ah.2 (.inr hr));refine⟨t.rd,t.wf,t.rl,t.reb,fun q hq=>(h.tm.all q hq).1,by rw[h.ct];exact aaQ,by rw[h.cut];exact JK ok2,NK ok2, ?_,fun r hr Oz=> ?_⟩
 ·have:=t.rl;rw[Ag]at this;omega
 ·obtain⟨q,hq,e,hp⟩:=h.lt r hr Oz;exact⟨q,hq,e,(h.tm.all q hq).1,hp⟩
theorem D0.uniq(h:D0 n dJ dC Bs){sj:Nat→Bt}{rs ps:List Rec}{kk Q0:Nat}(hs:Y_ n sj rs kk ps Q0):rs=dJ++dC∧kk=(cp (dJ++dC)).length∧ps=dC∧∀q,q<4→sj q=Bs q:=by
 have e:=hs.rd;rw[h.rd]at e;obtain⟨e1,e2⟩:=AR e;have e1:=nt e1;subst e2;have e3:=hs.rd2;rw[h.cut,JK (fun r hr=>h.tm.f r (Ah.2 (.inr hr)))]at e3;have e4:=hs.reb;rw[←e1,h.tm.b]at e4;exact⟨e1.symm,rfl,(nt (AR e3).1).symm,fun q hq=>(NP (AY e4) q hq).symm⟩
theorem D0.ady(h:D0 n dJ dC Bs){sj:Nat→Bt}{rs:List Rec}{kk:Nat}(hs:Zb n sj rs kk):∀q,q<4→sj q=Bs q:=by
 have e:=hs.rd;rw[h.rd]at e;have e1:=nt (AR e).1;have e4:=hs.reb;rw[←e1,h.tm.b]at e4;exact fun q hq=>(NP (AY e4) q hq).symm
theorem D0.bs(h:D0 n dJ dC Bs)(hl:n.dl.length≤100000)(hu:n.up=false):∀q,q<4→kX n q=Bs q:=by
 have hx:∃x:(Nat→Bt)×List Rec×Nat,Zb n x.1 x.2.1 x.2.2:=⟨(Bs,_,_),h.tp hl⟩;unfold kX;rw[Aa (by rw[hu];simp),dif_pos hx];exact h.ady hx.choose_spec
end
theorem mY{B:Bt}(h:(aZ B).2=0)(h2:¬B.r=2):(¬B.r=1∧(aZ B).1=B)∨(B.r=1∧(aZ B).1=B.broken∧B.broken.Ok):=by
 unfold aZ at h⊢;by_cases ok:B.Ok
 ·rw[Aa (fun g=>g ok)]at h⊢;by_cases h1:B.r=1
  ·rw[Aa (fun g=>g (.inl h1))]at h⊢;by_cases hb:B.broken.Ok
   ·rw[Aa (fun g=>g hb)];exact .inr ⟨h1,rfl,hb⟩
   ·rw[Ae hb]at h;cases h
  ·rw[Ae (by omega)];exact .inl ⟨h1,rfl⟩
 ·rw[Ae ok]at h;cases h
theorem JM{B:Bt}(ok:B.Ok)(h1:B.r=1):B.more [Ev.brk]=B.broken:=by
 have hs:=ok.cG;unfold Bt.b_ bg at hs;obtain⟨r,e,f,t,o,es⟩:=B;simp only at hs h1;obtain⟨_,_,_,h2,h3,h4⟩:r=1∧1≤e∧e≤1048576∧f=0∧t=0∧o=0:=by omega
 subst h1 h2 h3 h4;rfl
theorem JN{rs:List Rec}{Bs:Nat→Bt}(h:GL rs Bs)(hw:∀q,q<4→(aZ (Bs q)).2=0):∀k,k≤4→GL (rs++a7 Bs k) (fun q=>if q<k then(aZ (Bs q)).1 else Bs q)
 |0,_=>by
  rw[show(fun q=>if q<0 then(aZ (Bs q)).1 else Bs q)=Bs from funext fun q=>Aa (AF q)];show GL (rs++[]) Bs;rw[Au];exact h
 |k+1,hk=>by
  have ih:=JN h hw k (by omega);obtain⟨ok,h2⟩:=h.all k (by omega);have fin:∀D,(aZ (Bs k)).1=D→(fun q=>if q<k+1 then(aZ (Bs q)).1 else Bs q)=ak (fun q=>if q<k then(aZ (Bs q)).1 else Bs q) k D:=fun D e=>by
   funext q;by_cases hq:q=k
   ·rw[hq,aj,Ae (by omega),e]
   ·rw[aI hq];by_cases aN:q<k
    ·rw[Ae aN,Ae (by omega)]
    ·rw[Aa aN,Aa (by omega)]
  rcases mY (hw k (by omega)) h2 with⟨h1,e⟩|⟨h1,e,hb⟩
  ·rw[rK h1,fin _ e,show Bs k=(fun q=>if q<k then(aZ (Bs q)).1 else Bs q) k from(Aa (Nat.lt_irrefl k)).symm,eO];exact ih
  ·have hs:=ok.cG;unfold Bt.b_ bg at hs;have hf:(sD Bs k).fault=0:=CS (q:=k) (e:=(Bs k).e) (v:=Ev.brk) ⟨by omega,by omega⟩ (by omega) Ev.KQ;rw[pI h1,fin _ e,←AA];refine ih.snoc ⟨hf,fun g=>absurd (.inl rfl) g⟩ (by omega) rfl ?_;rw[Aa (Nat.lt_irrefl k)];refine fI ok hf ?_ hb;unfold cF;rw[Aa (by show ¬(2:Int)=1;decide),Ae rfl,Ae ⟨rfl,rfl,h1⟩];exact AB some (JM ok h1)
theorem CX{n:Nd}{s:Ws}{dJ dC:List Rec}{Bs:Nat→Bt}(h:D0 n dJ dC Bs)(hl:n.dl.length≤100000)(hu:n.up=false)(hk:n.sk=false):∃sj,(∀q,q<4→sj q=Bs q)∧cQ n s=iL n s sj (cp (dJ++dC)).length dC:=by
 have hx:∃x:(Nat→Bt)×List Rec×Nat×List Rec×Nat,Y_ n x.1 x.2.1 x.2.2.1 x.2.2.2.1 x.2.2.2.2:=⟨(Bs,_,_,_,_),h.st hl⟩;have e:cQ n s=iL n s hx.choose.1 hx.choose.2.2.1 hx.choose.2.2.2.1:=by
  unfold cQ;rw[Aa (by rw[hu,hk];simp),dif_pos hx]
 obtain⟨_,e2,e3,e4⟩:=h.uniq hx.choose_spec;rw[e2,e3]at e;exact⟨_,e4,e⟩
theorem vB{Bs sj:Nat→Bt}:∀k,k≤4→(∀q,q<4→sj q=Bs q)→a7 sj k=a7 Bs k
 |0,_,_=>rfl
 |k+1,hk,h=>by
  have e:=h k (by omega);unfold a7;rw[vB k (by omega) h,e,show sD sj k=sD Bs k by unfold sD;rw[e]]
theorem L6{n:Nd}{dJ dC:List Rec}{Bs sj:Nat→Bt}(h:D0 n dJ dC Bs)(hB:∀q,q<4→sj q=Bs q)(hw:∀q,q<4→(aZ (sj q)).2=0):Up {n with up:=true,dl:=n.dl.take (cp (dJ++dC)).length++cp (a7 sj 4),sy:=(((cp (dJ++dC)).length+(cp (a7 sj 4)).length:Nat):Int),mo:=fun q=>(aZ (sj q)).1,hn:=dX 4,he:=bK,wt:=[],af:=none,tu:=0}:=by
 rw[vB 4 (Ac _) hB];have Wz:∀q,q<4→(aZ (Bs q)).2=0:=fun q hq=>hB q hq▸hw q hq;have hm:=JN h.tm Wz 4 (Ac _);refine⟨fun q hq=> ?_,(dJ++dC)++a7 Bs 4,[],_, ?_, ?_,hm,fun q hq=> ?_,.inl ⟨rfl,rfl⟩⟩
 ·have:=hm.all q hq;rw[Ae hq]at this;show(aZ (sj q)).1.Ok;rw[hB q hq];exact this.1
 ·show n.dl.take _++_=_;rw[h.tk,←kK];simp[cp]
 ·show(((cp (dJ++dC)).length+(cp (a7 Bs 4)).length:Nat):Int)=_;rw[kK (dJ++dC),Ag]
 ·have:=hm.all q hq;rw[Ae hq]at this⊢;show _=tb (aZ (sj q)).1;rw[hB q hq,gK this.2]
theorem wV{n:Nd}{dJ dC:List Rec}{Bs:Nat→Bt}{sy:Int}(h:D0 n dJ dC Bs):D0 {n with dl:=n.dl.take (cp (dJ++dC)).length,sy:=sy,sk:=true} dJ dC Bs:=by
 refine⟨h.tm, ?_, ?_,h.ct,h.lt⟩
 ·have:=JF n.dl;rw[h.rd]at this;exact this
 ·show(n.dl.take _).take _=_;rw[BQ,Nat.min_self];exact h.tk
structure j9(l:Lt):Prop where
 ok:TY l
 f0:0≤l.fr
 f5:l.fr<5
structure NI(i:Nat)(n:Nd):Prop where
 i:n.i=i
 tu:n.tu<4
 wt:∀l∈n.wt,eY l
 ln:n.dl.length≤100000
 up:n.up=true→Up n
 dw:n.up=false→Dw n
structure rP(k m:Nat)(s s':Ws):Prop where
 fl:∃L,s'.fl=s.fl++L∧L.length≤k∧∀l∈L,j9 l
 sv:∃L,s'.sv=s.sv++L∧L.length≤m
 td:s'.td=s.td
 pn:s'.pn=s.pn
 pe:s'.pe=s.pe
 cs:s'.cs=s.cs
theorem rP.refl(s:Ws):rP 0 0 s s:=⟨⟨[],(Au _).symm,Ac _,fun _ h=>by cases h⟩,⟨[],(Au _).symm,Ac _⟩,rfl,rfl,rfl,rfl⟩
theorem rP.mono{k m k' m':Nat}{s s':Ws}(h:rP k m s s')(hk:k≤k')(hm:m≤m'):rP k' m' s s':=by
 obtain⟨L,e1,e2,e3⟩:=h.fl;obtain⟨M,e4,e5⟩:=h.sv;exact⟨⟨L,e1,by omega,e3⟩,⟨M,e4,by omega⟩,h.td,h.pn,h.pe,h.cs⟩
theorem rP.trans{k m k' m':Nat}{s s' UL:Ws}(h:rP k m s s')(g:rP k' m' s' UL):rP (k+k') (m+m') s UL:=by
 obtain⟨L,e1,e2,e3⟩:=h.fl;obtain⟨M,e4,e5⟩:=h.sv;obtain⟨L',f1,f2,f3⟩:=g.fl;obtain⟨M',f4,f5⟩:=g.sv;refine⟨⟨L++L',by rw[f1,e1,AA],by rw[Ag];omega,fun l hl=>(Ah.1 hl).elim (e3 l) (f3 l)⟩,⟨M++M',by rw[f4,e4,AA],by rw[Ag];omega⟩,g.td.trans h.td,g.pn.trans h.pn,g.pe.trans h.pe,g.cs.trans h.cs⟩
theorem oQ{s:Ws}{l:Lt}(h:j9 l):rP 1 0 s (e_ s l):=⟨⟨[l],rfl,Ac _,fun x hx=>by rw[Ab.1 hx];exact h⟩,⟨[],(Au _).symm,Ac _⟩,rfl,rfl,rfl,rfl⟩
theorem Fi{s:Ws}{n:Nd}{q:Nat}{e:Ev}{an:An}{nu:Int}:rP 0 1 s (qC s n q e an nu):=⟨⟨[],(Au _).symm,Ac _,fun _ h=>by cases h⟩,⟨_,rfl,Ac _⟩,rfl,rfl,rfl,rfl⟩
theorem JO(nu:Int)(an:An)(pn pe:Int):j9 (gT nu an pn pe):=⟨⟨.inl rfl⟩,Bq 0,(by decide:(0:Int)<5)⟩
theorem NR{B:Bt}(ok:B.Ok):(0≤B.f∧B.f<5)∧(0≤B.t∧B.t<5)∧0≤B.e∧B.e≤1048576:=by
 have hs:=ok.cG;unfold Bt.b_ bg at hs;omega
section
variable{i q:Nat}{B:Bt}
theorem GO(hi:i<5)(hq:q<4)(ok:B.Ok):j9 (vl i B q):=⟨⟨.inr (.inr (.inr ⟨⟨hq,.inr (.inr (.inl rfl)),qD,Al _⟩,(NR ok).1⟩))⟩,Int.natCast_nonneg _,Int.ofNat_lt.2 hi⟩
theorem UM{fr:Int}(hf:0≤fr∧fr<5)(hq:q<4)(pn pe:Int):j9 (iK fr q pn pe):=⟨⟨.inr (.inr (.inr ⟨⟨hq,.inr (.inr (.inr (.inr rfl))),qD,Al _⟩,hf⟩))⟩,Bq 0,(by decide:(0:Int)<5)⟩
theorem X9{nd:Int}(hf:0≤nd∧nd<5)(hq:q<4){nu:Int}{op:Ev}(ho:∀x∈bf op,(Lit.int .i64 x).wf=true):j9 (vm nd q nu op):=⟨⟨.inr (.inr (.inr ⟨⟨hq,.inl rfl,ho,Al _⟩,hf⟩))⟩,Bq 0,(by decide:(0:Int)<5)⟩
theorem X_(hi:i<5)(hq:q<4)(ok:B.Ok){hv:Int}{es:List Ev}(he:es.length≤2000){la:Bool}:j9 (Nq i B q hv es la):=⟨⟨.inr (.inr (.inr ⟨⟨hq,.inr (.inr (.inr (.inl rfl))),qD,he⟩,(NR ok).2.1⟩))⟩,Int.natCast_nonneg _,Int.ofNat_lt.2 hi⟩
theorem NS(hi:i<5)(hq:q<4)(ok:B.Ok):j9 (Jk i B q):=⟨⟨.inr (.inr (.inr ⟨⟨hq,.inr (.inl rfl),qD,Al _⟩,(NR ok).2.1⟩))⟩,Int.natCast_nonneg _,Int.ofNat_lt.2 hi⟩
theorem Ya(hi:i<5)(hq:q<4):j9 (Tp i q):=⟨⟨.inr (.inr (.inl ⟨rfl,hq⟩))⟩,Int.natCast_nonneg _,Int.ofNat_lt.2 hi⟩
theorem UN(hi:i<5)(hq:q<4)(ok:B.Ok):j9 (Lv i B q):=by
 have:=(NR ok).2.2;exact⟨⟨.inr (.inl ⟨rfl,hq,by show-1000000000≤B.e;omega,by show B.e≤1000000000;omega⟩)⟩,Int.natCast_nonneg _,Int.ofNat_lt.2 hi⟩
end
theorem tx{n:Nd}{s:Ws}{l:Lt}{an:An}:rP 1 1 s (dN n s l an):=(Fi.trans (oQ (JO _ _ _ _))).mono (by omega) (by omega)
theorem UO{B:Bt}{hv:Int}:(partOf B hv).1.length≤2000:=by
 unfold partOf;split
 ·exact Al _
 ·simp only[List.length_take];omega
theorem JP{n:Nd}{s:Ws}{q:Nat}{hv:Int}(hi:n.i<5)(hq:q<4)(ok:(n.mo q).Ok):rP 1 0 s (iE n s q hv):=by
 unfold iE;split
 ·exact oQ (X_ hi hq ok UO)
 ·exact(rP.refl s).mono (by omega) (by omega)
theorem Zd{n n':Nd}{a:Af}{rs:List Rec}(h:lC n a rs=some n'):n'.af=some a∧n'.dl.length≤100000∧n'.tu=n.tu∧n'.wt=n.wt:=by
 unfold lC at h;split at h
 ·rename_i hl;cases h;exact⟨rfl,by show(n.dl++cp rs).length≤100000;rw[Ag];exact hl,rfl,rfl⟩
 ·cases h
theorem vC{n:Nd}{s:Ws}{l:Lt}(h:Up n)(ha:n.af=none)(hi:n.i<5)(hl:n.dl.length≤100000)(hw:eY l):(bm n s l).1.dl.length≤100000∧(((bm n s l).1.af=none∧rP 1 1 s (bm n s l).2)∨((bm n s l).1.af.isSome∧(bm n s l).2=s)):=by
 have hq:=hw.q;have ok:=h.mo l.q hq;have r0:rP 1 1 s s:=(rP.refl s).mono (by omega) (by omega);have same:n.dl.length≤100000∧((n.af=none∧rP 1 1 s s)∨(n.af.isSome∧s=s)):=⟨hl,.inl ⟨ha,r0⟩⟩;have wr:∀{m:Nd} {a:Af} {rs:List Rec},m.dl.length≤100000→m.af=none→((lC m a rs).getD m).dl.length≤100000∧((((lC m a rs).getD m).af=none∧rP 1 1 s s)∨(((lC m a rs).getD m).af.isSome∧s=s)):=fun {m a rs} hm hma=>by
  cases Ha:lC m a rs with
  |none=>exact⟨hm,.inl ⟨hma,r0⟩⟩
  |some x=>
   obtain⟨k1,k2,_,_⟩:=Zd Ha;exact⟨k2,.inr ⟨by show x.af.isSome;rw[k1];rfl,rfl⟩⟩
 unfold bm;split
 ·unfold gD;split
  ·exact⟨hl,.inl ⟨ha,(oQ (JO _ _ _ _)).mono (by omega) (by omega)⟩⟩
  ·split
   ·exact⟨hl,.inl ⟨ha,tx⟩⟩
   ·split
    ·rename_i n' hn;obtain⟨k1,k2,_,_⟩:=Zd hn;exact⟨k2,.inr ⟨by rw[k1];rfl,rfl⟩⟩
    ·exact⟨hl,.inl ⟨ha,tx⟩⟩
 ·split
  ·unfold gE;split
   ·exact same
   ·split
    ·exact⟨hl,.inl ⟨ha,(oQ (GO hi hq ok)).mono (by omega) (by omega)⟩⟩
    ·exact wr hl ha
  ·split
   ·unfold fj;split
    ·exact same
    ·split
     ·exact same
     ·split
      ·refine⟨hl,.inl ⟨ha, ?_⟩⟩;refine(JP (n:={n with mo:=ak n.mo l.q (aL (n.mo l.q) l.pl).1}) hi hq ?_).mono (by omega) (by omega);show(ak n.mo l.q (aL (n.mo l.q) l.pl).1 l.q).Ok;rw[aj];exact oN (er:=(aL (n.mo l.q) l.pl).2) rfl
      ·exact wr hl ha
   ·split
    ·unfold takeN;split
     ·exact same
     ·split
      ·exact same
      ·exact wr hl ha
    ·have e:(cV n l).dl=n.dl∧(cV n l).af=n.af:=by
      unfold cV;split<;>exact⟨rfl,rfl⟩
     unfold gF;split
     ·exact wr (by rw[e.1];exact hl) (e.2.trans ha)
     ·exact⟨by rw[e.1];exact hl,.inl ⟨e.2.trans ha,r0⟩⟩
theorem UP{mo:Nat→Bt}{q:Nat}{B:Bt}(h:∀p,p<4→(mo p).Ok)(ok:B.Ok):∀p,p<4→(ak mo q B p).Ok:=fun p hp=>by
 by_cases e:p=q
 ·rw[e,aj];exact ok
 ·rw[aI e];exact h p hp
theorem Fj{n:Nd}{s:Ws}{a:Af}(h:Up n)(ha:n.af=some a)(hi:n.i<5):rP 1 1 s (fm {n with sy:=n.dl.length,af:=none} s a).2:=by
 have hu:=h.sync (s:=s) ha;obtain⟨dJ,dC,Bs,e1,e2,e3,e4,e5⟩:=h.ex;rcases e5 with e5|⟨a',q,D,h1,p⟩
 ·rw[ha]at e5;cases e5.1
 rw[ha]at h1;cases h1;have hq:=p.q4;cases a with
 |serve l an=>exact tx
 |begin l B=>
  obtain⟨rfl,_,rfl⟩:=p.af;exact(oQ (GO hi hq (hu.mo l.q hq))).mono (by omega) (by omega)
 |shut l B=>
  obtain⟨rfl,_,rfl⟩:=p.af;exact(JP (n:={n with sy:=n.dl.length,af:=none,mo:=ak n.mo l.q D}) hi hq (hu.mo l.q hq)).mono (by omega) (by omega)
 |take l B=>
  obtain⟨rfl,_,rfl⟩:=p.af;have hm:=hu.mo l.q hq;show rP 1 1 s (if D.r=1 then _ else _);split
  ·exact Fi.mono (by omega) (by omega)
  ·exact(oQ (GO hi hq hm)).mono (by omega) (by omega)
 |fA p' B=>exact(rP.refl s).mono (by omega) (by omega)
theorem aaR{n:Nd}{q:Nat}(h:Up n)(hi:n.i<5)(hq:q<4):(dQ n q).length≤2∧∀l∈dQ n q,j9 l:=by
 have ok:=h.mo q hq;unfold dQ;split
 ·exact⟨by simp,fun l hl=>by rw[List.mem_singleton.1 hl];exact NS hi hq ok⟩
 ·split
  ·refine⟨by simp,fun l hl=> ?_⟩;rcases BI.1 hl with rfl|hl
   ·exact NS hi hq ok
   ·rw[Ab.1 hl];exact Ya hi hq
  ·split
   ·exact⟨by simp,fun l hl=>by rw[List.mem_singleton.1 hl];exact UN hi hq ok⟩
   ·exact⟨by simp,fun l hl=>by cases hl⟩
theorem CY:∀(k:Nat) {n:Nd} {s:Ws},Up n→n.i<5→n.tu<4→rP 2 0 s (cS k n s).2∧(cS k n s).1.wt=n.wt∧(cS k n s).1.af=n.af∧(cS k n s).1.dl=n.dl∧(cS k n s).1.tu<4
 |0,n,s,_,_,ht=>⟨(rP.refl s).mono (by omega) (by omega),rfl,rfl,rfl,ht⟩
 |k+1,n,s,h,hi,ht=>by
  unfold cS;split
  ·exact CY k (n:={n with tu:=(n.tu+1) % 4}) (h.congr rfl rfl rfl rfl) hi (Nat.mod_lt _ (by decide))
  ·obtain⟨h1,h2⟩:=aaR h hi ht;exact⟨⟨⟨_,rfl,h1,h2⟩,⟨[],(Au _).symm,Ac _⟩,rfl,rfl,rfl,rfl⟩,rfl,rfl,rfl,Nat.mod_lt _ (by decide)⟩
def cN(n:Nd):Nat:=n.wt.length+(if n.af.isSome then 1 else 0)
theorem CZ:∀(k:Nat) {n:Nd} {s:Ws},Up n→n.af=none→n.i<5→n.tu<4→n.dl.length≤100000→(∀l∈n.wt,eY l)→(∃a b,rP a b s (cJ k n s).2∧a+cN (cJ k n s).1≤n.wt.length+2∧b≤n.wt.length)∧(cJ k n s).1.tu<4∧(cJ k n s).1.dl.length≤100000∧∀l∈(cJ k n s).1.wt,eY l
 |0,n,s,h,ha,hi,ht,hl,hw=>by
  obtain⟨h1,h2,h3,h4,h5⟩:=CY 4 (s:=s) h hi ht;refine⟨⟨2,0,h1, ?_,Al _⟩,h5,by rw[show(cJ 0 n s).1.dl=n.dl from h4];exact hl,by rw[show(cJ 0 n s).1.wt=n.wt from h2];exact hw⟩;show 2+cN (cS 4 n s).1≤_;unfold cN;rw[h2,h3,ha];simp;omega
 |k+1,n,s,h,ha,hi,ht,hl,hw=>by
  unfold cJ;split
  ·rename_i kh;obtain⟨h1,h2,h3,h4,h5⟩:=CY 4 (s:=s) h hi ht;refine⟨⟨2,0,h1, ?_,Al _⟩,h5,by rw[h4];exact hl,by rw[h2];exact hw⟩;unfold cN;rw[h2,h3,ha];simp;omega
  ·rename_i l ls kh;have pZ:eY l:=hw l (by rw[kh];exact Aq);have hu:Up {n with wt:=ls}:=h.congr rfl rfl rfl rfl;have hd:=pO (n:={n with wt:=ls}) (s:=s) (l:=l) hu ha pZ;have hs:=vC (n:={n with wt:=ls}) (s:=s) (l:=l) hu ha hi hl pZ;have hk:=(ie {n with wt:=ls} s l).1;have hws:∀x∈ls,eY x:=fun x hx=>hw x (by rw[kh];exact Az _ hx);have hlen:n.wt.length=ls.length+1:=by rw[kh];rfl
   have xJ:(bm {n with wt:=ls} s l).1.wt=ls:=hk.2;split
   ·rename_i uk;rcases hs.2 with⟨e,_⟩|⟨_,e⟩
    ·rw[e]at uk;cases uk
    ·refine⟨⟨0,0, ?_, ?_,Al _⟩,by rw[hk.1];exact ht,hs.1,by rw[xJ];exact hws⟩
     ·rw[e];exact rP.refl s
     ·unfold cN;rw[xJ,Ae uk];omega
   ·rename_i uk;rcases hs.2 with⟨e,g⟩|⟨e,_⟩
    ·obtain⟨⟨a,b,g1,g2,g3⟩,g4,g5,g6⟩:=CZ k (s:=(bm {n with wt:=ls} s l).2) hd.1 e (by rw[hd.2.2.1];exact hi) (by rw[hk.1];exact ht) hs.1 (by rw[xJ];exact hws);rw[xJ]at g2 g3;exact⟨⟨1+a,1+b,g.trans g1,by omega,by omega⟩,g4,g5,g6⟩
    ·exact absurd e uk
def qN(ns:Nat→Nd):Nat:=cN (ns 0)+cN (ns 1)+cN (ns 2)+cN (ns 3)+cN (ns 4)
theorem GP(ns:Nat→Nd)(n':Nd){i:Nat}(hi:i<5):qN (ak ns i n')+cN (ns i)=qN ns+cN n':=by
 unfold qN ak;obtain rfl|rfl|rfl|rfl|rfl:i=0∨i=1∨i=2∨i=3∨i=4:=by omega
 all_goals simp
 all_goals omega
theorem UQ{ns:Nat→Nd}{i:Nat}(hi:i<5):cN (ns i)≤qN ns:=by
 unfold qN;obtain rfl|rfl|rfl|rfl|rfl:i=0∨i=1∨i=2∨i=3∨i=4:=by omega
 all_goals omega
structure Inv(k:Nat)(p:(Nat→Nd)×Ws):Prop where
 n:∀i,i<5→NI i (p.1 i)
 fl:∀l∈p.2.fl,j9 l
 dir:bN p.2.pn p.2.pe
 t:p.2.fl.length+qN p.1≤2*k
 sv:p.2.sv.length≤300000*k
 td:p.2.td.length≤300000*k
 c0:0≤p.2.cs
 c1:p.2.cs≤k
theorem Inv.gd{k:Nat}{p:(Nat→Nd)×Ws}(h:Inv k p)(hk:k≤100000):GdT p:=by
 have ht:=h.t;have hs:=h.sv;have hd:=h.td;have hc:=h.c1;have st:∀i,i<5→(p.1 i).up=false→∃dJ dC Bs,D0 (p.1 i) dJ dC Bs:=fun i hi hu=>(h.n i hi).dw hu;refine⟨⟨fun i hi=>(h.n i hi).tu,fun i hi=>(h.n i hi).wt,fun l hl=>(h.fl l hl).ok,h.dir,fun i hi hu _=> ?_,by omega,by omega,by omega,fun i hi=> ?_,h.c0,by omega⟩,fun i hi hu=> ?_⟩
 ·obtain⟨dJ,dC,Bs,hp⟩:=st i hi hu;exact⟨Bs,_,_,dC,_,hp.st (h.n i hi).ln⟩
 ·have:=UQ (ns:=p.1) hi;unfold cN at this;omega
 ·obtain⟨dJ,dC,Bs,hp⟩:=st i hi hu;exact⟨Bs,_,_,hp.tp (h.n i hi).ln⟩
section
variable{k:Nat}{ns:Nat→Nd}{s:Ws}
theorem GQ{P:Nat→Nd→Prop}(h:∀i,i<5→P i (ns i)){i:Nat}{n':Nd}(hn:P i n'):∀j,j<5→P j (ak ns i n' j):=fun j hj=>by
 by_cases e:j=i
 ·subst e;rw[aj];exact hn
 ·rw[aI e];exact h j hj
theorem Inv.piece(h:Inv k (ns,s)){i:Nat}(hi:i<5){n':Nd}{s':Ws}{a b:Nat}(hn:NI i n')(hs:rP a b s s')(ha:a+cN n'≤cN (ns i)+2)(hb:b≤300000):Inv (k+1) (ak ns i n',s'):=by
 obtain⟨L,e1,e2,e3⟩:=hs.fl;obtain⟨M,e4,e5⟩:=hs.sv;have ht:=h.t;have hv:=h.sv;have hd:=h.td;have hc:=h.c1;have hu:=GP ns n' hi;simp only at ht hv hd hc;refine⟨GQ h.n hn,fun l hl=> ?_, ?_, ?_, ?_, ?_, ?_, ?_⟩
 ·rw[e1]at hl;exact(Ah.1 hl).elim (h.fl l) (e3 l)
 ·show bN s'.pn s'.pe;rw[hs.pn,hs.pe];exact h.dir
 ·show s'.fl.length+qN (ak ns i n')≤_;rw[e1,Ag];omega
 ·show s'.sv.length≤_;rw[e4,Ag];omega
 ·show s'.td.length≤_;rw[hs.td];omega
 ·show 0≤s'.cs;rw[hs.cs];exact h.c0
 ·show s'.cs≤_;rw[hs.cs];omega
theorem Inv.next(h:Inv k (ns,s)):Inv (k+1) (ns,s):=by
 have ht:=h.t;have hv:=h.sv;have hd:=h.td;have hc:=h.c1;exact⟨h.n,h.fl,h.dir,by omega,by omega,by omega,h.c0,by omega⟩
theorem yG{i:Nat}{n:Nd}(h:NI i n)(hi:i<5):NI i (eB n s).1∧∃a b,rP a b s (eB n s).2∧a+cN (eB n s).1≤cN n+2∧b≤n.wt.length+1:=by
 have J_:n.i<5:=by rw[h.i];exact hi
 by_cases hu:n.up=false
 ·rw[jB hu];exact⟨h,0,0,rP.refl s,(by show 0+cN n≤cN n+2;omega),Al _⟩
 ·have hu:n.up=true:=by
   cases hx:n.up with
   |true=>rfl
   |false=>exact absurd hx hu
  have up:=h.up hu;cases ha:n.af with
  |some a=>
   rw[jC hu ha];have h1:=up.sync (s:=s) ha;have h2:=Fj (s:=s) up ha J_;have h3:∀a,(fm {n with sy:=n.dl.length,af:=none} s a).1.i=n.i∧(fm {n with sy:=n.dl.length,af:=none} s a).1.tu=n.tu∧(fm {n with sy:=n.dl.length,af:=none} s a).1.wt=n.wt∧(fm {n with sy:=n.dl.length,af:=none} s a).1.dl=n.dl∧(fm {n with sy:=n.dl.length,af:=none} s a).1.up=n.up∧(fm {n with sy:=n.dl.length,af:=none} s a).1.af=none:=fun a=>by
    cases a<;>exact⟨rfl,rfl,rfl,rfl,rfl,rfl⟩
   obtain⟨e1,e2,e3,e4,e5,e6⟩:=h3 a;refine⟨⟨e1.trans h.i,by rw[e2];exact h.tu,by rw[e3];exact h.wt,by rw[e4];exact h.ln,fun _=>h1,fun g=> ?_⟩,1,1,h2, ?_,by omega⟩
   ·rw[e5,hu]at g;cases g
   ·unfold cN;rw[e3,e6,ha];simp;omega
  |none=>
   rw[jD hu ha];obtain⟨⟨a,b,g1,g2,g3⟩,g4,g5,g6⟩:=CZ n.wt.length (s:=s) up ha J_ h.tu h.ln h.wt;obtain⟨w1,w2,w3,_,_⟩:=NO n.wt.length (s:=s) up ha h.wt;refine⟨⟨w3.trans h.i,g4,g6,g5,fun _=>w1,fun g=> ?_⟩,a,b,g1, ?_,by omega⟩
   ·rw[w2,hu]at g;cases g
   ·unfold cN;unfold cN at g2;rw[ha];simp;omega
theorem UR{i:Nat}{n:Nd}(h:NI i n){kp:Int}(hk:0≤kp):NI i (jZ n kp)∧cN (jZ n kp)≤cN n:=by
 unfold jZ;split
 ·rename_i hu;refine⟨⟨h.i,(show(0:Nat)<4 by decide),(fun l hl=>by cases hl), ?_,(fun g=>by cases g),fun _=>(h.up hu).NQ hk⟩,Al _⟩;show(n.dl.take _).length≤_;have:=h.ln;rw[AM];omega
 ·exact⟨h,Ac _⟩
theorem US{i:Nat}{n:Nd}(h:NI i n):NI i (cQ n s).1∧rP 0 200000 s (cQ n s).2∧cN (cQ n s).1≤cN n:=by
 by_cases lG:n.up=true∨n.sk=true
 ·have e:cQ n s=(n,s):=Ae lG;rw[e];exact⟨h,(rP.refl s).mono (by omega) (by omega),Ac _⟩
 ·have hu:n.up=false:=by
   cases hx:n.up with
   |true=>exact absurd (.inl hx) lG
   |false=>rfl
  have hk:n.sk=false:=by
   cases hx:n.sk with
   |true=>exact absurd (.inr hx) lG
   |false=>rfl
  obtain⟨dJ,dC,Bs,hp⟩:=h.dw hu;obtain⟨sj,hB,e⟩:=CX (s:=s) hp h.ln hu hk;rw[e];have gV:=hp.st h.ln;unfold iL;split
  ·rename_i hc;refine⟨⟨h.i,(show(0:Nat)<4 by decide),(fun l hl=>by cases hl), ?_,(fun _=>L6 hp hB hc.1),(fun g=>by cases g)⟩,⟨⟨[],(Au _).symm,Ac _,(fun _ h=>by cases h)⟩,⟨_,AA .., ?_⟩,rfl,rfl,rfl,rfl⟩,Al _⟩
   ·show(n.dl.take _++cp _).length≤_;rw[Ag,AM];have:=hc.2;omega
   ·rw[Ag,AW];have h1:=wT (i:=n.i) (Bs:=sj) (ps:=dC);have h2:=mU sj 4;have h3:=gV.pl;omega
  ·refine⟨⟨h.i,h.tu,h.wt, ?_,fun g=> ?_,fun _=>⟨dJ,dC,Bs,wV hp⟩⟩,(rP.refl s).mono (by omega) (by omega),Ac _⟩
   ·show(n.dl.take _).length≤_;have:=h.ln;rw[AM];omega
   ·have:n.up=true:=g;rw[hu]at this;cases this
theorem QB{n:Nd}{q:Nat}(h:Up n)(hq:q<4)(ha:n.af=none)(hm:(fh (n.mo q) 1).2=0):Up {n with dl:=n.dl++cp [aU q],sy:=((n.dl.length+(cp [aU q]).length:Nat):Int),mo:=ak n.mo q ⟨1,1,0,0,0,[]⟩}:=by
 obtain⟨dJ,dC,Bs,e1,e2,e3,e4,e5⟩:=h.ex;have e0:dC=[]:=by
  rcases e5 with e5|⟨a,q',D,h1,_⟩
  ·exact e5.2
  ·rw[ha]at h1;cases h1
 subst e0;have ok:=h.mo q hq;have h0:(n.mo q).r=0∧(n.mo q).e<1:=by
  unfold fh at hm;rw[Aa (fun g=>g ok),Aa (fun g=>g (by decide))]at hm;split at hm
  ·cases hm
  ·rename_i g;split at hm
   ·cases hm
   ·exact⟨AD.1 g,by omega⟩
 have okD:(⟨1,1,0,0,0,[]⟩:Bt).Ok:=⟨.inr (.inl ⟨rfl,by decide,by decide,rfl,rfl,rfl⟩),by decide,St.zero,[],.nil⟩;have hf:=B_ hq;have hap:ew (Bs q) (aU q)=(⟨1,1,0,0,0,[]⟩,0):=by
  rw[e4 q hq,gK (by omega)];refine fI ok hf ?_ okD;unfold cF;rw[Ae rfl,Ae ⟨rfl,h0⟩]
 have xV:=e3.snoc ⟨hf,fun _=>rfl⟩ hq rfl hap;refine⟨UP h.mo okD,dJ++[aU q],[],_, ?_, ?_,xV,fun p hp=> ?_,.inl ⟨ha,rfl⟩⟩
 ·show n.dl++cp [aU q]=_;rw[e1,kK];simp[cp]
 ·show((n.dl.length+(cp [aU q]).length:Nat):Int)=_;rw[e1,kK,Ag,Ag];simp[cp]
 ·show _=tb (ak n.mo q _ p);by_cases e:p=q
  ·rw[e,aj,aj];rfl
  ·rw[aI e,aI e];exact e4 p hp
theorem GR{pn pe:tH}{q:Nat}{x y:Int}(h:bN pn pe)(hp:kS x y):bN (bw pn q x) (bw pe q y):=fun p hp'=>by
 unfold bw;by_cases e:p=q
 ·rw[Ae e,Ae e];exact hp
 ·rw[Aa e,Aa e];exact h p hp'
theorem L7{B B':Bt}{v:Ev}{an:An}(h:cY B v B' an true 0):∃s bu s',v.Ok∧¬v.k=4∧bz B.es s bu∧Step s v s' an true∧B.es.length<1999:=by
 generalize hc:true=c at h;cases h with
 |done h1 h2 h3 h4 s bu h5 s' _ h6 h7=>exact⟨s,bu,s',h2,h3,h5,h6,h7⟩
 |_=>cases hc
theorem go_up{n:Nd}{q:Nat}{tg:Int}(h:Up n)(hq:q<4)(hg:(cW (n.mo q) tg).2=0):Up {n with mo:=ak n.mo q (cW (n.mo q) tg).1}:=by
 have ok:=h.mo q hq;have hB:(cW (n.mo q) tg).1.Ok:=ND (er:=(cW (n.mo q) tg).2) rfl;have hs:=ok.cG;unfold Bt.b_ bg at hs;have hr:(n.mo q).r=1∧(cW (n.mo q) tg).1=⟨2,(n.mo q).e,(n.mo q).f,tg,(n.mo q).o,(n.mo q).es⟩:=by
  unfold cW at hg⊢;rw[Aa (fun g=>g ok)]at hg⊢;split at hg
  ·cases hg
  ·rename_i g1;rw[Aa g1];split at hg
   ·cases hg
   ·rename_i g2;rw[Aa g2];split at hg
    ·cases hg
    ·rename_i g3;rw[Aa g3];split at hg
     ·cases hg
     ·rename_i g4;rw[Aa g4];exact⟨AD.1 g3,rfl⟩
 obtain⟨uR,hr2⟩:=hr;have hm:n.mo q=⟨1,(n.mo q).e,0,0,0,(n.mo q).es⟩:=by
  have h1:(n.mo q).f=0∧(n.mo q).t=0∧(n.mo q).o=0:=by omega
  calc n.mo q=⟨(n.mo q).r,(n.mo q).e,(n.mo q).f,(n.mo q).t,(n.mo q).o,(n.mo q).es⟩:=rfl
   _=_:=by rw[uR,h1.1,h1.2.1,h1.2.2]
 have ht:tb (cW (n.mo q) tg).1=tb (n.mo q):=by
  rw[gK (show ¬(n.mo q).r=2 by omega),hr2,si rfl];exact hm.symm
 obtain⟨dJ,dC,Bs,e1,e2,e3,e4,e5⟩:=h.ex;refine⟨UP h.mo hB,dJ,dC,Bs,e1,e2,e3,fun p hp=> ?_, ?_⟩
 ·show _=tb (ak n.mo q _ p);by_cases e:p=q
  ·rw[e,aj,ht];exact e4 q hq
  ·rw[aI e];exact e4 p hp
 ·rcases e5 with e5|⟨a,q',D,h1,p⟩
  ·exact .inl e5
  ·refine .inr ⟨a,q',D,h1,p.q4,p.ok, ?_,p.lt,p.one, ?_⟩
   ·show ik (tb (ak n.mo q _ q')) dC D;by_cases e:q'=q
    ·subst e;rw[aj,ht];exact p.run
    ·rw[aI e];exact p.run
   ·show AfP (ak n.mo q _) q' D a;by_cases e:q'=q
    ·subst e;have hx:∀{x y:Prop},x∧¬(n.mo q').r=1∧y→False:=fun h=>h.2.1 uR;have pa:=p.af;cases a with
     |serve l an=>
      obtain⟨i1,i2,i3,i4⟩:=pa;refine⟨i1, ?_, ?_, ?_⟩
      ·rw[aj,hr2];exact .inr rfl
      ·rw[aj];obtain⟨s0,bu,s1,g2,g3,g5,g6,g7⟩:=L7 i3
       ·have e2:(cW (n.mo q') tg).1.es=(n.mo q').es:=by rw[hr2]
        exact .done hB g2 g3 (by rw[hr2];exact .inr rfl) s0 bu (by rw[e2];exact g5) s1 _ g6 (by rw[e2];exact g7)
      ·rw[aj,i4,gK (show ¬((n.mo q').more [l.op]).r=2 by show ¬(n.mo q').r=2;omega),hr2,si (show((⟨2,(n.mo q').e,(n.mo q').f,tg,(n.mo q').o,(n.mo q').es⟩:Bt).more [l.op]).r=2 from rfl)];have h1:(n.mo q').f=0∧(n.mo q').t=0∧(n.mo q').o=0:=by omega
       unfold Bt.more;simp only[uR,h1.1,h1.2.1,h1.2.2]
     |begin l B=>exact(hx pa).elim
     |shut l B=>exact(hx pa).elim
     |take l B=>exact(hx pa).elim
     |fA p' B=>exact(hx pa).elim
    ·have e6:ak n.mo q (cW (n.mo q) tg).1 q'=n.mo q':=aI e;have pa:=p.af;cases a with
     |serve l an=>obtain⟨i1,i2,i3,i4⟩:=pa;exact⟨i1,by rw[e6];exact i2,by rw[e6];exact i3,by rw[e6];exact i4⟩
     |begin l B=>exact⟨pa.1,by rw[e6];exact pa.2.1,pa.2.2⟩
     |shut l B=>exact⟨pa.1,by rw[e6];exact pa.2.1,pa.2.2⟩
     |take l B=>exact⟨pa.1,by rw[e6];exact pa.2.1,pa.2.2⟩
     |fA p' B=>exact⟨pa.1,by rw[e6];exact pa.2.1,pa.2.2⟩
theorem vD{l:Lt}(UT:l.q=l.q→l.q<4)(h:bN s.pn s.pe):bN (dI s l).pn (dI s l).pe:=by
 unfold dI;split
 ·rename_i hc;obtain⟨_,h1,h2⟩:=hc;refine GR h ?_;unfold wm at h2;split at h2
  ·cases h2
  ·rename_i g1;split at h2
   ·cases h2
   ·split at h2
    ·cases h2
    ·split at h2
     ·cases h2
     ·rename_i g4;by_cases hq:l.q<4
      ·have:=h l.q hq;unfold kS at this⊢;omega
      ·exact absurd (UT rfl) hq
 ·exact h
structure Cm(p p':(Nat→Nd)×Ws)(m:Nat):Prop where
 n:∀i,i<5→NI i (p'.1 i)
 fl:∀l∈p'.2.fl,j9 l
 dir:bN p'.2.pn p'.2.pe
 t:p'.2.fl.length+qN p'.1≤p.2.fl.length+qN p.1+m
 sv:p'.2.sv=p.2.sv
 td:p'.2.td.length≤p.2.td.length+m
 cs:p'.2.cs=p.2.cs
theorem pP{p p':(Nat→Nd)×Ws}{m:Nat}(h:Cm p p' m){l:Lt}(hl:j9 l):Cm p (bH p'.1 p'.2 l) (m+1):=by
 have ht:=h.t;have hd:=h.td;have tell:∀{s:Ws},(∀l∈s.fl,j9 l)→bN s.pn s.pe→s.fl=p'.2.fl→s.sv=p'.2.sv→s.td=p'.2.td→s.cs=p'.2.cs→l.q<4→Cm p (p'.1,ko s l) (m+1):=fun {s} h1 h2 h3 h4 h5 h6 hq=>by
  refine⟨h.n,fun x hx=> ?_,h2, ?_,h4.trans h.sv, ?_,h6.trans h.cs⟩
  ·rcases Ah.1 hx with hx|hx
   ·exact h1 x hx
   ·rw[Ab.1 hx];exact UM ⟨hl.f0,hl.f5⟩ hq _ _
  ·show(s.fl++[_]).length+_≤_;rw[Ag,h3];simp only[List.length_singleton];omega
  ·show s.td.length≤_;rw[h5];omega
 unfold bH;split
 ·refine⟨h.n,h.fl,h.dir,by show p'.2.fl.length+qN p'.1≤p.2.fl.length+qN p.1+(m+1);omega,h.sv, ?_,h.cs⟩;show(p'.2.td++[_]).length≤_;rw[Ag];simp only[List.length_singleton];omega
 ·rename_i k1;split
  ·rename_i k5;have hf:=xL p'.2 l;have hq:l.q<4:=by
    rcases hl.ok.kd with g|g|g|g
    ·exact absurd g k1
    ·exact g.2.1
    ·exact g.2
    ·exact g.1.q
   exact tell (by rw[hf.1];exact h.fl) (vD (fun _=>hq) h.dir) hf.1 hf.2.2.1 hf.2.2.2 hf.2.1 hq
  ·rename_i k5;split
   ·have hq:l.q<4:=by
     rcases hl.ok.kd with g|g|g|g
     ·exact absurd g k1
     ·exact g.2.1
     ·exact g.2
     ·exact g.1.q
    exact tell h.fl h.dir rfl rfl rfl rfl hq
   ·rename_i k6;obtain⟨hw,hd0,hd5⟩:eY l∧0≤l.dst∧l.dst<5:=by
     rcases hl.ok.kd with g|g|g|g
     ·exact absurd g k1
     ·exact absurd g.1 k5
     ·exact absurd g.1 k6
     ·exact g
    have hi:l.dst.toNat<5:=by omega
    have hn:=h.n _ hi;have hu:=GP p'.1 (if(p'.1 l.dst.toNat).up=true then {p'.1 l.dst.toNat with wt:=(p'.1 l.dst.toNat).wt++[l]}else p'.1 l.dst.toNat) hi;refine⟨GQ h.n ?_,h.fl,h.dir, ?_,h.sv,(by show p'.2.td.length≤p.2.td.length+(m+1);omega),h.cs⟩
    ·split
     ·rename_i C0;refine⟨hn.i,hn.tu,fun x hx=> ?_,hn.ln,fun _=>(hn.up C0).congr rfl rfl rfl rfl,fun g=> ?_⟩
      ·rcases Ah.1 hx with hx|hx
       ·exact hn.wt x hx
       ·rw[Ab.1 hx];exact hw
      ·have:(p'.1 l.dst.toNat).up=false:=g;rw[C0]at this;cases this
     ·exact hn
    ·show p'.2.fl.length+qN (ak _ _ _)≤_;have hc:cN (if(p'.1 l.dst.toNat).up=true then {p'.1 l.dst.toNat with wt:=(p'.1 l.dst.toNat).wt++[l]}else p'.1 l.dst.toNat)≤cN (p'.1 l.dst.toNat)+1:=by
      split
      ·unfold cN;simp only[List.length_append,List.length_singleton];omega
      ·omega
     omega
theorem JQ{p:(Nat→Nd)×Ws}:∀(L:List Lt) {p':(Nat→Nd)×Ws} {m:Nat},Cm p p' m→(∀l∈L,j9 l)→Cm p (L.foldl (fun p l=>bH p.1 p.2 l) p') (m+L.length)
 |[],p',m,h,_=>h
 |l::L,p',m,h,hL=>by
  rw[BZ,List.length_cons,show m+(L.length+1)=(m+1)+L.length by omega];exact JQ L (pP h (hL l Aq)) fun x hx=>hL x (Az _ hx)
theorem adz{a b c d e f:Int}(h:aT a b c d e f=0):∀x∈bf ⟨a,b,c,d,e,f⟩,(Lit.int .i64 x).wf=true:=Y2 (v:=⟨a,b,c,d,e,f⟩) h
end
theorem Yb{k:Nat}{p:(Nat→Nd)×Ws}(h:Inv k p)(hk:k≤100000){f:tH}(ok:xO f):Inv (k+1) (j8 p f):=by
 obtain⟨ns,s⟩:=p;have hi:(f 1).toNat<5:=by have:=ok.n;omega
 have hq:(f 2).toNat<4:=by have:=ok.q;omega
 have ht:=h.t;have hv:=h.sv;have hd:=h.td;have hc:=h.c1;simp only at ht hv hd hc;have hN:∀i,i<5→NI i (ns i):=h.n;have h':Inv k (ns,s):=h;have base:Cm (ns,s) (ns,s) 0:=⟨h.n,h.fl,h.dir,Ac _,rfl,Ac _,rfl⟩;unfold j8 Qn;simp only;split
 ·
  have hn:=hN _ hi;unfold dO;split
  ·rename_i Ze;obtain⟨⟨h1,h2⟩,h3,h4,h5,h6⟩:=Ze;dsimp only;have hu:=GP ns {ns (f 1).toNat with dl:=(ns (f 1).toNat).dl++cp [aU (f 2).toNat],sy:=(((ns (f 1).toNat).dl.length+(cp [aU (f 2).toNat]).length:Nat):Int),mo:=ak (ns (f 1).toNat).mo (f 2).toNat ⟨1,1,0,0,0,[]⟩} hi;have hcn:cN {ns (f 1).toNat with dl:=(ns (f 1).toNat).dl++cp [aU (f 2).toNat],sy:=(((ns (f 1).toNat).dl.length+(cp [aU (f 2).toNat]).length:Nat):Int),mo:=ak (ns (f 1).toNat).mo (f 2).toNat ⟨1,1,0,0,0,[]⟩}=cN (ns (f 1).toNat):=rfl;refine⟨GQ h.n ⟨hn.i,hn.tu,hn.wt, ?_,fun _=>QB (hn.up h3) hq h4 h5,fun g=> ?_⟩,h.fl,GR h.dir ?_, ?_, ?_, ?_,h.c0, ?_⟩
   ·show((ns (f 1).toNat).dl++cp [aU (f 2).toNat]).length≤100000;rw[Ag];exact h6
   ·have:(ns (f 1).toNat).up=false:=g;rw[h3]at this;cases this
   ·rw[hn.i];exact .inr ⟨by omega,by omega,by decide,by decide⟩
   ·show s.fl.length+qN (ak ns (f 1).toNat {ns (f 1).toNat with dl:=(ns (f 1).toNat).dl++cp [aU (f 2).toNat],sy:=(((ns (f 1).toNat).dl.length+(cp [aU (f 2).toNat]).length:Nat):Int),mo:=ak (ns (f 1).toNat).mo (f 2).toNat ⟨1,1,0,0,0,[]⟩})≤2*(k+1);omega
   ·show s.sv.length≤_;omega
   ·show s.td.length≤_;omega
   ·show s.cs≤_;omega
  ·simp only;rw[eO];exact h.next
 ·split
  ·
   rename_i h2;have ho:=adz (ok.e h2).1;refine⟨h.n,fun l hl=> ?_,h.dir, ?_, ?_, ?_, ?_, ?_⟩
   ·rcases Ah.1 hl with hl|hl
    ·exact h.fl l hl
    ·rw[Ab.1 hl];exact X9 ⟨by omega,by omega⟩ hq ho
   ·show(s.fl++[_]).length+qN ns≤2*(k+1);rw[Ag];simp only[List.length_singleton];omega
   ·show s.sv.length≤_;omega
   ·show s.td.length≤_;omega
   ·show 0≤s.cs+1;have:=h.c0;simp only at this;omega
   ·show s.cs+1≤_;omega
  ·split
   ·
    obtain⟨h1,a,b,h2,h3,h4⟩:=yG (s:=s) (hN _ hi) hi;have Oq:=UQ (ns:=ns) hi;have hw:(ns (f 1).toNat).wt.length≤cN (ns (f 1).toNat):=by unfold cN;omega
    exact h'.piece hi h1 h2 h3 (by omega)
   ·split
    ·
     unfold jc;split
     ·exact h.next
     ·rename_i l hl;have hm:l∈s.fl:=Ar hl;have aN:(f 3).toNat % s.fl.length<s.fl.length:=by
       obtain⟨hx,_⟩:=Ap.1 hl;exact hx
      have Ik:(s.fl.eraseIdx ((f 3).toNat % s.fl.length)).length=s.fl.length-1:=List.length_eraseIdx_of_lt aN;have iG:∀x∈s.fl.eraseIdx ((f 3).toNat % s.fl.length),j9 x:=fun x hx=>h.fl x (Bv hx);split
      ·rename_i h5;rw[Aa (by omega)];refine⟨h.n,iG,h.dir, ?_, ?_, ?_,h.c0, ?_⟩
       ·show(s.fl.eraseIdx _).length+qN ns≤2*(k+1);omega
       ·show s.sv.length≤_;omega
       ·show s.td.length≤_;omega
       ·show s.cs≤_;omega
      ·have b2:Cm (ns,s) (ns,if f 0=6 then s else {s with fl:=s.fl.eraseIdx ((f 3).toNat % s.fl.length)}) 0:=by
        split
        ·exact base
        ·refine⟨h.n,iG,h.dir, ?_,rfl,Ac _,rfl⟩;show(s.fl.eraseIdx _).length+qN ns≤s.fl.length+qN ns+0;omega
       have c:=pP b2 (h.fl l hm);have c1:=c.t;have c2:=c.td;have c3:=c.sv;have c4:=c.cs;simp only at c1 c2 c3 c4;refine⟨c.n,c.fl,c.dir,by omega,by rw[c3];omega,by omega,by rw[c4];exact h.c0,by rw[c4];omega⟩
    ·split
     ·
      unfold P3;have b2:Cm (ns,{s with fl:=[]}) (ns,{s with fl:=[]}) 0:=⟨h.n,(fun l hl=>by cases hl),h.dir,Ac _,rfl,Ac _,rfl⟩;have c:=JQ s.fl b2 h.fl;have c1:=c.t;have c2:=c.td;have c3:=c.sv;have c4:=c.cs;simp only[List.length_nil]at c1 c2 c3 c4;refine⟨c.n,c.fl,c.dir,by omega,by rw[c3];omega,by omega,by rw[c4];exact h.c0,by rw[c4];omega⟩
     ·split
      ·
       obtain⟨h1,h2⟩:=UR (hN _ hi) ok.kp.1;exact h'.piece hi h1 (rP.refl s) (by omega) (by omega)
      ·split
       ·
        obtain⟨h1,h2,h3⟩:=US (s:=s) (hN _ hi);exact h'.piece hi h1 h2 (by omega) (by omega)
       ·
        unfold Uc;have G7:=h.dir _ hq;unfold kS at G7;have J8:(s.pn (f 2).toNat).toNat<5:=by
         simp only at G7;omega
        have hn:=hN _ J8;refine h'.piece J8 ?_ (rP.refl s) ?_ (by omega)
        ·unfold jX;split
         ·exact hn
         ·rename_i jM;have C0:(ns (s.pn (f 2).toNat).toNat).up=true:=by
           cases hx:(ns (s.pn (f 2).toNat).toNat).up with
           |true=>rfl
           |false=>exact absurd (.inr (.inr (.inl hx))) jM
          have hg:(cW ((ns (s.pn (f 2).toNat).toNat).mo (f 2).toNat) (((f 1).toNat:Nat):Int)).2=0:=AD.1 fun g=>jM (.inr (.inr (.inr (.inr g))));refine⟨hn.i,hn.tu,hn.wt,hn.ln,fun _=>go_up (hn.up C0) hq hg,fun g=> ?_⟩;have:(ns (s.pn (f 2).toNat).toNat).up=false:=g;rw[C0]at this;cases this
        ·unfold jX;split
         ·omega
         ·show 0+cN (ns (s.pn (f 2).toNat).toNat)≤cN (ns (s.pn (f 2).toNat).toNat)+2;omega
theorem QC:Inv 0 (Uu,Q1):=by
 exact⟨fun i hi=>⟨rfl,(show(0:Nat)<4 by decide),(fun l hl=>by cases hl),Al _,(fun _=>⟨fun q hq=>Bt.dx,[],[],gb,rfl,rfl,GL.nil,fun q hq=>(gK (B:=Bt.zero) (by show ¬(0:Int)=2;decide)).symm,.inl ⟨rfl,rfl⟩⟩),(fun g=>by cases g)⟩,(fun l hl=>by cases hl),(fun p hp=> .inl ⟨Ae hp,rfl⟩),Ac 0,Al _,Al _,Bq 0,Bq 0⟩
theorem gY(D:tG)(n:Nat)(hn:n≤100000)(ok:∀j,j<n→Lq.fQ (Lq.av D j)=0):∀k,k≤n→Inv k (gk D k)
 |0,_=>QC
 |k+1,hk=>Yb (gY D n hn ok k (by omega)) (by omega) (lT (ok k (by omega)))
section
open Rv
theorem JR:jr Tryz.prog 26=some 11:=by kernel_rfl
def mZ(o:Oc)(t:j7):Nat→Value:=Gr (iV (o.fl:Int)) (Cy o.up 5) o.pn o.pe (.slice (some ⟨t.R,0,none⟩) 5 t.c) (.slice t.sa o.sv.length t.sc) (.slice t.ta o.td.length t.tc) (iV o.cs)
theorem ny{o:Oc}{t:j7}:aW (mZ o t) 18:=Ls rfl rfl rfl rfl rfl
theorem JS{w w':tA}(b:bZ w w')(h:Lq.gl w):Lq.gl w':=h.next b
theorem L8{D:tG}{n:Nat}{c e:Int}(h:Lq.nU D n c e)(he:e=0):∀j,j<n→Lq.fQ (Lq.av D j)=0:=by
 cases h with
 |bad k hk hl hb=>exact absurd he hb
 |fe hl=>exact hl
theorem UU{w w':tA}{b t n:Nat}{f:tD}(h:bh w b t n f)(k:bZ w w'):bh w' b t n f:=by
 have hl:=h.lt;unfold bh at*;rw[k.block b hl];exact h
theorem C1{n m:Nat}{w w1 w2:tA}(h:Below n w w1)(k:Below m w1 w2)(hm:n≤m):Below n w w2:=⟨k.os.trans h.os,k.tape.trans h.tape,k.output.trans h.output,AN h.size k.size,fun b hb=>(k.block b (Am hb hm)).trans (h.block b hb)⟩
section
variable{w w1 x x':tA}{X R0:Nat}{us:Nat→Nv}{v:Wv}{F:tF}{f:tD}{T:Nat}
theorem Yc(hc:CW x X us v F)(C8:v.nd 5=w1.heap.size)(hfR:bh w1 R0 T 18 f)(hR0:w.heap.size≤R0)(YI:bZ w w1)(n_:bZ w1 x):Mem x [⟨R0,T,18,f⟩] (fun b=>b<w1.heap.size∧b≠R0) (fun _=>True) (fun y=>CW y X us v F∧bZ w y):=by
 have hRl:=hfR.lt;have hm:=Mem.begin (w:=x) (H:=[⟨R0,T,18,f⟩]) (M:=fun b=>b<w1.heap.size∧b≠R0) (G:=fun _=>True) (fun e he=>by cases Ab.1 he;exact UU hfR n_) (BN _ _) (fun e he=>by cases Ab.1 he;exact fun hh=>hh.2 rfl) (fun b hb=>Am hb.1 n_.size) (fun _ _=>trivial);have h1:bZ w x:=C1 YI n_ YI.size;refine⟨hm.g_,hm.oY,hm.off,hm.mlt,hm.g,fun w2 c2=>⟨hc.others (c2.mono fun b hb=> ?_),C1 h1 (c2.below h1.size fun b hb hu=> ?_) (Ac _)⟩⟩
 ·have e:b=R0:=by simpa using hb
  rw[e,C8];exact hRl
 ·have e:b=R0:=by simpa using hu
  omega
end
theorem Yd(a:tB)(len cap:Nat)(D:tG)(w:tA)(Ye:Lq.gl w)(dq:RowK .i64 w a (11*len) D)(js:len*88≤140737488351232)(hI:len≤100000→∀k,k≤len→(∀j,j<len→Lq.fQ (Lq.av D j)=0)→GdT (gk D k)):cA 28 #[.slice a len cap] w fun x w'=>∃y,x= .returned y∧UG D len w w' y∧bZ w w':=by
 have o0:aW (Gr (iV 0) (fun _=>false) (fun _=>0) (fun _=>0) (.slice none 0 0) (.slice none 0 0) (.slice none 0 0) (iV 0)) 18:=Ls rfl rfl rfl rfl rfl;refine en (H:=[]) 35 [vv (.slice a len cap)] Tryz.func28 rfl rfl (m0 w) (r [] rfl fun α=> ?_);by_cases hbig:100000<len
 ·exact r [1] rfl fun _=>fin fun w hS=>⟨_,rfl,.adp hbig,hS.now.2⟩
 refine r [0] rfl fun _=>cq rfl (fun y:Int×Int=>vt [.o (iV y.1),.o (iV y.2)]) (fun y=>Lq.nU D len y.1 y.2) (fun w1 hS=>(Lq.Fg a len cap D _ (JS hS.now.2 Ye) (dq.below hS.now.2) (by omega)).mono fun _ _ ⟨cc,er,e,Ze,b⟩=>⟨(cc,er),e,b,Ze⟩) ?_;rintro⟨cc,er⟩ Ze;have Ze:Lq.nU D len cc er:=Ze;by_cases Ik:er=0
 case neg=>exact r [1] rfl fun _=>fin fun w hS=>⟨_,rfl,.bad (by omega) cc er Ze Ik,hS.now.2⟩
 have NT:=L8 Ze Ik;refine r [0] rfl fun _=>gn 0 (Gr (iV 0) (fun _=>false) (fun _=>0) (fun _=>0) (.slice none 0 0) (.slice none 0 0) (.slice none 0 0) (iV 0)) (mG rfl (by kernel_rfl) fun w2 hS=> ?_);have hfR:=hS.at 0 rfl;have hR0:=hS.jN 0 rfl;have YI:=hS.now.2;refine(GG w2).mono ?_;rintro _ w3 ⟨X,nd,tk,dd,rfl,NA,hX,C8,b⟩;refine⟨vv (lp X),[],fun _=>False,fun _=>True,fun y=>CW y X nv0 ⟨nd,tk,dd,dX 4,bK,[],0,[],[]⟩ (fun b=>b=X)∧bZ w2 y,rfl,.inr b,Mem.start (fun _ h=>h.elim) (fun _ _=>trivial) (fun y b'=>⟨NA.next b',Below.next b b'⟩),Rv.sv 2 (vv (lp (α 0))) rfl (r [] rfl fun _=> ?_)⟩;refine uD (X:=Nat×(Nat→Nv)×Wv×(Nat→Prop)) (fun x=>[(2,vv (lp (α 0))),(6,vv (lp X)),(23,vv (.slice a len cap)),(24,vi (len:Int)),(25,vi (x.1:Int))]) (fun _=>[]) (fun _ _=>False) (fun x y=>CW y X x.2.1 x.2.2.1 x.2.2.2∧bZ w2 y) (fun x=>x.1≤len∧((fun i=>(x.2.1 i).pure),x.2.2.1.pure)=gk D x.1∧x.2.2.1.nd 5=w2.heap.size) (fun x=>len-x.1) (0,nv0,_,_) ⟨rfl,rfl,rfl,rfl,rfl,trivial⟩ (fun _ hS=>hS) ⟨Al _,rfl,C8⟩ ?_;rintro f ⟨k,us,v,F⟩ ⟨hk,hp,C8⟩;have hk:k≤len:=hk;have hp:((fun i=>(us i).pure),v.pure)=gk D k:=hp;have C8:v.nd 5=w2.heap.size:=C8;by_cases aN:k<len
 ·obtain⟨ab,ao,rfl⟩:=dq.form (by omega);refine r [1] rfl fun _=>lf (q:=ao+k*11) rfl 11 (aaN D k) (fun w hS=>ju (dq.below (C1 YI hS.now.2.2 YI.size)) (by omega) fun j hj=>rfl) (r [] rfl fun β=>mG rfl (by kernel_rfl) fun w4 hS=> ?_);refine(aaO hS.now.2.1 hp (hI (by omega) k hk NT) (NT k aN)).mono ?_;rintro _ w6 ⟨rfl,Kf,v2,F2,jM,hp2,hnd2,Kl⟩;refine⟨vt [],[],fun _=>False,fun _=>True,fun y=>CW y X Kf v2 F2∧bZ w2 y,rfl,.inl rfl,Mem.start (fun _ h=>h.elim) (fun _ _=>trivial) (fun y b'=>⟨jM.next b',Below.next (hS.now.2.2.trans (C8▸Kl)) b'⟩),rz [1] [((k+1:Nat):Int)] rfl fun _=>bJ (k+1,Kf,v2,F2) ⟨rfl,rfl,rfl,rfl,rfl,trivial⟩ (fun _ hS=>hS) ⟨aN,hp2,(congrFun hnd2 5).trans C8⟩ (show len-(k+1)<len-k by omega)⟩
 obtain rfl:len=k:=by omega
 have hoc:ocS (fun i=>(us i).pure) v.pure=kZ D len:=by unfold kZ;rw[←hp]
 refine r [0] rfl fun _=>Rv.sv 2 (vp 0 0 (α 0)) rfl (Zw fun x hS=>⟨[⟨α 0,40,[.f 18 (Gr (iV 0) (fun _=>false) (fun _=>0) (fun _=>0) (.slice none 0 0) (.slice none 0 0) (.slice none 0 0) (iV 0))]⟩],_,_,_,Yc hS.now.2.1 C8 hfR hR0 YI hS.now.2.2, ?_⟩);refine cx rfl (fun t:j7=>vf 18 (mZ (kZ D len) t)) (fun _=>True) (fun t w=>lO w (kZ D len) t) (fun w4 hS=>(LN (U:=fun b=>b<v.nd 5) hS.now.2.1 (fun b hb=>Am hb hS.now.2.1.ln) (fun w2 c2=>(hS.now.2.1.st w2 c2).1.1) (fun b hb hu=>absurd (hS.now.2.1.lo b hu) (BL.2 hb)) (fun i hi mV=>by have ht:=(hI (by omega) len (Ac _) NT).t i hi;rw[←hp]at ht;exact ht mV)).mono fun _ _ ⟨t,e,gV,b⟩=>⟨t,by rw[←hoc];exact e,b,trivial,fun _ w5 c5=>hoc▸gV w5 (c5.mono fun b hb=>hb.elim (fun e=>by rw[Ab.1 e,C8];exact hfR.lt) fun h=>C8▸h.1)⟩) fun t _=> ?_;have o1:aW (mZ (kZ D len) t) 18:=ny;exact r [] rfl fun _=>fin fun w5 hS=>⟨_,rfl,.fe (by omega) NT t (fun w2 c2=>(hS.g w2 (c2.mono fun b hb=> .inr ⟨Am hb YI.size,fun e=>absurd hb (Bb.2 (e▸hR0))⟩)).2),hS.now.2.2⟩
end
theorem Yf(a:tB)(len cap:Nat)(D:tG)(w:tA)(Ye:Lq.gl w)(dq:RowK .i64 w a (11*len) D)(js:len*88≤140737488351232):cA 28 #[.slice a len cap] w fun x w'=>∃y,x= .returned y∧UG D len w w' y∧bZ w w':=by
 exact Yd a len cap D w Ye dq js fun hl k hk ok=>(gY D len hl ok k hk).gd (by omega)
theorem UW(a:tB)(len cap:Nat)(D:tG)(w:tA)(Ye:Lq.gl w)(dq:RowK .i64 w a (11*len) D)(hl:len≤100000)(fw:∀j,j<len→Lq.fQ (Lq.av D j)=0):cA 28 #[.slice a len cap] w fun x w'=>∃t,x= .returned (.tuple #[ocV (kZ D len) t,iV 0])∧cm (fun b=>b<w.heap.size) w' (fun w=>lO w (kZ D len) t)∧bZ w w':=by
 refine(Yf a len cap D w Ye dq (by omega)).mono ?_;rintro x w' ⟨y,rfl,hr,b⟩;cases hr with
 |adp h=>omega
 |bad h c e hc he=>exact absurd (hc.Wb (.fe fw)).2 he
 |fe h hc t ho=>exact⟨t,rfl,ho,b⟩
section
open Rv
theorem jm(n m:Int)(w:tA)(hn:(Lit.int .i64 n).wf=true)(h0:0<m)(hm:m≤4294967296):cA 23 #[iV n,iV m] w (rB (iV (aA n m)) w):=by
 refine en (H:=[]) 8 [vi n,vi m] Tryz.func23 rfl rfl (m0 w) (r [] rfl fun _=> ?_);refine cb rfl (vi _) (fun w _=>(jd n m w hn h0 hm).mono ?_) (r [] rfl fun _=>fin fun w hS=>⟨rfl,hS.now.2⟩);rintro _ _ ⟨rfl,rfl⟩;exact⟨rfl,Bm _ _⟩
theorem QD(k a b c:Int)(w:tA)(wk:(Lit.int .i64 k).wf=true)(wa:(Lit.int .i64 a).wf=true)(wb:(Lit.int .i64 b).wf=true)(wc:(Lit.int .i64 c).wf=true):cA 31 #[vF (lF [iV k,iV a,iV b,iV c]) 4] w (rB (vF (lF [iV (eT k a b c).k,iV (eT k a b c).p,iV (eT k a b c).i,iV (eT k a b c).b,iV (eT k a b c).he,iV (eT k a b c).hn]) 6) w):=by
 refine en (H:=[]) 5 [vf 4 _] Tryz.func31 rfl rfl (m0 w) (r [] rfl fun _=> ?_);refine cb rfl (vf 6 _) (fun w _=>(Sa k a b c w wk wa wb wc).mono ?_) (r [] rfl fun _=>fin fun w hS=>⟨rfl,hS.now.2⟩);rintro _ _ ⟨rfl,b⟩;exact⟨rfl,b⟩
def kt(g:tH)(cr:Bool):List Int:=
 if aA (g 0) 24<7 then(if(eT (g 3) (g 1) (g 4) (g 4)).k=4 then[2,aA (g 1) 3,aA (g 2) 2,0,0,2,(eT (g 3) (g 1) (g 4) (g 4)).p,(eT (g 3) (g 1) (g 4) (g 4)).i,(eT (g 3) (g 1) (g 4) (g 4)).b,(eT (g 3) (g 1) (g 4) (g 4)).he,(eT (g 3) (g 1) (g 4) (g 4)).hn]else[2,aA (g 1) 3,aA (g 2) 2,0,0,(eT (g 3) (g 1) (g 4) (g 4)).k,(eT (g 3) (g 1) (g 4) (g 4)).p,(eT (g 3) (g 1) (g 4) (g 4)).i,(eT (g 3) (g 1) (g 4) (g 4)).b,(eT (g 3) (g 1) (g 4) (g 4)).he,(eT (g 3) (g 1) (g 4) (g 4)).hn])
 else if aA (g 0) 24<13 then[3,aA (g 1) 3,0,0,0,0,0,0,0,0,0]
 else if aA (g 0) 24=13 then[4,0,0,aA (g 3) 20,0,0,0,0,0,0,0]
 else if aA (g 0) 24=14 then[5,0,0,aA (g 3) 20,0,0,0,0,0,0,0]
 else if aA (g 0) 24=15 then[6,0,0,aA (g 3) 20,0,0,0,0,0,0,0]
 else if aA (g 0) 24=16 then[10,aA (g 1) 3,aA (g 2) 2,0,0,0,0,0,0,0,0]
 else if aA (g 0) 24=17∧cr=true then[8,aA (g 1) 3,0,0,aA (g 3) 120,0,0,0,0,0,0]
 else if aA (g 0) 24=18∧cr=true then[9,aA (g 1) 3,0,0,0,0,0,0,0,0,0]
 else[7,0,0,0,0,0,0,0,0,0,0]
theorem Yg(g:tH)(cr:Bool)(w:tA)(hw:∀j,j<5→(Lit.int .i64 (g j)).wf=true):cA 27 #[vF (fun j=>iV (g j)) 5,.bool cr] w (rB (vF (fun j=>iV ((kt g cr).getD j 0)) 11) w):=by
 refine en (H:=[]) 91 [vf 5 (fun j=>iV (g j)),vv (.bool cr)] Tryz.func27 rfl rfl (m0 w) (r [] rfl fun _=> ?_);refine cb rfl (vi _) (fun w _=>jm _ 3 w (hw 1 (by decide)) (by decide) (by decide)) (r [] rfl fun _=> ?_);refine cb rfl (vi _) (fun w _=>jm _ 2 w (hw 2 (by decide)) (by decide) (by decide)) (r [] rfl fun _=> ?_);refine cb rfl (vi _) (fun w _=>jm _ 24 w (hw 0 (by decide)) (by decide) (by decide)) ?_;by_cases h7:aA (g 0) 24<7
 ·refine r [1] rfl fun _=>cb rfl (vf 6 _) (fun w _=>QD _ _ _ _ w (hw 3 (by decide)) (hw 1 (by decide)) (hw 4 (by decide)) (hw 4 (by decide))) ?_;by_cases h4:(eT (g 3) (g 1) (g 4) (g 4)).k=4
  ·exact r [1] rfl fun _=>fin fun w hS=>⟨by unfold kt;rw[Ae h7,Ae h4];rfl,hS.now.2⟩
  ·exact r [0] rfl fun _=>fin fun w hS=>⟨by unfold kt;rw[Ae h7,Aa h4];rfl,hS.now.2⟩
 have k7:kt g cr=_:=Aa h7;by_cases h13:aA (g 0) 24<13
 ·exact r [0,1] rfl fun _=>fin fun w hS=>⟨by rw[k7,Ae h13];rfl,hS.now.2⟩
 rw[Aa h13]at k7;by_cases ha:aA (g 0) 24=13
 ·exact r [0,0,1] rfl fun _=>cb rfl (vi _) (fun w _=>jm _ 20 w (hw 3 (by decide)) (by decide) (by decide)) (r [0] rfl fun _=>fin fun w hS=>⟨by rw[k7,Ae ha];rfl,hS.now.2⟩)
 rw[Aa ha]at k7;by_cases hb:aA (g 0) 24=14
 ·exact r [0,0,0,1] rfl fun _=>cb rfl (vi _) (fun w _=>jm _ 20 w (hw 3 (by decide)) (by decide) (by decide)) (r [0] rfl fun _=>fin fun w hS=>⟨by rw[k7,Ae hb];rfl,hS.now.2⟩)
 rw[Aa hb]at k7;by_cases hc:aA (g 0) 24=15
 ·exact r [0,0,0,0,1] rfl fun _=>cb rfl (vi _) (fun w _=>jm _ 20 w (hw 3 (by decide)) (by decide) (by decide)) (r [0] rfl fun _=>fin fun w hS=>⟨by rw[k7,Ae hc];rfl,hS.now.2⟩)
 rw[Aa hc]at k7;by_cases hd:aA (g 0) 24=16
 ·exact r [0,0,0,0,0,1] rfl fun _=>fin fun w hS=>⟨by rw[k7,Ae hd];rfl,hS.now.2⟩
 rw[Aa hd]at k7;by_cases h17:aA (g 0) 24=17
 ·cases cr
  ·exact r [0,0,0,0,0,0,1,0] rfl fun _=>fin fun w hS=>⟨by rw[k7,Aa (fun e=>by cases e.2),Aa (fun e=>by cases e.2)];rfl,hS.now.2⟩
  ·exact r [0,0,0,0,0,0,1] rfl fun _=>cb rfl (vi _) (fun w _=>jm _ 120 w (hw 3 (by decide)) (by decide) (by decide)) (r [0] rfl fun _=>fin fun w hS=>⟨by rw[k7,Ae ⟨h17,rfl⟩];rfl,hS.now.2⟩)
 rw[Aa (fun e=>h17 e.1)]at k7;by_cases h18:aA (g 0) 24=18
 ·cases cr
  ·exact r [0,0,0,0,0,0,0,1] rfl fun _=>fin fun w hS=>⟨by rw[k7,Aa (fun e=>by cases e.2)];rfl,hS.now.2⟩
  ·exact r [0,0,0,0,0,0,0,1] rfl fun _=>fin fun w hS=>⟨by rw[k7,Ae ⟨h18,rfl⟩];rfl,hS.now.2⟩
 exact r [0,0,0,0,0,0,0,0] rfl fun _=>fin fun w hS=>⟨by rw[k7,Aa (fun e=>h18 e.1)];rfl,hS.now.2⟩
theorem cZ:jI Tryz.prog 26 63 11 88=true:=by kernel_rfl
def iN(G:tG)(k:Nat):Nat→Int:=fun o=>G.getD (5*k+o) 0
def mm(G:tG)(cr:Bool):Nat→List Int
 |0=>[1,0,0,0,0,0,0,0,0,0,0,1,1,1,0,0,0,0,0,0,0,0]
 |k+1=>mm G cr k++kt (iN G k) cr
def gaF(G:tG)(k:Nat)(cr:Bool):Nat→Value:=fun j=>iV ((kt (iN G k) cr).getD j 0)
theorem wW(g:tH)(cr:Bool):(kt g cr).length=11:=by
 unfold kt
 repeat' split
 all_goals rfl
theorem qO(G:tG)(cr:Bool):∀k,(mm G cr k).length=11*(k+2)
 |0=>rfl
 |k+1=>by
  show(mm G cr k++kt (iN G k) cr).length=_;rw[Ag,qO G cr k,wW];omega
theorem Yh{w:tA}{a:tB}{n:Nat}{G:tG}(h:RowK .i64 w a (5*n) G){k:Nat}(hk:k<n):∀j,j<5→(Lit.int .i64 (iN G k j)).wf=true:=fun j hj=>by
 have hl:=h.bP;unfold iN;rw[Aw,Ai (show 5*k+j<G.length by omega)];exact h.wf _ (BE _)
theorem UX(G:tG)(k:Nat)(cr:Bool):dD [.f 11 (gaF G k cr)]=(kt (iN G k) cr).map (Value.int .i64):=by
 have hl:=wW (iN G k) cr;unfold gaF;generalize kt (iN G k) cr=l at hl⊢
 match l,hl with
 |[_,_,_,_,_,_,_,_,_,_,_],_=>rfl
theorem m_(a:tB)(len cap L9:Nat)(cr:Bool)(GD:tG)(w:tA)(h:RowK .i64 w a (5*len) GD)(hl:len≤4000000000000)(hm:L9≤1000000):cA 16 #[.slice a len cap,iV (L9:Int),.bool cr] w fun x w'=>∃v,x= .returned v∧w'.ownsRow w.heap.size 63 11 v (min len L9+2) ((mm GD cr (min len L9)).map (Value.int .i64))∧bZ w w':=by
 refine en (H:=[]) _ [vv (.slice a len cap),vi (L9:Int),vv (.bool cr)] Tryz.func16 rfl rfl (m0 w) (r [] rfl fun α=> ?_);refine ro 0 11 2 2 (fun _ h=>h) ?_ rfl rfl;refine iD (X:=Nat×Value) ⟨fun x=>[(0,vv (.slice a len cap)),(1,vi (L9:Int)),(2,vv (.bool cr)),(7,vv x.2),(8,vi (x.1:Int))],fun _=>[],fun x b=>x.2.ownBlock=some b∨False,fun _ _=>True,fun x w'=>bZ w w'∧w'.ownsRow w.heap.size 63 11 x.2 (x.1+2) ((mm GD cr x.1).map (Value.int .i64)),fun x=>x.1≤min len L9,fun x=>min len L9-x.1⟩ (0,_) ⟨rfl,rfl,rfl,rfl,rfl,trivial⟩ (fun _ hS=>hS) (Al _) ?_;rintro f ⟨k,v⟩ hk;have hk:k≤min len L9:=hk;by_cases h1:k<len
 case neg=>
  obtain rfl:k=min len L9:=by omega
  exact r [0] rfl fun _=>fin fun w hS=>⟨v,rfl,hS.now.2.2,hS.now.2.1⟩
 by_cases h2:k<L9
 case neg=>
  obtain rfl:k=min len L9:=by omega
  exact r [1,0] rfl fun _=>fin fun w hS=>⟨v,rfl,hS.now.2.2,hS.now.2.1⟩
 obtain⟨b,o,rfl⟩:=h.form (by omega);have og:aW (fun j=>iV (iN GD k j)) 5:=fun _ _=>rfl;have oa:aW (gaF GD k cr) 11:=fun _ _=>rfl;refine r [1,1] rfl fun _=>lf (q:=o+k*5) rfl 5 (fun j=>iV (iN GD k j)) (fun w hS=>ju (h.below hS.now.2.1) (by omega) fun j _=>rfl) (r [] rfl fun _=>Rv.cb rfl (vf 11 (gaF GD k cr)) (fun w hS=>Yg (iN GD k) cr w (Yh h h1)) ?_);refine r [] rfl fun _=>nJ 1 rfl cZ (fun w hS=>hS.now.2.1.size) (fun _ _ h c=>cB h c (Ac _)) fun g c hc=> ?_;exact rz [1] [((k+1:Nat):Int)] rfl fun _=>bJ (k+1,.slice (some ⟨g,0,none⟩) (k+2+1) c) ⟨rfl,rfl,rfl,rfl,rfl,trivial⟩ (fun w hS=>(hS.take 0).sr fun w h=>⟨h.1,by rw[show mm GD cr (k+1)=mm GD cr k++kt (iN GD k) cr from rfl,AE,←UX];exact h.2⟩) (show k+1≤min len L9 by omega) (show min len L9-(k+1)<min len L9-k by omega)
theorem UY{w:tA}{o:Oc}{t:j7}(h:lO w o t){q:Nat}(hq:q<5):w.cell? ⟨t.R,q,none⟩=some (.slice (some ⟨t.Y q,0,none⟩) 4 (t.C q)):=by
 have h1:=h.r.at q (by have:=h.c5;omega);rw[(h.f q hq).1]at h1;exact h1
theorem yH(a:tB)(len cap:Nat)(D:tG)(w:tA)(Ye:Lq.gl w)(dq:RowK .i64 w a (11*len) D)(hlen:len≤100000)(fw:∀j,j<len→Lq.fQ (Lq.av D j)=0):cA 19 #[.slice a len cap] w fun x w'=>∃t,x= .returned (.tuple #[ocV (kZ D len) t,.bool true])∧cm (fun b=>b<w.heap.size) w' (fun w=>lO w (kZ D len) t)∧bZ w w':=by
 refine en (H:=[]) _ [vv (.slice a len cap)] Tryz.func19 rfl rfl (nZ (w:=w) (U:=fun b=>b<w.heap.size) (fun _ h=>h) (G:=fun _=>True) (fun _ _=>trivial)) (r [] rfl fun α=> ?_);refine cx rfl (fun t:j7=>vt [.g [.f 18 (mZ (kZ D len) t)],.o (iV 0)]) (fun _=>True) (fun t w=>lO w (kZ D len) t) (fun w1 hS=>(UW a len cap D _ (Ye.next hS.now.2) (dq.below hS.now.2) hlen fw).mono fun _ w2 ⟨t,e,ho,b⟩=>⟨t,e,b,trivial,fun hl=>ho.mono fun b _ hu=>hl b hu⟩) fun t _=> ?_;have og:aW (mZ (kZ D len) t) 18:=ny;refine r [5,0,17,1,1] rfl fun _=>Zu (q:=0+0*1) rfl (.slice (some ⟨t.Y 0,0,none⟩) 4 (t.C 0)) (fun w h=>UY h.1.2 (by decide)) ?_ (fun a ha=>by cases Ab.1 ha;exact List.Mem.head _);exact r [1] rfl fun _=>fin fun w hS=>⟨t,rfl,fun w2 c=>(hS.g w2 (c.mono fun _ h=> .inr h)).2,hS.now.2⟩
theorem C9:jI Tryz.prog 23 40 18 160=true:=by kernel_rfl
theorem C_{D:tG}{n j:Nat}(hj:j<n)(hl:11*n≤D.length):∀o,o<11→Lq.av (D.take (11*n)) j o=Lq.av D j o:=fun o ho=>by
 unfold Lq.av;rw[Aw,Aw,List.getElem?_take_of_lt (by omega)]
theorem tz{p:(Nat→Nd)×Ws}{f g:tH}(h:∀o,o<11→f o=g o):j8 p f=j8 p g:=by
 unfold j8;rw[h 0 (by decide),h 1 (by decide),h 2 (by decide),h 3 (by decide),h 4 (by decide),h 5 (by decide),h 6 (by decide),h 7 (by decide),h 8 (by decide),h 9 (by decide),h 10 (by decide)]
theorem Fk{D:tG}{n:Nat}(hl:11*n≤D.length):∀k,k≤n→gk (D.take (11*n)) k=gk D k
 |0,_=>rfl
 |k+1,hk=>by
  show j8 (gk (D.take (11*n)) k) _=j8 (gk D k) _;rw[Fk hl k (by omega)];exact tz (C_ (by omega) hl)
theorem UZ{D:tG}{n:Nat}(hl:11*n≤D.length):kZ (D.take (11*n)) n=kZ D n:=by
 unfold kZ;rw[Fk hl n (Ac _)]
theorem jF{f g:tH}(h:∀o,o<11→f o=g o):Lq.fQ f=Lq.fQ g:=by
 have e:Lq.less (Lq.gJ (g 0) (g 5)) f=Lq.less (Lq.gJ (g 0) (g 5)) g∨True:= .inr trivial;have hb:∀S:List Nat,∀b:Nat→Int,Lq.lR (Lq.over S b f)=Lq.lR (Lq.over S b g):=fun S b=>by
  have ho:∀i,i<11→Lq.over S b f i=Lq.over S b g i:=fun i hi=>by unfold Lq.over;rw[h i hi]
  unfold Lq.lR;rw[ho 0 (by decide),ho 1 (by decide),ho 2 (by decide),ho 3 (by decide),ho 4 (by decide),ho 5 (by decide),ho 6 (by decide),ho 7 (by decide),ho 8 (by decide),ho 9 (by decide),ho 10 (by decide)]
 have hq:∀S:List Nat,∀b:Nat→Int,Lq.Vu (Lq.less S f) b=Lq.Vu (Lq.less S g) b:=fun S b=>by
  rw[Bool.eq_iff_iff,Lq.GJ,Lq.GJ];constructor
  ·intro k i hi;have:=k i hi;unfold Lq.less at this⊢;rw[←h i hi];exact this
  ·intro k i hi;have:=k i hi;unfold Lq.less at this⊢;rw[h i hi];exact this
 unfold Lq.fQ;rw[h 0 (by decide),h 5 (by decide),hb,hq]
theorem JT{P:tY}{s sz:Nat}(hf:jr P s=some sz)(a:tB)(len cap h m:Nat)(hh:h≤m)(hm:m≤cap)(w:tA):
  (Instr.sliceAt s (.slice a len cap) none (some (iV (h:Int))) (some (iV (m:Int)))).run P w= .ok (.slice a h m) w:=by
 unfold jr at hf;split at hf
 ·rename_i e hu;cases hi:P.info? e with
  |none=>simp[hi]at hf
  |some i=>
   simp[hi]at hf;subst hf;cases a<;>simp[Instr.sliceAt,Instr.slice,run_underlying hu,Instr.sliceBounds,Instr.sliceBound,asIntOf,sizeOf,typeInfo,hi,hh,hm,Addr.add]
 ·cases hf
theorem agw{ρ:Operand→Value}{o:Oper}{s sz:Nat}{x z u:tU}{a:tB}{len cap k m:Nat}(hf:jr Tryz.prog s=some sz)(hh:k≤m)(hm:m≤cap)(hp:o.op= .slice s x none (some z) (some u))(hx:ρ x= .slice a len cap)(hz:ρ z=iV (k:Int))(hu:ρ u=iV (m:Int))(w:tA):(execOp ρ o).run Tryz.prog w= .ok (.value (.slice a k m)) w:=by
 simp only[execOp,hp,hx,hz,hu,Option.map_some,Option.map_none,Sem.run_bind,JT hf a len cap k m hh hm,Result.andThen_ok,Sem.run_pure]
noncomputable def yh(D:tG)(ts:Nat→j7):Nat→List Value
 |0=>[]
 |k+1=>yh D ts k++dD [.f 18 (mZ (kZ D k) (ts k))]
theorem Da{D:tG}{ts us:Nat→j7}:∀{k},(∀q,q<k→ts q=us q)→yh D ts k=yh D us k
 |0,_=>rfl
 |k+1,h=>by rw[yh,yh,Da fun q hq=>h q (by omega),h k (by omega)]
theorem vE{D:tG}{ts:Nat→j7}:∀k,(yh D ts k).length=k*18
 |0=>rfl
 |k+1=>by rw[yh,Ag,vE k,show(dD [.f 18 (mZ (kZ D k) (ts k))]).length=18 from rfl];omega
theorem NU{D:tG}{ts:Nat→j7}{q j:Nat}(hj:j<18):∀{k},q<k→(yh D ts k)[q*18+j]? =some (mZ (kZ D q) (ts q) j)
 |k+1,hq=>by
  rw[yh];by_cases e:q=k
  ·subst e;rw[AQ (by rw[vE];omega),vE,Cu];exact(bW _ 0 18 j hj).trans (by rw[Aj])
  ·rw[AZ (by rw[vE];omega)];exact NU hj (by omega)
theorem Yi{w:tA}{D:tG}{ts:Nat→j7}{k:Nat}{t:j7}(h:∀q,q<k→lO w (kZ D q) (ts q))(ht:lO w (kZ D k) t):∀q,q<k+1→lO w (kZ D q) (ak ts k t q):=fun q hq=>by
 by_cases e:q=k
 ·subst e;rw[aj];exact ht
 ·rw[aI e];exact h q (by omega)
theorem vG(a:tB)(len cap:Nat)(D:tG)(w:tA)(Ye:Lq.gl w)(dq:RowK .i64 w a (11*len) D)(rY:len≤cap)(hlen:len≤100000)(fw:∀j,j<len→Lq.fQ (Lq.av D j)=0):cA 15 #[.slice a len cap] w fun x w'=>∃(Y c:Nat) (ts:Nat→j7),x= .returned (.tuple #[.slice (some ⟨Y,0,none⟩) (len+1) c,.bool true])∧cm (fun b=>b<w.heap.size) w' (fun w=>∀q,q<len+1→lO w (kZ D q) (ts q)∧∀j,j<18→w.cell? ⟨Y,q*18+j,none⟩=some (mZ (kZ D q) (ts q) j))∧bZ w w':=by
 have hDl:=dq.bP;refine en (H:=[]) _ [vv (.slice a len cap)] Tryz.func15 rfl rfl (nZ (w:=w) (U:=fun b=>b<w.heap.size) (fun _ h=>h) (G:=fun _=>True) (fun _ _=>trivial)) (r [] rfl fun _=> ?_);refine jt (fun w2 hS=>hS.xR w.heap.size 40 18) ?_;refine iD (X:=Nat×Value×(Nat→j7)) ⟨fun x=>[(0,vv (.slice a len cap)),(4,vv x.2.1),(5,vi (x.1:Int))],fun _=>[],fun x b=>x.2.1.ownBlock=some b∨b<w.heap.size,fun x w=>∀q,q<x.1→lO w (kZ D q) (x.2.2 q),fun x w'=>bZ w w'∧w'.ownsRow w.heap.size 40 18 x.2.1 x.1 (yh D x.2.2 x.1),fun x=>x.1≤len+1,fun x=>len+1-x.1⟩ (0,.slice none 0 0,fun _=>⟨0,0,fun _=> .nilFunc,fun _=>0,fun _=>0,fun _ _=>none,fun _ _=>0,none,0,none,0⟩) ⟨rfl,rfl,rfl,trivial⟩ (fun w hS=>hS.said fun _ _ q hq=>absurd hq (AF q)) (Al _) ?_;rintro f ⟨k,v,ts⟩ hk;have hk:k≤len+1:=hk;by_cases h1:k≤len
 case neg=>
  obtain rfl:k=len+1:=by omega
  refine r [0] rfl fun _=>fin fun w' hS=> ?_;have ho:=hS.now.2.2;obtain⟨c,cur,Y,e,hb⟩:∃c cur Y,v= .slice (some ⟨Y,0,none⟩) (len+1) c∧w.heap.size≤Y:=by
   rcases ho.2 with⟨_,h0⟩|⟨g,cap,cur,e,hb,_⟩
   ·omega
   ·exact⟨cap,cur,g,e,hb⟩
  subst e;refine⟨Y,c,ts,rfl,fun w2 c2 q hq=>⟨hS.g w2 (c2.mono fun _ h=> .inr (.inr h)) q hq,fun j hj=> ?_⟩,hS.now.2.1⟩;have ho2:=jO ho fun g hg hl=>c2.block g hl fun hu=>by cases hg;exact Bb.2 hb hu
  rw[ho2.cellAt (q*18+j) (by omega),NU hj hq]
 have ht:=dq.take (11*k) (by omega);refine r [1] rfl fun _=>pv (vv (.slice a k k)) rfl (fun w=>agw JR (Ac k) (by omega) rfl rfl rfl rfl w) ?_;refine r [] rfl fun _=>cx rfl (fun t:j7=>vt [.g [.f 18 (mZ (kZ D k) t)],.o (.bool true)]) (fun _=>True) (fun t w=>lO w (kZ D k) t) (fun w1 hS=>(yH a k k (D.take (11*k)) w1 (Ye.next hS.now.2.1) (ht.below hS.now.2.1) (by omega) (fun j hj=>(jF (C_ hj (by omega))).trans (fw j (by omega)))).mono fun _ w2 ⟨t,e,ho,b⟩=> ?_) ?_
 ·rw[UZ (by omega)]at e ho;exact⟨t,e,b,trivial,fun hl=>ho.mono fun b _ hu=>hl b hu⟩
 intro t _;have og:aW (mZ (kZ D k) t) 18:=ny;refine r [] rfl fun α=>nJ 1 rfl C9 (fun w hS=>hS.now.2.1.size) (fun _ _ h c=>cB h c (Ac _)) fun g c hc=> ?_;exact rz [1] [((k+1:Nat):Int)] rfl fun _=>bJ (k+1,.slice (some ⟨g,0,none⟩) (k+1) c,ak ts k t) ⟨rfl,rfl,rfl,trivial⟩ (fun w hS=>((hS.take 0).said fun w h=>Yi h.1 h.2).sr fun w h=>⟨h.1,by show World.ownsRow w _ _ _ _ _ (yh D (ak ts k t) (k+1));rw[yh,aj,Da (us:=ts) fun q hq=>aI (by omega)];exact h.2⟩) (show k+1≤len+1 by omega) (show len+1-(k+1)<len+1-k by omega)
end
theorem lU{f:tH}(h1:Lq.gH (f 0) (f 5)<12)(h2:Lq.lR (Lq.over (Lq.gJ (f 0) (f 5)) (Lq.jE (Lq.gH (f 0) (f 5))) f)=true)(h3:Lq.Vu (Lq.less (Lq.gJ (f 0) (f 5)) f) (Lq.jE (Lq.gH (f 0) (f 5)))=true):Lq.fQ f=0:=by
 unfold Lq.fQ;rw[Ae h1,Ae h2,Ae h3]
theorem il{n m:Int}(h:0≤n∧n≤m):Lq.sH n m=true:=As h
abbrev lA(l:tG):Nat→Int:=fun o=>l.getD o 0
section
variable{n q p kp e i b:Int}
theorem JU(hn:0≤n∧n≤4)(hq:0≤q∧q≤3):Lq.fQ (lA [1,n,q,0,0,0,0,0,0,0,0])=0:=lU (show Lq.gH 1 0<12 by decide) (by show(Lq.sH n 4&&(Lq.sH q 3&&true))=true;rw[il hn,il hq];rfl) rfl
theorem U1(hn:0≤n∧n≤4)(hq:0≤q∧q≤3):Lq.fQ (lA [10,n,q,0,0,0,0,0,0,0,0])=0:=lU (show Lq.gH 10 0<12 by decide) (by show(Lq.sH n 4&&(Lq.sH q 3&&true))=true;rw[il hn,il hq];rfl) rfl
theorem vH(hn:0≤n∧n≤4):Lq.fQ (lA [3,n,0,0,0,0,0,0,0,0,0])=0:=lU (show Lq.gH 3 0<12 by decide) (by show(Lq.sH n 4&&true)=true;rw[il hn];rfl) rfl
theorem rQ(hn:0≤n∧n≤4):Lq.fQ (lA [9,n,0,0,0,0,0,0,0,0,0])=0:=lU (show Lq.gH 9 0<12 by decide) (by show(Lq.sH n 4&&true)=true;rw[il hn];rfl) rfl
theorem QE(hn:0≤n∧n≤4)(hk:0≤kp∧kp≤100000):Lq.fQ (lA [8,n,0,0,kp,0,0,0,0,0,0])=0:=lU (show Lq.gH 8 0<12 by decide) (by show(Lq.sH n 4&&(true&&(Lq.sH kp 100000&&true)))=true;rw[il hn,il hk];rfl) rfl
theorem QF(hp:0≤p∧p≤1048576):Lq.fQ (lA [4,0,0,p,0,0,0,0,0,0,0])=0:=lU (show Lq.gH 4 0<12 by decide) (by show(true&&(true&&(true&&(Lq.sH p 1048576&&true))))=true;rw[il hp];rfl) rfl
theorem U2(hp:0≤p∧p≤1048576):Lq.fQ (lA [5,0,0,p,0,0,0,0,0,0,0])=0:=lU (show Lq.gH 5 0<12 by decide) (by show(true&&(true&&(true&&(Lq.sH p 1048576&&true))))=true;rw[il hp];rfl) rfl
theorem L_(hp:0≤p∧p≤1048576):Lq.fQ (lA [6,0,0,p,0,0,0,0,0,0,0])=0:=lU (show Lq.gH 6 0<12 by decide) (by show(true&&(true&&(true&&(Lq.sH p 1048576&&true))))=true;rw[il hp];rfl) rfl
theorem yI:Lq.fQ (lA [7,0,0,0,0,0,0,0,0,0,0])=0:=lU (show Lq.gH 7 0<12 by decide) rfl rfl
theorem Yj(hn:0≤n∧n≤4)(hq:0≤q∧q≤3)(hp:0≤p∧p≤3)(hi:0≤i∧i≤1073741824)(hb:0≤b∧b≤1000000):Lq.fQ (lA [2,n,q,0,0,1,p,i,b,0,0])=0:=lU (show Lq.gH 2 1<12 by decide) (by show(Lq.sH n 4&&(Lq.sH q 3&&(true&&(true&&(false||aT 1 p i b 0 0==0)))))=true;rw[il hn,il hq,Lq.Qx.2 ⟨hp,hi,hb⟩];rfl) rfl
theorem U3(hn:0≤n∧n≤4)(hq:0≤q∧q≤3):Lq.fQ (lA [2,n,q,0,0,2,0,0,0,0,0])=0:=lU (show Lq.gH 2 2<12 by decide) (by show(Lq.sH n 4&&(Lq.sH q 3&&(true&&(true&&(false||aT 2 0 0 0 0 0==0)))))=true;rw[il hn,il hq,Lq.LV];rfl) rfl
theorem Yk(hn:0≤n∧n≤4)(hq:0≤q∧q≤3)(he:0≤e∧e≤1048576)(hi:0≤i∧i≤1073741824):Lq.fQ (lA [2,n,q,0,0,3,0,0,0,e,i])=0:=lU (show Lq.gH 2 3<12 by decide) (by show(Lq.sH n 4&&(Lq.sH q 3&&(true&&(true&&(false||aT 3 0 0 0 e i==0)))))=true;rw[il hn,il hq,Lq.Qy.2 ⟨he,hi⟩];rfl) rfl
end
inductive GA(cr:Bool):List Int→Prop
 |FV (n q p i b:Int) (hn:0≤n∧n<3) (hq:0≤q∧q<2) (hp:0≤p∧p<2) (hi:0≤i∧i<24) (hb:0≤b∧b<1000):GA cr [2,n,q,0,0,1,p,i,b,0,0]
 |recv (n q:Int) (hn:0≤n∧n<3) (hq:0≤q∧q<2):GA cr [2,n,q,0,0,2,0,0,0,0,0]
 |FW (n q e i:Int) (hn:0≤n∧n<3) (hq:0≤q∧q<2) (he:0≤e∧e<3) (hi:0≤i∧i<6):GA cr [2,n,q,0,0,3,0,0,0,e,i]
 |step (n:Int) (hn:0≤n∧n<3):GA cr [3,n,0,0,0,0,0,0,0,0,0]
 |carry (p:Int) (hp:0≤p∧p<20):GA cr [4,0,0,p,0,0,0,0,0,0,0]
 |adB (p:Int) (hp:0≤p∧p<20):GA cr [5,0,0,p,0,0,0,0,0,0,0]
 |double (p:Int) (hp:0≤p∧p<20):GA cr [6,0,0,p,0,0,0,0,0,0,0]
 |move (n q:Int) (hn:0≤n∧n<3) (hq:0≤q∧q<2):GA cr [10,n,q,0,0,0,0,0,0,0,0]
 |NQ (n p:Int) (hc:cr=true) (hn:0≤n∧n<3) (hp:0≤p∧p<120):GA cr [8,n,0,0,p,0,0,0,0,0,0]
 |start (n:Int) (hc:cr=true) (hn:0≤n∧n<3):GA cr [9,n,0,0,0,0,0,0,0,0,0]
 |all:GA cr [7,0,0,0,0,0,0,0,0,0,0]
theorem NV(g:tH)(cr:Bool):GA cr (kt g cr):=by
 have hn:=di (g 1) 3 (by decide);have hq:=di (g 2) 2 (by decide);have h2:=di (g 1) 2 (by decide);have h24:=di (g 4) 24 (by decide);have hb:=di (g 4) 1000 (by decide);have h3:=di (g 1) 3 (by decide);have h6:=di (g 4) 6 (by decide);have h20:=di (g 3) 20 (by decide);have agy:=di (g 3) 120 (by decide);unfold kt;split
 ·unfold eT;by_cases e1:aA (g 3) 8<3
  ·rw[Ae e1,Aa (show ¬(1:Int)=4 by decide)];exact .FV _ _ _ _ _ hn hq h2 h24 hb
  ·rw[Aa e1];by_cases e2:aA (g 3) 8<5
   ·rw[Ae e2,Aa (by decide)];exact .recv _ _ hn hq
   ·rw[Aa e2];by_cases e3:aA (g 3) 8<7
    ·rw[Ae e3,Aa (show ¬(3:Int)=4 by decide)];exact .FW _ _ _ _ hn hq h3 h6
    ·rw[Aa e3,Ae rfl];exact .recv _ _ hn hq
 ·split
  ·exact .step _ hn
  ·split
   ·exact .carry _ h20
   ·split
    ·exact .adB _ h20
    ·split
     ·exact .double _ h20
     ·split
      ·exact .move _ _ hn hq
      ·split
       ·rename_i h;exact .NQ _ _ h.2 hn agy
       ·split
        ·rename_i h;exact .start _ h.2 hn
        ·exact .all
theorem GA.fQ{cr:Bool}{l:tG}(h:GA cr l):Lq.fQ (lA l)=0:=by
 cases h with
 |FV n q p i b hn hq hp hi hb=>exact Yj (by omega) (by omega) (by omega) (by omega) (by omega)
 |recv n q hn hq=>exact U3 (by omega) (by omega)
 |FW n q e i hn hq he hi=>exact Yk (by omega) (by omega) (by omega) (by omega)
 |step n hn=>exact vH (by omega)
 |carry p hp=>exact QF (by omega)
 |adB p hp=>exact U2 (by omega)
 |double p hp=>exact L_ (by omega)
 |move n q hn hq=>exact U1 (by omega) (by omega)
 |NQ n p hc hn hp=>exact QE (by omega) (by omega)
 |start n hc hn=>exact rQ (by omega)
 |all=>exact yI
theorem qP{u:Int}(h:0≤u∧u≤1000000):(Lit.int .i64 u).wf=true:=Lo (by omega) (by omega)
theorem GA.sm{cr:Bool}{l:tG}(h:GA cr l):∀u∈l,0≤u∧u≤1000000:=by
 intro u hu;cases h<;>simp only[List.mem_cons,List.not_mem_nil,or_false]at hu<;>omega
def c_(D:tG)(j:Nat):List Int:=(D.drop (11*j)).take 11
theorem cK(D:tG)(j:Nat):∀o,o<11→Lq.av D j o=lA (c_ D j) o:=fun o ho=>by
 unfold Lq.av lA c_;rw[Aw,Aw,List.getElem?_take_of_lt ho,BO]
theorem fL{D E:tG}{j:Nat}(h:11*(j+1)≤D.length):c_ (D++E) j=c_ D j:=by
 unfold c_;rw[List.drop_append_of_le_length (by omega),List.take_append_of_le_length (by rw[AK];omega)]
theorem eW{D E:tG}{n j:Nat}(h:D.length=11*n):c_ (D++E) (n+j)=c_ E j:=by
 unfold c_;rw[List.drop_append,Cf (by omega),List.nil_append,show 11*(n+j)-D.length=11*j by omega]
theorem na{l:tG}(h:l.length=11):c_ l 0=l:=by
 unfold c_;rw[Nat.mul_zero,List.drop_zero,AL (by omega)]
theorem yJ(G:tG)(cr:Bool):∀(k j:Nat),j<k+2→(j=0∧c_ (mm G cr k) j=[1,0,0,0,0,0,0,0,0,0,0])∨(j=1∧c_ (mm G cr k) j=[1,1,1,0,0,0,0,0,0,0,0])∨(2≤j∧GA cr (c_ (mm G cr k) j))
 |0,j,hj=>by
  obtain rfl|rfl:j=0∨j=1:=by omega
  ·exact .inl ⟨rfl,rfl⟩
  ·exact .inr (.inl ⟨rfl,rfl⟩)
 |k+1,j,hj=>by
  have hl:=qO G cr k;show(j=0∧c_ (mm G cr k++kt (iN G k) cr) j=_)∨(j=1∧c_ (mm G cr k++kt (iN G k) cr) j=_)∨(2≤j∧GA cr (c_ (mm G cr k++kt (iN G k) cr) j));by_cases e:j<k+2
  ·rw[fL (by omega)];exact yJ G cr k j e
  ·obtain rfl:j=k+2:=by omega
   have:=eW (E:=kt (iN G k) cr) (j:=0) hl;rw[Cn]at this;rw[this,na (wW _ _)];exact .inr (.inr ⟨by omega,NV _ _⟩)
theorem rS(G:tG)(cr:Bool)(k j:Nat)(hj:j<k+2):Lq.fQ (Lq.av (mm G cr k) j)=0:=by
 rw[jF (cK _ _)];rcases yJ G cr k j hj with⟨_,e⟩|⟨_,e⟩|⟨_,e⟩
 ·rw[e];exact JU (by decide) (by decide)
 ·rw[e];exact JU (by decide) (by decide)
 ·exact e.fQ
theorem wY(G:tG)(cr:Bool):∀k,∀u∈mm G cr k,0≤u∧u≤1000000
 |0,u,hu=>by
  simp only[mm,List.mem_cons,List.not_mem_nil,or_false]at hu;omega
 |k+1,u,hu=>by
  rcases Ah.1 hu with hu|hu
  ·exact wY G cr k u hu
  ·exact(NV _ _).sm u hu
namespace Lq
open Go.ChangeShapes Go.WideShapes Go.ChangeAt
section
variable{H:Type}{enc:TypeId×Value→H}{W:tA}
def oR(w:tA)(a:Addr):Int:=match w.cell? a with
 |some (.int .i64 z)=>z
 |_=>0
theorem QG{t e:tZ}{size:Nat}(ht:Tryz.prog.underlying t=some (.slice e))(hc:Tryz.prog.cellsOf e=size)(h0:0<size)
  (hints:∀{fuel:Nat} {cs:tM} {x:DataW H×List MemPlace},DataW.trod enc Tryz.prog W 0 (fun _=>true) true fuel e cs=some x→Ints cs∧cs.length=size)
  {fuel:Nat} {cs:tM} {d:DataW H} {p:List MemPlace} (hf:DataW.trod enc Tryz.prog W 0 (fun _=>true) true fuel t cs=some (d,p)):
  ∃a len cap D,cs=[.slice a len cap]∧RowK .i64 W a (size*len) D∧len≤cap∧cap≤maxLen∧(a=none→cap=0)∧((d= .nil∧cap=0)∨∃es sp,d= .slice es sp∧es.length+sp.length=cap):=by
 rcases Go.Deep.open_slice ht hf with⟨rfl,hx⟩|⟨x,l,c,m,n,Dd,Pl,rfl,_,hl,hm,hmm,hx,kM⟩
 ·simp only[Prod.mk.injEq]at hx;exact⟨none,0,0,[],rfl,RowK.nil _ _ _,Ac _,by unfold maxLen;omega,fun _=>rfl,.inl ⟨hx.1,rfl⟩⟩
 ·simp only[if_true]at hmm;subst hmm;simp only[Prod.mk.injEq]at hx;have adC:(d= .nil∧m=0)∨∃es sp,d= .slice es sp∧es.length+sp.length=m:= .inr ⟨_,_,hx.1,by simp;omega⟩;have key:∀i,i<l→∀t,t<size→∃z,W.cell? ((x.add (i*size)).add t)=some (iV z)∧(Lit.int .i64 z).wf=true:=by
   intro i hi t ht;obtain⟨QL,h1,h2⟩:=kM i (by omega);rw[hc]at h1;obtain⟨⟨zs,rfl,hw⟩,Xy⟩:=hints h2;have ajp:zs.length=size:=by simpa using Xy
   have h3:=(World.cells?_some h1).2.2 t ht;rw[h3,Ax,Ai (show t<zs.length by omega)];exact⟨zs[t]'(by omega),rfl,hw _ (BE _)⟩
  obtain⟨b,off,spot⟩:=x;by_cases J7:l=0
  ·subst J7;exact⟨_,_,_,[],rfl,RowK.nil _ _ _,hl,hm,by simp,adC⟩
  have adD:spot=none:=by
   obtain⟨z,hz,_⟩:=key 0 (by omega) 0 (by omega);simpa[Addr.add]using World.cell?_spot hz
  subst adD;have Q2:∀i t,((⟨b,off,none⟩:Addr).add i).add t=⟨b,off+(i+t),none⟩:=by
   intro i t;have h1:∀(o j:Nat),(⟨b,o,none⟩:Addr).add j=⟨b,o+j,none⟩:=fun o j=>by unfold Addr.add;split<;>simp_all
   rw[h1,h1,BF]
  have cell:∀j,j<size*l→W.cell? ⟨b,off+j,none⟩=some (iV (oR W ⟨b,off+j,none⟩))∧(Lit.int .i64 (oR W ⟨b,off+j,none⟩)).wf=true:=by
   intro j hj;obtain⟨z,hz,hw⟩:=key (j/size) (Nat.div_lt_of_lt_mul hj) (j % size) (Nat.mod_lt _ h0);rw[Q2,Bn (j/size) size,Nat.div_add_mod]at hz;have hn:oR W ⟨b,off+j,none⟩=z:=by unfold oR;rw[hz]
   rw[hn];exact⟨hz,hw⟩
  refine⟨_,_,_,(List.range (size*l)).map (fun j=>oR W ⟨b,off+j,none⟩),rfl,⟨by simp, ?_, ?_⟩,hl,hm,by simp,adC⟩
  ·intro u hu;simp only[List.mem_map,List.mem_range]at hu;obtain⟨j,hj,rfl⟩:=hu;exact(cell j hj).2
  ·intro j hj;have hcj:=(cell j hj).1;refine⟨b,off,rfl, ?_, ?_⟩
   ·unfold World.cell? at hcj;by_cases Kl:b<W.heap.size
    ·exact Kl
    ·simp[Array.getElem?_eq_none (show W.heap.size≤b by omega)]at hcj
   ·rw[hcj];simp[List.getD_eq_getElem?_getD,hj]
end
theorem U4:Tryz.prog.globalNamed "berthshift/lines.kinds" =some 0:=by kernel_rfl
theorem aaS:(Tryz.prog.globals[0]?).map (·.type)=some 128:=by kernel_rfl
theorem Db:Tryz.prog.cellsOf 88=3:=by kernel_rfl
theorem JV:Tryz.prog.cellsOf 128=36:=by kernel_rfl
theorem QH:Tryz.prog.cellsOf 9=1:=by kernel_rfl
theorem Ma{enc:TypeId×Value→Unit}{W:tA}{base:Nat}{sp:tQ}{held:Bool}{fuel:Nat}{cs:tM}{x:DataW Unit×List MemPlace}{b:List UInt8}{a o:Int}(h:DataW.trod enc Tryz.prog W base sp held fuel 88 cs=some x)(hx:x.1= .agg [.lit (.string b),.lit (.int .i64 a),.lit (.int .i64 o)]):cs=[.string ⟨b.toArray⟩,iV a,iV o]:=by
 obtain⟨xs,n,_,rfl,hl,hlen,hf⟩:=DataW.trod_struct Tryz.underlying88 h;rw[Db]at hl
 match xs,hlen with
 |[y0,y1,y2],_=>
  have f0:DataW.trod enc Tryz.prog W base sp held n 9 ((cs.drop 0).take (Tryz.prog.cellsOf 9))=some y0:=hf 0 _ rfl;have f1:DataW.trod enc Tryz.prog W base sp held n 3 ((cs.drop 1).take (Tryz.prog.cellsOf 3))=some y1:=hf 1 _ rfl;have f2:DataW.trod enc Tryz.prog W base sp held n 3 ((cs.drop 2).take (Tryz.prog.cellsOf 3))=some y2:=hf 2 _ rfl;rw[QH]at f0;rw[mw]at f1 f2;obtain⟨s,e0,rfl,_⟩:=DataW.trod_string Tryz.underlying9 f0;obtain⟨z1,e1,rfl,_⟩:=DataW.trod_int Tryz.underlying3 f1;obtain⟨z2,e2,rfl,_⟩:=DataW.trod_int Tryz.underlying3 f2;simp only[List.map_cons,List.map_nil,DataW.agg.injEq,List.cons.injEq,DataW.lit.injEq,Lit.string.injEq,Lit.int.injEq,and_true,true_and]at hx;obtain⟨rfl,rfl,rfl⟩:=hx
  match cs,hl with
  |[c0,c1,c2],_=>
   simp at e0 e1 e2;subst e0 e1 e2;rfl
theorem JW:∀i,i<12→(qM.drop (i*3)).take 3=[.string (iX i),iV (iM i),iV (tv i)]:=by
 refine yF ?_ ?_ ?_ ?_ ?_ ?_ ?_ ?_ ?_ ?_ ?_ ?_<;>rfl
theorem chunks{l:tM}(hl:l.length=36)(h:∀i,i<12→(l.drop (i*3)).take 3=[.string (iX i),iV (iM i),iV (tv i)]):l=qM:=by
 have key:∀m:List Value,∀j,m[j]? =((m.drop (j/3*3)).take 3)[j % 3]? :=fun m j=>by
  rw[AO,Ae (Nat.mod_lt _ (by decide)),BO];congr 1;omega
 refine BH fun j=> ?_;by_cases hj:j<36
 ·rw[key l j,key qM j,h (j/3) (by omega),JW (j/3) (by omega)]
 ·rw[Be (by omega),Be (by rw[Qt];omega)]
theorem iY{W:tA}(h:laidMet Tryz.prog [("berthshift/lines.kinds",Rows.laid_berthshift_lines_kinds)] W):gl W:=by
 obtain⟨ps,⟨g0,t0,cs0,f0,p0,q0,hg0,ht0,hv0,hd0,_,_⟩,_,_⟩:=h;obtain rfl:=AY (U4.symm.trans hg0);obtain rfl:=AY (aaS.symm.trans ht0);obtain⟨xs,m,rfl,hx,hlen,hn,VK⟩:=DataW.trod_array Tryz.underlying128 hd0;rw[JV]at hlen;have Oq:cs0.toList=qM:=by
  refine chunks hlen fun i hi=> ?_;have h1:=VK i hi;rw[Db]at h1;have hm:xs.map (·.1)=_:=(DataW.agg.inj (AR hx).1).symm;have h2:(xs.map (·.1))[i]? =some (.agg [.lit (.string (iX i).data.toList),.lit (.int .i64 (iM i)),.lit (.int .i64 (tv i))]):=by
   rw[hm];revert i;refine yF ?_ ?_ ?_ ?_ ?_ ?_ ?_ ?_ ?_ ?_ ?_ ?_<;>intros<;>rfl
  rw[Ax]at h2;cases hxi:xs[i]? with
  |none=>rw[hxi]at h2;cases h2
  |some x=>
   rw[hxi]at h1 h2;have:=Ma h1 (AY h2);rw[this]
 have hb:∃e fz,W.heap[0]? =some (.cells cs0 e fz):=by
  simp only[World.var?,U4,Option.bind_some]at hv0;split at hv0
  ·rename_i cs e fz heq;cases hv0;exact⟨e,fz,heq⟩
  ·cases hv0
 obtain⟨e,fz,hb⟩:=hb;exact⟨e,fz,by rw[hb,←Oq]⟩
theorem Dc:Tryz.prog.cellsOf 72=5:=by kernel_rfl
theorem QI{H:Type}{enc:TypeId×Value→H}{W:tA}{base:Nat}{sp:tQ}{held:Bool}{fuel:Nat}{cs:tM}{x:DataW H×List MemPlace}(h:DataW.trod enc Tryz.prog W base sp held fuel 72 cs=some x):Ints cs∧cs.length=5:=by
 obtain⟨xs,n,_,_,hl,hlen,hf⟩:=DataW.trod_struct Tryz.underlying72 h;rw[Dc]at hl;refine⟨?_,hl⟩
 match xs,hlen with
 |[y0,y1,y2,y3,y4],_=>
  have f0:DataW.trod enc Tryz.prog W base sp held n 3 ((cs.drop 0).take (Tryz.prog.cellsOf 3))=some y0:=hf 0 _ rfl;rw[mw]at f0;have f1:DataW.trod enc Tryz.prog W base sp held n 3 ((cs.drop 1).take (Tryz.prog.cellsOf 3))=some y1:=hf 1 _ rfl;rw[mw]at f1;have f2:DataW.trod enc Tryz.prog W base sp held n 3 ((cs.drop 2).take (Tryz.prog.cellsOf 3))=some y2:=hf 2 _ rfl;rw[mw]at f2;have f3:DataW.trod enc Tryz.prog W base sp held n 3 ((cs.drop 3).take (Tryz.prog.cellsOf 3))=some y3:=hf 3 _ rfl;rw[mw]at f3;have f4:DataW.trod enc Tryz.prog W base sp held n 3 ((cs.drop 4).take (Tryz.prog.cellsOf 3))=some y4:=hf 4 _ rfl;rw[mw]at f4;exact ov (o:=0) (n:=1) (qp Tryz.underlying3 f0) (ov (o:=1) (n:=1) (qp Tryz.underlying3 f1) (ov (o:=2) (n:=1) (qp Tryz.underlying3 f2) (ov (o:=3) (n:=1) (qp Tryz.underlying3 f3) (ov (o:=4) (n:=1) (qp Tryz.underlying3 f4) (Sh (by omega))))))
section
variable{H:Type}{enc:TypeId×Value→H}{W:tA}
theorem nc{r:Reach}{b0:Nat}{v:tK}{d:DataW H}{p:List MemPlace}(hv:Value.okWide Tryz.prog W r b0 22 v)(h:DataW.Trod enc Tryz.prog W 0 (fun _=>true) true 22 v d p):
  ∃a len cap D,v= .slice a len cap∧RowK .i64 W a (5*len) D∧len≤cap∧cap≤maxLen∧(a=none→cap=0)∧((d= .nil∧cap=0)∨∃es sp,d= .slice es sp∧es.length+sp.length=cap):=by
 obtain⟨a,len,cap,rfl⟩:=okWide_slice Tryz.underlying22 hv;obtain⟨fuel,hf⟩:=h;obtain⟨a',fG,bl,D,Oq,r1⟩:=QG Tryz.underlying22 Dc (by decide) QI hf;simp[Value.cells]at Oq;obtain⟨rfl,rfl,rfl⟩:=Oq;exact⟨_,_,_,D,rfl,r1⟩
end
end Lq
end Go.Proofs.YtpgkjpomaffbmaaGreatDoor
